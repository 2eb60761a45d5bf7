/- Contracts of the program and of the reference, part 9: Rc, Rd, Re, MthR, Acc. -/
import Derived.Test.YteajpefbmiiioaaGreatDoorBRat8
import Derived.Laws.BytesArg
namespace Go.Proofs.YteajpefbmiiioaaGreatDoor
open Go.RowKit Mth Go.Lib

theorem signed_same (a : Bool) (x y : Nat) (w : World) (h1 : (S x).size ≤ 1000000000) (h2 : (S y).size ≤ 1000000000) : Gives 152 #[.bool a, .string (S x), .bool a, .string (S y)] w (.tuple #[.bool a, .string (S (x + y))]) := by
  have HA := Lib.hid (fun w => s_add (S x) (S y) x y w (s_num _) (s_num _) (by omega) (by omega))
  generalize S (x + y) = z at HA ⊢
  go_enter Tryz.func152, Tryz.ntmps152
  cases a
  all_goals
    go_wp2_with fail
    refine (HA.out _).mono ?_
    rintro e w1 ⟨rfl, hg⟩
    go_wp2
    go_ret2
    exact ⟨rfl, hg⟩
theorem signed_ge (a b : Bool) (x y : Nat) (w : World) (hab : (a == b) = false) (h : y ≤ x) (h1 : (S x).size ≤ 1000000000) (h2 : (S y).size ≤ 1000000000) : Gives 152 #[.bool a, .string (S x), .bool b, .string (S y)] w (.tuple #[.bool (a && decide (x - y ≠ 0)), .string (S (x - y))]) := by
  have HA := Lib.hid (fun w => s_sub (S x) (S y) x y w (s_num _) (s_num _) h (by omega) (by omega))
  have hz : (x - y ≠ 0 ∧ ¬ (S (x - y)).toList = [] ∧ (S (x - y)).toList.isEmpty = false) ∨ (x - y = 0 ∧ S (x - y) = ⟨#[]⟩) := by
    by_cases e : x - y = 0
    · exact .inr ⟨e, s_empty.2 e⟩
    · exact .inl ⟨e, tl_ne e, tl_emp e⟩
  generalize x - y = d at HA hz ⊢
  generalize S d = z at HA hz ⊢
  clear h h1 h2
  cases a <;> cases b
  · exact absurd hab (by decide)
  · clear hz
    go_enter Tryz.func152, Tryz.ntmps152
    go_wp2_with fail
    refine (HA.out _).mono ?_
    rintro e w1 ⟨rfl, hg⟩
    go_wp2
    go_ret2
    exact ⟨rfl, hg⟩
  · rcases hz with ⟨h0, hne, hne2⟩ | ⟨rfl, rfl⟩
    · go_enter Tryz.func152, Tryz.ntmps152
      go_wp2_with fail
      refine (HA.out _).mono ?_
      rintro e w1 ⟨rfl, hg⟩
      go_wp2
      go_ret2
      exact ⟨by simp [h0], hg⟩
    · go_enter Tryz.func152, Tryz.ntmps152
      go_wp2_with fail
      refine (HA.out _).mono ?_
      rintro e w1 ⟨rfl, hg⟩
      go_wp2
      go_ret2
      exact ⟨rfl, hg⟩
  · exact absurd hab (by decide)
theorem signed_lt (a b : Bool) (x y : Nat) (w : World) (hab : (a == b) = false) (h : x < y) (h1 : (S x).size ≤ 1000000000) (h2 : (S y).size ≤ 1000000000) : Gives 152 #[.bool a, .string (S x), .bool b, .string (S y)] w (.tuple #[.bool b, .string (S (y - x))]) := by
  have HA := Lib.hid (fun w => sub_no (S x) (S y) w (by rw [s_num, s_num]; exact h))
  have HB := Lib.hid (fun w => s_sub (S y) (S x) y x w (s_num _) (s_num _) (Nat.le_of_lt h) (by omega) (by omega))
  generalize S (y - x) = z at HB ⊢
  clear h h1 h2
  cases a <;> cases b
  · exact absurd hab (by decide)
  all_goals try exact absurd hab (by decide)
  all_goals
    go_enter Tryz.func152, Tryz.ntmps152
    go_wp2_with fail
    refine (HA.out _).mono ?_
    rintro e w1 ⟨rfl, hg⟩
    go_wp2_with fail
    refine (HB.out _).mono ?_
    rintro e w2 ⟨rfl, hg2⟩
    go_wp2
    go_ret2
    exact ⟨rfl, gr_then hg hg2⟩
theorem sg_f (n : Nat) : sg false n = n := rfl
theorem sg_t (n : Nat) : sg true n = -(n : Int) := rfl
theorem signed_any (a b : Bool) (x y : Nat) (w : World) (ha : a = true → 0 < x) (h1 : (S x).size ≤ 1000000000) (h2 : (S y).size ≤ 1000000000) : Gives 152 #[.bool a, .string (S x), .bool b, .string (S y)] w (.tuple #[.bool (decide (sg a x + sg b y < 0)), .string (S (sg a x + sg b y).natAbs)]) := by
  cases hab : a == b with
  | true =>
    have e : a = b := by simpa using hab
    subst e
    have e1 : decide (sg a x + sg a y < 0) = a := by
      cases a
      · rw [sg_f, sg_f, decide_eq_false_iff_not]; omega
      · have := ha rfl; rw [sg_t, sg_t, decide_eq_true_iff]; omega
    have e2 : (sg a x + sg a y).natAbs = x + y := by
      cases a
      · rw [sg_f, sg_f]; omega
      · rw [sg_t, sg_t]; omega
    rw [e1, e2]
    exact signed_same a x y w h1 h2
  | false =>
    rcases Nat.lt_or_ge x y with h | h
    · have e : decide (sg a x + sg b y < 0) = b ∧ (sg a x + sg b y).natAbs = y - x := by
        cases a <;> cases b
        · exact absurd hab (by decide)
        · rw [sg_f, sg_t]; exact ⟨decide_eq_true (by omega), by omega⟩
        · rw [sg_f, sg_t]; exact ⟨decide_eq_false (by omega), by omega⟩
        · exact absurd hab (by decide)
      rw [e.1, e.2]
      exact signed_lt a b x y w hab h h1 h2
    · have e : decide (sg a x + sg b y < 0) = (a && decide (x - y ≠ 0)) ∧ (sg a x + sg b y).natAbs = x - y := by
        cases a <;> cases b
        · exact absurd hab (by decide)
        · rw [sg_f, sg_t, Bool.false_and]; exact ⟨decide_eq_false (by omega), by omega⟩
        · rw [sg_f, sg_t, Bool.true_and, decide_eq_decide]; omega
        · exact absurd hab (by decide)
      rw [e.1, e.2]
      exact signed_ge a b x y w hab h h1 h2
set_option maxHeartbeats 1000000 in
set_option maxRecDepth 100000 in
theorem productq_any (p q : Rat) (k : Nat) (w : World) (hp : Bd k p) (hq : Bd k q) (hk : k ≤ 1000) : Gives 103 #[RV p, RV q] w (RV (p * q)) := by
  obtain ⟨e1, e2⟩ := mul_parts p q _ _ rfl rfl
  have e3 := mul_neg_parts p q
  have hp0 := Nat.pos_of_ne_zero p.den_nz
  have hq0 := Nat.pos_of_ne_zero q.den_nz
  have gab : 0 < Nat.gcd p.num.natAbs q.den := Nat.gcd_pos_of_pos_right _ hq0
  have gba : 0 < Nat.gcd q.num.natAbs p.den := Nat.gcd_pos_of_pos_right _ hp0
  have bab := lt_gcd256 (a := p.num.natAbs) q.den hq0 hq.2
  have bba := lt_gcd256 (a := q.num.natAbs) p.den hp0 hp.2
  have hk' : k ≤ 1000000 := by omega
  have HG1 := Lib.hid (fun w => s_gcd (S p.num.natAbs) (S q.den) p.num.natAbs q.den w (s_num _) (s_num _) (by have := sz_ok hp.1 hk'; omega) (by have := sz_ok hq.2 hk'; omega))
  have HG2 := Lib.hid (fun w => s_gcd (S q.num.natAbs) (S p.den) q.num.natAbs p.den w (s_num _) (s_num _) (by have := sz_ok hq.1 hk'; omega) (by have := sz_ok hp.2 hk'; omega))
  have HO1 := Lib.hid (fun w => over_any p.num.natAbs (Nat.gcd p.num.natAbs q.den) w gab (sz_ok hp.1 hk') (sz_ok bab hk'))
  have HO2 := Lib.hid (fun w => over_any q.num.natAbs (Nat.gcd q.num.natAbs p.den) w gba (sz_ok hq.1 hk') (sz_ok bba hk'))
  have HO3 := Lib.hid (fun w => over_any p.den (Nat.gcd q.num.natAbs p.den) w gba (sz_ok hp.2 hk') (sz_ok bba hk'))
  have HO4 := Lib.hid (fun w => over_any q.den (Nat.gcd p.num.natAbs q.den) w gab (sz_ok hq.2 hk') (sz_ok bab hk'))
  have HM1 := Lib.hid (fun w => s_mul (S (p.num.natAbs / Nat.gcd p.num.natAbs q.den)) (S (q.num.natAbs / Nat.gcd q.num.natAbs p.den)) _ _ w (s_num _) (s_num _) (by have := sz_ok (lt_div256 (Nat.gcd p.num.natAbs q.den) hp.1) hk'; omega) (by have := sz_ok (lt_div256 (Nat.gcd q.num.natAbs p.den) hq.1) hk'; omega))
  have HM2 := Lib.hid (fun w => s_mul (S (p.den / Nat.gcd q.num.natAbs p.den)) (S (q.den / Nat.gcd p.num.natAbs q.den)) _ _ w (s_num _) (s_num _) (by have := sz_ok (lt_div256 (Nat.gcd q.num.natAbs p.den) hp.2) hk'; omega) (by have := sz_ok (lt_div256 (Nat.gcd p.num.natAbs q.den) hq.2) hk'; omega))
  rw [← e1] at HM1
  rw [← e2] at HM2
  have hz : ((p * q).num.natAbs ≠ 0 ∧ ¬ (S (p * q).num.natAbs).toList = [] ∧ (S (p * q).num.natAbs).toList.isEmpty = false) ∨ ((p * q).num.natAbs = 0 ∧ (S (p * q).num.natAbs).toList = [] ∧ (S (p * q).num.natAbs).toList.isEmpty = true) := by
    by_cases e : (p * q).num.natAbs = 0
    · exact .inr ⟨e, by rw [e]; exact tl_zero, by rw [e, tl_zero]; rfl⟩
    · exact .inl ⟨e, tl_ne e, tl_emp e⟩
  unfold RV RW at *
  rw [e3]
  clear e1 e2 e3 hp0 hq0 gab gba bab bba hk' hk hp hq
  generalize (p * q).num.natAbs = zn at *
  generalize S (p * q).den = zd at *
  generalize decide (p.num < 0) = a at *
  generalize decide (q.num < 0) = b at *
  generalize S (p.num.natAbs / Nat.gcd p.num.natAbs q.den) = y1 at *
  generalize S (q.num.natAbs / Nat.gcd q.num.natAbs p.den) = y2 at *
  generalize S (p.den / Nat.gcd q.num.natAbs p.den) = y3 at *
  generalize S (q.den / Nat.gcd p.num.natAbs q.den) = y4 at *
  generalize S (Nat.gcd p.num.natAbs q.den) = ab at *
  generalize S (Nat.gcd q.num.natAbs p.den) = ba at *
  generalize S p.num.natAbs = pn at *
  generalize S p.den = pd at *
  generalize S q.num.natAbs = qn at *
  generalize S q.den = qd at *
  obtain ⟨c, hc, hcs⟩ : ∃ c, ((a != b) && decide (zn ≠ 0)) = c ∧ (((a != b) = false ∧ c = false) ∨ ((a != b) = true ∧ c = true ∧ ¬ (S zn).toList = [] ∧ (S zn).toList.isEmpty = false) ∨ ((a != b) = true ∧ c = false ∧ (S zn).toList = [] ∧ (S zn).toList.isEmpty = true)) := by
    refine ⟨_, rfl, ?_⟩
    cases a != b
    · exact .inl ⟨rfl, rfl⟩
    · rcases hz with ⟨h0, h3, h4⟩ | ⟨h0, h3, h4⟩
      · exact .inr (.inl ⟨rfl, by simp [h0], h3, h4⟩)
      · exact .inr (.inr ⟨rfl, by simp [h0], h3, h4⟩)
  rw [hc]
  clear hc hz
  generalize S zn = zs at *
  have A0 := ((Three.new w (.bool a) (.string pn) (.string pd) 49).alloc (.cells #[.bool b, .string qn, .string qd] 49)).alloc (.cells #[.bool false, .string ⟨#[]⟩, .string ⟨#[]⟩] 49)
  have B0 := (Three.new1 w (.cells #[.bool a, .string pn, .string pd] 49) (.bool b) (.string qn) (.string qd) 49).alloc (.cells #[.bool false, .string ⟨#[]⟩, .string ⟨#[]⟩] 49)
  have C0 := Three.new2 w (.cells #[.bool a, .string pn, .string pd] 49) (.cells #[.bool b, .string qn, .string qd] 49) (.bool false) (.string ⟨#[]⟩) (.string ⟨#[]⟩) 49
  go_enter Tryz.func103, Tryz.ntmps103
  go_wp2_with fail
  have A0 := A0.drew
  have B0 := B0.drew
  have C0 := C0.drew
  have G0 : w.grownBy ((((w.alloc (.cells #[.bool a, .string pn, .string pd] 49)).alloc (.cells #[.bool b, .string qn, .string qd] 49)).alloc (.cells #[.bool false, .string ⟨#[]⟩, .string ⟨#[]⟩] 49)).drew) none := gr_dr (gr_al (gr_al (gr_al (gr_rfl _))))
  go_region_held3 (fun w' => w'.cell? ⟨w.heap.size, 1, none⟩ = some (.string pn) ∧ w'.cell? ⟨w.heap.size, 2, none⟩ = some (.string pd) ∧ w'.cell? ⟨w.heap.size + 1, 1, none⟩ = some (.string qn) ∧ w'.cell? ⟨w.heap.size + 1, 2, none⟩ = some (.string qd)) (first | exact ⟨Three.c1 (by assumption), Three.c2 (by assumption), Three.c1 (by assumption), Three.c2 (by assumption)⟩ | go_keep)
    (first
      | (go_at_call_of 28 (Value.string pn); refine (HG1.out _).mono ?_; rintro e v1 ⟨rfl, gv1⟩; have hAv1 : Three v1 (w.heap.size) (.bool a) (.string pn) (.string pd) 49 := Three.kept (by assumption) gv1; have hBv1 : Three v1 (w.heap.size + 1) (.bool b) (.string qn) (.string qd) 49 := Three.kept (by assumption) gv1; have hCv1 : Three v1 (w.heap.size + 1 + 1) (.bool false) (.string ⟨#[]⟩) (.string ⟨#[]⟩) 49 := Three.kept (by assumption) gv1; have Gv1 : w.grownBy v1 none := gr_then (by assumption) gv1)
      | (go_at_call_of 28 (Value.string qn); refine (HG2.out _).mono ?_; rintro e v2 ⟨rfl, gv2⟩; have hAv2 : Three v2 (w.heap.size) (.bool a) (.string pn) (.string pd) 49 := Three.kept (by assumption) gv2; have hBv2 : Three v2 (w.heap.size + 1) (.bool b) (.string qn) (.string qd) 49 := Three.kept (by assumption) gv2; have hCv2 : Three v2 (w.heap.size + 1 + 1) (.bool false) (.string ⟨#[]⟩) (.string ⟨#[]⟩) 49 := Three.kept (by assumption) gv2; have Gv2 : w.grownBy v2 none := gr_then (by assumption) gv2))
  clear A0 B0 C0 G0 gv1 gv2 hAv1 hBv1 hCv1 Gv1
  have hAv2d := hAv2.drew
  have hBv2d := hBv2.drew
  have hCv2d := hCv2.drew
  have Gv2d := gr_dr Gv2
  go_wp2_with fail
  go_region_held3 (fun w' => w'.cell? ⟨w.heap.size, 1, none⟩ = some (.string pn) ∧ w'.cell? ⟨w.heap.size + 1, 1, none⟩ = some (.string qn)) (first | exact ⟨Three.c1 (by assumption), Three.c1 (by assumption)⟩ | go_keep)
    (first
      | (go_at_call_of 109 (Value.string pn); refine (HO1.out _).mono ?_; rintro e v3 ⟨rfl, gv3⟩; have hAv3 : Three v3 (w.heap.size) (.bool a) (.string pn) (.string pd) 49 := Three.kept (by assumption) gv3; have hBv3 : Three v3 (w.heap.size + 1) (.bool b) (.string qn) (.string qd) 49 := Three.kept (by assumption) gv3; have hCv3 : Three v3 (w.heap.size + 1 + 1) (.bool false) (.string ⟨#[]⟩) (.string ⟨#[]⟩) 49 := Three.kept (by assumption) gv3; have Gv3 : w.grownBy v3 none := gr_then (by assumption) gv3)
      | (go_at_call_of 109 (Value.string qn); refine (HO2.out _).mono ?_; rintro e v4 ⟨rfl, gv4⟩; have hAv4 : Three v4 (w.heap.size) (.bool a) (.string pn) (.string pd) 49 := Three.kept (by assumption) gv4; have hBv4 : Three v4 (w.heap.size + 1) (.bool b) (.string qn) (.string qd) 49 := Three.kept (by assumption) gv4; have hCv4 : Three v4 (w.heap.size + 1 + 1) (.bool false) (.string ⟨#[]⟩) (.string ⟨#[]⟩) 49 := Three.kept (by assumption) gv4; have Gv4 : w.grownBy v4 none := gr_then (by assumption) gv4)
      | (go_at_call_of 108 (Value.string y1); refine (HM1.out _).mono ?_; rintro e v5 ⟨rfl, gv5⟩; have hAv5 : Three v5 (w.heap.size) (.bool a) (.string pn) (.string pd) 49 := Three.kept (by assumption) gv5; have hBv5 : Three v5 (w.heap.size + 1) (.bool b) (.string qn) (.string qd) 49 := Three.kept (by assumption) gv5; have hCv5 : Three v5 (w.heap.size + 1 + 1) (.bool false) (.string ⟨#[]⟩) (.string ⟨#[]⟩) 49 := Three.kept (by assumption) gv5; have Gv5 : w.grownBy v5 none := gr_then (by assumption) gv5))
  clear hAv2 hBv2 hCv2 Gv2 hAv2d hBv2d hCv2d Gv2d gv3 gv4 gv5 hAv3 hBv3 hCv3 Gv3 hAv4 hBv4 hCv4 Gv4
  have hAv5d := hAv5.drew
  have hBv5d := hBv5.drew
  have hCv5d := hCv5.drew
  have Gv5d := gr_dr Gv5
  go_wp2_with fail
  go_region_held3 (fun w' => w'.cell? ⟨w.heap.size, 2, none⟩ = some (.string pd) ∧ w'.cell? ⟨w.heap.size + 1, 2, none⟩ = some (.string qd)) (first | exact ⟨Three.c2 (by assumption), Three.c2 (by assumption)⟩ | go_keep)
    (first
      | (go_at_call_of 109 (Value.string pd); refine (HO3.out _).mono ?_; rintro e v6 ⟨rfl, gv6⟩; have hAv6 : Three v6 (w.heap.size) (.bool a) (.string pn) (.string pd) 49 := Three.kept (by assumption) gv6; have hBv6 : Three v6 (w.heap.size + 1) (.bool b) (.string qn) (.string qd) 49 := Three.kept (by assumption) gv6; have hCv6 : Three v6 (w.heap.size + 1 + 1) (.bool false) (.string ⟨#[]⟩) (.string ⟨#[]⟩) 49 := Three.kept (by assumption) gv6; have Gv6 : w.grownBy v6 none := gr_then (by assumption) gv6)
      | (go_at_call_of 109 (Value.string qd); refine (HO4.out _).mono ?_; rintro e v7 ⟨rfl, gv7⟩; have hAv7 : Three v7 (w.heap.size) (.bool a) (.string pn) (.string pd) 49 := Three.kept (by assumption) gv7; have hBv7 : Three v7 (w.heap.size + 1) (.bool b) (.string qn) (.string qd) 49 := Three.kept (by assumption) gv7; have hCv7 : Three v7 (w.heap.size + 1 + 1) (.bool false) (.string ⟨#[]⟩) (.string ⟨#[]⟩) 49 := Three.kept (by assumption) gv7; have Gv7 : w.grownBy v7 none := gr_then (by assumption) gv7)
      | (go_at_call_of 108 (Value.string y3); refine (HM2.out _).mono ?_; rintro e v8 ⟨rfl, gv8⟩; have hAv8 : Three v8 (w.heap.size) (.bool a) (.string pn) (.string pd) 49 := Three.kept (by assumption) gv8; have hBv8 : Three v8 (w.heap.size + 1) (.bool b) (.string qn) (.string qd) 49 := Three.kept (by assumption) gv8; have hCv8 : Three v8 (w.heap.size + 1 + 1) (.bool false) (.string ⟨#[]⟩) (.string ⟨#[]⟩) 49 := Three.kept (by assumption) gv8; have Gv8 : w.grownBy v8 none := gr_then (by assumption) gv8))
  clear hAv5 hBv5 hCv5 Gv5 hAv5d hBv5d hCv5d Gv5d gv6 gv7 gv8 hAv6 hBv6 hCv6 Gv6 hAv7 hBv7 hCv7 Gv7
  have a0 := hAv8.c0
  have b0 := hBv8.c0
  have k0 := hCv8.c0
  have k1 := hCv8.c1
  have k2 := hCv8.c2
  have f0 := hCv8.fr 0
  have f1 := hCv8.fr 1
  have f2 := hCv8.fr 2
  have G := Lib.hid Gv8
  clear Gv8
  rcases hcs with ⟨hab, rfl⟩ | ⟨hab, rfl, h3, h4⟩ | ⟨hab, rfl, h3, h4⟩
  all_goals cases a <;> cases b
  all_goals first | exact absurd hab (by decide) | clear hab
  all_goals
    go_wp2
    exact bodyPost_ret (v := .agg #[.bool _, .string zs, .string zd]) (by simp [results, Tryz.results103, go_sem, k0, k1, k2]) rfl ⟨rfl, gr_setn (gr_setn (gr_setn G.out (by omega)) (by omega)) (by omega)⟩
end Go.Proofs.YteajpefbmiiioaaGreatDoor
namespace Go.Proofs.YteajpefbmiiioaaGreatDoor
open Go.RowKit Mth Go.Lib

set_option maxHeartbeats 1000000 in
set_option maxRecDepth 100000 in
theorem sumq_any (p q : Rat) (k : Nat) (w : World) (hp : Bd k p) (hq : Bd k q) (hk : k ≤ 1000) : Gives 105 #[RV p, RV q] w (RV (p + q)) := by
  have hp0 := Nat.pos_of_ne_zero p.den_nz
  have hq0 := Nat.pos_of_ne_zero q.den_nz
  have gs0 : 0 < Nat.gcd p.den q.den := Nat.gcd_pos_of_pos_right _ hq0
  have hk' : k ≤ 1000000 := by omega
  have hk2 : k + k + 1 ≤ 1000000 := by omega
  have hk3 : k + k ≤ 1000000 := by omega
  obtain ⟨s, hs⟩ : ∃ s, s = Nat.gcd p.den q.den := ⟨_, rfl⟩
  obtain ⟨xa, hxa⟩ : ∃ x, x = p.den / s := ⟨_, rfl⟩
  obtain ⟨xb, hxb⟩ : ∃ x, x = q.den / s := ⟨_, rfl⟩
  obtain ⟨z, hz⟩ : ∃ z, z = sg (decide (p.num < 0)) (p.num.natAbs * xb) + sg (decide (q.num < 0)) (q.num.natAbs * xa) := ⟨_, rfl⟩
  obtain ⟨left, hleft⟩ : ∃ x, x = Nat.gcd z.natAbs s := ⟨_, rfl⟩
  obtain ⟨e1, e2, e3⟩ := sum_parts p q s xa xb left z hs hxa hxb hz hleft
  rw [← hs] at gs0
  have bs : s < 256 ^ k := by rw [hs]; exact lt_gcd256 (a := p.den) q.den hq0 hq.2
  have bxa : xa < 256 ^ k := by rw [hxa]; exact lt_div256 _ hp.2
  have bxb : xb < 256 ^ k := by rw [hxb]; exact lt_div256 _ hq.2
  have hxb0 : 0 < xb := by rw [hxb]; exact Nat.div_pos (Nat.le_of_dvd hq0 (by rw [hs]; exact Nat.gcd_dvd_right _ _)) gs0
  have bz : z.natAbs < 256 ^ (k + k + 1) := by rw [hz]; exact Nat.lt_of_le_of_lt (sg_le _ _ _ _) (lt_add256 (lt_mul256 hp.1 bxb) (lt_mul256 hq.1 bxa))
  have l0 : 0 < left := by rw [hleft]; exact Nat.gcd_pos_of_pos_right _ gs0
  have bl : left < 256 ^ k := by rw [hleft]; exact lt_gcd256 (a := z.natAbs) s gs0 bs
  have HG1 := Lib.hid (fun w => s_gcd (S p.den) (S q.den) p.den q.den w (s_num _) (s_num _) (by have := sz_ok hp.2 hk'; omega) (by have := sz_ok hq.2 hk'; omega))
  rw [← hs] at HG1
  have HO1 := Lib.hid (fun w => over_any p.den s w gs0 (sz_ok hp.2 hk') (sz_ok bs hk'))
  have HO2 := Lib.hid (fun w => over_any q.den s w gs0 (sz_ok hq.2 hk') (sz_ok bs hk'))
  rw [← hxa] at HO1
  rw [← hxb] at HO2
  have HM1 := Lib.hid (fun w => s_mul (S p.num.natAbs) (S xb) _ _ w (s_num _) (s_num _) (by have := sz_ok hp.1 hk'; omega) (by have := sz_ok bxb hk'; omega))
  have HM2 := Lib.hid (fun w => s_mul (S q.num.natAbs) (S xa) _ _ w (s_num _) (s_num _) (by have := sz_ok hq.1 hk'; omega) (by have := sz_ok bxa hk'; omega))
  have HS := Lib.hid (fun w => signed_any (decide (p.num < 0)) (decide (q.num < 0)) (p.num.natAbs * xb) (q.num.natAbs * xa) w (fun h => Nat.mul_pos (abs_pos_of (of_decide_eq_true h)) hxb0) (sz_ok (lt_mul256 hp.1 bxb) hk3) (sz_ok (lt_mul256 hq.1 bxa) hk3))
  rw [← hz] at HS
  have HG2 := Lib.hid (fun w => s_gcd (S z.natAbs) (S s) z.natAbs s w (s_num _) (s_num _) (by have := sz_ok bz hk2; omega) (by have := sz_ok bs hk'; omega))
  rw [← hleft] at HG2
  have HO3 := Lib.hid (fun w => over_any z.natAbs left w l0 (sz_ok bz hk2) (sz_ok bl hk'))
  have HO4 := Lib.hid (fun w => over_any q.den left w l0 (sz_ok hq.2 hk') (sz_ok bl hk'))
  have HM3 := Lib.hid (fun w => s_mul (S xa) (S (q.den / left)) _ _ w (s_num _) (s_num _) (by have := sz_ok bxa hk'; omega) (by have := sz_ok (lt_div256 left hq.2) hk'; omega))
  rw [← e1] at HO3
  rw [← e2] at HM3
  unfold RV RW at *
  rw [e3]
  clear e1 e2 e3 hp0 hq0 gs0 bs bxa bxb hxb0 bz l0 bl hk' hk hp hq hk2 hk3 hs hxa hxb hleft hz
  generalize S (p + q).num.natAbs = zs at *
  generalize S (p + q).den = zd at *
  generalize S (p.num.natAbs * xb) = m1 at *
  generalize S (q.num.natAbs * xa) = m2 at *
  generalize S (q.den / left) = o4 at *
  generalize S left = ls at *
  generalize S z.natAbs = zn at *
  generalize decide (z < 0) = c at *
  generalize decide (p.num < 0) = a at *
  generalize decide (q.num < 0) = b at *
  generalize S s = ss at *
  generalize S xa = sxa at *
  generalize S xb = sxb at *
  generalize S p.num.natAbs = pn at *
  generalize S p.den = pd at *
  generalize S q.num.natAbs = qn at *
  generalize S q.den = qd at *
  have A0 := ((Three.new w (.bool a) (.string pn) (.string pd) 49).alloc (.cells #[.bool b, .string qn, .string qd] 49)).alloc (.cells #[.bool false, .string ⟨#[]⟩, .string ⟨#[]⟩] 49)
  have B0 := (Three.new1 w (.cells #[.bool a, .string pn, .string pd] 49) (.bool b) (.string qn) (.string qd) 49).alloc (.cells #[.bool false, .string ⟨#[]⟩, .string ⟨#[]⟩] 49)
  have C0 := Three.new2 w (.cells #[.bool a, .string pn, .string pd] 49) (.cells #[.bool b, .string qn, .string qd] 49) (.bool false) (.string ⟨#[]⟩) (.string ⟨#[]⟩) 49
  go_enter Tryz.func105, Tryz.ntmps105
  go_wp2_with fail
  refine (HG1.out _).mono ?_
  rintro e v1 ⟨rfl, gv1⟩
  have hAv1 := A0.kept gv1
  have hBv1 := B0.kept gv1
  have hCv1 := C0.kept gv1
  have Gv1 := gr_three gv1
  clear A0 B0 C0
  have hAv1d := hAv1.drew
  have hBv1d := hBv1.drew
  have hCv1d := hCv1.drew
  have Gv1d := gr_dr Gv1
  go_wp2_with fail
  go_region_held3 (fun w' => w'.cell? ⟨w.heap.size, 2, none⟩ = some (.string pd) ∧ w'.cell? ⟨w.heap.size + 1, 2, none⟩ = some (.string qd)) (first | exact ⟨Three.c2 (by assumption), Three.c2 (by assumption)⟩ | go_keep)
    (first
      | (go_at_call_of 109 (Value.string pd); refine (HO1.out _).mono ?_; rintro e v2 ⟨rfl, gv2⟩; have hAv2 : Three v2 (w.heap.size) (.bool a) (.string pn) (.string pd) 49 := Three.kept (by assumption) gv2; have hBv2 : Three v2 (w.heap.size + 1) (.bool b) (.string qn) (.string qd) 49 := Three.kept (by assumption) gv2; have hCv2 : Three v2 (w.heap.size + 1 + 1) (.bool false) (.string ⟨#[]⟩) (.string ⟨#[]⟩) 49 := Three.kept (by assumption) gv2; have Gv2 : w.grownBy v2 none := gr_then (by assumption) gv2)
      | (go_at_call_of 109 (Value.string qd); refine (HO2.out _).mono ?_; rintro e v3 ⟨rfl, gv3⟩; have hAv3 : Three v3 (w.heap.size) (.bool a) (.string pn) (.string pd) 49 := Three.kept (by assumption) gv3; have hBv3 : Three v3 (w.heap.size + 1) (.bool b) (.string qn) (.string qd) 49 := Three.kept (by assumption) gv3; have hCv3 : Three v3 (w.heap.size + 1 + 1) (.bool false) (.string ⟨#[]⟩) (.string ⟨#[]⟩) 49 := Three.kept (by assumption) gv3; have Gv3 : w.grownBy v3 none := gr_then (by assumption) gv3))
  clear gv1 hAv1 hBv1 hCv1 Gv1 gv2 hAv2 hBv2 hCv2 Gv2 hAv1d hBv1d hCv1d Gv1d
  have hAv3d := hAv3.drew
  have hBv3d := hBv3.drew
  have hCv3d := hCv3.drew
  have Gv3d := gr_dr Gv3
  go_wp2_with fail
  go_region_held3 (fun w' => w'.cell? ⟨w.heap.size, 0, none⟩ = some (.bool a) ∧ w'.cell? ⟨w.heap.size, 1, none⟩ = some (.string pn) ∧ w'.cell? ⟨w.heap.size + 1, 0, none⟩ = some (.bool b) ∧ w'.cell? ⟨w.heap.size + 1, 1, none⟩ = some (.string qn)) (first | exact ⟨Three.c0 (by assumption), Three.c1 (by assumption), Three.c0 (by assumption), Three.c1 (by assumption)⟩ | go_keep)
    (first
      | (go_at_call_of 108 (Value.string pn); refine (HM1.out _).mono ?_; rintro e v4 ⟨rfl, gv4⟩; have hAv4 : Three v4 (w.heap.size) (.bool a) (.string pn) (.string pd) 49 := Three.kept (by assumption) gv4; have hBv4 : Three v4 (w.heap.size + 1) (.bool b) (.string qn) (.string qd) 49 := Three.kept (by assumption) gv4; have hCv4 : Three v4 (w.heap.size + 1 + 1) (.bool false) (.string ⟨#[]⟩) (.string ⟨#[]⟩) 49 := Three.kept (by assumption) gv4; have Gv4 : w.grownBy v4 none := gr_then (by assumption) gv4)
      | (go_at_call_of 108 (Value.string qn); refine (HM2.out _).mono ?_; rintro e v5 ⟨rfl, gv5⟩; have hAv5 : Three v5 (w.heap.size) (.bool a) (.string pn) (.string pd) 49 := Three.kept (by assumption) gv5; have hBv5 : Three v5 (w.heap.size + 1) (.bool b) (.string qn) (.string qd) 49 := Three.kept (by assumption) gv5; have hCv5 : Three v5 (w.heap.size + 1 + 1) (.bool false) (.string ⟨#[]⟩) (.string ⟨#[]⟩) 49 := Three.kept (by assumption) gv5; have Gv5 : w.grownBy v5 none := gr_then (by assumption) gv5)
      | (go_at_call_of 152 (Value.bool a); refine (HS.out _).mono ?_; rintro e v6 ⟨rfl, gv6⟩; have hAv6 : Three v6 (w.heap.size) (.bool a) (.string pn) (.string pd) 49 := Three.kept (by assumption) gv6; have hBv6 : Three v6 (w.heap.size + 1) (.bool b) (.string qn) (.string qd) 49 := Three.kept (by assumption) gv6; have hCv6 : Three v6 (w.heap.size + 1 + 1) (.bool false) (.string ⟨#[]⟩) (.string ⟨#[]⟩) 49 := Three.kept (by assumption) gv6; have Gv6 : w.grownBy v6 none := gr_then (by assumption) gv6))
  clear gv3 hAv3 hBv3 hCv3 Gv3 gv4 hAv4 hBv4 hCv4 Gv4 gv5 hAv5 hBv5 hCv5 Gv5 hAv3d hBv3d hCv3d Gv3d
  go_wp2_with fail
  refine (HG2.out _).mono ?_
  rintro e v7 ⟨rfl, gv7⟩
  have hAv7 := hAv6.kept gv7
  have hBv7 := hBv6.kept gv7
  have hCv7 := hCv6.kept gv7
  have Gv7 := gr_then Gv6 gv7
  clear gv6 hAv6 hBv6 hCv6 Gv6 
  have hAv7d := hAv7.drew
  have hBv7d := hBv7.drew
  have hCv7d := hCv7.drew
  have Gv7d := gr_dr Gv7
  go_wp2_with fail
  go_region_held3 (fun w' => w'.cell? ⟨w.heap.size + 1, 2, none⟩ = some (.string qd)) (first | exact Three.c2 (by assumption) | go_keep)
    (first
      | (go_at_call_of 109 (Value.string zn); refine (HO3.out _).mono ?_; rintro e v8 ⟨rfl, gv8⟩; have hAv8 : Three v8 (w.heap.size) (.bool a) (.string pn) (.string pd) 49 := Three.kept (by assumption) gv8; have hBv8 : Three v8 (w.heap.size + 1) (.bool b) (.string qn) (.string qd) 49 := Three.kept (by assumption) gv8; have hCv8 : Three v8 (w.heap.size + 1 + 1) (.bool false) (.string ⟨#[]⟩) (.string ⟨#[]⟩) 49 := Three.kept (by assumption) gv8; have Gv8 : w.grownBy v8 none := gr_then (by assumption) gv8)
      | (go_at_call_of 109 (Value.string qd); refine (HO4.out _).mono ?_; rintro e v9 ⟨rfl, gv9⟩; have hAv9 : Three v9 (w.heap.size) (.bool a) (.string pn) (.string pd) 49 := Three.kept (by assumption) gv9; have hBv9 : Three v9 (w.heap.size + 1) (.bool b) (.string qn) (.string qd) 49 := Three.kept (by assumption) gv9; have hCv9 : Three v9 (w.heap.size + 1 + 1) (.bool false) (.string ⟨#[]⟩) (.string ⟨#[]⟩) 49 := Three.kept (by assumption) gv9; have Gv9 : w.grownBy v9 none := gr_then (by assumption) gv9)
      | (go_at_call_of 108 (Value.string sxa); refine (HM3.out _).mono ?_; rintro e v10 ⟨rfl, gv10⟩; have hAv10 : Three v10 (w.heap.size) (.bool a) (.string pn) (.string pd) 49 := Three.kept (by assumption) gv10; have hBv10 : Three v10 (w.heap.size + 1) (.bool b) (.string qn) (.string qd) 49 := Three.kept (by assumption) gv10; have hCv10 : Three v10 (w.heap.size + 1 + 1) (.bool false) (.string ⟨#[]⟩) (.string ⟨#[]⟩) 49 := Three.kept (by assumption) gv10; have Gv10 : w.grownBy v10 none := gr_then (by assumption) gv10; have k0 := hCv10.c0; have k1 := hCv10.c1; have k2 := hCv10.c2; have f0 := hCv10.fr 0; have f1 := hCv10.fr 1; have f2 := hCv10.fr 2))
  all_goals go_wp2
  all_goals exact bodyPost_ret (v := .agg #[.bool c, .string zs, .string zd]) (by simp [results, Tryz.results105, go_sem, k0, k1, k2]) rfl ⟨rfl, gr_setn (gr_setn (gr_setn Gv10 (by omega)) (by omega)) (by omega)⟩
end Go.Proofs.YteajpefbmiiioaaGreatDoor
namespace Go.Proofs.YteajpefbmiiioaaGreatDoor
open Go.RowKit Mth Go.Lib

set_option maxHeartbeats 1000000 in
set_option maxRecDepth 100000 in
theorem addq_any (p q : Rat) (k : Nat) (w : World) (hp : Bd k p) (hq : Bd k q) (hk : k ≤ 1000) : Gives 41 #[RV p, RV q] w (RV (p + q)) := by
  have HV1 := Lib.hid (fun w => value_rv p k w hp (by omega))
  have HV2 := Lib.hid (fun w => value_rv q k w hq (by omega))
  have HS := Lib.hid (fun w => sumq_any p q k w hp hq hk)
  clear hk hp hq
  unfold RV RW at *
  generalize S (p + q).num.natAbs = zs at *
  generalize S (p + q).den = zd at *
  generalize decide ((p + q).num < 0) = c at *
  generalize decide (p.num < 0) = a at *
  generalize decide (q.num < 0) = b at *
  generalize S p.num.natAbs = pn at *
  generalize S p.den = pd at *
  generalize S q.num.natAbs = qn at *
  generalize S q.den = qd at *
  have A0 := (((Three.new w (.bool a) (.string pn) (.string pd) 49).alloc (.cells #[.bool b, .string qn, .string qd] 49)).alloc (.cells #[.bool false, .string ⟨#[]⟩, .string ⟨#[]⟩] 49)).drew
  have B0 := ((Three.new1 w (.cells #[.bool a, .string pn, .string pd] 49) (.bool b) (.string qn) (.string qd) 49).alloc (.cells #[.bool false, .string ⟨#[]⟩, .string ⟨#[]⟩] 49)).drew
  have hne1 : w.heap.size ≠ w.heap.size + 1 + 1 := by omega
  have hne2 : w.heap.size + 1 + 1 ≠ w.heap.size := by omega
  have hne3 : w.heap.size + 1 ≠ w.heap.size + 1 + 1 := by omega
  have C0 := (Three.new2 w (.cells #[.bool a, .string pn, .string pd] 49) (.cells #[.bool b, .string qn, .string qd] 49) (.bool false) (.string ⟨#[]⟩) (.string ⟨#[]⟩) 49).drew
  have G0 : w.grownBy ((((w.alloc (.cells #[.bool a, .string pn, .string pd] 49)).alloc (.cells #[.bool b, .string qn, .string qd] 49)).alloc (.cells #[.bool false, .string ⟨#[]⟩, .string ⟨#[]⟩] 49)).drew) none := gr_dr (gr_al (gr_al (gr_al (gr_rfl _))))
  go_enter Tryz.func41, Tryz.ntmps41
  go_wp2_with fail
  go_region_held3 (fun w' => w'.cell? ⟨w.heap.size, 0, none⟩ = some (.bool a) ∧ w'.cell? ⟨w.heap.size, 1, none⟩ = some (.string pn) ∧ w'.cell? ⟨w.heap.size, 2, none⟩ = some (.string pd) ∧ w'.cell? ⟨w.heap.size + 1, 0, none⟩ = some (.bool b) ∧ w'.cell? ⟨w.heap.size + 1, 1, none⟩ = some (.string qn) ∧ w'.cell? ⟨w.heap.size + 1, 2, none⟩ = some (.string qd)) (first | exact ⟨Three.c0 (by assumption), Three.c1 (by assumption), Three.c2 (by assumption), Three.c0 (by assumption), Three.c1 (by assumption), Three.c2 (by assumption)⟩ | go_keep)
    (first
      | (go_at_call_of 102 ((Value.agg #[Value.bool a, Value.string pn, Value.string pd])); refine (HV1.out _).mono ?_; rintro e v1 ⟨rfl, gv1⟩; have hAv1 : Three v1 (w.heap.size) (.bool a) (.string pn) (.string pd) 49 := Three.kept (by assumption) gv1; have hBv1 : Three v1 (w.heap.size + 1) (.bool b) (.string qn) (.string qd) 49 := Three.kept (by assumption) gv1; have hCv1 : Three v1 (w.heap.size + 1 + 1) (.bool false) (.string ⟨#[]⟩) (.string ⟨#[]⟩) 49 := Three.kept (by assumption) gv1; have Gv1 : w.grownBy v1 none := gr_then (by assumption) gv1)
      | (go_at_call_of 102 ((Value.agg #[Value.bool b, Value.string qn, Value.string qd])); refine (HV2.out _).mono ?_; rintro e v2 ⟨rfl, gv2⟩; have hAv2 : Three v2 (w.heap.size) (.bool a) (.string pn) (.string pd) 49 := Three.kept (by assumption) gv2; have hBv2 : Three v2 (w.heap.size + 1) (.bool b) (.string qn) (.string qd) 49 := Three.kept (by assumption) gv2; have hCv2 : Three v2 (w.heap.size + 1 + 1) (.bool false) (.string ⟨#[]⟩) (.string ⟨#[]⟩) 49 := Three.kept (by assumption) gv2; have Gv2 : w.grownBy v2 none := gr_then (by assumption) gv2)
      | (go_at_call_of 105 ((Value.agg #[Value.bool a, Value.string pn, Value.string pd])); refine (HS.out _).mono ?_; rintro e v3 ⟨rfl, gv3⟩; have hAv3 : Three v3 (w.heap.size) (.bool a) (.string pn) (.string pd) 49 := Three.kept (by assumption) gv3; have hBv3 : Three v3 (w.heap.size + 1) (.bool b) (.string qn) (.string qd) 49 := Three.kept (by assumption) gv3; have hCv3 : Three v3 (w.heap.size + 1 + 1) (.bool false) (.string ⟨#[]⟩) (.string ⟨#[]⟩) 49 := Three.kept (by assumption) gv3; have Gv3 : w.grownBy v3 none := gr_then (by assumption) gv3; have k0 := hCv3.c0; have k1 := hCv3.c1; have k2 := hCv3.c2; have f0 := hCv3.fr 0; have f1 := hCv3.fr 1; have f2 := hCv3.fr 2))
  all_goals go_wp2
  all_goals exact bodyPost_ret (v := .agg #[.bool c, .string zs, .string zd]) (by simp [results, Tryz.results41, go_sem, k0, k1, k2]) rfl ⟨rfl, gr_setn (gr_setn (gr_setn Gv3 (by omega)) (by omega)) (by omega)⟩
set_option maxHeartbeats 1000000 in
set_option maxRecDepth 100000 in
theorem mulq_any (p q : Rat) (k : Nat) (w : World) (hp : Bd k p) (hq : Bd k q) (hk : k ≤ 1000) : Gives 45 #[RV p, RV q] w (RV (p * q)) := by
  have HV1 := Lib.hid (fun w => value_rv p k w hp (by omega))
  have HV2 := Lib.hid (fun w => value_rv q k w hq (by omega))
  have HS := Lib.hid (fun w => productq_any p q k w hp hq hk)
  clear hk hp hq
  unfold RV RW at *
  generalize S (p * q).num.natAbs = zs at *
  generalize S (p * q).den = zd at *
  generalize decide ((p * q).num < 0) = c at *
  generalize decide (p.num < 0) = a at *
  generalize decide (q.num < 0) = b at *
  generalize S p.num.natAbs = pn at *
  generalize S p.den = pd at *
  generalize S q.num.natAbs = qn at *
  generalize S q.den = qd at *
  have A0 := (((Three.new w (.bool a) (.string pn) (.string pd) 49).alloc (.cells #[.bool b, .string qn, .string qd] 49)).alloc (.cells #[.bool false, .string ⟨#[]⟩, .string ⟨#[]⟩] 49)).drew
  have B0 := ((Three.new1 w (.cells #[.bool a, .string pn, .string pd] 49) (.bool b) (.string qn) (.string qd) 49).alloc (.cells #[.bool false, .string ⟨#[]⟩, .string ⟨#[]⟩] 49)).drew
  have hne1 : w.heap.size ≠ w.heap.size + 1 + 1 := by omega
  have hne2 : w.heap.size + 1 + 1 ≠ w.heap.size := by omega
  have hne3 : w.heap.size + 1 ≠ w.heap.size + 1 + 1 := by omega
  have C0 := (Three.new2 w (.cells #[.bool a, .string pn, .string pd] 49) (.cells #[.bool b, .string qn, .string qd] 49) (.bool false) (.string ⟨#[]⟩) (.string ⟨#[]⟩) 49).drew
  have G0 : w.grownBy ((((w.alloc (.cells #[.bool a, .string pn, .string pd] 49)).alloc (.cells #[.bool b, .string qn, .string qd] 49)).alloc (.cells #[.bool false, .string ⟨#[]⟩, .string ⟨#[]⟩] 49)).drew) none := gr_dr (gr_al (gr_al (gr_al (gr_rfl _))))
  go_enter Tryz.func45, Tryz.ntmps45
  go_wp2_with fail
  go_region_held3 (fun w' => w'.cell? ⟨w.heap.size, 0, none⟩ = some (.bool a) ∧ w'.cell? ⟨w.heap.size, 1, none⟩ = some (.string pn) ∧ w'.cell? ⟨w.heap.size, 2, none⟩ = some (.string pd) ∧ w'.cell? ⟨w.heap.size + 1, 0, none⟩ = some (.bool b) ∧ w'.cell? ⟨w.heap.size + 1, 1, none⟩ = some (.string qn) ∧ w'.cell? ⟨w.heap.size + 1, 2, none⟩ = some (.string qd)) (first | exact ⟨Three.c0 (by assumption), Three.c1 (by assumption), Three.c2 (by assumption), Three.c0 (by assumption), Three.c1 (by assumption), Three.c2 (by assumption)⟩ | go_keep)
    (first
      | (go_at_call_of 102 ((Value.agg #[Value.bool a, Value.string pn, Value.string pd])); refine (HV1.out _).mono ?_; rintro e v1 ⟨rfl, gv1⟩; have hAv1 : Three v1 (w.heap.size) (.bool a) (.string pn) (.string pd) 49 := Three.kept (by assumption) gv1; have hBv1 : Three v1 (w.heap.size + 1) (.bool b) (.string qn) (.string qd) 49 := Three.kept (by assumption) gv1; have hCv1 : Three v1 (w.heap.size + 1 + 1) (.bool false) (.string ⟨#[]⟩) (.string ⟨#[]⟩) 49 := Three.kept (by assumption) gv1; have Gv1 : w.grownBy v1 none := gr_then (by assumption) gv1)
      | (go_at_call_of 102 ((Value.agg #[Value.bool b, Value.string qn, Value.string qd])); refine (HV2.out _).mono ?_; rintro e v2 ⟨rfl, gv2⟩; have hAv2 : Three v2 (w.heap.size) (.bool a) (.string pn) (.string pd) 49 := Three.kept (by assumption) gv2; have hBv2 : Three v2 (w.heap.size + 1) (.bool b) (.string qn) (.string qd) 49 := Three.kept (by assumption) gv2; have hCv2 : Three v2 (w.heap.size + 1 + 1) (.bool false) (.string ⟨#[]⟩) (.string ⟨#[]⟩) 49 := Three.kept (by assumption) gv2; have Gv2 : w.grownBy v2 none := gr_then (by assumption) gv2)
      | (go_at_call_of 103 ((Value.agg #[Value.bool a, Value.string pn, Value.string pd])); refine (HS.out _).mono ?_; rintro e v3 ⟨rfl, gv3⟩; have hAv3 : Three v3 (w.heap.size) (.bool a) (.string pn) (.string pd) 49 := Three.kept (by assumption) gv3; have hBv3 : Three v3 (w.heap.size + 1) (.bool b) (.string qn) (.string qd) 49 := Three.kept (by assumption) gv3; have hCv3 : Three v3 (w.heap.size + 1 + 1) (.bool false) (.string ⟨#[]⟩) (.string ⟨#[]⟩) 49 := Three.kept (by assumption) gv3; have Gv3 : w.grownBy v3 none := gr_then (by assumption) gv3; have k0 := hCv3.c0; have k1 := hCv3.c1; have k2 := hCv3.c2; have f0 := hCv3.fr 0; have f1 := hCv3.fr 1; have f2 := hCv3.fr 2))
  all_goals go_wp2
  all_goals exact bodyPost_ret (v := .agg #[.bool c, .string zs, .string zd]) (by simp [results, Tryz.results45, go_sem, k0, k1, k2]) rfl ⟨rfl, gr_setn (gr_setn (gr_setn Gv3 (by omega)) (by omega)) (by omega)⟩
set_option maxHeartbeats 1000000 in
set_option maxRecDepth 100000 in
theorem subq_any (p q : Rat) (k : Nat) (w : World) (hp : Bd k p) (hq : Bd k q) (hk : k ≤ 1000) : Gives 43 #[RV p, RV q] w (RV (p - q)) := by
  have HV1 := Lib.hid (fun w => value_rv p k w hp (by omega))
  have HV2 := Lib.hid (fun w => value_rv q k w hq (by omega))
  have HN := Lib.hid (negative_any q)
  have HS := Lib.hid (fun w => sumq_any p (-q) k w hp (bd_neg hq) hk)
  rw [show p + -q = p - q from (Rat.sub_eq_add_neg p q).symm] at HS
  obtain ⟨nb, nx, ny, hn⟩ : ∃ x y z, RV (-q) = .agg #[.bool x, .string y, .string z] := ⟨_, _, _, rfl⟩
  rw [hn] at HN HS
  clear hn
  clear hk hp hq
  unfold RV RW at *
  generalize S (p - q).num.natAbs = zs at *
  generalize S (p - q).den = zd at *
  generalize decide ((p - q).num < 0) = c at *
  generalize decide (p.num < 0) = a at *
  generalize decide (q.num < 0) = b at *
  generalize S p.num.natAbs = pn at *
  generalize S p.den = pd at *
  generalize S q.num.natAbs = qn at *
  generalize S q.den = qd at *
  have A0 := (((Three.new w (.bool a) (.string pn) (.string pd) 49).alloc (.cells #[.bool b, .string qn, .string qd] 49)).alloc (.cells #[.bool false, .string ⟨#[]⟩, .string ⟨#[]⟩] 49)).drew
  have B0 := ((Three.new1 w (.cells #[.bool a, .string pn, .string pd] 49) (.bool b) (.string qn) (.string qd) 49).alloc (.cells #[.bool false, .string ⟨#[]⟩, .string ⟨#[]⟩] 49)).drew
  have hne1 : w.heap.size ≠ w.heap.size + 1 + 1 := by omega
  have hne2 : w.heap.size + 1 + 1 ≠ w.heap.size := by omega
  have hne3 : w.heap.size + 1 ≠ w.heap.size + 1 + 1 := by omega
  have C0 := (Three.new2 w (.cells #[.bool a, .string pn, .string pd] 49) (.cells #[.bool b, .string qn, .string qd] 49) (.bool false) (.string ⟨#[]⟩) (.string ⟨#[]⟩) 49).drew
  have G0 : w.grownBy ((((w.alloc (.cells #[.bool a, .string pn, .string pd] 49)).alloc (.cells #[.bool b, .string qn, .string qd] 49)).alloc (.cells #[.bool false, .string ⟨#[]⟩, .string ⟨#[]⟩] 49)).drew) none := gr_dr (gr_al (gr_al (gr_al (gr_rfl _))))
  go_enter Tryz.func43, Tryz.ntmps43
  go_wp2_with fail
  go_region_held3 (fun w' => w'.cell? ⟨w.heap.size, 0, none⟩ = some (.bool a) ∧ w'.cell? ⟨w.heap.size, 1, none⟩ = some (.string pn) ∧ w'.cell? ⟨w.heap.size, 2, none⟩ = some (.string pd) ∧ w'.cell? ⟨w.heap.size + 1, 0, none⟩ = some (.bool b) ∧ w'.cell? ⟨w.heap.size + 1, 1, none⟩ = some (.string qn) ∧ w'.cell? ⟨w.heap.size + 1, 2, none⟩ = some (.string qd)) (first | exact ⟨Three.c0 (by assumption), Three.c1 (by assumption), Three.c2 (by assumption), Three.c0 (by assumption), Three.c1 (by assumption), Three.c2 (by assumption)⟩ | go_keep)
    (first
      | (go_at_call_of 102 ((Value.agg #[Value.bool a, Value.string pn, Value.string pd])); refine (HV1.out _).mono ?_; rintro e v1 ⟨rfl, gv1⟩; have hAv1 : Three v1 (w.heap.size) (.bool a) (.string pn) (.string pd) 49 := Three.kept (by assumption) gv1; have hBv1 : Three v1 (w.heap.size + 1) (.bool b) (.string qn) (.string qd) 49 := Three.kept (by assumption) gv1; have hCv1 : Three v1 (w.heap.size + 1 + 1) (.bool false) (.string ⟨#[]⟩) (.string ⟨#[]⟩) 49 := Three.kept (by assumption) gv1; have Gv1 : w.grownBy v1 none := gr_then (by assumption) gv1)
      | (go_at_call_of 102 ((Value.agg #[Value.bool b, Value.string qn, Value.string qd])); refine (HV2.out _).mono ?_; rintro e v2 ⟨rfl, gv2⟩; have hAv2 : Three v2 (w.heap.size) (.bool a) (.string pn) (.string pd) 49 := Three.kept (by assumption) gv2; have hBv2 : Three v2 (w.heap.size + 1) (.bool b) (.string qn) (.string qd) 49 := Three.kept (by assumption) gv2; have hCv2 : Three v2 (w.heap.size + 1 + 1) (.bool false) (.string ⟨#[]⟩) (.string ⟨#[]⟩) 49 := Three.kept (by assumption) gv2; have Gv2 : w.grownBy v2 none := gr_then (by assumption) gv2)
      | (go_at_call_of 106 ((Value.agg #[Value.bool b, Value.string qn, Value.string qd])); refine (HN.out _).mono ?_; rintro e v4 ⟨rfl, gv4⟩; have hAv4 : Three v4 (w.heap.size) (.bool a) (.string pn) (.string pd) 49 := Three.kept (by assumption) gv4; have hBv4 : Three v4 (w.heap.size + 1) (.bool b) (.string qn) (.string qd) 49 := Three.kept (by assumption) gv4; have hCv4 : Three v4 (w.heap.size + 1 + 1) (.bool false) (.string ⟨#[]⟩) (.string ⟨#[]⟩) 49 := Three.kept (by assumption) gv4; have Gv4 : w.grownBy v4 none := gr_then (by assumption) gv4)
      | (go_at_call_of 105 ((Value.agg #[Value.bool a, Value.string pn, Value.string pd])); refine (HS.out _).mono ?_; rintro e v3 ⟨rfl, gv3⟩; have hAv3 : Three v3 (w.heap.size) (.bool a) (.string pn) (.string pd) 49 := Three.kept (by assumption) gv3; have hBv3 : Three v3 (w.heap.size + 1) (.bool b) (.string qn) (.string qd) 49 := Three.kept (by assumption) gv3; have hCv3 : Three v3 (w.heap.size + 1 + 1) (.bool false) (.string ⟨#[]⟩) (.string ⟨#[]⟩) 49 := Three.kept (by assumption) gv3; have Gv3 : w.grownBy v3 none := gr_then (by assumption) gv3; have k0 := hCv3.c0; have k1 := hCv3.c1; have k2 := hCv3.c2; have f0 := hCv3.fr 0; have f1 := hCv3.fr 1; have f2 := hCv3.fr 2))
  all_goals go_wp2
  all_goals exact bodyPost_ret (v := .agg #[.bool c, .string zs, .string zd]) (by simp [results, Tryz.results43, go_sem, k0, k1, k2]) rfl ⟨rfl, gr_setn (gr_setn (gr_setn Gv3 (by omega)) (by omega)) (by omega)⟩
theorem negq_any (q : Rat) (k : Nat) (w : World) (hq : Bd k q) (hk : k ≤ 1000000) : Gives 51 #[RV q] w (RV (-q)) := by
  have HV := Lib.hid (fun w => value_rv q k w hq hk)
  have HN := Lib.hid (negative_any q)
  clear hq hk
  unfold RV RW at *
  generalize S (-q).num.natAbs = zs at *
  generalize S (-q).den = zd at *
  generalize decide ((-q).num < 0) = c at *
  generalize decide (q.num < 0) = b at *
  generalize S q.num.natAbs = qn at *
  generalize S q.den = qd at *
  have C0 := Three.new1 w (.cells #[.bool b, .string qn, .string qd] 49) (.bool false) (.string ⟨#[]⟩) (.string ⟨#[]⟩) 49
  go_enter Tryz.func51, Tryz.ntmps51
  go_wp2_with fail
  refine (HV.out _).mono ?_
  rintro e v1 ⟨rfl, g1⟩
  have C1 := C0.kept g1
  go_wp2_with fail
  refine (HN.out _).mono ?_
  rintro e v2 ⟨rfl, g2⟩
  have C2 := C1.kept g2
  have k0 := C2.c0
  have k1 := C2.c1
  have k2 := C2.c2
  have f0 := C2.fr 0
  have f1 := C2.fr 1
  have f2 := C2.fr 2
  go_wp2
  exact bodyPost_ret (v := .agg #[.bool c, .string zs, .string zd]) (by simp [results, Tryz.results51, go_sem, k0, k1, k2]) rfl ⟨rfl, gr_setn (gr_setn (gr_setn (gr_then (gr_two g1) g2) (by omega)) (by omega)) (by omega)⟩
theorem signq_any (q : Rat) (k : Nat) (w : World) (hq : Bd k q) (hk : k ≤ 1000000) : Gives 49 #[RV q] w (.int .i64 (sgnQ q)) := by
  have HV := Lib.hid (fun w => value_rv q k w hq hk)
  have HN := Lib.hid (sign_any q)
  clear hq hk
  unfold RV RW at *
  generalize sgnQ q = z at *
  generalize decide (q.num < 0) = b at *
  generalize S q.num.natAbs = qn at *
  generalize S q.den = qd at *
  go_enter Tryz.func49, Tryz.ntmps49
  go_wp2_with fail
  refine (HV.out _).mono ?_
  rintro e v1 ⟨rfl, g1⟩
  go_wp2_with fail
  refine (HN.out _).mono ?_
  rintro e v2 ⟨rfl, g2⟩
  go_wp2
  go_ret
  exact ⟨rfl, gr_then (gr_one g1) g2⟩
theorem ofq_nat (n : Nat) (w : World) (h : n ≤ 9223372036854775807) : Gives 56 #[.int .i64 (n : Int)] w (RW false n 1) := by
  have HN := Lib.hid (fun w => of_any n w h)
  rw [show (⟨(enc n).toArray⟩ : ByteArray) = S n from rfl] at HN
  have HW := Lib.hid (whole_any false n)
  unfold RW at *
  generalize S n = x at *
  generalize S 1 = y at *
  have C0 := Three.new w (.bool false) (.string ⟨#[]⟩) (.string ⟨#[]⟩) 49
  have hn : decide ((0 : Int) ≤ (n : Int)) = true := by simp
  go_enter Tryz.func56, Tryz.ntmps56
  go_wp2_with fail
  refine (HN.out _).mono ?_
  rintro e v1 ⟨rfl, g1⟩
  have C1 := C0.kept g1
  go_wp2_with fail
  refine (HW.out _).mono ?_
  rintro e v2 ⟨rfl, g2⟩
  have C2 := C1.kept g2
  have k0 := C2.c0
  have k1 := C2.c1
  have k2 := C2.c2
  have f0 := C2.fr 0
  have f1 := C2.fr 1
  have f2 := C2.fr 2
  go_wp2
  exact bodyPost_ret (v := .agg #[.bool false, .string x, .string y]) (by simp [results, Tryz.results56, go_sem, k0, k1, k2]) rfl ⟨rfl, gr_setn (gr_setn (gr_setn (gr_then (gr_one g1) g2) (Nat.le_refl _)) (Nat.le_refl _)) (Nat.le_refl _)⟩
end Go.Proofs.YteajpefbmiiioaaGreatDoor
namespace Go.Proofs.YteajpefbmiiioaaGreatDoor
namespace Mth

def D24 : Nat := 16777216
theorem D24_eq : D24 = 16777216 := rfl
theorem D24_pos : 0 < D24 := by decide
/-- The digits of a number, the least significant one first, none for 0. -/
def dgt (n : Nat) : List Nat := if _h : n = 0 then [] else (n % D24) :: dgt (n / D24)
termination_by n
decreasing_by rw [D24_eq]; omega
theorem dgt_zero : dgt 0 = [] := by unfold dgt; simp
theorem dgt_pos {n : Nat} (h : n ≠ 0) : dgt n = (n % D24) :: dgt (n / D24) := by rw [dgt]; simp [h]
theorem div_D24_lt {n : Nat} (h : n ≠ 0) : n / D24 < n := by rw [D24_eq]; omega
theorem val_dgt (n : Nat) : val D24 (dgt n) = n := by
  induction n using Nat.strongRecOn with
  | _ n ih =>
    by_cases h : n = 0
    · subst h; rw [dgt_zero]; rfl
    · rw [dgt_pos h, val, ih _ (div_D24_lt h)]; exact Nat.mod_add_div _ _
theorem gt_dgt (n i : Nat) : gt (dgt n) i = n / D24 ^ i % D24 := by
  induction i generalizing n with
  | zero =>
    by_cases h : n = 0
    · subst h; rw [dgt_zero]; simp [gt]
    · rw [dgt_pos h]; simp [gt]
  | succ i ih =>
    by_cases h : n = 0
    · subst h; rw [dgt_zero]; simp [gt]
    · rw [dgt_pos h, Nat.pow_succ, Nat.mul_comm, ← Nat.div_div_eq_div_mul, ← ih (n / D24)]; simp [gt]
theorem dg_dgt (n : Nat) : Dg D24 (dgt n) := fun i => by rw [gt_dgt]; exact Nat.mod_lt _ D24_pos
theorem vs_dgt (n k : Nat) : vs D24 (dgt n) 0 k = n % D24 ^ k := by
  induction k with
  | zero => simp [vs, Nat.mod_one]
  | succ k ih => simp only [vs, Nat.zero_add]; rw [ih, gt_dgt, Nat.pow_succ, Nat.mod_mul]
theorem dgt_len_le : ∀ (k n : Nat), n < D24 ^ k → (dgt n).length ≤ k
  | 0, n, h => by
    have : n = 0 := by simpa using h
    subst this; rw [dgt_zero]; simp
  | k + 1, n, h => by
    by_cases h0 : n = 0
    · subst h0; rw [dgt_zero]; simp
    · rw [dgt_pos h0, List.length_cons]
      have := dgt_len_le k (n / D24) (by rw [Nat.div_lt_iff_lt_mul D24_pos, ← Nat.pow_succ]; exact h)
      omega
theorem dgt_lt (n : Nat) : n < D24 ^ (dgt n).length := by
  have := val_lt D24 (dgt n) (dg_dgt n).mem
  rwa [val_dgt] at this
theorem dgt_top {n : Nat} (h : n ≠ 0) : D24 ^ ((dgt n).length - 1) ≤ n := by
  induction n using Nat.strongRecOn with
  | _ n ih =>
    rw [dgt_pos h, List.length_cons, Nat.add_sub_cancel]
    by_cases h1 : n / D24 = 0
    · rw [h1, dgt_zero]; simp; omega
    · have h2 := ih _ (div_D24_lt h) h1
      have h3 : 0 < (dgt (n / D24)).length := by rw [dgt_pos h1]; simp
      have h4 : D24 ^ (dgt (n / D24)).length = D24 ^ ((dgt (n / D24)).length - 1) * D24 := by rw [← Nat.pow_succ]; congr 1; omega
      rw [h4]
      have h5 : D24 ^ ((dgt (n / D24)).length - 1) * D24 ≤ n / D24 * D24 := Nat.mul_le_mul_right _ h2
      exact Nat.le_trans h5 (Nat.div_mul_le_self _ _)
theorem dgt_inj_len {a b : Nat} (h : a ≤ b) : (dgt a).length ≤ (dgt b).length := dgt_len_le _ _ (Nat.lt_of_le_of_lt h (dgt_lt b))
/-- A list of digits without zeros at its end is that of its value. -/
theorem eq_dgt {l : List Nat} (hd : Dg D24 l) (ht : l.length = 0 ∨ gt l (l.length - 1) ≠ 0) : l = dgt (val D24 l) := by
  have h1 := val_lt D24 l hd.mem
  have h2 := dgt_len_le _ _ h1
  have hlen : l.length = (dgt (val D24 l)).length := by
    rcases ht with h | h
    · omega
    · rcases Nat.eq_zero_or_pos l.length with h0 | h0
      · omega
      · have h3 : D24 ^ (l.length - 1) ≤ val D24 l := by
          rw [← vs_val]
          have e : vs D24 l 0 l.length = vs D24 l 0 (l.length - 1) + D24 ^ (l.length - 1) * gt l (l.length - 1) := by
            conv => lhs; rw [show l.length = (l.length - 1) + 1 from by omega]
            simp only [vs, Nat.zero_add]
          rw [e]
          have : D24 ^ (l.length - 1) * 1 ≤ D24 ^ (l.length - 1) * gt l (l.length - 1) := Nat.mul_le_mul_left _ (by omega)
          omega
        have h4 := dgt_lt (val D24 l)
        have h5 := Nat.lt_of_le_of_lt h3 h4
        have h6 : l.length - 1 < (dgt (val D24 l)).length := (Nat.pow_lt_pow_iff_right (by decide)).1 h5
        omega
  refine gt_ext hlen (fun i hi => ?_)
  rw [gt_dgt, ← vs_val]
  have hsplit := vs_split D24 l 0 i (l.length - i)
  rw [show i + (l.length - i) = l.length from by omega] at hsplit
  rw [hsplit, Nat.add_mul_div_left _ _ (Nat.pow_pos D24_pos), Nat.div_eq_of_lt (vs_lt hd), Nat.zero_add, Nat.zero_add]
  rw [show l.length - i = 1 + (l.length - i - 1) from by omega, vs_split]
  simp only [vs, Nat.pow_zero, Nat.one_mul, Nat.add_zero, Nat.zero_add, Nat.pow_one]
  rw [Nat.add_mul_mod_self_left, Nat.mod_eq_of_lt (hd i)]
theorem dgt_take_zeros {l : List Nat} {m : Nat} (hd : Dg D24 l) (hm : m ≤ l.length) (hz : ∀ i, m ≤ i → i < l.length → gt l i = 0) (ht : m = 0 ∨ gt l (m - 1) ≠ 0) : l.take m = dgt (val D24 l) := by
  have hl : (l.take m).length = m := by simp; omega
  have hdt : Dg D24 (l.take m) := fun i => by
    by_cases h : i < m
    · rw [gt_take h]; exact hd i
    · rw [gt_of_ge (by omega)]; exact D24_pos
  have hv : val D24 (l.take m) = val D24 l := by
    rw [← vs_take l m hm, ← vs_val l]
    have hsplit := vs_split D24 l 0 m (l.length - m)
    rw [show m + (l.length - m) = l.length from by omega] at hsplit
    rw [hsplit, vs_zero (n := l.length - m) (fun i hi => by rw [Nat.zero_add]; exact hz _ (by omega) (by omega))]; simp
  rw [← hv]
  refine eq_dgt hdt ?_
  rw [hl]
  rcases ht with h | h
  · exact .inl h
  · rcases Nat.eq_zero_or_pos m with h0 | h0
    · exact .inl h0
    · exact .inr (by rw [gt_take (by omega)]; exact h)
/-- How many digits as many bytes have. -/
theorem D24_pow (j : Nat) : D24 ^ j = 256 ^ (3 * j) := by rw [Nat.pow_mul]; congr 1
theorem eq_dgt_ge {l : List Nat} (hd : Dg D24 l) (h : l.length = 0 ∨ D24 ^ (l.length - 1) ≤ val D24 l) : l = dgt (val D24 l) := by
  refine eq_dgt hd ?_
  rcases h with h | h
  · exact .inl h
  · rcases Nat.eq_zero_or_pos l.length with h0 | h0
    · exact .inl h0
    · refine .inr fun e => ?_
      have e1 : val D24 l = vs D24 l 0 (l.length - 1) + D24 ^ (l.length - 1) * gt l (l.length - 1) := by
        rw [← vs_val]
        conv => lhs; rw [show l.length = (l.length - 1) + 1 from by omega]
        simp only [vs, Nat.zero_add]
      rw [e, Nat.mul_zero, Nat.add_zero] at e1
      have := vs_lt (b := D24) (xs := l) (off := 0) (n := l.length - 1) hd
      omega
theorem dg_snoc {l : List Nat} {d : Nat} (hd : Dg D24 l) (h : d < D24) : Dg D24 (l ++ [d]) := by
  refine Dg.of_mem D24_pos fun x hx => ?_
  rcases List.mem_append.1 hx with h1 | h1
  · exact hd.mem x h1
  · rw [List.mem_singleton.1 h1]; exact h
theorem dg_nil : Dg D24 [] := fun i => by simp [gt, D24_pos]
/-- The value of the digits from a place on. -/
theorem val_drop {l : List Nat} {k : Nat} (h : k < l.length) : val D24 (l.drop k) = gt l k + D24 * val D24 (l.drop (k + 1)) := by
  rw [List.drop_eq_getElem_cons h, val_cons, ← gt_of_lt h]
/-- Three bytes more. -/
theorem num_part (l : List UInt8) (s e : Nat) (h : s ≤ e) (he : e ≤ l.length) : num (l.drop s) = num ((l.take e).drop s) * 256 ^ (l.length - e) + num (l.drop e) := by
  have h1 : l.drop s = (l.take e).drop s ++ l.drop e := by
    conv => lhs; rw [← List.take_append_drop e l]
    rw [List.drop_append_of_le_length (by rw [List.length_take]; omega)]
  rw [h1, num_append, List.length_drop]
theorem num_part_lt (l : List UInt8) (s e : Nat) (h : e ≤ s + 3) : num ((l.take e).drop s) < D24 := by
  have h1 := num_lt ((l.take e).drop s)
  have h2 : ((l.take e).drop s).length ≤ 3 := by simp; omega
  have h3 := Nat.pow_le_pow_right (n := 256) (by decide) h2
  exact Nat.lt_of_lt_of_le h1 h3
end Mth
end Go.Proofs.YteajpefbmiiioaaGreatDoor
namespace Go.Proofs.YteajpefbmiiioaaGreatDoor
open Go.RowKit Mth

/-- A list that the call gathers since the world w0. -/
structure Acc (k : IntKind) (e : TypeId) (w0 w : World) (v : Value) (l : List Nat) : Prop where
  own : ∃ zs, Own k e w v l.length zs ∧ zs.take l.length = l
  fresh : v.ownBlock = none ∨ ∃ g, v.ownBlock = some g ∧ w0.heap.size ≤ g
  gr : w0.grownBy w none
theorem Acc.nil (k : IntKind) (e : TypeId) (w : World) : Acc k e w w (.slice none 0 0) [] := ⟨⟨[], .nil _ _ _, rfl⟩, .inl rfl, World.grownBy.refl _ _⟩
theorem Acc.kept {k : IntKind} {e : TypeId} {w0 w w' : World} {v : Value} {l : List Nat} (h : Acc k e w0 w v l) (hg : w.grownBy w' none) : Acc k e w0 w' v l := by
  obtain ⟨zs, ho, ht⟩ := h.own
  refine ⟨⟨zs, ho.kept hg ?_, ht⟩, h.fresh, gr_then h.gr hg⟩
  cases v.ownBlock with
  | none => exact .inl rfl
  | some g => exact .inr (by simp)

theorem run_acc {P : Program} {w0 w : World} (t ty : TypeId) (k : IntKind) (e : TypeId) (i : TypeInfo) (bytes : Nat) (ht : P.underlying t = some (.slice e)) (hi : P.info? e = some i) (hz : i.zero = some (.int k 0)) (hsize : i.size = 1) (hby : i.bytes = bytes)
    (v : Value) (l xs : List Nat) (hacc : Acc k e w0 w v l) (hm0 : 0 < xs.length) (h63 : l.length + xs.length ≤ maxLen) (hbytes : (l.length + xs.length) * bytes ≤ 140737488355328) :
    ∃ v' w', (Builtin.append_ #[t, t] ty #[v, .slice (some ⟨w.heap.size, 0, none⟩) xs.length xs.length]).run P (w.alloc (.cells (cellsOf k xs).toArray e)) = .ok v' w' ∧ Acc k e w0 w' v' (l ++ xs) := by
  obtain ⟨zs, hown, htake⟩ := hacc.own
  have hb : Blk k e (w.alloc (.cells (cellsOf k xs).toArray e)) w.heap.size xs := by unfold Blk; rw [heap_alloc_new]
  have hown' := hown.kept (gr_alloc w (.cells (cellsOf k xs).toArray e) none) (by cases v.ownBlock with | none => exact .inl rfl | some g => exact .inr (by simp))
  obtain ⟨v', w', us, hrun, ho', hg, happ, hblk⟩ := run_append_blk (P := P) (w := w.alloc (.cells (cellsOf k xs).toArray e)) k e t ty i bytes ht hi hz hsize hby v l.length zs hown' w.heap.size 0 xs.length xs.length xs (fun j hj => hb.cell (by omega)) (by omega) hm0 h63 hbytes
  refine ⟨v', w', hrun, ⟨us, by rw [List.length_append]; exact ho', ?_⟩, ?_, ?_⟩
  · have hlu : l.length + xs.length ≤ us.length := by
      rcases ho' with ⟨_, h0, _⟩ | ⟨_, _, _, h1, _⟩
      · omega
      · exact h1
    have hlz : l.length ≤ zs.length := by
      have := congrArg List.length htake
      simp at this; omega
    apply gt_ext
    · simp; omega
    · intro j hj
      simp at hj
      rw [gt_take (by simp; omega)]
      by_cases h1 : j < l.length
      · rw [gt_append_left h1, happ.old j h1]
        rw [← gt_take (xs := zs) h1, htake]
      · rw [gt_append_right (by omega)]
        have := happ.new (j - l.length) (by omega)
        rw [Nat.zero_add, show l.length + (j - l.length) = j from by omega] at this
        exact this
  · rcases hblk with e1 | ⟨g, e1, e2⟩
    · rw [e1]; exact hacc.fresh
    · refine .inr ⟨g, e1, ?_⟩
      have h1 := hacc.gr.size
      simp at e2; omega
  · refine gr_trans (gr_then hacc.gr (gr_alloc w _ none)) hg (.inl rfl) ?_
    rcases hacc.fresh with e1 | ⟨g, e1, e2⟩
    · rw [e1]; exact .inl rfl
    · exact .inr (.inr fun j e3 => by rw [e1] at e3; cases e3; exact e2)

theorem wpList_acc {P : Program} {w0 w : World} {ops : Array Oper} {rest : List Oper} {o : Oper} {a : Act} {Q : Exit → Act → World → Prop} (hgd : o.guard = none) (s x : Operand) (t : TypeId)
    (ho : o.op = .call { callee := .builtin .append, args := #[s, x], argTypes := #[t, t] })
    (k : IntKind) (e : TypeId) (i : TypeInfo) (bytes : Nat) (ht : P.underlying t = some (.slice e)) (hi : P.info? e = some i) (hz : i.zero = some (.int k 0)) (hsize : i.size = 1) (hby : i.bytes = bytes)
    (v : Value) (l xs : List Nat) (hacc : Acc k e w0 w v l) (hs : a.eval s = v) (hx : a.eval x = .slice (some ⟨w.heap.size, 0, none⟩) xs.length xs.length) (hm0 : 0 < xs.length)
    (h63 : l.length + xs.length ≤ maxLen) (hbytes : (l.length + xs.length) * bytes ≤ 140737488355328)
    (h : ∀ v' w', Acc k e w0 w' v' (l ++ xs) → wpList P ops Q rest (a.put o.dst v') w') : wpList P ops Q (o :: rest) a (w.alloc (.cells (cellsOf k xs).toArray e)) := by
  refine wpList_plain hgd fun K hK => ?_
  obtain ⟨v', w', hr, h2⟩ := run_acc (P := P) t o.type k e i bytes ht hi hz hsize hby v l xs hacc hm0 h63 hbytes
  unfold Oper.wp execOp
  simp only [ho, resolve, invoke, builtin, Sem.run_bind, Sem.run_pure, Result.andThen_ok, List.map_toArray, List.map_cons, List.map_nil, hs, hx, hr]
  exact hK _ _ (h v' w' h2)

/-- The elements of such a list. -/
theorem Acc.some_ {k : IntKind} {e : TypeId} {w0 w : World} {v : Value} {l : List Nat} (h : Acc k e w0 w v l) (h0 : 0 < l.length) : ∃ g c, v = .slice (some ⟨g, 0, none⟩) l.length c ∧ w0.heap.size ≤ g ∧ l.length ≤ c ∧ c ≤ maxLen ∧ ∀ j, j < l.length → w.cell? ⟨g, 0 + j, none⟩ = some (.int k ((gt l j : Nat) : Int)) := by
  obtain ⟨zs, hown, ht⟩ := h.own
  rcases hown with ⟨_, h1, _⟩ | ⟨g, rfl, hb, h1, h2⟩
  · omega
  · refine ⟨g, _, rfl, ?_, h1, h2, fun j hj => ?_⟩
    · rcases h.fresh with e | ⟨g', e, e'⟩
      · cases e
      · simp only [Value.ownBlock, Option.some.injEq] at e; omega
    · rw [Nat.zero_add, hb.cell (by omega), ← ht, gt_take hj]
theorem Acc.none_ {k : IntKind} {e : TypeId} {w0 w : World} {v : Value} (h : Acc k e w0 w v []) : (∃ l c, v = .slice none l c) ∨ ∃ g c, v = .slice (some ⟨g, 0, none⟩) 0 c := by
  obtain ⟨zs, hown, ht⟩ := h.own
  rcases hown with ⟨rfl, h1, _⟩ | ⟨g, rfl, hb, h1, h2⟩
  · exact .inl ⟨_, _, rfl⟩
  · exact .inr ⟨g, _, rfl⟩
/-- Such a list of bytes as a string. -/
theorem Acc.str {P : Program} {w0 w : World} {v : Value} {l : List Nat} {e : TypeId} (h : Acc .u8 e w0 w v l) (src dst : TypeId) (hs : P.underlying src = some (.slice e)) (he : P.underlying e = some (.int .u8)) (hd : P.underlying dst = some .string) :
    Sem.run P (convert src dst v) w = .ok (.string ⟨(u8s l).toArray⟩) w := by
  have hn : strOfNums (l.map fun v : Nat => (v : Int)) = ⟨(u8s l).toArray⟩ := by simp [strOfNums, u8s]
  rcases Nat.eq_zero_or_pos l.length with h0 | h0
  · obtain rfl := List.eq_nil_of_length_eq_zero h0
    rcases h.none_ with ⟨a, c, rfl⟩ | ⟨g, c, rfl⟩
    · rw [run_convert_bytes_nil w src e hs he a c dst hd]; rfl
    · rw [run_convert_bytes_arg w src e hs he g 0 0 c [] rfl (fun i hi => by omega) dst hd]; rfl
  · obtain ⟨g, c, rfl, _, _, _, hc⟩ := h.some_ h0
    rw [run_convert_bytes_arg w src e hs he g 0 l.length c (l.map fun v : Nat => (v : Int)) (by simp) (fun j hj => by rw [hc j hj]; simp [gt, List.getD, hj]) dst hd, hn]

/-- A slice that holds just the numbers l, at the head of a block. -/
structure Ls (w : World) (a : Option Addr) (m c : Nat) (l : List Nat) : Prop where
  len : m = l.length
  mem : 0 < m → ∃ g zs, a = some ⟨g, 0, none⟩ ∧ Blk .i64 3 w g zs ∧ zs.length = c ∧ m ≤ c ∧ c ≤ maxLen ∧ zs.take m = l
/-- A slice with the digits of N to the base 2 ^ 24. -/
def RN (w : World) (v : Value) (N : Nat) : Prop := ∃ a m c, v = .slice a m c ∧ Ls w a m c (dgt N)
theorem Ls.kept {w w' : World} {a : Option Addr} {m c : Nat} {l : List Nat} (h : Ls w a m c l) (hg : w.grownBy w' none) : Ls w' a m c l := by
  refine ⟨h.len, fun h0 => ?_⟩
  obtain ⟨g, zs, h1, h2, h3⟩ := h.mem h0
  exact ⟨g, zs, h1, h2.kept hg (by simp), h3⟩
theorem RN.kept {w w' : World} {v : Value} {N : Nat} (h : RN w v N) (hg : w.grownBy w' none) : RN w' v N := by
  obtain ⟨a, m, c, rfl, h⟩ := h
  exact ⟨a, m, c, rfl, h.kept hg⟩
theorem Ls.at_ {w : World} {a : Option Addr} {m c i : Nat} {l : List Nat} (h : Ls w a m c l) (hi : i < m) : ∃ g, a = some ⟨g, 0, none⟩ ∧ m ≤ c ∧ c ≤ maxLen ∧ w.cell? ⟨g, 0 + i, none⟩ = some (.int .i64 ((gt l i : Nat) : Int)) := by
  obtain ⟨g, zs, h1, h2, h3, h4, h5, h6⟩ := h.mem (by omega)
  refine ⟨g, h1, h4, h5, ?_⟩
  rw [Nat.zero_add, h2.cell (by omega), ← h6, gt_take hi]
theorem Acc.ls {w0 w : World} {v : Value} {l : List Nat} (h : Acc .i64 3 w0 w v l) : ∃ a m c, v = .slice a m c ∧ Ls w a m c l := by
  obtain ⟨zs, hown, ht⟩ := h.own
  rcases hown with ⟨rfl, h0, _⟩ | ⟨g, rfl, hb, h1, h2⟩
  · exact ⟨none, 0, 0, rfl, h0.symm, fun h => by omega⟩
  · exact ⟨_, _, _, rfl, rfl, fun _ => ⟨g, zs, rfl, hb, rfl, h1, h2, ht⟩⟩
theorem Acc.rn {w0 w : World} {v : Value} {l : List Nat} {N : Nat} (h : Acc .i64 3 w0 w v l) (hl : l = dgt N) : RN w v N := by
  obtain ⟨a, m, c, h1, h2⟩ := h.ls
  exact ⟨a, m, c, h1, hl ▸ h2⟩
end Go.Proofs.YteajpefbmiiioaaGreatDoor
