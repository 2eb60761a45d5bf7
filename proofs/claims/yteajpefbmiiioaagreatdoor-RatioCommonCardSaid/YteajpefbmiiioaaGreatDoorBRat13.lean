/- Contracts of the program and of the reference, part 13: Rl, Rm, Rn, Ro, MthT. -/
import Derived.Test.YteajpefbmiiioaaGreatDoorBRat12
import Derived.Laws.OwnMore
namespace Go.Proofs.YteajpefbmiiioaaGreatDoor
open Go.RowKit Mth Go.Lib

theorem fields {a b : Bool} {pn qn pd qd : ByteArray} (h : ¬ Value.agg #[.bool a, .string pn, .string pd] = .agg #[.bool b, .string qn, .string qd]) : ¬ a = b ∨ (a = b ∧ ¬ pn.toList = qn.toList) ∨ (a = b ∧ pn = qn ∧ ¬ pd.toList = qd.toList) := by
  have tl : ∀ {x y : ByteArray}, ¬ x = y → ¬ x.toList = y.toList := by
    intro x y h e
    rw [ByteArray.toList_eq, ByteArray.toList_eq] at e
    exact h (ByteArray.ext (Array.ext' e))
  by_cases h1 : a = b
  · by_cases h2 : pn = qn
    · by_cases h3 : pd = qd
      · subst h1 h2 h3; exact absurd rfl h
      · exact .inr (.inr ⟨h1, h2, tl h3⟩)
    · exact .inr (.inl ⟨h1, tl h2⟩)
  · exact .inl h1
theorem both2 {w v : World} {A B : Nat} {x1 y1 z1 x2 y2 z2 : Value} {t : TypeId} (hA : Three v A x1 y1 z1 t) (hB : Three v B x2 y2 z2 t) (hG : w.grownBy v none) (lA : w.heap.size ≤ A) (lB : w.heap.size ≤ B) (nAB : A ≠ B) :
    Three ((((((v.setCell ⟨A, 0, none⟩ x1).setCell ⟨A, 1, none⟩ y1).setCell ⟨A, 2, none⟩ z1).setCell ⟨B, 0, none⟩ x2).setCell ⟨B, 1, none⟩ y2).setCell ⟨B, 2, none⟩ z2) A x1 y1 z1 t ∧ Three ((((((v.setCell ⟨A, 0, none⟩ x1).setCell ⟨A, 1, none⟩ y1).setCell ⟨A, 2, none⟩ z1).setCell ⟨B, 0, none⟩ x2).setCell ⟨B, 1, none⟩ y2).setCell ⟨B, 2, none⟩ z2) B x2 y2 z2 t ∧ w.grownBy ((((((v.setCell ⟨A, 0, none⟩ x1).setCell ⟨A, 1, none⟩ y1).setCell ⟨A, 2, none⟩ z1).setCell ⟨B, 0, none⟩ x2).setCell ⟨B, 1, none⟩ y2).setCell ⟨B, 2, none⟩ z2) none :=
  ⟨(hA.all _ _ _).oth3 nAB _ _ _, (hB.oth3 (Ne.symm nAB) _ _ _).all _ _ _, gr_set3 (gr_set3 hG lA _ _ _) lB _ _ _⟩
set_option maxHeartbeats 3000000 in
set_option maxRecDepth 100000 in
theorem cmpq_any (p q : Rat) (k : Nat) (w : World) (hp : Bd k p) (hq : Bd k q) (hk : k ≤ 1000) : Gives 47 #[RV p, RV q] w (.int .i64 (cmpQ p q)) := by
  have hk' : k ≤ 1000000 := by omega
  have HV1 := Lib.hid (fun w => value_rv p k w hp (by omega))
  have HV2 := Lib.hid (fun w => value_rv q k w hq (by omega))
  have HS1 := Lib.hid (sign_any p)
  have HS2 := Lib.hid (sign_any q)
  have HM1 := Lib.hid (fun w => s_mul (S p.num.natAbs) (S q.den) p.num.natAbs q.den w (s_num _) (s_num _) (by have := sz_ok hp.1 hk'; omega) (by have := sz_ok hq.2 hk'; omega))
  have HM2 := Lib.hid (fun w => s_mul (S q.num.natAbs) (S p.den) q.num.natAbs p.den w (s_num _) (s_num _) (by have := sz_ok hq.1 hk'; omega) (by have := sz_ok hp.2 hk'; omega))
  have HC := Lib.hid (fun w => s_cmp (S (p.num.natAbs * q.den)) (S (q.num.natAbs * p.den)) (p.num.natAbs * q.den) (q.num.natAbs * p.den) w (s_num _) (s_num _))
  have hcase : (RV p = RV q ∧ cmpQ p q = 0) ∨ (¬ RV p = RV q ∧ ¬ sgnQ p = sgnQ q ∧ cmpQ p q = if sgnQ p < sgnQ q then -1 else 1) ∨ (¬ RV p = RV q ∧ sgnQ p = sgnQ q ∧ decide (p.num < 0) = decide (q.num < 0) ∧ ((decide (p.num < 0) = true ∧ cmpQ p q = - cmpN (p.num.natAbs * q.den) (q.num.natAbs * p.den)) ∨ (decide (p.num < 0) = false ∧ cmpQ p q = cmpN (p.num.natAbs * q.den) (q.num.natAbs * p.den)))) := by
    by_cases h : p = q
    · subst h; exact .inl ⟨rfl, cmpQ_self p⟩
    · have h' : ¬ RV p = RV q := fun e => h (rv_inj e)
      by_cases h2 : sgnQ p = sgnQ q
      · have h3 : decide (p.num < 0) = decide (q.num < 0) := by rw [sgn_neg p, sgn_neg q, h2]
        refine .inr (.inr ⟨h', h2, h3, ?_⟩)
        have := cmpQ_same p q h3
        have hcn : ∀ x y : Nat, (if x < y then -1 else if x = y then 0 else 1 : Int) = cmpN x y := by intro x y; unfold cmpN; split <;> (try split) <;> (try split) <;> omega
        rw [hcn] at this
        by_cases h4 : p.num < 0
        · rw [if_pos h4] at this; exact .inl ⟨decide_eq_true h4, this⟩
        · rw [if_neg h4] at this; exact .inr ⟨decide_eq_false h4, this⟩
      · exact .inr (.inl ⟨h', h2, cmpQ_signs p q h2⟩)
  unfold RV RW at *
  have lz1 := sgn_three p
  have lz2 := sgn_three q
  have lz3 : -1 ≤ cmpN (p.num.natAbs * q.den) (q.num.natAbs * p.den) ∧ cmpN (p.num.natAbs * q.den) (q.num.natAbs * p.den) ≤ 1 := by unfold cmpN; split <;> (try split) <;> omega
  generalize cmpQ p q = z at *
  generalize cmpN (p.num.natAbs * q.den) (q.num.natAbs * p.den) = cz at *
  generalize sgnQ p = sp at *
  generalize sgnQ q = sq at *
  generalize S (p.num.natAbs * q.den) = m1 at *
  generalize S (q.num.natAbs * p.den) = m2 at *
  generalize decide (p.num < 0) = a at *
  generalize decide (q.num < 0) = b at *
  generalize S p.num.natAbs = pn at *
  generalize S p.den = pd at *
  generalize S q.num.natAbs = qn at *
  generalize S q.den = qd at *
  clear hp hq hk hk'
  have HCASE := Lib.hid hcase
  clear hcase
  have n01 : w.heap.size ≠ w.heap.size + 1 := by omega
  have n10 : w.heap.size + 1 ≠ w.heap.size := by omega
  have hA0 := ((Three.new w (.bool a) (.string pn) (.string pd) 49).alloc (.cells #[.bool b, .string qn, .string qd] 49)).drew
  have hB0 := (Three.new1 w (.cells #[.bool a, .string pn, .string pd] 49) (.bool b) (.string qn) (.string qd) 49).drew
  have G0 : w.grownBy (((w.alloc (.cells #[.bool a, .string pn, .string pd] 49)).alloc (.cells #[.bool b, .string qn, .string qd] 49)).drew) none := gr_dr (gr_al (gr_al (gr_rfl _)))
  go_enter Tryz.func47, Tryz.ntmps47
  go_wp2_with fail
  have a0 := hA0.c0
  have b0 := hB0.c0
  have a1 := hA0.c1
  have b1 := hB0.c1
  have a2 := hA0.c2
  have b2 := hB0.c2
  go_cut [] from 6 to 10 (fun wx => Three wx w.heap.size (.bool a) (.string pn) (.string pd) 49 ∧ Three wx (w.heap.size + 1) (.bool b) (.string qn) (.string qd) 49 ∧ w.grownBy wx none)
  case first =>
    go_region_with (first
      | (go_at_call_of 102 ((Value.agg #[Value.bool a, Value.string pn, Value.string pd])); refine (HV1.out _).mono ?_; rintro e v1 ⟨rfl, gv1⟩; have hAv1 : Three v1 (w.heap.size) (.bool a) (.string pn) (.string pd) 49 := Three.kept (by assumption) gv1; have hBv1 : Three v1 (w.heap.size + 1) (.bool b) (.string qn) (.string qd) 49 := Three.kept (by assumption) gv1; have Gv1 : w.grownBy v1 none := gr_then (by assumption) gv1; have fa0v1 := hAv1.fr 0; have fb0v1 := hBv1.fr 0; have xa0v1 := hAv1.c0; have xb0v1 := hBv1.c0; have fa1v1 := hAv1.fr 1; have fb1v1 := hBv1.fr 1; have xa1v1 := hAv1.c1; have xb1v1 := hBv1.c1; have fa2v1 := hAv1.fr 2; have fb2v1 := hBv1.fr 2; have xa2v1 := hAv1.c2; have xb2v1 := hBv1.c2)
      | (go_at_call_of 102 ((Value.agg #[Value.bool b, Value.string qn, Value.string qd])); refine (HV2.out _).mono ?_; rintro e v2 ⟨rfl, gv2⟩; have hAv2 : Three v2 (w.heap.size) (.bool a) (.string pn) (.string pd) 49 := Three.kept (by assumption) gv2; have hBv2 : Three v2 (w.heap.size + 1) (.bool b) (.string qn) (.string qd) 49 := Three.kept (by assumption) gv2; have Gv2 : w.grownBy v2 none := gr_then (by assumption) gv2; have fa0v2 := hAv2.fr 0; have fb0v2 := hBv2.fr 0; have xa0v2 := hAv2.c0; have xb0v2 := hBv2.c0; have fa1v2 := hAv2.fr 1; have fb1v2 := hBv2.fr 1; have xa1v2 := hAv2.c1; have xb1v2 := hBv2.c1; have fa2v2 := hAv2.fr 2; have fb2v2 := hBv2.fr 2; have xa2v2 := hAv2.c2; have xb2v2 := hBv2.c2))
    all_goals
      go_wp2_with fail
      go_meet
      first
      | with_reducible exact both2 hAv2 hBv2 Gv2 (Nat.le_refl _) (Nat.le_succ _) n01
      | with_reducible exact both2 hAv1 hBv1 Gv1 (Nat.le_refl _) (Nat.le_succ _) n01
  case rest =>
    clear a0 b0 a1 b1 a2 b2 hA0 hB0 G0
    obtain ⟨hA, hB, G⟩ := hcut
    have a0 := hA.c0
    have a1 := hA.c1
    have a2 := hA.c2
    have b0 := hB.c0
    have b1 := hB.c1
    have b2 := hB.c2
    have hd := HCASE.out
    clear HCASE
    rcases hd with ⟨he, hz⟩ | ⟨hne, hss, hz⟩ | ⟨hne, hss, hab, hz⟩
    · simp only [Value.agg.injEq, Array.mk.injEq, List.cons.injEq, Value.bool.injEq, Value.string.injEq, and_true] at he
      obtain ⟨rfl, rfl, rfl⟩ := he
      have HG := Lib.hid G
      subst hz
      clear lz1 lz2 lz3
      go_wp2
      go_ret
      exact ⟨rfl, HG.out⟩
    · have hf : ¬ a = b ∨ (a = b ∧ ¬ pn.toList = qn.toList) ∨ (a = b ∧ pn = qn ∧ ¬ pd.toList = qd.toList) := fields hne
      have HZ := Lib.hid (show Lib.compareInt sp sq = z by rw [hz]; unfold Lib.compareInt; split <;> (try split) <;> omega)
      clear hne hz lz1 lz2 lz3
      rcases hf with hf | ⟨rfl, hf⟩ | ⟨rfl, rfl, hf⟩
      · go_wp2_with fail
        have hA1 := hA.drew
        have hB1 := hB.drew
        have G1 := gr_dr G
        go_region_held3 (fun w' => w'.cell? ⟨w.heap.size, 0, none⟩ = some (.bool a) ∧ w'.cell? ⟨w.heap.size, 1, none⟩ = some (.string pn) ∧ w'.cell? ⟨w.heap.size, 2, none⟩ = some (.string pd) ∧ w'.cell? ⟨w.heap.size + 1, 0, none⟩ = some (.bool b) ∧ w'.cell? ⟨w.heap.size + 1, 1, none⟩ = some (.string qn) ∧ w'.cell? ⟨w.heap.size + 1, 2, none⟩ = some (.string qd)) (first | exact ⟨Three.c0 (by assumption), Three.c1 (by assumption), Three.c2 (by assumption), Three.c0 (by assumption), Three.c1 (by assumption), Three.c2 (by assumption)⟩ | go_keep)
          (first
            | (go_at_call_of 107 ((Value.agg #[Value.bool a, Value.string pn, Value.string pd])); refine (HS1.out _).mono ?_; rintro e v3 ⟨rfl, gv3⟩; have hAv3 : Three v3 (w.heap.size) (.bool a) (.string pn) (.string pd) 49 := Three.kept (by assumption) gv3; have hBv3 : Three v3 (w.heap.size + 1) (.bool b) (.string qn) (.string qd) 49 := Three.kept (by assumption) gv3; have Gv3 : w.grownBy v3 none := gr_then (by assumption) gv3)
            | (go_at_call_of 107 ((Value.agg #[Value.bool b, Value.string qn, Value.string qd])); refine (HS2.out _).mono ?_; rintro e v4 ⟨rfl, gv4⟩; have hAv4 : Three v4 (w.heap.size) (.bool a) (.string pn) (.string pd) 49 := Three.kept (by assumption) gv4; have hBv4 : Three v4 (w.heap.size + 1) (.bool b) (.string qn) (.string qd) 49 := Three.kept (by assumption) gv4; have Gv4 : w.grownBy v4 none := gr_then (by assumption) gv4))
        have hAv4d := hAv4.drew
        have hBv4d := hBv4.drew
        have Gv4d := gr_dr Gv4
        go_wp2_with fail
        go_region_held3 (fun w' => w'.cell? ⟨w.heap.size, 0, none⟩ = some (.bool a) ∧ w'.cell? ⟨w.heap.size, 1, none⟩ = some (.string pn) ∧ w'.cell? ⟨w.heap.size, 2, none⟩ = some (.string pd) ∧ w'.cell? ⟨w.heap.size + 1, 0, none⟩ = some (.bool b) ∧ w'.cell? ⟨w.heap.size + 1, 1, none⟩ = some (.string qn) ∧ w'.cell? ⟨w.heap.size + 1, 2, none⟩ = some (.string qd)) (first | exact ⟨Three.c0 (by assumption), Three.c1 (by assumption), Three.c2 (by assumption), Three.c0 (by assumption), Three.c1 (by assumption), Three.c2 (by assumption)⟩ | go_keep)
          (first
            | (go_at_call_of 107 ((Value.agg #[Value.bool a, Value.string pn, Value.string pd])); refine (HS1.out _).mono ?_; rintro e v5 ⟨rfl, gv5⟩; have hAv5 : Three v5 (w.heap.size) (.bool a) (.string pn) (.string pd) 49 := Three.kept (by assumption) gv5; have hBv5 : Three v5 (w.heap.size + 1) (.bool b) (.string qn) (.string qd) 49 := Three.kept (by assumption) gv5; have Gv5 : w.grownBy v5 none := gr_then (by assumption) gv5)
            | (go_at_call_of 107 ((Value.agg #[Value.bool b, Value.string qn, Value.string qd])); refine (HS2.out _).mono ?_; rintro e v6 ⟨rfl, gv6⟩; have hAv6 : Three v6 (w.heap.size) (.bool a) (.string pn) (.string pd) 49 := Three.kept (by assumption) gv6; have hBv6 : Three v6 (w.heap.size + 1) (.bool b) (.string qn) (.string qd) 49 := Three.kept (by assumption) gv6; have Gv6 : w.grownBy v6 none := gr_then (by assumption) gv6)
            | (go_at_call 80; refine (Tryz.cmp_Compare_int _ _ _).mono ?_; rintro e v7 ⟨rfl, rfl⟩))
        all_goals
          go_wp2
          go_ret
          exact ⟨by rw [HZ.out]; rfl, by assumption⟩
      · go_wp2_with fail
        have hA1 := hA.drew
        have hB1 := hB.drew
        have G1 := gr_dr G
        go_region_held3 (fun w' => w'.cell? ⟨w.heap.size, 0, none⟩ = some (.bool a) ∧ w'.cell? ⟨w.heap.size, 1, none⟩ = some (.string pn) ∧ w'.cell? ⟨w.heap.size, 2, none⟩ = some (.string pd) ∧ w'.cell? ⟨w.heap.size + 1, 0, none⟩ = some (.bool a) ∧ w'.cell? ⟨w.heap.size + 1, 1, none⟩ = some (.string qn) ∧ w'.cell? ⟨w.heap.size + 1, 2, none⟩ = some (.string qd)) (first | exact ⟨Three.c0 (by assumption), Three.c1 (by assumption), Three.c2 (by assumption), Three.c0 (by assumption), Three.c1 (by assumption), Three.c2 (by assumption)⟩ | go_keep)
          (first
            | (go_at_call_of 107 ((Value.agg #[Value.bool a, Value.string pn, Value.string pd])); refine (HS1.out _).mono ?_; rintro e v3 ⟨rfl, gv3⟩; have hAv3 : Three v3 (w.heap.size) (.bool a) (.string pn) (.string pd) 49 := Three.kept (by assumption) gv3; have hBv3 : Three v3 (w.heap.size + 1) (.bool a) (.string qn) (.string qd) 49 := Three.kept (by assumption) gv3; have Gv3 : w.grownBy v3 none := gr_then (by assumption) gv3)
            | (go_at_call_of 107 ((Value.agg #[Value.bool a, Value.string qn, Value.string qd])); refine (HS2.out _).mono ?_; rintro e v4 ⟨rfl, gv4⟩; have hAv4 : Three v4 (w.heap.size) (.bool a) (.string pn) (.string pd) 49 := Three.kept (by assumption) gv4; have hBv4 : Three v4 (w.heap.size + 1) (.bool a) (.string qn) (.string qd) 49 := Three.kept (by assumption) gv4; have Gv4 : w.grownBy v4 none := gr_then (by assumption) gv4))
        have hAv4d := hAv4.drew
        have hBv4d := hBv4.drew
        have Gv4d := gr_dr Gv4
        go_wp2_with fail
        go_region_held3 (fun w' => w'.cell? ⟨w.heap.size, 0, none⟩ = some (.bool a) ∧ w'.cell? ⟨w.heap.size, 1, none⟩ = some (.string pn) ∧ w'.cell? ⟨w.heap.size, 2, none⟩ = some (.string pd) ∧ w'.cell? ⟨w.heap.size + 1, 0, none⟩ = some (.bool a) ∧ w'.cell? ⟨w.heap.size + 1, 1, none⟩ = some (.string qn) ∧ w'.cell? ⟨w.heap.size + 1, 2, none⟩ = some (.string qd)) (first | exact ⟨Three.c0 (by assumption), Three.c1 (by assumption), Three.c2 (by assumption), Three.c0 (by assumption), Three.c1 (by assumption), Three.c2 (by assumption)⟩ | go_keep)
          (first
            | (go_at_call_of 107 ((Value.agg #[Value.bool a, Value.string pn, Value.string pd])); refine (HS1.out _).mono ?_; rintro e v5 ⟨rfl, gv5⟩; have hAv5 : Three v5 (w.heap.size) (.bool a) (.string pn) (.string pd) 49 := Three.kept (by assumption) gv5; have hBv5 : Three v5 (w.heap.size + 1) (.bool a) (.string qn) (.string qd) 49 := Three.kept (by assumption) gv5; have Gv5 : w.grownBy v5 none := gr_then (by assumption) gv5)
            | (go_at_call_of 107 ((Value.agg #[Value.bool a, Value.string qn, Value.string qd])); refine (HS2.out _).mono ?_; rintro e v6 ⟨rfl, gv6⟩; have hAv6 : Three v6 (w.heap.size) (.bool a) (.string pn) (.string pd) 49 := Three.kept (by assumption) gv6; have hBv6 : Three v6 (w.heap.size + 1) (.bool a) (.string qn) (.string qd) 49 := Three.kept (by assumption) gv6; have Gv6 : w.grownBy v6 none := gr_then (by assumption) gv6)
            | (go_at_call 80; refine (Tryz.cmp_Compare_int _ _ _).mono ?_; rintro e v7 ⟨rfl, rfl⟩))
        all_goals
          go_wp2
          go_ret
          exact ⟨by rw [HZ.out]; rfl, by assumption⟩
      · go_wp2_with fail
        have hA1 := hA.drew
        have hB1 := hB.drew
        have G1 := gr_dr G
        go_region_held3 (fun w' => w'.cell? ⟨w.heap.size, 0, none⟩ = some (.bool a) ∧ w'.cell? ⟨w.heap.size, 1, none⟩ = some (.string pn) ∧ w'.cell? ⟨w.heap.size, 2, none⟩ = some (.string pd) ∧ w'.cell? ⟨w.heap.size + 1, 0, none⟩ = some (.bool a) ∧ w'.cell? ⟨w.heap.size + 1, 1, none⟩ = some (.string pn) ∧ w'.cell? ⟨w.heap.size + 1, 2, none⟩ = some (.string qd)) (first | exact ⟨Three.c0 (by assumption), Three.c1 (by assumption), Three.c2 (by assumption), Three.c0 (by assumption), Three.c1 (by assumption), Three.c2 (by assumption)⟩ | go_keep)
          (first
            | (go_at_call_of 107 ((Value.agg #[Value.bool a, Value.string pn, Value.string pd])); refine (HS1.out _).mono ?_; rintro e v3 ⟨rfl, gv3⟩; have hAv3 : Three v3 (w.heap.size) (.bool a) (.string pn) (.string pd) 49 := Three.kept (by assumption) gv3; have hBv3 : Three v3 (w.heap.size + 1) (.bool a) (.string pn) (.string qd) 49 := Three.kept (by assumption) gv3; have Gv3 : w.grownBy v3 none := gr_then (by assumption) gv3)
            | (go_at_call_of 107 ((Value.agg #[Value.bool a, Value.string pn, Value.string qd])); refine (HS2.out _).mono ?_; rintro e v4 ⟨rfl, gv4⟩; have hAv4 : Three v4 (w.heap.size) (.bool a) (.string pn) (.string pd) 49 := Three.kept (by assumption) gv4; have hBv4 : Three v4 (w.heap.size + 1) (.bool a) (.string pn) (.string qd) 49 := Three.kept (by assumption) gv4; have Gv4 : w.grownBy v4 none := gr_then (by assumption) gv4))
        have hAv4d := hAv4.drew
        have hBv4d := hBv4.drew
        have Gv4d := gr_dr Gv4
        go_wp2_with fail
        go_region_held3 (fun w' => w'.cell? ⟨w.heap.size, 0, none⟩ = some (.bool a) ∧ w'.cell? ⟨w.heap.size, 1, none⟩ = some (.string pn) ∧ w'.cell? ⟨w.heap.size, 2, none⟩ = some (.string pd) ∧ w'.cell? ⟨w.heap.size + 1, 0, none⟩ = some (.bool a) ∧ w'.cell? ⟨w.heap.size + 1, 1, none⟩ = some (.string pn) ∧ w'.cell? ⟨w.heap.size + 1, 2, none⟩ = some (.string qd)) (first | exact ⟨Three.c0 (by assumption), Three.c1 (by assumption), Three.c2 (by assumption), Three.c0 (by assumption), Three.c1 (by assumption), Three.c2 (by assumption)⟩ | go_keep)
          (first
            | (go_at_call_of 107 ((Value.agg #[Value.bool a, Value.string pn, Value.string pd])); refine (HS1.out _).mono ?_; rintro e v5 ⟨rfl, gv5⟩; have hAv5 : Three v5 (w.heap.size) (.bool a) (.string pn) (.string pd) 49 := Three.kept (by assumption) gv5; have hBv5 : Three v5 (w.heap.size + 1) (.bool a) (.string pn) (.string qd) 49 := Three.kept (by assumption) gv5; have Gv5 : w.grownBy v5 none := gr_then (by assumption) gv5)
            | (go_at_call_of 107 ((Value.agg #[Value.bool a, Value.string pn, Value.string qd])); refine (HS2.out _).mono ?_; rintro e v6 ⟨rfl, gv6⟩; have hAv6 : Three v6 (w.heap.size) (.bool a) (.string pn) (.string pd) 49 := Three.kept (by assumption) gv6; have hBv6 : Three v6 (w.heap.size + 1) (.bool a) (.string pn) (.string qd) 49 := Three.kept (by assumption) gv6; have Gv6 : w.grownBy v6 none := gr_then (by assumption) gv6)
            | (go_at_call 80; refine (Tryz.cmp_Compare_int _ _ _).mono ?_; rintro e v7 ⟨rfl, rfl⟩))
        all_goals
          go_wp2
          go_ret
          exact ⟨by rw [HZ.out]; rfl, by assumption⟩
    · have hf : ¬ a = b ∨ (a = b ∧ ¬ pn.toList = qn.toList) ∨ (a = b ∧ pn = qn ∧ ¬ pd.toList = qd.toList) := fields hne
      clear hne lz1 lz2
      rcases hf with hf | ⟨rfl, hf⟩ | ⟨rfl, rfl, hf⟩
      · exact absurd hab hf
      · clear hab
        subst hss
        go_wp2_with fail
        have hA1 := hA.drew
        have hB1 := hB.drew
        have G1 := gr_dr G
        go_region_held3 (fun w' => w'.cell? ⟨w.heap.size, 0, none⟩ = some (.bool a) ∧ w'.cell? ⟨w.heap.size, 1, none⟩ = some (.string pn) ∧ w'.cell? ⟨w.heap.size, 2, none⟩ = some (.string pd) ∧ w'.cell? ⟨w.heap.size + 1, 0, none⟩ = some (.bool a) ∧ w'.cell? ⟨w.heap.size + 1, 1, none⟩ = some (.string qn) ∧ w'.cell? ⟨w.heap.size + 1, 2, none⟩ = some (.string qd)) (first | exact ⟨Three.c0 (by assumption), Three.c1 (by assumption), Three.c2 (by assumption), Three.c0 (by assumption), Three.c1 (by assumption), Three.c2 (by assumption)⟩ | go_keep)
          (first
            | (go_at_call_of 107 ((Value.agg #[Value.bool a, Value.string pn, Value.string pd])); refine (HS1.out _).mono ?_; rintro e v3 ⟨rfl, gv3⟩; have hAv3 : Three v3 (w.heap.size) (.bool a) (.string pn) (.string pd) 49 := Three.kept (by assumption) gv3; have hBv3 : Three v3 (w.heap.size + 1) (.bool a) (.string qn) (.string qd) 49 := Three.kept (by assumption) gv3; have Gv3 : w.grownBy v3 none := gr_then (by assumption) gv3)
            | (go_at_call_of 107 ((Value.agg #[Value.bool a, Value.string qn, Value.string qd])); refine (HS2.out _).mono ?_; rintro e v4 ⟨rfl, gv4⟩; have hAv4 : Three v4 (w.heap.size) (.bool a) (.string pn) (.string pd) 49 := Three.kept (by assumption) gv4; have hBv4 : Three v4 (w.heap.size + 1) (.bool a) (.string qn) (.string qd) 49 := Three.kept (by assumption) gv4; have Gv4 : w.grownBy v4 none := gr_then (by assumption) gv4))
        have hAv4d := hAv4.drew
        have hBv4d := hBv4.drew
        have Gv4d := gr_dr Gv4
        go_wp2_with fail
        go_region_held3 (fun w' => w'.cell? ⟨w.heap.size, 1, none⟩ = some (.string pn) ∧ w'.cell? ⟨w.heap.size, 2, none⟩ = some (.string pd) ∧ w'.cell? ⟨w.heap.size + 1, 1, none⟩ = some (.string qn) ∧ w'.cell? ⟨w.heap.size + 1, 2, none⟩ = some (.string qd)) (first | exact ⟨Three.c1 (by assumption), Three.c2 (by assumption), Three.c1 (by assumption), Three.c2 (by assumption)⟩ | go_keep)
          (first
            | (go_at_call_of 108 (Value.string pn); refine (HM1.out _).mono ?_; rintro e v7 ⟨rfl, gv7⟩; have hAv7 : Three v7 (w.heap.size) (.bool a) (.string pn) (.string pd) 49 := Three.kept (by assumption) gv7; have hBv7 : Three v7 (w.heap.size + 1) (.bool a) (.string qn) (.string qd) 49 := Three.kept (by assumption) gv7; have Gv7 : w.grownBy v7 none := gr_then (by assumption) gv7)
            | (go_at_call_of 108 (Value.string qn); refine (HM2.out _).mono ?_; rintro e v8 ⟨rfl, gv8⟩; have hAv8 : Three v8 (w.heap.size) (.bool a) (.string pn) (.string pd) 49 := Three.kept (by assumption) gv8; have hBv8 : Three v8 (w.heap.size + 1) (.bool a) (.string qn) (.string qd) 49 := Three.kept (by assumption) gv8; have Gv8 : w.grownBy v8 none := gr_then (by assumption) gv8)
            | (go_at_call_of 20 (Value.string m1); refine (HC.out _).mono ?_; rintro e v9 ⟨rfl, gv9⟩; have hAv9 : Three v9 (w.heap.size) (.bool a) (.string pn) (.string pd) 49 := Three.kept (by assumption) gv9; have hBv9 : Three v9 (w.heap.size + 1) (.bool a) (.string qn) (.string qd) 49 := Three.kept (by assumption) gv9; have Gv9 : w.grownBy v9 none := gr_then (by assumption) gv9))
        all_goals
          have xa0 := hAv9.c0
          rcases hz with ⟨rfl, hz⟩ | ⟨rfl, hz⟩
          all_goals
            go_wp2
            go_ret
            exact ⟨by rw [hz]; rfl, by assumption⟩
      · clear hab
        subst hss
        go_wp2_with fail
        have hA1 := hA.drew
        have hB1 := hB.drew
        have G1 := gr_dr G
        go_region_held3 (fun w' => w'.cell? ⟨w.heap.size, 0, none⟩ = some (.bool a) ∧ w'.cell? ⟨w.heap.size, 1, none⟩ = some (.string pn) ∧ w'.cell? ⟨w.heap.size, 2, none⟩ = some (.string pd) ∧ w'.cell? ⟨w.heap.size + 1, 0, none⟩ = some (.bool a) ∧ w'.cell? ⟨w.heap.size + 1, 1, none⟩ = some (.string pn) ∧ w'.cell? ⟨w.heap.size + 1, 2, none⟩ = some (.string qd)) (first | exact ⟨Three.c0 (by assumption), Three.c1 (by assumption), Three.c2 (by assumption), Three.c0 (by assumption), Three.c1 (by assumption), Three.c2 (by assumption)⟩ | go_keep)
          (first
            | (go_at_call_of 107 ((Value.agg #[Value.bool a, Value.string pn, Value.string pd])); refine (HS1.out _).mono ?_; rintro e v3 ⟨rfl, gv3⟩; have hAv3 : Three v3 (w.heap.size) (.bool a) (.string pn) (.string pd) 49 := Three.kept (by assumption) gv3; have hBv3 : Three v3 (w.heap.size + 1) (.bool a) (.string pn) (.string qd) 49 := Three.kept (by assumption) gv3; have Gv3 : w.grownBy v3 none := gr_then (by assumption) gv3)
            | (go_at_call_of 107 ((Value.agg #[Value.bool a, Value.string pn, Value.string qd])); refine (HS2.out _).mono ?_; rintro e v4 ⟨rfl, gv4⟩; have hAv4 : Three v4 (w.heap.size) (.bool a) (.string pn) (.string pd) 49 := Three.kept (by assumption) gv4; have hBv4 : Three v4 (w.heap.size + 1) (.bool a) (.string pn) (.string qd) 49 := Three.kept (by assumption) gv4; have Gv4 : w.grownBy v4 none := gr_then (by assumption) gv4))
        have hAv4d := hAv4.drew
        have hBv4d := hBv4.drew
        have Gv4d := gr_dr Gv4
        go_wp2_with fail
        go_region_held3 (fun w' => w'.cell? ⟨w.heap.size, 1, none⟩ = some (.string pn) ∧ w'.cell? ⟨w.heap.size, 2, none⟩ = some (.string pd) ∧ w'.cell? ⟨w.heap.size + 1, 1, none⟩ = some (.string pn) ∧ w'.cell? ⟨w.heap.size + 1, 2, none⟩ = some (.string qd)) (first | exact ⟨Three.c1 (by assumption), Three.c2 (by assumption), Three.c1 (by assumption), Three.c2 (by assumption)⟩ | go_keep)
          (first
            | (have h__ := hAv7; go_at_call_of 108 (Value.string pn); refine (HM2.out _).mono ?_; rintro e v8 ⟨rfl, gv8⟩; have hAv8 : Three v8 (w.heap.size) (.bool a) (.string pn) (.string pd) 49 := Three.kept (by assumption) gv8; have hBv8 : Three v8 (w.heap.size + 1) (.bool a) (.string pn) (.string qd) 49 := Three.kept (by assumption) gv8; have Gv8 : w.grownBy v8 none := gr_then (by assumption) gv8)
            | (go_at_call_of 108 (Value.string pn); refine (HM1.out _).mono ?_; rintro e v7 ⟨rfl, gv7⟩; have hAv7 : Three v7 (w.heap.size) (.bool a) (.string pn) (.string pd) 49 := Three.kept (by assumption) gv7; have hBv7 : Three v7 (w.heap.size + 1) (.bool a) (.string pn) (.string qd) 49 := Three.kept (by assumption) gv7; have Gv7 : w.grownBy v7 none := gr_then (by assumption) gv7)
            | (go_at_call_of 20 (Value.string m1); refine (HC.out _).mono ?_; rintro e v9 ⟨rfl, gv9⟩; have hAv9 : Three v9 (w.heap.size) (.bool a) (.string pn) (.string pd) 49 := Three.kept (by assumption) gv9; have hBv9 : Three v9 (w.heap.size + 1) (.bool a) (.string pn) (.string qd) 49 := Three.kept (by assumption) gv9; have Gv9 : w.grownBy v9 none := gr_then (by assumption) gv9))
        all_goals
          have xa0 := hAv9.c0
          rcases hz with ⟨rfl, hz⟩ | ⟨rfl, hz⟩
          all_goals
            go_wp2
            go_ret
            exact ⟨by rw [hz]; rfl, by assumption⟩
end Go.Proofs.YteajpefbmiiioaaGreatDoor
namespace Go.Proofs.YteajpefbmiiioaaGreatDoor
open Go.RowKit Mth Go.Lib

/-- Cells of rational numbers, from an offset of a block on. -/
def Rats (w : World) (g o : Nat) (qs : List Rat) : Prop := ∀ i (h : i < qs.length), w.cell? ⟨g, o + i * 3, none⟩ = some (.bool (decide (qs[i].num < 0))) ∧ w.cell? ⟨g, o + i * 3 + 1, none⟩ = some (.string (S qs[i].num.natAbs)) ∧ w.cell? ⟨g, o + i * 3 + 2, none⟩ = some (.string (S qs[i].den))
theorem Rats.kept {w w1 : World} {g o : Nat} {qs : List Rat} (h : Rats w g o qs) (hg : w.grownBy w1 none) : Rats w1 g o qs := by
  intro i hi
  obtain ⟨h0, h1, h2⟩ := h i hi
  exact ⟨hg.cell h0 (by simp), hg.cell h1 (by simp), hg.cell h2 (by simp)⟩
/-- A block that the call has made, whose first cells hold rational numbers. -/
def Buf (w : World) (b n : Nat) (qs : List Rat) : Prop := ∃ cur : Array Value, w.heap[b]? = some (.cells cur 49 (0, 0)) ∧ cur.size = n * 3 ∧ qs.length ≤ n ∧ ∀ i (h : i < qs.length), cur[i * 3]? = some (.bool (decide (qs[i].num < 0))) ∧ cur[i * 3 + 1]? = some (.string (S qs[i].num.natAbs)) ∧ cur[i * 3 + 2]? = some (.string (S qs[i].den))
section
variable {w w1 : World} {b n : Nat} {qs : List Rat}
theorem Buf.kept (h : Buf w b n qs) (hg : w.grownBy w1 none) : Buf w1 b n qs := by
  obtain ⟨cur, h1, h2⟩ := h
  exact ⟨cur, by rw [hg.block b (Array.getElem?_eq_some_iff.1 h1).1 (by simp)]; exact h1, h2⟩
theorem Buf.at (h : Buf w b n qs) (j : Nat) (hj : j < n * 3) : (∃ v, w.cell? ⟨b, j, none⟩ = some v) ∧ w.frozen? ⟨b, j, none⟩ = false := by
  obtain ⟨cur, h1, h2, _⟩ := h
  refine ⟨⟨cur[j]'(by omega), ?_⟩, ?_⟩
  · rw [cell_of_row w b j _ _ (0, 0) h1, Array.getElem?_eq_getElem]
  · simp only [World.frozen?]; rw [h1]; simp
theorem Buf.rats (h : Buf w b n qs) : Rats w b 0 qs := by
  obtain ⟨cur, h1, _, _, h4⟩ := h
  intro i hi
  obtain ⟨k0, k1, k2⟩ := h4 i hi
  rw [Nat.zero_add]
  exact ⟨by rw [cell_of_row w b _ _ _ (0, 0) h1]; exact k0, by rw [cell_of_row w b _ _ _ (0, 0) h1]; exact k1, by rw [cell_of_row w b _ _ _ (0, 0) h1]; exact k2⟩
theorem Buf.step (h : Buf w b n qs) (q : Rat) (hk : qs.length < n) : Buf (((w.setCell ⟨b, qs.length * 3, none⟩ (.bool (decide (q.num < 0)))).setCell ⟨b, qs.length * 3 + 1, none⟩ (.string (S q.num.natAbs))).setCell ⟨b, qs.length * 3 + 2, none⟩ (.string (S q.den))) b n (qs ++ [q]) := by
  obtain ⟨cur, h1, h2, h3, h4⟩ := h
  refine ⟨((cur.setIfInBounds (qs.length * 3) (.bool (decide (q.num < 0)))).setIfInBounds (qs.length * 3 + 1) (.string (S q.num.natAbs))).setIfInBounds (qs.length * 3 + 2) (.string (S q.den)), ?_, by simp [h2], by simp; omega, ?_⟩
  · rw [setCell_eq_setRow w b _ _ _ (0, 0) _ h1]
    have e1 := setRow_heap w b cur (cur.setIfInBounds (qs.length * 3) (.bool (decide (q.num < 0)))) _ (0, 0) h1
    rw [setCell_eq_setRow _ b _ _ _ (0, 0) _ e1]
    have e2 := setRow_heap _ b _ ((cur.setIfInBounds (qs.length * 3) (.bool (decide (q.num < 0)))).setIfInBounds (qs.length * 3 + 1) (.string (S q.num.natAbs))) _ (0, 0) e1
    rw [setCell_eq_setRow _ b _ _ _ (0, 0) _ e2]
    exact setRow_heap _ b _ _ _ (0, 0) e2
  · intro i hi
    rw [List.length_append, List.length_singleton] at hi
    by_cases e : i = qs.length
    · subst e
      refine ⟨?_, ?_, ?_⟩ <;> simp [Array.getElem?_setIfInBounds, h2] <;> omega
    · have hi2 : i < qs.length := by omega
      obtain ⟨k0, k1, k2⟩ := h4 i hi2
      have e1 : (qs ++ [q])[i]'(by simp; omega) = qs[i] := List.getElem_append_left hi2
      rw [e1]
      refine ⟨?_, ?_, ?_⟩
      · rw [Array.getElem?_setIfInBounds_ne (by omega), Array.getElem?_setIfInBounds_ne (by omega), Array.getElem?_setIfInBounds_ne (by omega)]; exact k0
      · rw [Array.getElem?_setIfInBounds_ne (by omega), Array.getElem?_setIfInBounds_ne (by omega), Array.getElem?_setIfInBounds_ne (by omega)]; exact k1
      · rw [Array.getElem?_setIfInBounds_ne (by omega), Array.getElem?_setIfInBounds_ne (by omega), Array.getElem?_setIfInBounds_ne (by omega)]; exact k2
theorem Buf.made (w : World) (n : Nat) (xs : Array Value) (hx : xs.size = n * 3) : Buf (w.alloc (.cells xs 49)) w.heap.size n [] := ⟨xs, heap_alloc_new w _, hx, Nat.zero_le _, fun i h => absurd h (by simp)⟩
end
set_option maxHeartbeats 2000000 in
set_option maxRecDepth 100000 in
theorem mappedv_any (qs : List Rat) (k g o c pb po : Nat) (w : World) (hr : Rats w g o qs) (hb : ∀ q ∈ qs, Bd k q) (hk : k ≤ 1000) (hn : qs.length ≤ 1000) :
    Calls Tryz.prog 112 #[.slice (some ⟨g, o, none⟩) qs.length c, .func (.func 113) #[.pointer (some ⟨pb, po, none⟩)] #[]] w fun e w' => ∃ m, e = .returned (.slice (some ⟨m, 0, none⟩) qs.length qs.length) ∧ Buf w' m qs.length qs ∧ w.heap.size ≤ m ∧ w.grownBy w' none := by
  obtain ⟨i0, hi, hz⟩ : ∃ i0, Tryz.prog.info? 49 = some i0 ∧ (i0.zero, i0.size, i0.bytes) = (some (.agg #[.bool false, .string ⟨#[]⟩, .string ⟨#[]⟩]), 3, 40) := by
    have h : (Tryz.prog.info? 49).map (fun i => (i.zero, i.size, i.bytes)) = some (some (.agg #[.bool false, .string ⟨#[]⟩, .string ⟨#[]⟩]), 3, 40) := by kernel_rfl
    cases hh : Tryz.prog.info? 49 with
    | none => rw [hh] at h; exact absurd h (by simp)
    | some i => rw [hh] at h; exact ⟨i, rfl, by simpa using h⟩
  simp only [Prod.mk.injEq] at hz
  obtain ⟨hz0, hz1, hz2⟩ := hz
  have hmk := run_make (P := Tryz.prog) w 64 49 i0 (.agg #[.bool false, .string ⟨#[]⟩, .string ⟨#[]⟩]) Tryz.underlying64 hi hz0 .i64 .i64 qs.length qs.length (by omega) (Int.le_refl _) (by rw [hz2]; omega) (by omega)
  simp only [Int.toNat_natCast] at hmk
  have hs := size_madeCells (Value.agg #[.bool false, .string ⟨#[]⟩, .string ⟨#[]⟩]).cells (qs.length * i0.size)
  rw [hz1] at hmk hs
  generalize madeCells (Value.agg #[.bool false, .string ⟨#[]⟩, .string ⟨#[]⟩]).cells (qs.length * 3) = xs at hmk hs
  have B0 := Buf.made w qs.length xs hs
  have G0 := gr_alloc w (.cells xs 49) none
  have HR := Lib.hid hr
  have HB := Lib.hid hb
  generalize w.alloc (.cells xs 49) = w0 at *
  have HM := Lib.hid hmk
  obtain ⟨m, hm⟩ : ∃ m, m = w.heap.size := ⟨_, rfl⟩
  rw [← hm] at hmk B0
  have hwm : w.heap.size ≤ m := Nat.le_of_eq hm.symm
  have HN := Lib.hid hn
  clear hb hz0 hz1 hz2 hi hs HM hm hr
  go_enter Tryz.func112, Tryz.ntmps112
  go_wp2
  go_loopw [13] (fun u wr => ∃ j : Nat, j ≤ qs.length ∧ u = .int .i64 j ∧ Buf wr m qs.length (qs.take j) ∧ w.grownBy wr none) (fun u _ => qs.length - (RowKit.intOf u).toNat)
  case atStart => exact ⟨0, Nat.zero_le _, rfl, by simpa using B0, G0⟩
  case round =>
    clear B0 G0 hmk
    obtain ⟨j, hj, rfl, B1, G1⟩ := hrel
    have R1 := HR.out.kept G1
    by_cases hlt : j < qs.length
    · obtain ⟨c0, c1, c2⟩ := R1 j hlt
      have HV := Lib.hid (fun b o w => wvalue_rv qs[j] k b o w (HB.out _ (List.getElem_mem _)) (by omega))
      unfold RV RW at HV
      have hb1 : (j : Int) < (qs.length : Int) := by omega
      have hl : (qs.take j).length = j := by rw [List.length_take]; omega
      have HL := Lib.hid hl
      clear hl
      have B2 := B1.kept (gr_alloc wr (.cells #[.bool (decide (qs[j].num < 0)), .string (S qs[j].num.natAbs), .string (S qs[j].den)] 49) none)
      go_wp2_with fail
      refine (HV.out _ _ _).mono ?_
      rintro e w1 ⟨rfl, g1⟩
      have B3 := B2.kept g1
      obtain ⟨⟨z0, hz0⟩, f0⟩ := B3.at (j * 3) (by omega)
      obtain ⟨⟨z1, hz1⟩, f1⟩ := B3.at (j * 3 + 1) (by omega)
      obtain ⟨⟨z2, hz2⟩, f2⟩ := B3.at (j * 3 + 2) (by omega)
      have G2 := gr_then (gr_then G1 (gr_alloc wr (.cells #[.bool (decide (qs[j].num < 0)), .string (S qs[j].num.natAbs), .string (S qs[j].den)] 49) none)) g1
      have k0 : w1.cell? ⟨wr.heap.size, 0, none⟩ = some (.bool (decide (qs[j].num < 0))) := g1.cell (by rw [cell_of_row _ _ 0 _ _ (0, 0) (heap_alloc_new wr _)]; rfl) (by simp)
      have k1 : w1.cell? ⟨wr.heap.size, 1, none⟩ = some (.string (S qs[j].num.natAbs)) := g1.cell (by rw [cell_of_row _ _ 1 _ _ (0, 0) (heap_alloc_new wr _)]; rfl) (by simp)
      have k2 : w1.cell? ⟨wr.heap.size, 2, none⟩ = some (.string (S qs[j].den)) := g1.cell (by rw [cell_of_row _ _ 2 _ _ (0, 0) (heap_alloc_new wr _)]; rfl) (by simp)
      have HB3 := Lib.hid B3
      have HG2 := Lib.hid G2
      clear B3 G2 B2 g1 B1 G1 c0 c1 c2 R1
      go_wp2
      have hst := HB3.out.step qs[j] (by rw [HL.out]; exact hlt)
      rw [HL.out, List.take_append_getElem hlt] at hst
      exact ⟨⟨j + 1, by omega, by go_num, hst, gr_setn (gr_setn (gr_setn HG2.out hwm) hwm) hwm⟩, by simp [RowKit.intOf]; omega⟩
    · obtain rfl : j = qs.length := by omega
      have HG := Lib.hid G1
      rw [List.take_length] at B1
      have hB := Lib.hid B1
      clear G1 B1
      go_wp2
      go_ret
      exact ⟨m, rfl, hB.out, hwm, HG.out⟩
end Go.Proofs.YteajpefbmiiioaaGreatDoor
namespace Go.Proofs.YteajpefbmiiioaaGreatDoor
open Go.RowKit Mth Go.Lib

theorem isneg_any (a : Bool) (x y : ByteArray) (w : World) : Gives 115 #[.agg #[.bool a, .string x, .string y]] w (.bool a) := by
  go_enter Tryz.func115, Tryz.ntmps115
  go_wp2
  go_ret
  exact ⟨rfl, gr_al (gr_rfl _)⟩
set_option maxHeartbeats 2000000 in
set_option maxRecDepth 100000 in
theorem index_none (qs : List Rat) (g o c : Nat) (w : World) (hr : Rats w g o qs) (hb : ∀ q ∈ qs, decide (q.num < 0) = false) (hn : qs.length ≤ 1000) :
    Gives 153 #[.slice (some ⟨g, o, none⟩) qs.length c, .func (.func 115) #[] #[]] w (.int .i64 (-1)) := by
  have HR := Lib.hid hr
  have HB := Lib.hid hb
  have HN := Lib.hid hn
  clear hr hb
  go_enter Tryz.func153, Tryz.ntmps153
  go_wp2
  go_loopw [8] (fun u wr => ∃ j : Nat, j ≤ qs.length ∧ u = .int .i64 j ∧ w.grownBy wr none) (fun u _ => qs.length - (RowKit.intOf u).toNat)
  case atStart => exact ⟨0, Nat.zero_le _, rfl, gr_rfl _⟩
  case round =>
    obtain ⟨j, hj, rfl, G1⟩ := hrel
    by_cases hlt : j < qs.length
    · obtain ⟨c0, c1, c2⟩ := HR.out.kept G1 j hlt
      rw [HB.out _ (List.getElem_mem hlt)] at c0
      have hb1 : (j : Int) < (qs.length : Int) := by omega
      go_wp2_with fail
      refine (isneg_any _ _ _ _).mono ?_
      rintro e w1 ⟨rfl, g1⟩
      have G2 := Lib.hid (gr_then G1 g1)
      clear G1 g1 c0 c1 c2
      go_wp2
      exact ⟨⟨j + 1, by omega, by go_num, G2.out⟩, by simp [RowKit.intOf]; omega⟩
    · obtain rfl : j = qs.length := by omega
      have HG := Lib.hid G1
      clear G1
      go_wp2
      go_ret
      exact ⟨rfl, HG.out⟩
theorem contains_none (qs : List Rat) (g o c : Nat) (w : World) (hr : Rats w g o qs) (hb : ∀ q ∈ qs, decide (q.num < 0) = false) (hn : qs.length ≤ 1000) :
    Gives 114 #[.slice (some ⟨g, o, none⟩) qs.length c, .func (.func 115) #[] #[]] w (.bool false) := by
  have H := Lib.hid (index_none qs g o c w hr hb hn)
  clear hr hb hn
  go_enter Tryz.func114, Tryz.ntmps114
  go_wp2_with fail
  refine H.out.mono ?_
  rintro e w1 ⟨rfl, g1⟩
  go_wp2
  go_ret
  exact ⟨rfl, g1⟩
/-- What the first closure of Common makes of a multiple and a number. -/
def lcmQ (m : Nat) (q : Rat) : Nat := m * (q.den / Nat.gcd m q.den)
set_option maxHeartbeats 1000000 in
set_option maxRecDepth 100000 in
theorem common1_any (m : Nat) (q : Rat) (j k : Nat) (w : World) (h0 : 0 < m) (hm : m < 256 ^ j) (hq : Bd k q) (hj : j ≤ 100000) (hk : k ≤ 1000) : Gives 117 #[.string (S m), RV q] w (.string (S (lcmQ m q))) := by
  have hg0 : 0 < Nat.gcd m q.den := Nat.gcd_pos_of_pos_left _ h0
  have bg : Nat.gcd m q.den < 256 ^ k := lt_gcd256 (a := m) q.den (Nat.pos_of_ne_zero q.den_nz) hq.2
  have z1 := sz_ok hm (by omega : j ≤ 1000000)
  have z2 := sz_ok hq.2 (by omega : k ≤ 1000000)
  have z3 := sz_ok bg (by omega : k ≤ 1000000)
  have z4 := sz_ok (lt_div256 (Nat.gcd m q.den) hq.2) (by omega : k ≤ 1000000)
  have HG := Lib.hid (fun w => s_gcd (S m) (S q.den) m q.den w (s_num _) (s_num _) (by omega) (by omega))
  have HO := Lib.hid (fun w => over_any q.den (Nat.gcd m q.den) w hg0 z2 z3)
  have HM := Lib.hid (fun w => s_mul (S m) (S (q.den / Nat.gcd m q.den)) m _ w (s_num _) (s_num _) (by omega) (by omega))
  unfold lcmQ RV RW
  clear hg0 bg z1 z2 z3 z4 h0 hm hq hj hk
  generalize S (m * (q.den / Nat.gcd m q.den)) = r at *
  generalize S (q.den / Nat.gcd m q.den) = x1 at *
  generalize S (Nat.gcd m q.den) = x2 at *
  generalize S m = sm at *
  generalize decide (q.num < 0) = a at *
  generalize S q.num.natAbs = qn at *
  generalize S q.den = qd at *
  have hA0 := (Three.new w (.bool a) (.string qn) (.string qd) 49).drew
  have G0 : w.grownBy (w.alloc (.cells #[.bool a, .string qn, .string qd] 49)).drew none := gr_dr (gr_al (gr_rfl _))
  go_enter Tryz.func117, Tryz.ntmps117
  go_wp2_with fail
  go_region_held3 (fun w' => w'.cell? ⟨w.heap.size, 2, none⟩ = some (.string qd)) (first | exact Three.c2 (by assumption) | go_keep)
    (first
    | (go_at_call 28; refine (HG.out _).mono ?_; rintro e v1 ⟨rfl, g1⟩; have hA1 : Three v1 w.heap.size (.bool a) (.string qn) (.string qd) 49 := Three.kept (by assumption) g1; have G1 : w.grownBy v1 none := gr_then (by assumption) g1)
    | (go_at_call 109; refine (HO.out _).mono ?_; rintro e v2 ⟨rfl, g2⟩; have hA2 : Three v2 w.heap.size (.bool a) (.string qn) (.string qd) 49 := Three.kept (by assumption) g2; have G2 : w.grownBy v2 none := gr_then (by assumption) g2)
    | (go_at_call 108; refine (HM.out _).mono ?_; rintro e v3 ⟨rfl, g3⟩; have hA3 : Three v3 w.heap.size (.bool a) (.string qn) (.string qd) 49 := Three.kept (by assumption) g3; have G3 : w.grownBy v3 none := gr_then (by assumption) g3))
  all_goals
    go_wp2
    go_ret
    exact ⟨rfl, by assumption⟩
theorem lcmQ_pos {m : Nat} {q : Rat} (h : 0 < m) : 0 < lcmQ m q := by
  unfold lcmQ
  refine Nat.mul_pos h (Nat.div_pos (Nat.le_of_dvd (Nat.pos_of_ne_zero q.den_nz) (Nat.gcd_dvd_right _ _)) (Nat.gcd_pos_of_pos_left _ h))
theorem lcmQ_lt {m j k : Nat} {q : Rat} (hm : m < 256 ^ j) (hq : Bd k q) : lcmQ m q < 256 ^ (j + k) := lt_mul256 hm (lt_div256 _ hq.2)
theorem fold_lt {k : Nat} : ∀ (qs : List Rat) (m j : Nat), m < 256 ^ j → (∀ q ∈ qs, Bd k q) → qs.foldl lcmQ m < 256 ^ (j + k * qs.length)
  | [], m, j, h, _ => by simpa using h
  | q :: qs, m, j, h, hb => by
    have := fold_lt qs (lcmQ m q) (j + k) (lcmQ_lt h (hb q (by simp))) (fun x hx => hb x (by simp [hx]))
    rw [List.foldl_cons, List.length_cons, show j + k * (qs.length + 1) = j + k + k * qs.length from by rw [Nat.mul_succ]; omega]
    exact this
theorem fold_pos : ∀ (qs : List Rat) (m : Nat), 0 < m → 0 < qs.foldl lcmQ m
  | [], _, h => h
  | q :: qs, m, h => fold_pos qs (lcmQ m q) (lcmQ_pos h)
set_option maxHeartbeats 2000000 in
set_option maxRecDepth 100000 in
theorem fold1_any (qs : List Rat) (k g o c : Nat) (w : World) (hr : Rats w g o qs) (hb : ∀ q ∈ qs, Bd k q) (hk : k ≤ 50) (hn : qs.length ≤ 1000) :
    Gives 116 #[.slice (some ⟨g, o, none⟩) qs.length c, .string ⟨#[1]⟩, .func (.func 117) #[] #[]] w (.string (S (qs.foldl lcmQ 1))) := by
  have HR := Lib.hid hr
  have HB := Lib.hid hb
  have HN := Lib.hid hn
  clear hr hb
  rw [← one_lit]
  go_enter Tryz.func116, Tryz.ntmps116
  go_wp2
  go_loopw [11, 1] (fun u v wr => ∃ j : Nat, j ≤ qs.length ∧ u = .int .i64 j ∧ v = .string (S ((qs.take j).foldl lcmQ 1)) ∧ w.grownBy wr none) (fun u _ _ => qs.length - (RowKit.intOf u).toNat)
  case atStart => exact ⟨0, Nat.zero_le _, rfl, rfl, gr_rfl _⟩
  case round =>
    obtain ⟨j, hj, rfl, rfl, G1⟩ := hrel
    by_cases hlt : j < qs.length
    · obtain ⟨c0, c1, c2⟩ := HR.out.kept G1 j hlt
      have hb1 : (j : Int) < (qs.length : Int) := by omega
      have hlt2 := fold_lt (qs.take j) 1 1 (by decide) (fun q hq => HB.out q (List.mem_of_mem_take hq))
      have hpos := fold_pos (qs.take j) 1 (by decide)
      have hle : 1 + k * (qs.take j).length ≤ 100000 := by
        have : (qs.take j).length ≤ 1000 := by rw [List.length_take]; omega
        have := Nat.mul_le_mul hk this
        omega
      have HV := Lib.hid (fun w => common1_any _ qs[j] _ k w hpos hlt2 (HB.out _ (List.getElem_mem _)) hle (by omega))
      rw [show lcmQ ((qs.take j).foldl lcmQ 1) qs[j] = (qs.take (j + 1)).foldl lcmQ 1 from by rw [← List.take_append_getElem hlt, List.foldl_append]; rfl] at HV
      unfold RV RW at HV
      clear hlt2 hpos hle
      generalize S ((qs.take j).foldl lcmQ 1) = sx at *
      go_wp2_with fail
      refine (HV.out _).mono ?_
      rintro e w1 ⟨rfl, g1⟩
      have G2 := Lib.hid (gr_then (gr_then G1 (gr_alloc wr (.cells #[.bool (decide (qs[j].num < 0)), .string (S qs[j].num.natAbs), .string (S qs[j].den)] 49) none)) g1)
      clear G1 g1 c0 c1 c2
      go_wp2
      exact ⟨⟨j + 1, by omega, by go_num, rfl, G2.out⟩, by simp [RowKit.intOf]; omega⟩
    · obtain rfl : j = qs.length := by omega
      have HG := Lib.hid G1
      clear G1
      rw [List.take_length]
      go_wp2
      go_ret
      exact ⟨rfl, HG.out⟩
end Go.Proofs.YteajpefbmiiioaaGreatDoor
namespace Go.Proofs.YteajpefbmiiioaaGreatDoor
open Go.RowKit Mth Go.Lib

/-- Cells of natural numbers. -/
def Nums (w : World) (g o : Nat) (ns : List Nat) : Prop := ∀ i (h : i < ns.length), w.cell? ⟨g, o + i, none⟩ = some (.string (S ns[i]))
theorem Nums.kept {w w1 : World} {g o : Nat} {ns : List Nat} (h : Nums w g o ns) (hg : w.grownBy w1 none) : Nums w1 g o ns := fun i hi => hg.cell (h i hi) (by simp)
def BufN (w : World) (b n : Nat) (ns : List Nat) : Prop := ∃ cur : Array Value, w.heap[b]? = some (.cells cur 24 (0, 0)) ∧ cur.size = n ∧ ns.length ≤ n ∧ ∀ i (h : i < ns.length), cur[i]? = some (.string (S ns[i]))
section
variable {w w1 : World} {b n : Nat} {ns : List Nat}
theorem BufN.kept (h : BufN w b n ns) (hg : w.grownBy w1 none) : BufN w1 b n ns := by
  obtain ⟨cur, h1, h2⟩ := h
  exact ⟨cur, by rw [hg.block b (Array.getElem?_eq_some_iff.1 h1).1 (by simp)]; exact h1, h2⟩
theorem BufN.at (h : BufN w b n ns) (j : Nat) (hj : j < n) : (∃ v, w.cell? ⟨b, j, none⟩ = some v) ∧ w.frozen? ⟨b, j, none⟩ = false := by
  obtain ⟨cur, h1, h2, _⟩ := h
  refine ⟨⟨cur[j]'(by omega), ?_⟩, ?_⟩
  · rw [cell_of_row w b j _ _ (0, 0) h1, Array.getElem?_eq_getElem]
  · simp only [World.frozen?]; rw [h1]; simp
theorem BufN.nums (h : BufN w b n ns) : Nums w b 0 ns := by
  obtain ⟨cur, h1, _, _, h4⟩ := h
  intro i hi
  rw [Nat.zero_add, cell_of_row w b _ _ _ (0, 0) h1]
  exact h4 i hi
theorem BufN.step (h : BufN w b n ns) (m : Nat) (hk : ns.length < n) : BufN (w.setCell ⟨b, ns.length, none⟩ (.string (S m))) b n (ns ++ [m]) := by
  obtain ⟨cur, h1, h2, h3, h4⟩ := h
  refine ⟨cur.setIfInBounds ns.length (.string (S m)), ?_, by simp [h2], by simp; omega, ?_⟩
  · rw [setCell_eq_setRow w b _ _ _ (0, 0) _ h1]
    exact setRow_heap _ b _ _ _ (0, 0) h1
  · intro i hi
    rw [List.length_append, List.length_singleton] at hi
    by_cases e : i = ns.length
    · subst e
      have e1 : (ns ++ [m])[ns.length]'(by simp) = m := by simp
      rw [e1, Array.getElem?_setIfInBounds, if_pos rfl, if_pos (by omega)]
    · have hi2 : i < ns.length := by omega
      have e1 : (ns ++ [m])[i]'(by simp; omega) = ns[i] := List.getElem_append_left hi2
      rw [e1, Array.getElem?_setIfInBounds_ne (by omega)]; exact h4 i hi2
theorem BufN.made (w : World) (n : Nat) (xs : Array Value) (hx : xs.size = n) : BufN (w.alloc (.cells xs 24)) w.heap.size n [] := ⟨xs, heap_alloc_new w _, hx, Nat.zero_le _, fun i h => absurd h (by simp)⟩
end
/-- The numerator over a common denominator. -/
def scaleQ (d : Nat) (q : Rat) : Nat := q.num.natAbs * (d / q.den)
set_option maxHeartbeats 1000000 in
set_option maxRecDepth 100000 in
theorem common2_any (d : Nat) (q : Rat) (j k b : Nat) (w : World) (hc : w.cell? ⟨b, 0, none⟩ = some (.string (S d))) (hd : d < 256 ^ j) (hq : Bd k q) (hj : j ≤ 100000) (hk : k ≤ 1000) : Gives 119 #[RV q, .pointer (some ⟨b, 0, none⟩)] w (.string (S (scaleQ d q))) := by
  have z1 := sz_ok hd (by omega : j ≤ 1000000)
  have z2 := sz_ok hq.2 (by omega : k ≤ 1000000)
  have z3 := sz_ok hq.1 (by omega : k ≤ 1000000)
  have z4 := sz_ok (lt_div256 q.den hd) (by omega : j ≤ 1000000)
  have HO := Lib.hid (fun w => over_any d q.den w (Nat.pos_of_ne_zero q.den_nz) z1 z2)
  have HM := Lib.hid (fun w => s_mul (S q.num.natAbs) (S (d / q.den)) q.num.natAbs _ w (s_num _) (s_num _) (by omega) (by omega))
  unfold scaleQ RV RW
  clear z1 z2 z3 z4 hd hq hj hk
  generalize S (q.num.natAbs * (d / q.den)) = r at *
  generalize S (d / q.den) = x1 at *
  generalize S d = sd at *
  generalize decide (q.num < 0) = a at *
  generalize S q.num.natAbs = qn at *
  generalize S q.den = qd at *
  have hA0 := (Three.new w (.bool a) (.string qn) (.string qd) 49).drew
  have G0 : w.grownBy (w.alloc (.cells #[.bool a, .string qn, .string qd] 49)).drew none := gr_dr (gr_al (gr_rfl _))
  have hc0 : (w.alloc (.cells #[.bool a, .string qn, .string qd] 49)).drew.cell? ⟨b, 0, none⟩ = some (.string sd) := G0.cell hc (by simp)
  clear hc
  go_enter Tryz.func119, Tryz.ntmps119
  go_wp2_with fail
  go_region_held3 (fun w' => w'.cell? ⟨w.heap.size, 1, none⟩ = some (.string qn) ∧ w'.cell? ⟨w.heap.size, 2, none⟩ = some (.string qd) ∧ w'.cell? ⟨b, 0, none⟩ = some (.string sd)) (first | exact ⟨Three.c1 (by assumption), Three.c2 (by assumption), by assumption⟩ | go_keep)
    (first
    | (go_at_call 109; refine (HO.out _).mono ?_; rintro e v2 ⟨rfl, g2⟩; have hA2 : Three v2 w.heap.size (.bool a) (.string qn) (.string qd) 49 := Three.kept (by assumption) g2; have G2 : w.grownBy v2 none := gr_then (by assumption) g2; have hc2 : v2.cell? ⟨b, 0, none⟩ = some (.string sd) := g2.cell (by assumption) (by simp))
    | (go_at_call 108; refine (HM.out _).mono ?_; rintro e v3 ⟨rfl, g3⟩; have hA3 : Three v3 w.heap.size (.bool a) (.string qn) (.string qd) 49 := Three.kept (by assumption) g3; have G3 : w.grownBy v3 none := gr_then (by assumption) g3; have hc3 : v3.cell? ⟨b, 0, none⟩ = some (.string sd) := g3.cell (by assumption) (by simp)))
  all_goals
    go_wp2
    go_ret
    exact ⟨rfl, by assumption⟩
set_option maxHeartbeats 2000000 in
set_option maxRecDepth 100000 in
theorem mappedn_any (qs : List Rat) (d k jj g o c pb : Nat) (w : World) (hr : Rats w g o qs) (hc : w.cell? ⟨pb, 0, none⟩ = some (.string (S d))) (hd : d < 256 ^ jj) (hjj : jj ≤ 100000) (hb : ∀ q ∈ qs, Bd k q) (hk : k ≤ 1000) (hn : qs.length ≤ 1000) :
    Calls Tryz.prog 118 #[.slice (some ⟨g, o, none⟩) qs.length c, .func (.func 119) #[] #[.pointer (some ⟨pb, 0, none⟩)]] w fun e w' => ∃ m, e = .returned (.slice (some ⟨m, 0, none⟩) qs.length qs.length) ∧ BufN w' m qs.length (qs.map (scaleQ d)) ∧ w.heap.size ≤ m ∧ w.grownBy w' none := by
  obtain ⟨i0, hi, hz⟩ : ∃ i0, Tryz.prog.info? 24 = some i0 ∧ (i0.zero, i0.size, i0.bytes) = (some (.string ⟨#[]⟩), 1, 16) := by
    have h : (Tryz.prog.info? 24).map (fun i => (i.zero, i.size, i.bytes)) = some (some (.string ⟨#[]⟩), 1, 16) := by kernel_rfl
    cases hh : Tryz.prog.info? 24 with
    | none => rw [hh] at h; exact absurd h (by simp)
    | some i => rw [hh] at h; exact ⟨i, rfl, by simpa using h⟩
  simp only [Prod.mk.injEq] at hz
  obtain ⟨hz0, hz1, hz2⟩ := hz
  have hmk := run_make (P := Tryz.prog) w 39 24 i0 (.string ⟨#[]⟩) Tryz.underlying39 hi hz0 .i64 .i64 qs.length qs.length (by omega) (Int.le_refl _) (by rw [hz2]; omega) (by omega)
  simp only [Int.toNat_natCast] at hmk
  have hs := size_madeCells (Value.string ⟨#[]⟩).cells (qs.length * i0.size)
  rw [hz1, Nat.mul_one] at hmk hs
  generalize madeCells (Value.string ⟨#[]⟩).cells qs.length = xs at hmk hs
  have B0 := BufN.made w qs.length xs hs
  have G0 := gr_alloc w (.cells xs 24) none
  have HR := Lib.hid hr
  have HB := Lib.hid hb
  have HC := Lib.hid hc
  have HD := Lib.hid hd
  generalize w.alloc (.cells xs 24) = w0 at *
  obtain ⟨m, hm⟩ : ∃ m, m = w.heap.size := ⟨_, rfl⟩
  rw [← hm] at hmk B0
  have hwm : w.heap.size ≤ m := Nat.le_of_eq hm.symm
  have HN := Lib.hid hn
  clear hb hz0 hz1 hz2 hi hs hm hr hc hd
  go_enter Tryz.func118, Tryz.ntmps118
  go_wp2
  go_loopw [13] (fun u wr => ∃ j : Nat, j ≤ qs.length ∧ u = .int .i64 j ∧ BufN wr m qs.length ((qs.take j).map (scaleQ d)) ∧ w.grownBy wr none) (fun u _ => qs.length - (RowKit.intOf u).toNat)
  case atStart => exact ⟨0, Nat.zero_le _, rfl, by simpa using B0, G0⟩
  case round =>
    clear B0 G0 hmk
    obtain ⟨j, hj, rfl, B1, G1⟩ := hrel
    have R1 := HR.out.kept G1
    by_cases hlt : j < qs.length
    · obtain ⟨c0, c1, c2⟩ := R1 j hlt
      have hca := gr_then G1 (gr_alloc wr (.cells #[.bool (decide (qs[j].num < 0)), .string (S qs[j].num.natAbs), .string (S qs[j].den)] 49) none)
      have HV := Lib.hid (common2_any d qs[j] jj k pb _ (hca.cell HC.out (by simp)) HD.out (HB.out _ (List.getElem_mem _)) hjj (by omega))
      unfold RV RW at HV
      have hb1 : (j : Int) < (qs.length : Int) := by omega
      have hl : ((qs.take j).map (scaleQ d)).length = j := by rw [List.length_map, List.length_take]; omega
      have HL := Lib.hid hl
      clear hl
      have B2 := B1.kept (gr_alloc wr (.cells #[.bool (decide (qs[j].num < 0)), .string (S qs[j].num.natAbs), .string (S qs[j].den)] 49) none)
      go_wp2_with fail
      refine HV.out.mono ?_
      rintro e w1 ⟨rfl, g1⟩
      have B3 := B2.kept g1
      obtain ⟨⟨z0, hz0⟩, f0⟩ := B3.at j (by omega)
      have G2 := gr_then hca g1
      have HB3 := Lib.hid B3
      have HG2 := Lib.hid G2
      clear B3 G2 B2 g1 B1 G1 c0 c1 c2 R1 hca
      go_wp2
      have hst := HB3.out.step (scaleQ d qs[j]) (by rw [HL.out]; exact hlt)
      rw [HL.out, show (qs.take j).map (scaleQ d) ++ [scaleQ d qs[j]] = (qs.take (j + 1)).map (scaleQ d) from by rw [← List.take_append_getElem hlt, List.map_append]; rfl] at hst
      exact ⟨⟨j + 1, by omega, by go_num, hst, gr_setn HG2.out hwm⟩, by simp [RowKit.intOf]; omega⟩
    · obtain rfl : j = qs.length := by omega
      have HG := Lib.hid G1
      rw [List.take_length] at B1
      have hB := Lib.hid B1
      clear G1 B1
      go_wp2
      go_ret
      exact ⟨m, rfl, hB.out, hwm, HG.out⟩
set_option maxHeartbeats 2000000 in
set_option maxRecDepth 100000 in
theorem commonq_any (qs : List Rat) (k g o c : Nat) (w : World) (hr : Rats w g o qs) (hs : ∀ q ∈ qs, decide (q.num < 0) = false) (hb : ∀ q ∈ qs, Bd k q) (hk : k ≤ 50) (hn : qs.length ≤ 1000) :
    Calls Tryz.prog 61 #[.slice (some ⟨g, o, none⟩) qs.length c] w fun e w' => ∃ m, e = .returned (.tuple #[.string (S (qs.foldl lcmQ 1)), .slice (some ⟨m, 0, none⟩) qs.length qs.length, .bool true]) ∧ BufN w' m qs.length (qs.map (scaleQ (qs.foldl lcmQ 1))) ∧ w.heap.size ≤ m ∧ w.grownBy w' none := by
  have G0 := gr_alloc w (.cells #[.bool false] 118) none
  have c0 : (w.alloc (.cells #[.bool false] 118)).cell? ⟨w.heap.size, 0, none⟩ = some (.bool false) := by rw [cell_of_row _ _ 0 _ _ (0, 0) (heap_alloc_new w _)]; rfl
  have HM := Lib.hid (mappedv_any qs k g o c w.heap.size 0 _ (hr.kept G0) hb (by omega) hn)
  have hfl := fold_lt qs 1 1 (by decide) hb
  have hle : 1 + k * qs.length ≤ 100000 := by have := Nat.mul_le_mul hk hn; omega
  have HS := Lib.hid hs
  have HB := Lib.hid hb
  have HFL := Lib.hid hfl
  clear hr hs hb hfl
  generalize hD : qs.foldl lcmQ 1 = D at *
  have HD := Lib.hid hD
  clear hD
  go_enter Tryz.func61, Tryz.ntmps61
  go_wp2_with fail
  refine HM.out.mono ?_
  rintro e w1 ⟨m1, rfl, B1, hm1, g1⟩
  have c1 := g1.cell c0 (by simp)
  have hw1 := w1
  have G1 := Lib.hid (gr_then G0 g1)
  have R1 := Lib.hid B1.rats
  clear c0 g1 B1 G0 hw1
  go_wp2_with fail
  refine (contains_none qs m1 0 qs.length _ R1.out HS.out hn).mono ?_
  rintro e w2 ⟨rfl, g2⟩
  have R2 := Lib.hid (R1.out.kept g2)
  have G2 := Lib.hid (gr_then G1.out g2)
  clear c1 g2
  go_wp2_with fail
  refine (fold1_any qs k m1 0 qs.length _ R2.out HB.out hk hn).mono ?_
  rintro e w3 ⟨rfl, g3⟩
  rw [HD.out]
  have R3 := R2.out.kept g3
  have G3 := gr_then G2.out g3
  clear g3
  go_wp2_with fail
  have G4 : w.grownBy (w3.alloc (.cells #[.string (S D)] 24)).drew none := gr_dr (gr_al G3)
  have c4 : (w3.alloc (.cells #[.string (S D)] 24)).drew.cell? ⟨w3.heap.size, 0, none⟩ = some (.string (S D)) := by
    show (w3.alloc (.cells #[.string (S D)] 24)).cell? _ = _
    rw [cell_of_row _ _ 0 _ _ (0, 0) (heap_alloc_new w3 _)]; rfl
  have R4 := Lib.hid (R3.kept (gr_dr (gr_al (o := .cells #[.string (S D)] 24) (gr_rfl w3))))
  have GG := Lib.hid G4
  clear G3 G4 R3
  have hsz : w.heap.size ≤ (w3.alloc (.cells #[.string (S D)] 24)).drew.heap.size := GG.out.size
  go_region_held3 (fun w' => w'.cell? ⟨w3.heap.size, 0, none⟩ = some (.string (S D))) (first | exact c4 | go_keep)
    ((go_at_call 118; refine (mappedn_any qs D k (1 + k * qs.length) m1 0 qs.length w3.heap.size _ R4.out c4 HFL.out hle HB.out (by omega) hn).mono ?_; rintro e w4 ⟨m2, rfl, B4, hm2, g4⟩; have c5 := g4.cell c4 (by simp)))
  all_goals
    have HB4 := Lib.hid B4
    have G5 := Lib.hid (gr_then GG.out g4)
    have hm3 := Nat.le_trans hsz hm2
    clear B4 g4
    go_wp2
    go_ret3
    exact ⟨m2, rfl, HB4.out, hm3, G5.out⟩
end Go.Proofs.YteajpefbmiiioaaGreatDoor
namespace Go.Proofs.YteajpefbmiiioaaGreatDoor
namespace Mth
open Go.Lib

def isDg (c : UInt8) : Bool := decide (48 ≤ c.toNat) && decide (c.toNat ≤ 57)
/-- The number of decimal digits. -/
def dnum (l : List UInt8) : Nat := l.foldl (fun a d => 10 * a + (d.toNat - 48)) 0
theorem dnum_nil : dnum [] = 0 := rfl
theorem dnum_snoc (l : List UInt8) (d : UInt8) : dnum (l ++ [d]) = 10 * dnum l + (d.toNat - 48) := by simp [dnum]
theorem dfoldl (l : List UInt8) : ∀ a : Nat, l.foldl (fun a d => 10 * a + (d.toNat - 48)) a = a * 10 ^ l.length + dnum l := by
  induction l with
  | nil => intro a; simp [dnum]
  | cons d l ih =>
    intro a
    show List.foldl (fun a d => 10 * a + (d.toNat - 48)) (10 * a + (d.toNat - 48)) l = a * 10 ^ (l.length + 1) + List.foldl (fun a d => 10 * a + (d.toNat - 48)) (10 * 0 + (d.toNat - 48)) l
    rw [ih, ih, Nat.pow_succ, Nat.add_mul, Nat.mul_zero, Nat.zero_add]
    rw [show 10 * a * 10 ^ l.length = a * (10 ^ l.length * 10) from by rw [Nat.mul_comm 10 a, Nat.mul_assoc, Nat.mul_comm 10]]
    omega
theorem dnum_append (l r : List UInt8) : dnum (l ++ r) = dnum l * 10 ^ r.length + dnum r := by
  simp only [dnum, List.foldl_append]
  exact dfoldl r _
theorem dnum_lt (l : List UInt8) (h : l.all isDg = true) : dnum l < 10 ^ l.length := by
  induction hn : l.length generalizing l with
  | zero =>
    obtain rfl : l = [] := List.eq_nil_of_length_eq_zero hn
    simp [dnum]
  | succ n ih =>
    rcases List.eq_nil_or_concat l with rfl | ⟨l', d, rfl⟩
    · simp at hn
    · simp only [List.concat_eq_append] at *
      rw [List.all_append, Bool.and_eq_true] at h
      have h1 := ih l' h.1 (by simpa using hn)
      have h2 : d.toNat ≤ 57 := by
        have := h.2
        simp [isDg] at this; exact this.2
      rw [dnum_snoc, Nat.pow_succ]
      omega
theorem dnum_dec (n : Nat) : dnum (decDigits n) = n := by
  induction n using Nat.strongRecOn with
  | _ n ih =>
    rw [decDigits]
    split
    · rename_i h
      simp only [dnum, List.foldl_cons, List.foldl_nil]
      have : (UInt8.ofNat (48 + n)).toNat = 48 + n := by simp; omega
      rw [this]; omega
    · rename_i h
      rw [dnum_snoc, ih _ (by omega)]
      have : (UInt8.ofNat (48 + n % 10)).toNat = 48 + n % 10 := by simp; omega
      rw [this]; omega
theorem dec_all (n : Nat) : (decDigits n).all isDg = true := by
  induction n using Nat.strongRecOn with
  | _ n ih =>
    rw [decDigits]
    split
    · rename_i h
      have : (UInt8.ofNat (48 + n)).toNat = 48 + n := by simp; omega
      simp only [List.all_cons, List.all_nil, Bool.and_true, isDg, this, Bool.and_eq_true, decide_eq_true_eq]; omega
    · rename_i h
      rw [List.all_append, ih _ (by omega)]
      have : (UInt8.ofNat (48 + n % 10)).toNat = 48 + n % 10 := by simp; omega
      simp only [List.all_cons, List.all_nil, Bool.and_true, Bool.true_and, isDg, this, Bool.and_eq_true, decide_eq_true_eq]; omega
theorem dec_head (n : Nat) : (decDigits n = [48] ∧ n = 0) ∨ (decDigits n).head? ≠ some 48 ∧ decDigits n ≠ [] := by
  induction n using Nat.strongRecOn with
  | _ n ih =>
    rw [decDigits]
    split
    · rename_i h
      rcases Nat.eq_zero_or_pos n with h0 | h0
      · left; subst h0; exact ⟨rfl, rfl⟩
      · right
        refine ⟨?_, by simp⟩
        simp only [List.head?_cons, ne_eq, Option.some.injEq]
        intro e
        have := congrArg UInt8.toNat e
        have e2 : (UInt8.ofNat (48 + n)).toNat = 48 + n := by simp; omega
        rw [e2] at this
        have e3 : (48 : UInt8).toNat = 48 := rfl
        omega
    · rename_i h
      right
      rcases ih (n / 10) (by omega) with ⟨_, h2⟩ | ⟨h1, h2⟩
      · omega
      · refine ⟨?_, by simp⟩
        rw [List.head?_append]
        cases hh : (decDigits (n / 10)).head? with
        | none => exact absurd (List.head?_eq_none_iff.1 hh) h2
        | some x => rw [hh] at h1; simpa using h1
theorem dec_pos (n : Nat) : 0 < (decDigits n).length := by
  rcases dec_head n with ⟨h, _⟩ | ⟨_, h⟩
  · rw [h]; decide
  · rcases Nat.eq_zero_or_pos (decDigits n).length with h0 | h0
    · exact absurd (List.eq_nil_of_length_eq_zero h0) h
    · exact h0
theorem dec_le (n k : Nat) (hk : 0 < k) (h : n < 10 ^ k) : (decDigits n).length ≤ k := by
  induction k generalizing n with
  | zero => omega
  | succ k ih =>
    rw [decDigits]
    split
    · simp
    · rename_i h10
      rw [List.length_append, List.length_singleton]
      rcases Nat.eq_zero_or_pos k with h0 | h0
      · subst h0; simp at h; omega
      · have := ih (n / 10) h0 (by rw [Nat.pow_succ] at h; omega)
        omega
end Mth
end Go.Proofs.YteajpefbmiiioaaGreatDoor
