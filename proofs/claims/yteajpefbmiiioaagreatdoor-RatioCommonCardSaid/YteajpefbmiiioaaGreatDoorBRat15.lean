/- Contracts of the program and of the reference, part 15: Ri, Rj, Rk, Rq. -/
import Derived.Test.YteajpefbmiiioaaGreatDoorBRat14
namespace Go.Proofs.YteajpefbmiiioaaGreatDoor
open Go.RowKit Mth Go.Lib

theorem rnegq_any (q : Rat) (k : Nat) (w : World) (hq : Bd k q) (hk : k ≤ 200) : Gives 52 #[RV q] w (RV (-q)) := by
  have HV := Lib.hid (fun w => rvalue_rv q k w hq hk)
  obtain ⟨r1, r2, r3⟩ := neg_parts q
  have hr : RV (-q) = RW (!decide (q.num < 0) && decide (q.num.natAbs ≠ 0)) q.num.natAbs q.den := by unfold RV; rw [r1, r2, r3]
  rw [hr]
  clear hr r1 r2 r3
  have hcase : (decide (q.num < 0) = false ∧ (S q.num.natAbs).toList = [] ∧ (S q.num.natAbs).toList.isEmpty = true ∧ (!decide (q.num < 0) && decide (q.num.natAbs ≠ 0)) = false) ∨ (¬ (S q.num.natAbs).toList = [] ∧ (S q.num.natAbs).toList.isEmpty = false ∧ (!decide (q.num < 0) && decide (q.num.natAbs ≠ 0)) = !decide (q.num < 0)) := by
    by_cases h1 : q.num.natAbs = 0
    · exact .inl ⟨decide_eq_false (by omega), by rw [h1]; exact tl_zero, by rw [h1, tl_zero]; rfl, by simp [h1]⟩
    · exact .inr ⟨tl_ne h1, tl_emp h1, by simp [h1]⟩
  clear hq hk
  unfold RV RW at *
  generalize (!decide (q.num < 0) && decide (q.num.natAbs ≠ 0)) = c at *
  generalize decide (q.num < 0) = b at *
  generalize S q.num.natAbs = qn at *
  generalize S q.den = qd at *
  have A0 := (Three.new w (.bool b) (.string qn) (.string qd) 49).alloc (.cells #[.bool false, .string ⟨#[]⟩, .string ⟨#[]⟩] 49)
  have C0 := Three.new1 w (.cells #[.bool b, .string qn, .string qd] 49) (.bool false) (.string ⟨#[]⟩) (.string ⟨#[]⟩) 49
  have n01 : w.heap.size ≠ w.heap.size + 1 := by omega
  have n10 : w.heap.size + 1 ≠ w.heap.size := by omega
  rcases hcase with ⟨rfl, e1, e2, rfl⟩ | ⟨e1, e2, rfl⟩
  all_goals
    go_enter Tryz.func52, Tryz.ntmps52
    go_wp2_with fail
    refine (HV.out _).mono ?_
    rintro e v1 ⟨rfl, g1⟩
    have A1 := A0.kept g1
    have C1 := C0.kept g1
    have a0 := A1.c0
    have a1 := A1.c1
    have a2 := A1.c2
    have f0 := A1.fr 0
    have f1 := A1.fr 1
    have f2 := A1.fr 2
    have k0 := C1.c0
    have k1 := C1.c1
    have k2 := C1.c2
    have l0 := C1.fr 0
    have l1 := C1.fr 1
    have l2 := C1.fr 2
    go_wp2
  · exact bodyPost_ret (v := .agg #[.bool false, .string qn, .string qd]) (by simp [results, Tryz.results52, go_sem, k0, k1, k2]) rfl ⟨rfl, gr_set3 (gr_set3 (gr_two g1) (by omega) _ _ _) (by omega) _ _ _⟩
  · exact bodyPost_ret (v := .agg #[.bool (!b), .string qn, .string qd]) (by simp [results, Tryz.results52, go_sem, k0, k1, k2]) rfl ⟨rfl, gr_set3 (gr_setn (gr_set3 (gr_two g1) (by omega) _ _ _) (by omega)) (by omega) _ _ _⟩
theorem cmpN_ge {x y : Nat} (h : y ≤ x) : 0 ≤ cmpN x y := by
  unfold cmpN; rw [if_neg (by omega)]; split <;> omega
theorem cmpN_lt {x y : Nat} (h : x < y) : cmpN x y = -1 := by unfold cmpN; rw [if_pos h]
set_option maxHeartbeats 1000000 in
set_option maxRecDepth 100000 in
theorem raddq_same (p q : Rat) (k : Nat) (w : World) (hs : decide (p.num < 0) = decide (q.num < 0)) (hp : Bd k p) (hq : Bd k q) (hk : k ≤ 99) : Gives 42 #[RV p, RV q] w (RV (p + q)) := by
  have HV1 := Lib.hid (fun w => rvalue_rv p k w hp (by omega))
  have HV2 := Lib.hid (fun w => rvalue_rv q k w hq (by omega))
  have b1 := lt_le256 hp.1 (by omega : k ≤ 99)
  have b2 := lt_le256 hp.2 (by omega : k ≤ 99)
  have b3 := lt_le256 hq.1 (by omega : k ≤ 99)
  have b4 := lt_le256 hq.2 (by omega : k ≤ 99)
  have h100 : 99 ≤ 200 := by decide
  have z1 := s_size9 (lt_le256 b1 h100)
  have z2 := s_size9 (lt_le256 b2 h100)
  have z3 := s_size9 (lt_le256 b3 h100)
  have z4 := s_size9 (lt_le256 b4 h100)
  have bx := lt_mul256 b1 b4
  have byy := lt_mul256 b3 b2
  have bd := lt_le256 (lt_mul256 b2 b4) (by decide : 99 + 99 ≤ 200)
  have d0 : 0 < p.den * q.den := Nat.mul_pos (Nat.pos_of_ne_zero p.den_nz) (Nat.pos_of_ne_zero q.den_nz)
  have zx := s_size9 (lt_le256 bx (by decide))
  have zy := s_size9 (lt_le256 byy (by decide))
  have hadd := add_mk p q
  have HM1 := Lib.hid (fun w => s_rmul (S p.num.natAbs) (S q.den) p.num.natAbs q.den w (s_num _) (s_num _) (by omega) (by omega))
  have HM2 := Lib.hid (fun w => s_rmul (S q.num.natAbs) (S p.den) q.num.natAbs p.den w (s_num _) (s_num _) (by omega) (by omega))
  have HM3 := Lib.hid (fun w => s_rmul (S p.den) (S q.den) p.den q.den w (s_num _) (s_num _) (by omega) (by omega))
  have HA := Lib.hid (fun w => s_radd (S (p.num.natAbs * q.den)) (S (q.num.natAbs * p.den)) (p.num.natAbs * q.den) (q.num.natAbs * p.den) w (s_num _) (s_num _) zx zy)
  have HL := Lib.hid (fun w => rlow_any (decide (p.num < 0)) (p.num.natAbs * q.den + q.num.natAbs * p.den) (p.den * q.den) w d0 (lt_le256 (lt_add256 bx byy) (by decide)) bd)
  rw [show sg (decide (p.num < 0)) (p.num.natAbs * q.den + q.num.natAbs * p.den) = sg (decide (p.num < 0)) (p.num.natAbs * q.den) + sg (decide (q.num < 0)) (q.num.natAbs * p.den) from by
    rw [← hs]; unfold sg; split <;> omega, hadd] at HL
  generalize S (p.num.natAbs * q.den + q.num.natAbs * p.den) = sm at *
  clear b1 b2 b3 b4 h100 z1 z2 z3 z4 hk hp hq bx byy bd d0 zx zy hadd
  unfold RV RW at *
  generalize S (p + q).num.natAbs = zs at *
  generalize S (p + q).den = zd at *
  generalize decide ((p + q).num < 0) = c at *
  generalize S (p.num.natAbs * q.den) = m1 at *
  generalize S (q.num.natAbs * p.den) = m2 at *
  generalize S (p.den * q.den) = m3 at *
  generalize decide (p.num < 0) = a at *
  generalize decide (q.num < 0) = b at *
  generalize S p.num.natAbs = pn at *
  generalize S p.den = pd at *
  generalize S q.num.natAbs = qn at *
  generalize S q.den = qd at *
  subst hs
  have n01 : w.heap.size ≠ w.heap.size + 1 := by omega
  have n10 : w.heap.size + 1 ≠ w.heap.size := by omega
  have n02 : w.heap.size ≠ w.heap.size + 1 + 1 := by omega
  have n20 : w.heap.size + 1 + 1 ≠ w.heap.size := by omega
  have n12 : w.heap.size + 1 ≠ w.heap.size + 1 + 1 := by omega
  have n21 : w.heap.size + 1 + 1 ≠ w.heap.size + 1 := by omega
  have hA0 := ((Three.new w (.bool a) (.string pn) (.string pd) 49).alloc (.cells #[.bool a, .string qn, .string qd] 49)).alloc (.cells #[.bool false, .string ⟨#[]⟩, .string ⟨#[]⟩] 49)
  have hB0 := (Three.new1 w (.cells #[.bool a, .string pn, .string pd] 49) (.bool a) (.string qn) (.string qd) 49).alloc (.cells #[.bool false, .string ⟨#[]⟩, .string ⟨#[]⟩] 49)
  have hC0 := Three.new2 w (.cells #[.bool a, .string pn, .string pd] 49) (.cells #[.bool a, .string qn, .string qd] 49) (.bool false) (.string ⟨#[]⟩) (.string ⟨#[]⟩) 49
  go_enter Tryz.func42, Tryz.ntmps42
  go_wp2_with fail
  refine (HV1.out _).mono ?_
  rintro e v1 ⟨rfl, g1⟩
  have hAv1 := hA0.kept g1
  have hBv1 := hB0.kept g1
  have hCv1 := hC0.kept g1
  have Gv1 := Lib.hid (gr_three g1)
  clear g1 hA0 hB0 hC0
  have a0v1 := hAv1.c0
  have a1v1 := hAv1.c1
  have a2v1 := hAv1.c2
  have fa0v1 := hAv1.fr 0
  have fa1v1 := hAv1.fr 1
  have fa2v1 := hAv1.fr 2
  have b0v1 := hBv1.c0
  have b1v1 := hBv1.c1
  have b2v1 := hBv1.c2
  go_wp2_with fail
  refine (HV2.out _).mono ?_
  rintro e v2 ⟨rfl, g2⟩
  have hAv2 := (hAv1.all (.bool a) (.string pn) (.string pd)).kept g2
  have hBv2 := (hBv1.oth3 n10 (.bool a) (.string pn) (.string pd)).kept g2
  have hCv2 := (hCv1.oth3 n20 (.bool a) (.string pn) (.string pd)).kept g2
  have Gv2 := Lib.hid (gr_then (gr_set3 Gv1.out (Nat.le_refl _) (.bool a) (.string pn) (.string pd)) g2)
  clear g2 Gv1 hAv1 hBv1 hCv1 a0v1 a1v1 a2v1 fa0v1 fa1v1 fa2v1 b0v1 b1v1 b2v1
  have hAv3 := hAv2.oth3 n01 (.bool a) (.string qn) (.string qd)
  have hBv3 := hBv2.all (.bool a) (.string qn) (.string qd)
  have hCv3 := hCv2.oth3 n21 (.bool a) (.string qn) (.string qd)
  have Gv3 := gr_set3 Gv2.out (Nat.le_succ _) (.bool a) (.string qn) (.string qd)
  have a0v2 := hAv2.c0
  have a1v2 := hAv2.c1
  have a2v2 := hAv2.c2
  have b0v2 := hBv2.c0
  have b1v2 := hBv2.c1
  have b2v2 := hBv2.c2
  have fb0v2 := hBv2.fr 0
  have fb1v2 := hBv2.fr 1
  have fb2v2 := hBv2.fr 2
  go_wp2_with fail
  refine (HM1.out _).mono ?_
  rintro e v4 ⟨rfl, gv4⟩
  have hAv4 := hAv3.kept gv4
  have hBv4 := hBv3.kept gv4
  have hCv4 := hCv3.kept gv4
  have Gv4 := gr_then Gv3 gv4
  clear hAv3 hBv3 hCv3 Gv3 gv4 a0v2 a1v2 a2v2 b0v2 b1v2 b2v2 fb0v2 fb1v2 fb2v2
  have a0v4 := hAv4.c0
  have a1v4 := hAv4.c1
  have a2v4 := hAv4.c2
  have b0v4 := hBv4.c0
  have b1v4 := hBv4.c1
  have b2v4 := hBv4.c2
  go_wp2_with fail
  refine (HM2.out _).mono ?_
  rintro e v5 ⟨rfl, gv5⟩
  have hAv5 := hAv4.kept gv5
  have hBv5 := hBv4.kept gv5
  have hCv5 := hCv4.kept gv5
  have Gv5 := gr_then Gv4 gv5
  clear hAv4 hBv4 hCv4 Gv4 gv5 a0v4 a1v4 a2v4 b0v4 b1v4 b2v4
  have a0v5 := hAv5.c0
  have a1v5 := hAv5.c1
  have a2v5 := hAv5.c2
  have b0v5 := hBv5.c0
  have b1v5 := hBv5.c1
  have b2v5 := hBv5.c2
  go_wp2_with fail
  refine (HM3.out _).mono ?_
  rintro e v6 ⟨rfl, gv6⟩
  have hAv6 := hAv5.kept gv6
  have hBv6 := hBv5.kept gv6
  have hCv6 := hCv5.kept gv6
  have Gv6 := gr_then Gv5 gv6
  clear hAv5 hBv5 hCv5 Gv5 gv6 a0v5 a1v5 a2v5 b0v5 b1v5 b2v5
  have a0v6 := hAv6.c0
  have a1v6 := hAv6.c1
  have a2v6 := hAv6.c2
  have b0v6 := hBv6.c0
  have b1v6 := hBv6.c1
  have b2v6 := hBv6.c2
  go_wp2_with fail
  have hAv7 := hAv6.drew
  have hBv7 := hBv6.drew
  have hCv7 := hCv6.drew
  have Gv7 := gr_dr Gv6
  go_region_held3 (fun w' => w'.cell? ⟨w.heap.size, 0, none⟩ = some (.bool a)) (first | exact Three.c0 (by assumption) | go_keep)
    (first
      | (go_at_call_of 19 (Value.string m1); refine (HA.out _).mono ?_; rintro e v8 ⟨rfl, gv8⟩; have hAv8 : Three v8 (w.heap.size) (.bool a) (.string pn) (.string pd) 49 := Three.kept (by assumption) gv8; have hBv8 : Three v8 (w.heap.size + 1) (.bool a) (.string qn) (.string qd) 49 := Three.kept (by assumption) gv8; have hCv8 : Three v8 (w.heap.size + 1 + 1) (.bool false) (.string ⟨#[]⟩) (.string ⟨#[]⟩) 49 := Three.kept (by assumption) gv8; have Gv8 : w.grownBy v8 none := gr_then (by assumption) gv8)
      | (go_at_call 101; refine (HL.out _).mono ?_; rintro e v9 ⟨rfl, gv9⟩; have hAv9 : Three v9 (w.heap.size) (.bool a) (.string pn) (.string pd) 49 := Three.kept (by assumption) gv9; have hBv9 : Three v9 (w.heap.size + 1) (.bool a) (.string qn) (.string qd) 49 := Three.kept (by assumption) gv9; have hCv9 : Three v9 (w.heap.size + 1 + 1) (.bool false) (.string ⟨#[]⟩) (.string ⟨#[]⟩) 49 := Three.kept (by assumption) gv9; have Gv9 : w.grownBy v9 none := gr_then (by assumption) gv9; have k0 := hCv9.c0; have k1 := hCv9.c1; have k2 := hCv9.c2; have f0 := hCv9.fr 0; have f1 := hCv9.fr 1; have f2 := hCv9.fr 2))
  all_goals
    go_wp2
    exact bodyPost_ret (v := .agg #[.bool c, .string zs, .string zd]) (by simp [results, Tryz.results42, go_sem, k0, k1, k2]) rfl ⟨rfl, gr_set3 Gv9 (by omega) _ _ _⟩
set_option maxHeartbeats 1000000 in
set_option maxRecDepth 100000 in
theorem raddq_ge (p q : Rat) (k : Nat) (w : World) (hs : ¬ decide (p.num < 0) = decide (q.num < 0)) (hle : q.num.natAbs * p.den ≤ p.num.natAbs * q.den) (hp : Bd k p) (hq : Bd k q) (hk : k ≤ 99) : Gives 42 #[RV p, RV q] w (RV (p + q)) := by
  have HV1 := Lib.hid (fun w => rvalue_rv p k w hp (by omega))
  have HV2 := Lib.hid (fun w => rvalue_rv q k w hq (by omega))
  have b1 := lt_le256 hp.1 (by omega : k ≤ 99)
  have b2 := lt_le256 hp.2 (by omega : k ≤ 99)
  have b3 := lt_le256 hq.1 (by omega : k ≤ 99)
  have b4 := lt_le256 hq.2 (by omega : k ≤ 99)
  have h100 : 99 ≤ 200 := by decide
  have z1 := s_size9 (lt_le256 b1 h100)
  have z2 := s_size9 (lt_le256 b2 h100)
  have z3 := s_size9 (lt_le256 b3 h100)
  have z4 := s_size9 (lt_le256 b4 h100)
  have bx := lt_mul256 b1 b4
  have byy := lt_mul256 b3 b2
  have bd := lt_le256 (lt_mul256 b2 b4) (by decide : 99 + 99 ≤ 200)
  have d0 : 0 < p.den * q.den := Nat.mul_pos (Nat.pos_of_ne_zero p.den_nz) (Nat.pos_of_ne_zero q.den_nz)
  have zx := s_size9 (lt_le256 bx (by decide))
  have zy := s_size9 (lt_le256 byy (by decide))
  have hadd := add_mk p q
  have HM1 := Lib.hid (fun w => s_rmul (S p.num.natAbs) (S q.den) p.num.natAbs q.den w (s_num _) (s_num _) (by omega) (by omega))
  have HM2 := Lib.hid (fun w => s_rmul (S q.num.natAbs) (S p.den) q.num.natAbs p.den w (s_num _) (s_num _) (by omega) (by omega))
  have HM3 := Lib.hid (fun w => s_rmul (S p.den) (S q.den) p.den q.den w (s_num _) (s_num _) (by omega) (by omega))
  have HC := Lib.hid (fun w => s_rcmp (S (p.num.natAbs * q.den)) (S (q.num.natAbs * p.den)) (p.num.natAbs * q.den) (q.num.natAbs * p.den) w (s_num _) (s_num _) zx zy)
  have hc := cmpN_ge hle
  have HA := Lib.hid (fun w => s_rsub (S (p.num.natAbs * q.den)) (S (q.num.natAbs * p.den)) (p.num.natAbs * q.den) (q.num.natAbs * p.den) w (s_num _) (s_num _) zx zy hle)
  have HL := Lib.hid (fun w => rlow_any (decide (p.num < 0)) (p.num.natAbs * q.den - q.num.natAbs * p.den) (p.den * q.den) w d0 (lt_le256 (Nat.lt_of_le_of_lt (Nat.sub_le _ _) bx) (by decide)) bd)
  rw [show sg (decide (p.num < 0)) (p.num.natAbs * q.den - q.num.natAbs * p.den) = sg (decide (p.num < 0)) (p.num.natAbs * q.den) + sg (decide (q.num < 0)) (q.num.natAbs * p.den) from by
    rw [show decide (q.num < 0) = !decide (p.num < 0) from by revert hs; cases decide (p.num < 0) <;> cases decide (q.num < 0) <;> simp]
    unfold sg; cases decide (p.num < 0) <;> simp <;> omega, hadd] at HL
  generalize cmpN (p.num.natAbs * q.den) (q.num.natAbs * p.den) = cz at *
  generalize S (p.num.natAbs * q.den - q.num.natAbs * p.den) = sm at *
  clear b1 b2 b3 b4 h100 z1 z2 z3 z4 hk hp hq bx byy bd d0 zx zy hadd hle
  unfold RV RW at *
  generalize S (p + q).num.natAbs = zs at *
  generalize S (p + q).den = zd at *
  generalize decide ((p + q).num < 0) = c at *
  generalize S (p.num.natAbs * q.den) = m1 at *
  generalize S (q.num.natAbs * p.den) = m2 at *
  generalize S (p.den * q.den) = m3 at *
  generalize decide (p.num < 0) = a at *
  generalize decide (q.num < 0) = b at *
  generalize S p.num.natAbs = pn at *
  generalize S p.den = pd at *
  generalize S q.num.natAbs = qn at *
  generalize S q.den = qd at *
  have hs2 : (a == b) = false := by revert hs; cases a <;> cases b <;> simp
  have n01 : w.heap.size ≠ w.heap.size + 1 := by omega
  have n10 : w.heap.size + 1 ≠ w.heap.size := by omega
  have n02 : w.heap.size ≠ w.heap.size + 1 + 1 := by omega
  have n20 : w.heap.size + 1 + 1 ≠ w.heap.size := by omega
  have n12 : w.heap.size + 1 ≠ w.heap.size + 1 + 1 := by omega
  have n21 : w.heap.size + 1 + 1 ≠ w.heap.size + 1 := by omega
  have hA0 := ((Three.new w (.bool a) (.string pn) (.string pd) 49).alloc (.cells #[.bool b, .string qn, .string qd] 49)).alloc (.cells #[.bool false, .string ⟨#[]⟩, .string ⟨#[]⟩] 49)
  have hB0 := (Three.new1 w (.cells #[.bool a, .string pn, .string pd] 49) (.bool b) (.string qn) (.string qd) 49).alloc (.cells #[.bool false, .string ⟨#[]⟩, .string ⟨#[]⟩] 49)
  have hC0 := Three.new2 w (.cells #[.bool a, .string pn, .string pd] 49) (.cells #[.bool b, .string qn, .string qd] 49) (.bool false) (.string ⟨#[]⟩) (.string ⟨#[]⟩) 49
  go_enter Tryz.func42, Tryz.ntmps42
  go_wp2_with fail
  refine (HV1.out _).mono ?_
  rintro e v1 ⟨rfl, g1⟩
  have hAv1 := hA0.kept g1
  have hBv1 := hB0.kept g1
  have hCv1 := hC0.kept g1
  have Gv1 := Lib.hid (gr_three g1)
  clear g1 hA0 hB0 hC0
  have a0v1 := hAv1.c0
  have a1v1 := hAv1.c1
  have a2v1 := hAv1.c2
  have fa0v1 := hAv1.fr 0
  have fa1v1 := hAv1.fr 1
  have fa2v1 := hAv1.fr 2
  have b0v1 := hBv1.c0
  have b1v1 := hBv1.c1
  have b2v1 := hBv1.c2
  go_wp2_with fail
  refine (HV2.out _).mono ?_
  rintro e v2 ⟨rfl, g2⟩
  have hAv2 := (hAv1.all (.bool a) (.string pn) (.string pd)).kept g2
  have hBv2 := (hBv1.oth3 n10 (.bool a) (.string pn) (.string pd)).kept g2
  have hCv2 := (hCv1.oth3 n20 (.bool a) (.string pn) (.string pd)).kept g2
  have Gv2 := Lib.hid (gr_then (gr_set3 Gv1.out (Nat.le_refl _) (.bool a) (.string pn) (.string pd)) g2)
  clear g2 Gv1 hAv1 hBv1 hCv1 a0v1 a1v1 a2v1 fa0v1 fa1v1 fa2v1 b0v1 b1v1 b2v1
  have hAv3 := hAv2.oth3 n01 (.bool b) (.string qn) (.string qd)
  have hBv3 := hBv2.all (.bool b) (.string qn) (.string qd)
  have hCv3 := hCv2.oth3 n21 (.bool b) (.string qn) (.string qd)
  have Gv3 := gr_set3 Gv2.out (Nat.le_succ _) (.bool b) (.string qn) (.string qd)
  have a0v2 := hAv2.c0
  have a1v2 := hAv2.c1
  have a2v2 := hAv2.c2
  have b0v2 := hBv2.c0
  have b1v2 := hBv2.c1
  have b2v2 := hBv2.c2
  have fb0v2 := hBv2.fr 0
  have fb1v2 := hBv2.fr 1
  have fb2v2 := hBv2.fr 2
  go_wp2_with fail
  refine (HM1.out _).mono ?_
  rintro e v4 ⟨rfl, gv4⟩
  have hAv4 := hAv3.kept gv4
  have hBv4 := hBv3.kept gv4
  have hCv4 := hCv3.kept gv4
  have Gv4 := gr_then Gv3 gv4
  clear hAv3 hBv3 hCv3 Gv3 gv4 a0v2 a1v2 a2v2 b0v2 b1v2 b2v2 fb0v2 fb1v2 fb2v2
  have a0v4 := hAv4.c0
  have a1v4 := hAv4.c1
  have a2v4 := hAv4.c2
  have b0v4 := hBv4.c0
  have b1v4 := hBv4.c1
  have b2v4 := hBv4.c2
  go_wp2_with fail
  refine (HM2.out _).mono ?_
  rintro e v5 ⟨rfl, gv5⟩
  have hAv5 := hAv4.kept gv5
  have hBv5 := hBv4.kept gv5
  have hCv5 := hCv4.kept gv5
  have Gv5 := gr_then Gv4 gv5
  clear hAv4 hBv4 hCv4 Gv4 gv5 a0v4 a1v4 a2v4 b0v4 b1v4 b2v4
  have a0v5 := hAv5.c0
  have a1v5 := hAv5.c1
  have a2v5 := hAv5.c2
  have b0v5 := hBv5.c0
  have b1v5 := hBv5.c1
  have b2v5 := hBv5.c2
  go_wp2_with fail
  refine (HM3.out _).mono ?_
  rintro e v6 ⟨rfl, gv6⟩
  have hAv6 := hAv5.kept gv6
  have hBv6 := hBv5.kept gv6
  have hCv6 := hCv5.kept gv6
  have Gv6 := gr_then Gv5 gv6
  clear hAv5 hBv5 hCv5 Gv5 gv6 a0v5 a1v5 a2v5 b0v5 b1v5 b2v5
  have a0v6 := hAv6.c0
  have a1v6 := hAv6.c1
  have a2v6 := hAv6.c2
  have b0v6 := hBv6.c0
  have b1v6 := hBv6.c1
  have b2v6 := hBv6.c2
  go_wp2_with fail
  refine (HC.out _).mono ?_
  rintro e v7 ⟨rfl, gv7⟩
  have hAv7 := hAv6.kept gv7
  have hBv7 := hBv6.kept gv7
  have hCv7 := hCv6.kept gv7
  have Gv7 := gr_then Gv6 gv7
  clear hAv6 hBv6 hCv6 Gv6 gv7 a0v6 a1v6 a2v6 b0v6 b1v6 b2v6
  have a0v7 := hAv7.c0
  have a1v7 := hAv7.c1
  have a2v7 := hAv7.c2
  have b0v7 := hBv7.c0
  have b1v7 := hBv7.c1
  have b2v7 := hBv7.c2
  go_wp2_with fail
  refine (HA.out _).mono ?_
  rintro e v8 ⟨rfl, gv8⟩
  have hAv8 := hAv7.kept gv8
  have hBv8 := hBv7.kept gv8
  have hCv8 := hCv7.kept gv8
  have Gv8 := gr_then Gv7 gv8
  clear hAv7 hBv7 hCv7 Gv7 gv8 a0v7 a1v7 a2v7 b0v7 b1v7 b2v7
  have a0v8 := hAv8.c0
  have a1v8 := hAv8.c1
  have a2v8 := hAv8.c2
  have b0v8 := hBv8.c0
  have b1v8 := hBv8.c1
  have b2v8 := hBv8.c2
  go_wp2_with fail
  refine (HL.out _).mono ?_
  rintro e v9 ⟨rfl, gv9⟩
  have hAv9 := hAv8.kept gv9
  have hBv9 := hBv8.kept gv9
  have hCv9 := hCv8.kept gv9
  have Gv9 := gr_then Gv8 gv9
  have k0 := hCv9.c0
  have k1 := hCv9.c1
  have k2 := hCv9.c2
  have f0 := hCv9.fr 0
  have f1 := hCv9.fr 1
  have f2 := hCv9.fr 2
  all_goals
    go_wp2
    exact bodyPost_ret (v := .agg #[.bool c, .string zs, .string zd]) (by simp [results, Tryz.results42, go_sem, k0, k1, k2]) rfl ⟨rfl, gr_set3 Gv9 (by omega) _ _ _⟩
set_option maxHeartbeats 1000000 in
set_option maxRecDepth 100000 in
theorem raddq_lt (p q : Rat) (k : Nat) (w : World) (hs : ¬ decide (p.num < 0) = decide (q.num < 0)) (hle : p.num.natAbs * q.den < q.num.natAbs * p.den) (hp : Bd k p) (hq : Bd k q) (hk : k ≤ 99) : Gives 42 #[RV p, RV q] w (RV (p + q)) := by
  have HV1 := Lib.hid (fun w => rvalue_rv p k w hp (by omega))
  have HV2 := Lib.hid (fun w => rvalue_rv q k w hq (by omega))
  have b1 := lt_le256 hp.1 (by omega : k ≤ 99)
  have b2 := lt_le256 hp.2 (by omega : k ≤ 99)
  have b3 := lt_le256 hq.1 (by omega : k ≤ 99)
  have b4 := lt_le256 hq.2 (by omega : k ≤ 99)
  have h100 : 99 ≤ 200 := by decide
  have z1 := s_size9 (lt_le256 b1 h100)
  have z2 := s_size9 (lt_le256 b2 h100)
  have z3 := s_size9 (lt_le256 b3 h100)
  have z4 := s_size9 (lt_le256 b4 h100)
  have bx := lt_mul256 b1 b4
  have byy := lt_mul256 b3 b2
  have bd := lt_le256 (lt_mul256 b2 b4) (by decide : 99 + 99 ≤ 200)
  have d0 : 0 < p.den * q.den := Nat.mul_pos (Nat.pos_of_ne_zero p.den_nz) (Nat.pos_of_ne_zero q.den_nz)
  have zx := s_size9 (lt_le256 bx (by decide))
  have zy := s_size9 (lt_le256 byy (by decide))
  have hadd := add_mk p q
  have HM1 := Lib.hid (fun w => s_rmul (S p.num.natAbs) (S q.den) p.num.natAbs q.den w (s_num _) (s_num _) (by omega) (by omega))
  have HM2 := Lib.hid (fun w => s_rmul (S q.num.natAbs) (S p.den) q.num.natAbs p.den w (s_num _) (s_num _) (by omega) (by omega))
  have HM3 := Lib.hid (fun w => s_rmul (S p.den) (S q.den) p.den q.den w (s_num _) (s_num _) (by omega) (by omega))
  have HC := Lib.hid (fun w => s_rcmp (S (p.num.natAbs * q.den)) (S (q.num.natAbs * p.den)) (p.num.natAbs * q.den) (q.num.natAbs * p.den) w (s_num _) (s_num _) zx zy)
  rw [cmpN_lt hle] at HC
  have HA := Lib.hid (fun w => s_rsub (S (q.num.natAbs * p.den)) (S (p.num.natAbs * q.den)) (q.num.natAbs * p.den) (p.num.natAbs * q.den) w (s_num _) (s_num _) zy zx (Nat.le_of_lt hle))
  have HL := Lib.hid (fun w => rlow_any (decide (q.num < 0)) (q.num.natAbs * p.den - p.num.natAbs * q.den) (p.den * q.den) w d0 (lt_le256 (Nat.lt_of_le_of_lt (Nat.sub_le _ _) byy) (by decide)) bd)
  rw [show sg (decide (q.num < 0)) (q.num.natAbs * p.den - p.num.natAbs * q.den) = sg (decide (p.num < 0)) (p.num.natAbs * q.den) + sg (decide (q.num < 0)) (q.num.natAbs * p.den) from by
    rw [show decide (p.num < 0) = !decide (q.num < 0) from by revert hs; cases decide (p.num < 0) <;> cases decide (q.num < 0) <;> simp]
    unfold sg; cases decide (q.num < 0) <;> simp <;> omega, hadd] at HL
  generalize S (q.num.natAbs * p.den - p.num.natAbs * q.den) = sm at *
  clear b1 b2 b3 b4 h100 z1 z2 z3 z4 hk hp hq bx byy bd d0 zx zy hadd hle
  unfold RV RW at *
  generalize S (p + q).num.natAbs = zs at *
  generalize S (p + q).den = zd at *
  generalize decide ((p + q).num < 0) = c at *
  generalize S (p.num.natAbs * q.den) = m1 at *
  generalize S (q.num.natAbs * p.den) = m2 at *
  generalize S (p.den * q.den) = m3 at *
  generalize decide (p.num < 0) = a at *
  generalize decide (q.num < 0) = b at *
  generalize S p.num.natAbs = pn at *
  generalize S p.den = pd at *
  generalize S q.num.natAbs = qn at *
  generalize S q.den = qd at *
  have hs2 : (a == b) = false := by revert hs; cases a <;> cases b <;> simp
  have n01 : w.heap.size ≠ w.heap.size + 1 := by omega
  have n10 : w.heap.size + 1 ≠ w.heap.size := by omega
  have n02 : w.heap.size ≠ w.heap.size + 1 + 1 := by omega
  have n20 : w.heap.size + 1 + 1 ≠ w.heap.size := by omega
  have n12 : w.heap.size + 1 ≠ w.heap.size + 1 + 1 := by omega
  have n21 : w.heap.size + 1 + 1 ≠ w.heap.size + 1 := by omega
  have hA0 := ((Three.new w (.bool a) (.string pn) (.string pd) 49).alloc (.cells #[.bool b, .string qn, .string qd] 49)).alloc (.cells #[.bool false, .string ⟨#[]⟩, .string ⟨#[]⟩] 49)
  have hB0 := (Three.new1 w (.cells #[.bool a, .string pn, .string pd] 49) (.bool b) (.string qn) (.string qd) 49).alloc (.cells #[.bool false, .string ⟨#[]⟩, .string ⟨#[]⟩] 49)
  have hC0 := Three.new2 w (.cells #[.bool a, .string pn, .string pd] 49) (.cells #[.bool b, .string qn, .string qd] 49) (.bool false) (.string ⟨#[]⟩) (.string ⟨#[]⟩) 49
  go_enter Tryz.func42, Tryz.ntmps42
  go_wp2_with fail
  refine (HV1.out _).mono ?_
  rintro e v1 ⟨rfl, g1⟩
  have hAv1 := hA0.kept g1
  have hBv1 := hB0.kept g1
  have hCv1 := hC0.kept g1
  have Gv1 := Lib.hid (gr_three g1)
  clear g1 hA0 hB0 hC0
  have a0v1 := hAv1.c0
  have a1v1 := hAv1.c1
  have a2v1 := hAv1.c2
  have fa0v1 := hAv1.fr 0
  have fa1v1 := hAv1.fr 1
  have fa2v1 := hAv1.fr 2
  have b0v1 := hBv1.c0
  have b1v1 := hBv1.c1
  have b2v1 := hBv1.c2
  go_wp2_with fail
  refine (HV2.out _).mono ?_
  rintro e v2 ⟨rfl, g2⟩
  have hAv2 := (hAv1.all (.bool a) (.string pn) (.string pd)).kept g2
  have hBv2 := (hBv1.oth3 n10 (.bool a) (.string pn) (.string pd)).kept g2
  have hCv2 := (hCv1.oth3 n20 (.bool a) (.string pn) (.string pd)).kept g2
  have Gv2 := Lib.hid (gr_then (gr_set3 Gv1.out (Nat.le_refl _) (.bool a) (.string pn) (.string pd)) g2)
  clear g2 Gv1 hAv1 hBv1 hCv1 a0v1 a1v1 a2v1 fa0v1 fa1v1 fa2v1 b0v1 b1v1 b2v1
  have hAv3 := hAv2.oth3 n01 (.bool b) (.string qn) (.string qd)
  have hBv3 := hBv2.all (.bool b) (.string qn) (.string qd)
  have hCv3 := hCv2.oth3 n21 (.bool b) (.string qn) (.string qd)
  have Gv3 := gr_set3 Gv2.out (Nat.le_succ _) (.bool b) (.string qn) (.string qd)
  have a0v2 := hAv2.c0
  have a1v2 := hAv2.c1
  have a2v2 := hAv2.c2
  have b0v2 := hBv2.c0
  have b1v2 := hBv2.c1
  have b2v2 := hBv2.c2
  have fb0v2 := hBv2.fr 0
  have fb1v2 := hBv2.fr 1
  have fb2v2 := hBv2.fr 2
  go_wp2_with fail
  refine (HM1.out _).mono ?_
  rintro e v4 ⟨rfl, gv4⟩
  have hAv4 := hAv3.kept gv4
  have hBv4 := hBv3.kept gv4
  have hCv4 := hCv3.kept gv4
  have Gv4 := gr_then Gv3 gv4
  clear hAv3 hBv3 hCv3 Gv3 gv4 a0v2 a1v2 a2v2 b0v2 b1v2 b2v2 fb0v2 fb1v2 fb2v2
  have a0v4 := hAv4.c0
  have a1v4 := hAv4.c1
  have a2v4 := hAv4.c2
  have b0v4 := hBv4.c0
  have b1v4 := hBv4.c1
  have b2v4 := hBv4.c2
  go_wp2_with fail
  refine (HM2.out _).mono ?_
  rintro e v5 ⟨rfl, gv5⟩
  have hAv5 := hAv4.kept gv5
  have hBv5 := hBv4.kept gv5
  have hCv5 := hCv4.kept gv5
  have Gv5 := gr_then Gv4 gv5
  clear hAv4 hBv4 hCv4 Gv4 gv5 a0v4 a1v4 a2v4 b0v4 b1v4 b2v4
  have a0v5 := hAv5.c0
  have a1v5 := hAv5.c1
  have a2v5 := hAv5.c2
  have b0v5 := hBv5.c0
  have b1v5 := hBv5.c1
  have b2v5 := hBv5.c2
  go_wp2_with fail
  refine (HM3.out _).mono ?_
  rintro e v6 ⟨rfl, gv6⟩
  have hAv6 := hAv5.kept gv6
  have hBv6 := hBv5.kept gv6
  have hCv6 := hCv5.kept gv6
  have Gv6 := gr_then Gv5 gv6
  clear hAv5 hBv5 hCv5 Gv5 gv6 a0v5 a1v5 a2v5 b0v5 b1v5 b2v5
  have a0v6 := hAv6.c0
  have a1v6 := hAv6.c1
  have a2v6 := hAv6.c2
  have b0v6 := hBv6.c0
  have b1v6 := hBv6.c1
  have b2v6 := hBv6.c2
  go_wp2_with fail
  refine (HC.out _).mono ?_
  rintro e v7 ⟨rfl, gv7⟩
  have hAv7 := hAv6.kept gv7
  have hBv7 := hBv6.kept gv7
  have hCv7 := hCv6.kept gv7
  have Gv7 := gr_then Gv6 gv7
  clear hAv6 hBv6 hCv6 Gv6 gv7 a0v6 a1v6 a2v6 b0v6 b1v6 b2v6
  have a0v7 := hAv7.c0
  have a1v7 := hAv7.c1
  have a2v7 := hAv7.c2
  have b0v7 := hBv7.c0
  have b1v7 := hBv7.c1
  have b2v7 := hBv7.c2
  go_wp2_with fail
  refine (HA.out _).mono ?_
  rintro e v8 ⟨rfl, gv8⟩
  have hAv8 := hAv7.kept gv8
  have hBv8 := hBv7.kept gv8
  have hCv8 := hCv7.kept gv8
  have Gv8 := gr_then Gv7 gv8
  clear hAv7 hBv7 hCv7 Gv7 gv8 a0v7 a1v7 a2v7 b0v7 b1v7 b2v7
  have a0v8 := hAv8.c0
  have a1v8 := hAv8.c1
  have a2v8 := hAv8.c2
  have b0v8 := hBv8.c0
  have b1v8 := hBv8.c1
  have b2v8 := hBv8.c2
  go_wp2_with fail
  refine (HL.out _).mono ?_
  rintro e v9 ⟨rfl, gv9⟩
  have hAv9 := hAv8.kept gv9
  have hBv9 := hBv8.kept gv9
  have hCv9 := hCv8.kept gv9
  have Gv9 := gr_then Gv8 gv9
  have k0 := hCv9.c0
  have k1 := hCv9.c1
  have k2 := hCv9.c2
  have f0 := hCv9.fr 0
  have f1 := hCv9.fr 1
  have f2 := hCv9.fr 2
  all_goals
    go_wp2
    exact bodyPost_ret (v := .agg #[.bool c, .string zs, .string zd]) (by simp [results, Tryz.results42, go_sem, k0, k1, k2]) rfl ⟨rfl, gr_set3 Gv9 (by omega) _ _ _⟩
theorem raddq_any (p q : Rat) (k : Nat) (w : World) (hp : Bd k p) (hq : Bd k q) (hk : k ≤ 99) : Gives 42 #[RV p, RV q] w (RV (p + q)) := by
  by_cases hs : decide (p.num < 0) = decide (q.num < 0)
  · exact raddq_same p q k w hs hp hq hk
  · rcases Nat.lt_or_ge (p.num.natAbs * q.den) (q.num.natAbs * p.den) with h | h
    · exact raddq_lt p q k w hs h hp hq hk
    · exact raddq_ge p q k w hs h hp hq hk
end Go.Proofs.YteajpefbmiiioaaGreatDoor
namespace Go.Proofs.YteajpefbmiiioaaGreatDoor
open Go.RowKit Mth Go.Lib

theorem zero_rv : RV 0 = .agg #[.bool false, .string ⟨#[]⟩, .string ⟨#[1]⟩] := by
  rw [← one_lit, ← s_zero]; rfl
/-- The zero value of the struct. -/
def Z0 : Value := .agg #[.bool false, .string ⟨#[]⟩, .string ⟨#[]⟩]
set_option maxHeartbeats 1000000 in
set_option maxRecDepth 100000 in
theorem rquoq_pos (p q : Rat) (k : Nat) (w : World) (h0 : q ≠ 0) (hp : Bd k p) (hq : Bd k q) (hk : k ≤ 99) : Gives 40 #[RV p, RV q] w (.tuple #[RV (p / q), .bool true]) := by
  have HV1 := Lib.hid (fun w => rvalue_rv p k w hp (by omega))
  have HV2 := Lib.hid (fun w => rvalue_rv q k w hq (by omega))
  have b1 := lt_le256 hp.1 (by omega : k ≤ 99)
  have b2 := lt_le256 hp.2 (by omega : k ≤ 99)
  have b3 := lt_le256 hq.1 (by omega : k ≤ 99)
  have b4 := lt_le256 hq.2 (by omega : k ≤ 99)
  have h100 : 99 ≤ 200 := by decide
  have z1 := s_size9 (lt_le256 b1 h100)
  have z2 := s_size9 (lt_le256 b2 h100)
  have z3 := s_size9 (lt_le256 b3 h100)
  have z4 := s_size9 (lt_le256 b4 h100)
  have hn : q.num.natAbs ≠ 0 := fun e => h0 (num_abs_zero.1 e)
  have HM1 := Lib.hid (fun w => s_rmul (S p.num.natAbs) (S q.den) _ _ w (s_num _) (s_num _) (by omega) (by omega))
  have HM2 := Lib.hid (fun w => s_rmul (S p.den) (S q.num.natAbs) _ _ w (s_num _) (s_num _) (by omega) (by omega))
  have HL := Lib.hid (fun w => rlow_any (decide (p.num < 0) != decide (q.num < 0)) (p.num.natAbs * q.den) (p.den * q.num.natAbs) w (Nat.mul_pos (Nat.pos_of_ne_zero p.den_nz) (Nat.pos_of_ne_zero hn)) (lt_le256 (lt_mul256 b1 b4) (by decide)) (lt_le256 (lt_mul256 b2 b3) (by decide)))
  rw [quo_mk p q h0] at HL
  have e1 := tl_ne hn
  have e2 := tl_emp hn
  clear b1 b2 b3 b4 h100 z1 z2 z3 z4 hk hp hq h0 hn
  unfold RV RW at *
  generalize S (p / q).num.natAbs = zs at *
  generalize S (p / q).den = zd at *
  generalize decide ((p / q).num < 0) = c at *
  generalize S (p.num.natAbs * q.den) = m1 at *
  generalize S (p.den * q.num.natAbs) = m2 at *
  generalize decide (p.num < 0) = a at *
  generalize decide (q.num < 0) = b at *
  generalize S p.num.natAbs = pn at *
  generalize S p.den = pd at *
  generalize S q.num.natAbs = qn at *
  generalize S q.den = qd at *
  have n01 : w.heap.size ≠ w.heap.size + 1 := by omega
  have n10 : w.heap.size + 1 ≠ w.heap.size := by omega
  have n02 : w.heap.size ≠ w.heap.size + 1 + 1 := by omega
  have n20 : w.heap.size + 1 + 1 ≠ w.heap.size := by omega
  have n12 : w.heap.size + 1 ≠ w.heap.size + 1 + 1 := by omega
  have n21 : w.heap.size + 1 + 1 ≠ w.heap.size + 1 := by omega
  have hA0 := ((Three.new w (.bool a) (.string pn) (.string pd) 49).alloc (.cells #[.bool b, .string qn, .string qd] 49)).alloc (.cells #[.bool false, .string ⟨#[]⟩, .string ⟨#[]⟩] 49)
  have hB0 := (Three.new1 w (.cells #[.bool a, .string pn, .string pd] 49) (.bool b) (.string qn) (.string qd) 49).alloc (.cells #[.bool false, .string ⟨#[]⟩, .string ⟨#[]⟩] 49)
  have hC0 := Three.new2 w (.cells #[.bool a, .string pn, .string pd] 49) (.cells #[.bool b, .string qn, .string qd] 49) (.bool false) (.string ⟨#[]⟩) (.string ⟨#[]⟩) 49
  go_enter Tryz.func40, Tryz.ntmps40
  go_wp2_with fail
  refine (HV1.out _).mono ?_
  rintro e v1 ⟨rfl, g1⟩
  have hAv1 := hA0.kept g1
  have hBv1 := hB0.kept g1
  have hCv1 := hC0.kept g1
  have Gv1 := Lib.hid (gr_three g1)
  clear g1 hA0 hB0 hC0
  have a0v1 := hAv1.c0
  have a1v1 := hAv1.c1
  have a2v1 := hAv1.c2
  have fa0v1 := hAv1.fr 0
  have fa1v1 := hAv1.fr 1
  have fa2v1 := hAv1.fr 2
  have b0v1 := hBv1.c0
  have b1v1 := hBv1.c1
  have b2v1 := hBv1.c2
  go_wp2_with fail
  refine (HV2.out _).mono ?_
  rintro e v2 ⟨rfl, g2⟩
  have hAv2 := (hAv1.all (.bool a) (.string pn) (.string pd)).kept g2
  have hBv2 := (hBv1.oth3 n10 (.bool a) (.string pn) (.string pd)).kept g2
  have hCv2 := (hCv1.oth3 n20 (.bool a) (.string pn) (.string pd)).kept g2
  have Gv2 := Lib.hid (gr_then (gr_set3 Gv1.out (Nat.le_refl _) (.bool a) (.string pn) (.string pd)) g2)
  clear g2 Gv1 hAv1 hBv1 hCv1 a0v1 a1v1 a2v1 fa0v1 fa1v1 fa2v1 b0v1 b1v1 b2v1
  have hAv3 := hAv2.oth3 n01 (.bool b) (.string qn) (.string qd)
  have hBv3 := hBv2.all (.bool b) (.string qn) (.string qd)
  have hCv3 := hCv2.oth3 n21 (.bool b) (.string qn) (.string qd)
  have Gv3 := gr_set3 Gv2.out (Nat.le_succ _) (.bool b) (.string qn) (.string qd)
  have a0v2 := hAv2.c0
  have a1v2 := hAv2.c1
  have a2v2 := hAv2.c2
  have b0v2 := hBv2.c0
  have b1v2 := hBv2.c1
  have b2v2 := hBv2.c2
  have fb0v2 := hBv2.fr 0
  have fb1v2 := hBv2.fr 1
  have fb2v2 := hBv2.fr 2
  go_wp2_with fail
  have hAv4 := hAv3.drew
  have hBv4 := hBv3.drew
  have hCv4 := hCv3.drew
  have Gv4 := gr_dr Gv3
  go_region_held3 (fun w' => w'.cell? ⟨w.heap.size, 0, none⟩ = some (.bool a) ∧ w'.cell? ⟨w.heap.size, 1, none⟩ = some (.string pn) ∧ w'.cell? ⟨w.heap.size, 2, none⟩ = some (.string pd) ∧ w'.cell? ⟨w.heap.size + 1, 0, none⟩ = some (.bool b) ∧ w'.cell? ⟨w.heap.size + 1, 1, none⟩ = some (.string qn) ∧ w'.cell? ⟨w.heap.size + 1, 2, none⟩ = some (.string qd)) (first | exact ⟨Three.c0 (by assumption), Three.c1 (by assumption), Three.c2 (by assumption), Three.c0 (by assumption), Three.c1 (by assumption), Three.c2 (by assumption)⟩ | go_keep)
    (first
      | (go_at_call_of 24 (Value.string pn); refine (HM1.out _).mono ?_; rintro e v5 ⟨rfl, gv5⟩; have hAv5 : Three v5 (w.heap.size) (.bool a) (.string pn) (.string pd) 49 := Three.kept (by assumption) gv5; have hBv5 : Three v5 (w.heap.size + 1) (.bool b) (.string qn) (.string qd) 49 := Three.kept (by assumption) gv5; have hCv5 : Three v5 (w.heap.size + 1 + 1) (.bool false) (.string ⟨#[]⟩) (.string ⟨#[]⟩) 49 := Three.kept (by assumption) gv5; have Gv5 : w.grownBy v5 none := gr_then (by assumption) gv5)
      | (go_at_call_of 24 (Value.string pd); refine (HM2.out _).mono ?_; rintro e v6 ⟨rfl, gv6⟩; have hAv6 : Three v6 (w.heap.size) (.bool a) (.string pn) (.string pd) 49 := Three.kept (by assumption) gv6; have hBv6 : Three v6 (w.heap.size + 1) (.bool b) (.string qn) (.string qd) 49 := Three.kept (by assumption) gv6; have hCv6 : Three v6 (w.heap.size + 1 + 1) (.bool false) (.string ⟨#[]⟩) (.string ⟨#[]⟩) 49 := Three.kept (by assumption) gv6; have Gv6 : w.grownBy v6 none := gr_then (by assumption) gv6)
      | (go_at_call 101; refine (HL.out _).mono ?_; rintro e v7 ⟨rfl, gv7⟩; have hAv7 : Three v7 (w.heap.size) (.bool a) (.string pn) (.string pd) 49 := Three.kept (by assumption) gv7; have hBv7 : Three v7 (w.heap.size + 1) (.bool b) (.string qn) (.string qd) 49 := Three.kept (by assumption) gv7; have hCv7 : Three v7 (w.heap.size + 1 + 1) (.bool false) (.string ⟨#[]⟩) (.string ⟨#[]⟩) 49 := Three.kept (by assumption) gv7; have Gv7 : w.grownBy v7 none := gr_then (by assumption) gv7; have k0 := hCv7.c0; have k1 := hCv7.c1; have k2 := hCv7.c2; have f0 := hCv7.fr 0; have f1 := hCv7.fr 1; have f2 := hCv7.fr 2))
  all_goals
    go_wp2
    exact bodyPost_ret (v := .tuple #[.agg #[.bool c, .string zs, .string zd], .bool true]) (by simp [results, Tryz.results40, go_sem, k0, k1, k2]) rfl ⟨rfl, gr_set3 Gv7 (by omega) _ _ _⟩
set_option maxHeartbeats 1000000 in
set_option maxRecDepth 100000 in
theorem rquoq_zero (p q : Rat) (k : Nat) (w : World) (h0 : q = 0) (hp : Bd k p) (hq : Bd k q) (hk : k ≤ 99) : Gives 40 #[RV p, RV q] w (.tuple #[Z0, .bool false]) := by
  have HV1 := Lib.hid (fun w => rvalue_rv p k w hp (by omega))
  have HV2 := Lib.hid (fun w => rvalue_rv q k w hq (by omega))
  have hn : q.num.natAbs = 0 := num_abs_zero.2 h0
  have e1 : (S q.num.natAbs).toList = [] := by rw [hn]; exact tl_zero
  have e2 : (S q.num.natAbs).toList.isEmpty = true := by rw [hn, tl_zero]; rfl
  unfold Z0
  clear hk hp hq h0 hn
  unfold RV RW at *
  generalize decide (p.num < 0) = a at *
  generalize decide (q.num < 0) = b at *
  generalize S p.num.natAbs = pn at *
  generalize S p.den = pd at *
  generalize S q.num.natAbs = qn at *
  generalize S q.den = qd at *
  have n01 : w.heap.size ≠ w.heap.size + 1 := by omega
  have n10 : w.heap.size + 1 ≠ w.heap.size := by omega
  have n02 : w.heap.size ≠ w.heap.size + 1 + 1 := by omega
  have n20 : w.heap.size + 1 + 1 ≠ w.heap.size := by omega
  have n12 : w.heap.size + 1 ≠ w.heap.size + 1 + 1 := by omega
  have n21 : w.heap.size + 1 + 1 ≠ w.heap.size + 1 := by omega
  have hA0 := ((Three.new w (.bool a) (.string pn) (.string pd) 49).alloc (.cells #[.bool b, .string qn, .string qd] 49)).alloc (.cells #[.bool false, .string ⟨#[]⟩, .string ⟨#[]⟩] 49)
  have hB0 := (Three.new1 w (.cells #[.bool a, .string pn, .string pd] 49) (.bool b) (.string qn) (.string qd) 49).alloc (.cells #[.bool false, .string ⟨#[]⟩, .string ⟨#[]⟩] 49)
  have hC0 := Three.new2 w (.cells #[.bool a, .string pn, .string pd] 49) (.cells #[.bool b, .string qn, .string qd] 49) (.bool false) (.string ⟨#[]⟩) (.string ⟨#[]⟩) 49
  go_enter Tryz.func40, Tryz.ntmps40
  go_wp2_with fail
  refine (HV1.out _).mono ?_
  rintro e v1 ⟨rfl, g1⟩
  have hAv1 := hA0.kept g1
  have hBv1 := hB0.kept g1
  have hCv1 := hC0.kept g1
  have Gv1 := Lib.hid (gr_three g1)
  clear g1 hA0 hB0 hC0
  have a0v1 := hAv1.c0
  have a1v1 := hAv1.c1
  have a2v1 := hAv1.c2
  have fa0v1 := hAv1.fr 0
  have fa1v1 := hAv1.fr 1
  have fa2v1 := hAv1.fr 2
  have b0v1 := hBv1.c0
  have b1v1 := hBv1.c1
  have b2v1 := hBv1.c2
  go_wp2_with fail
  refine (HV2.out _).mono ?_
  rintro e v2 ⟨rfl, g2⟩
  have hAv2 := (hAv1.all (.bool a) (.string pn) (.string pd)).kept g2
  have hBv2 := (hBv1.oth3 n10 (.bool a) (.string pn) (.string pd)).kept g2
  have hCv2 := (hCv1.oth3 n20 (.bool a) (.string pn) (.string pd)).kept g2
  have Gv2 := Lib.hid (gr_then (gr_set3 Gv1.out (Nat.le_refl _) (.bool a) (.string pn) (.string pd)) g2)
  clear g2 Gv1 hAv1 hBv1 hCv1 a0v1 a1v1 a2v1 fa0v1 fa1v1 fa2v1 b0v1 b1v1 b2v1
  have hAv3 := hAv2.oth3 n01 (.bool b) (.string qn) (.string qd)
  have hBv3 := hBv2.all (.bool b) (.string qn) (.string qd)
  have hCv3 := hCv2.oth3 n21 (.bool b) (.string qn) (.string qd)
  have Gv3 := gr_set3 Gv2.out (Nat.le_succ _) (.bool b) (.string qn) (.string qd)
  have a0v2 := hAv2.c0
  have a1v2 := hAv2.c1
  have a2v2 := hAv2.c2
  have b0v2 := hBv2.c0
  have b1v2 := hBv2.c1
  have b2v2 := hBv2.c2
  have fb0v2 := hBv2.fr 0
  have fb1v2 := hBv2.fr 1
  have fb2v2 := hBv2.fr 2
  have ic0 := hCv3.c0
  have ic1 := hCv3.c1
  have ic2 := hCv3.c2
  have ifc0 := hCv3.fr 0
  have ifc1 := hCv3.fr 1
  have ifc2 := hCv3.fr 2
  have jc0 := hCv2.c0
  have jc1 := hCv2.c1
  have jc2 := hCv2.c2
  have jfc0 := hCv2.fr 0
  have jfc1 := hCv2.fr 1
  have jfc2 := hCv2.fr 2
  go_wp2
  exact bodyPost_ret (v := .tuple #[.agg #[.bool false, .string ⟨#[]⟩, .string ⟨#[]⟩], .bool false]) (by simp [results, Tryz.results40, go_sem, jc0, jc1, jc2]) rfl ⟨rfl, gr_set3 Gv3 (by omega) _ _ _⟩
end Go.Proofs.YteajpefbmiiioaaGreatDoor
namespace Go.Proofs.YteajpefbmiiioaaGreatDoor
open Go.RowKit Mth Go.Lib

set_option maxHeartbeats 1000000 in
set_option maxRecDepth 100000 in
theorem rsubq_any (p q : Rat) (k : Nat) (w : World) (hp : Bd k p) (hq : Bd k q) (hk : k ≤ 99) : Gives 44 #[RV p, RV q] w (RV (p - q)) := by
  have HN := Lib.hid (fun w => rnegq_any q k w hq (by omega))
  have HS := Lib.hid (fun w => raddq_any p (-q) k w hp (bd_neg hq) hk)
  rw [show p + -q = p - q from (Rat.sub_eq_add_neg p q).symm] at HS
  obtain ⟨nb, nx, ny, hn⟩ : ∃ x y z, RV (-q) = .agg #[.bool x, .string y, .string z] := ⟨_, _, _, rfl⟩
  rw [hn] at HN HS
  clear hn hp hq hk
  unfold RV RW at *
  generalize S (p - q).num.natAbs = zs at *
  generalize S (p - q).den = zd at *
  generalize decide ((p - q).num < 0) = c at *
  generalize decide (p.num < 0) = a at *
  generalize decide (q.num < 0) = b at *
  generalize S p.num.natAbs = pn at *
  generalize S p.den = pd at *
  generalize S q.num.natAbs = qn at *
  generalize S q.den = qd at *
  have hA0 := (((Three.new w (.bool a) (.string pn) (.string pd) 49).alloc (.cells #[.bool b, .string qn, .string qd] 49)).alloc (.cells #[.bool false, .string ⟨#[]⟩, .string ⟨#[]⟩] 49)).drew
  have hB0 := ((Three.new1 w (.cells #[.bool a, .string pn, .string pd] 49) (.bool b) (.string qn) (.string qd) 49).alloc (.cells #[.bool false, .string ⟨#[]⟩, .string ⟨#[]⟩] 49)).drew
  have hC0 := (Three.new2 w (.cells #[.bool a, .string pn, .string pd] 49) (.cells #[.bool b, .string qn, .string qd] 49) (.bool false) (.string ⟨#[]⟩) (.string ⟨#[]⟩) 49).drew
  have G0 : w.grownBy ((((w.alloc (.cells #[.bool a, .string pn, .string pd] 49)).alloc (.cells #[.bool b, .string qn, .string qd] 49)).alloc (.cells #[.bool false, .string ⟨#[]⟩, .string ⟨#[]⟩] 49)).drew) none := gr_dr (gr_al (gr_al (gr_al (gr_rfl _))))
  have n01 : w.heap.size ≠ w.heap.size + 1 := by omega
  have n10 : w.heap.size + 1 ≠ w.heap.size := by omega
  have n02 : w.heap.size ≠ w.heap.size + 1 + 1 := by omega
  have n20 : w.heap.size + 1 + 1 ≠ w.heap.size := by omega
  have n12 : w.heap.size + 1 ≠ w.heap.size + 1 + 1 := by omega
  have n21 : w.heap.size + 1 + 1 ≠ w.heap.size + 1 := by omega
  go_enter Tryz.func44, Tryz.ntmps44
  go_wp2_with fail
  go_region_held3 (fun w' => w'.cell? ⟨w.heap.size, 0, none⟩ = some (.bool a) ∧ w'.cell? ⟨w.heap.size, 1, none⟩ = some (.string pn) ∧ w'.cell? ⟨w.heap.size, 2, none⟩ = some (.string pd) ∧ w'.cell? ⟨w.heap.size + 1, 0, none⟩ = some (.bool b) ∧ w'.cell? ⟨w.heap.size + 1, 1, none⟩ = some (.string qn) ∧ w'.cell? ⟨w.heap.size + 1, 2, none⟩ = some (.string qd)) (first | exact ⟨Three.c0 (by assumption), Three.c1 (by assumption), Three.c2 (by assumption), Three.c0 (by assumption), Three.c1 (by assumption), Three.c2 (by assumption)⟩ | go_keep)
    (first
      | (go_at_call_of 52 ((Value.agg #[Value.bool b, Value.string qn, Value.string qd])); refine (HN.out _).mono ?_; rintro e v1 ⟨rfl, gv1⟩; have hAv1 : Three v1 (w.heap.size) (.bool a) (.string pn) (.string pd) 49 := Three.kept (by assumption) gv1; have hBv1 : Three v1 (w.heap.size + 1) (.bool b) (.string qn) (.string qd) 49 := Three.kept (by assumption) gv1; have hCv1 : Three v1 (w.heap.size + 1 + 1) (.bool false) (.string ⟨#[]⟩) (.string ⟨#[]⟩) 49 := Three.kept (by assumption) gv1; have Gv1 : w.grownBy v1 none := gr_then (by assumption) gv1)
      | (go_at_call_of 42 ((Value.agg #[Value.bool a, Value.string pn, Value.string pd])); refine (HS.out _).mono ?_; rintro e v2 ⟨rfl, gv2⟩; have hAv2 : Three v2 (w.heap.size) (.bool a) (.string pn) (.string pd) 49 := Three.kept (by assumption) gv2; have hBv2 : Three v2 (w.heap.size + 1) (.bool b) (.string qn) (.string qd) 49 := Three.kept (by assumption) gv2; have hCv2 : Three v2 (w.heap.size + 1 + 1) (.bool false) (.string ⟨#[]⟩) (.string ⟨#[]⟩) 49 := Three.kept (by assumption) gv2; have Gv2 : w.grownBy v2 none := gr_then (by assumption) gv2; have k0 := hCv2.c0; have k1 := hCv2.c1; have k2 := hCv2.c2; have f0 := hCv2.fr 0; have f1 := hCv2.fr 1; have f2 := hCv2.fr 2))
  all_goals
    go_wp2
    exact bodyPost_ret (v := .agg #[.bool c, .string zs, .string zd]) (by simp [results, Tryz.results44, go_sem, k0, k1, k2]) rfl ⟨rfl, gr_set3 Gv2 (by omega) _ _ _⟩
theorem bd_sub {j k : Nat} {p q : Rat} (hp : Bd j p) (hq : Bd k q) : Bd (j + k + 1) (p - q) := by
  rw [Rat.sub_eq_add_neg]; exact bd_add hp (bd_neg hq)
theorem rcmpq_any (p q : Rat) (k : Nat) (w : World) (hp : Bd k p) (hq : Bd k q) (hk : k ≤ 99) : Gives 48 #[RV p, RV q] w (.int .i64 (cmpQ p q)) := by
  have HS := Lib.hid (fun w => rsubq_any p q k w hp hq hk)
  have HN := Lib.hid (fun w => rsignq_any (p - q) (k + k + 1) w (bd_sub hp hq) (by omega))
  rw [show sgnQ (p - q) = cmpQ p q from rfl] at HN
  clear hp hq hk
  generalize cmpQ p q = z at *
  unfold RV RW at *
  generalize S (p - q).num.natAbs = zs at *
  generalize S (p - q).den = zd at *
  generalize decide ((p - q).num < 0) = c at *
  generalize decide (p.num < 0) = a at *
  generalize decide (q.num < 0) = b at *
  generalize S p.num.natAbs = pn at *
  generalize S p.den = pd at *
  generalize S q.num.natAbs = qn at *
  generalize S q.den = qd at *
  go_enter Tryz.func48, Tryz.ntmps48
  go_wp2_with fail
  refine (HS.out _).mono ?_
  rintro e v1 ⟨rfl, g1⟩
  go_wp2_with fail
  refine (HN.out _).mono ?_
  rintro e v2 ⟨rfl, g2⟩
  go_wp2
  go_ret
  exact ⟨rfl, gr_then (gr_two g1) g2⟩
theorem rmodq_any (a m : Int) (w : World) (h0 : 1 ≤ m) (h1 : m ≤ 4611686018427387904) (_ : -9223372036854775808 ≤ a) (_ : a ≤ 9223372036854775807) :
    Calls Tryz.prog 55 #[.int .i64 a, .int .i64 m] w fun e w' => e = .returned (.int .i64 (a % m)) ∧ w = w' := by
  have h2 : (m == 0) = false := by rw [beq_eq_false_iff_ne]; omega
  have hm : ¬ m = 0 := by omega
  have l1 : -m < a.tmod m := Int.lt_tmod_of_pos a (by omega)
  have l2 : a.tmod m < m := Int.tmod_lt_of_pos a (by omega)
  have u1 : wrap64 (a.tmod m) = a.tmod m := by unfold wrap64; omega
  have u2 : wrap64 (a.tmod m + m) = a.tmod m + m := by unfold wrap64; omega
  have hr : a % m = if a.tmod m < 0 then a.tmod m + m else a.tmod m := by
    have q1 : a.tmod m = a - m * a.tdiv m := by have := Int.tmod_add_mul_tdiv a m; omega
    split
    · have e : a % m = (a.tmod m + m) % m := by rw [q1, show a - m * a.tdiv m + m = a + m * (1 - a.tdiv m) from by rw [Int.mul_sub]; omega, Int.add_mul_emod_self_left]
      rw [e, Int.emod_eq_of_lt (by omega) (by omega)]
    · have e : a % m = a.tmod m % m := by rw [q1, show a - m * a.tdiv m = a + m * (- a.tdiv m) from by rw [Int.mul_neg]; omega, Int.add_mul_emod_self_left]
      rw [e, Int.emod_eq_of_lt (by omega) (by omega)]
  rw [hr]
  clear hr
  by_cases hn : a.tmod m < 0
  · rw [if_pos hn]
    go_enter Tryz.func55, Tryz.ntmps55
    go_wp2
    go_ret
    exact ⟨rfl, rfl⟩
  · rw [if_neg hn]
    go_enter Tryz.func55, Tryz.ntmps55
    go_wp2
    go_ret
    exact ⟨rfl, rfl⟩
end Go.Proofs.YteajpefbmiiioaaGreatDoor
namespace Go.Proofs.YteajpefbmiiioaaGreatDoor
open Go.RowKit Mth Go.Lib

section
variable (s x y z : ByteArray) (neg : Bool) (n d : Nat) (w : World)
set_option maxRecDepth 100000 in
theorem parse_frac_no (hP : ∀ w, Gives 121 #[.string s, .string ⟨#[45]⟩] w (.tuple #[.string x, .bool neg])) (hC : ∀ w, Gives 122 #[.string x, .string ⟨#[47]⟩] w (.tuple #[.string y, .string z, .bool true])) (hn : ∀ w, Gives 33 #[.string y] w (.tuple #[.string (S n), .bool true])) (hd : ∀ w, Gives 33 #[.string z] w (.tuple #[.string (S d), .bool true])) (h1 : d ≠ 1) (hR : ∀ w, Gives 58 #[RW neg n d] w (.bool false)) :
    Gives 66 #[.string s] w (.tuple #[.agg #[.bool false, .string ⟨#[]⟩, .string ⟨#[]⟩], .bool false]) := by
  have HP := Lib.hid hP
  have HC := Lib.hid hC
  have Hn := Lib.hid hn
  have Hd := Lib.hid hd
  have HR := Lib.hid hR
  have e1 := tl_one h1
  unfold RW at HR
  generalize S n = sn at *
  generalize S d = sd at *
  clear hP hC hn hd hR h1
  have hT0 := Three.new w (.bool false) (.string ⟨#[]⟩) (.string ⟨#[]⟩) 49
  go_enter Tryz.func66, Tryz.ntmps66
  go_wp2_with fail
  refine (HP.out _).mono ?_
  rintro e w1 ⟨rfl, g1⟩
  have hT1 := hT0.kept g1
  have G1 := Lib.hid (gr_one g1)
  clear g1 hT0
  go_wp2_with fail
  refine (HC.out _).mono ?_
  rintro e w2 ⟨rfl, g1⟩
  have hT2 := hT1.kept g1
  have G2 := Lib.hid (gr_then G1.out g1)
  clear g1 hT1 G1
  go_wp2_with fail
  refine (Hn.out _).mono ?_
  rintro e w3 ⟨rfl, g1⟩
  have hT3 := hT2.kept g1
  have G3 := Lib.hid (gr_then G2.out g1)
  clear g1 hT2 G2
  go_wp2_with fail
  refine (Hd.out _).mono ?_
  rintro e w4 ⟨rfl, g1⟩
  have hT4 := hT3.kept g1
  have G4 := Lib.hid (gr_then G3.out g1)
  clear g1 hT3 G3
  go_wp2_with fail
  refine (HR.out _).mono ?_
  rintro e w5 ⟨rfl, g1⟩
  have hT := (hT4.alloc (.cells #[.bool neg, .string sn, .string sd] 49)).kept g1
  have G := Lib.hid (gr_then (gr_then G4.out (gr_alloc w4 (.cells #[.bool neg, .string sn, .string sd] 49) none)) g1)
  clear g1 hT4 G4
  have f0 := hT.fr 0
  have f1 := hT.fr 1
  have f2 := hT.fr 2
  have c0 := hT.c0
  have c1 := hT.c1
  have c2 := hT.c2
  go_wp2
  exact bodyPost_ret (v := .tuple #[.agg #[.bool false, .string ⟨#[]⟩, .string ⟨#[]⟩], .bool false]) (by simp [results, Tryz.results66, go_sem, c0, c1, c2]) rfl ⟨rfl, gr_setn (gr_setn (gr_setn G.out (Nat.le_refl _)) (Nat.le_refl _)) (Nat.le_refl _)⟩
set_option maxRecDepth 100000 in
theorem parse_frac_one (hP : ∀ w, Gives 121 #[.string s, .string ⟨#[45]⟩] w (.tuple #[.string x, .bool neg])) (hC : ∀ w, Gives 122 #[.string x, .string ⟨#[47]⟩] w (.tuple #[.string y, .string z, .bool true])) (hn : ∀ w, Gives 33 #[.string y] w (.tuple #[.string (S n), .bool true])) (hd : ∀ w, Gives 33 #[.string z] w (.tuple #[.string (S 1), .bool true])) :
    Gives 66 #[.string s] w (.tuple #[.agg #[.bool false, .string ⟨#[]⟩, .string ⟨#[]⟩], .bool false]) := by
  have HP := Lib.hid hP
  have HC := Lib.hid hC
  have Hn := Lib.hid hn
  rw [one_lit] at hd
  have Hd := Lib.hid hd
  generalize S n = sn at *
  clear hP hC hn hd
  have hT0 := Three.new w (.bool false) (.string ⟨#[]⟩) (.string ⟨#[]⟩) 49
  go_enter Tryz.func66, Tryz.ntmps66
  go_wp2_with fail
  refine (HP.out _).mono ?_
  rintro e w1 ⟨rfl, g1⟩
  have hT1 := hT0.kept g1
  have G1 := Lib.hid (gr_one g1)
  clear g1 hT0
  go_wp2_with fail
  refine (HC.out _).mono ?_
  rintro e w2 ⟨rfl, g1⟩
  have hT2 := hT1.kept g1
  have G2 := Lib.hid (gr_then G1.out g1)
  clear g1 hT1 G1
  go_wp2_with fail
  refine (Hn.out _).mono ?_
  rintro e w3 ⟨rfl, g1⟩
  have hT3 := hT2.kept g1
  have G3 := Lib.hid (gr_then G2.out g1)
  clear g1 hT2 G2
  go_wp2_with fail
  refine (Hd.out _).mono ?_
  rintro e w4 ⟨rfl, g1⟩
  have hT := hT3.kept g1
  have G := Lib.hid (gr_then G3.out g1)
  clear g1 hT3 G3
  have f0 := hT.fr 0
  have f1 := hT.fr 1
  have f2 := hT.fr 2
  have c0 := hT.c0
  have c1 := hT.c1
  have c2 := hT.c2
  go_wp2
  exact bodyPost_ret (v := .tuple #[.agg #[.bool false, .string ⟨#[]⟩, .string ⟨#[]⟩], .bool false]) (by simp [results, Tryz.results66, go_sem, c0, c1, c2]) rfl ⟨rfl, gr_setn (gr_setn (gr_setn G.out (Nat.le_refl _)) (Nat.le_refl _)) (Nat.le_refl _)⟩
set_option maxRecDepth 100000 in
theorem parse_whole_no (hP : ∀ w, Gives 121 #[.string s, .string ⟨#[45]⟩] w (.tuple #[.string x, .bool neg])) (hC : ∀ w, Gives 122 #[.string x, .string ⟨#[47]⟩] w (.tuple #[.string y, .string z, .bool false])) (hn : ∀ w, Gives 33 #[.string y] w (.tuple #[.string (S n), .bool true])) (hR : ∀ w, Gives 58 #[RW neg n 1] w (.bool false)) :
    Gives 66 #[.string s] w (.tuple #[.agg #[.bool false, .string ⟨#[]⟩, .string ⟨#[]⟩], .bool false]) := by
  unfold RW at hR
  rw [one_lit] at hR
  have HP := Lib.hid hP
  have HC := Lib.hid hC
  have Hn := Lib.hid hn
  have HR := Lib.hid hR
  generalize S n = sn at *
  clear hP hC hn hR
  have hT0 := Three.new w (.bool false) (.string ⟨#[]⟩) (.string ⟨#[]⟩) 49
  go_enter Tryz.func66, Tryz.ntmps66
  go_wp2_with fail
  refine (HP.out _).mono ?_
  rintro e w1 ⟨rfl, g1⟩
  have hT1 := hT0.kept g1
  have G1 := Lib.hid (gr_one g1)
  clear g1 hT0
  go_wp2_with fail
  refine (HC.out _).mono ?_
  rintro e w2 ⟨rfl, g1⟩
  have hT2 := hT1.kept g1
  have G2 := Lib.hid (gr_then G1.out g1)
  clear g1 hT1 G1
  go_wp2_with fail
  refine (Hn.out _).mono ?_
  rintro e w4 ⟨rfl, g1⟩
  have hT4 := hT2.kept g1
  have G4 := Lib.hid (gr_then G2.out g1)
  clear g1 hT2 G2
  go_wp2_with fail
  refine (HR.out _).mono ?_
  rintro e w5 ⟨rfl, g1⟩
  have hT := (hT4.alloc (.cells #[.bool neg, .string sn, .string ⟨#[1]⟩] 49)).kept g1
  have G := Lib.hid (gr_then (gr_then G4.out (gr_alloc w4 (.cells #[.bool neg, .string sn, .string ⟨#[1]⟩] 49) none)) g1)
  clear g1 hT4 G4
  have f0 := hT.fr 0
  have f1 := hT.fr 1
  have f2 := hT.fr 2
  have c0 := hT.c0
  have c1 := hT.c1
  have c2 := hT.c2
  go_wp2
  exact bodyPost_ret (v := .tuple #[.agg #[.bool false, .string ⟨#[]⟩, .string ⟨#[]⟩], .bool false]) (by simp [results, Tryz.results66, go_sem, c0, c1, c2]) rfl ⟨rfl, gr_setn (gr_setn (gr_setn G.out (Nat.le_refl _)) (Nat.le_refl _)) (Nat.le_refl _)⟩
end
theorem prefix_at (s x : ByteArray) (neg : Bool) (w : World) (h1 : (⟨(Lib.trimPrefix s.data.toList [45]).toArray⟩ : ByteArray) = x) (h2 : Lib.hasPrefix s.data.toList [45] = neg) : Gives 121 #[.string s, .string ⟨#[45]⟩] w (.tuple #[.string x, .bool neg]) := by
  refine (Tryz.strings_CutPrefix s ⟨#[45]⟩ w).mono ?_
  rintro e w1 ⟨rfl, rfl⟩
  refine ⟨?_, gr_rfl _⟩
  rw [← h1, ← h2]
theorem parse_at (s : ByteArray) (n : Nat) (w : World) (hs : s.size ≤ 200) (h1 : isTxt s.data.toList = true) (h2 : dnum s.data.toList = n) : Gives 33 #[.string s] w (.tuple #[.string (S n), .bool true]) := by
  have h := s_parse s w hs
  unfold parsed at h
  rw [if_pos h1, h2] at h
  exact h
theorem cut_at (s x y : ByteArray) (i : Nat) (w : World) (h : Lib.indexByte s.data.toList 47 = (i : Int)) (hi : i < s.size) (hs : s.size ≤ 1000000) (hx : s.extract 0 i = x) (hy : s.extract (i + 1) s.size = y) : Gives 122 #[.string s, .string ⟨#[47]⟩] w (.tuple #[.string x, .string y, .bool true]) := by
  rw [← hx, ← hy]; exact cutq_yes s i w h hi hs
theorem ex_frac (w : World) : Gives 66 #[.string ⟨#[54, 47, 52]⟩] w (.tuple #[.agg #[.bool false, .string ⟨#[]⟩, .string ⟨#[]⟩], .bool false]) :=
  parse_frac_no _ ⟨#[54, 47, 52]⟩ ⟨#[54]⟩ ⟨#[52]⟩ false 6 4 w (fun w => prefix_at _ _ _ w (by rfl) (by rfl)) (fun w => cut_at _ _ _ 1 w (by decide) (by decide) (by decide) (by rfl) (by rfl)) (fun w => parse_at _ 6 w (by decide) (by decide +kernel) (by decide +kernel)) (fun w => parse_at _ 4 w (by decide) (by decide +kernel) (by decide +kernel)) (by decide)
    (fun w => rightq_no false 6 4 1 w (by decide) (by decide) (by decide) (by decide) (fun h => by
      have e := (rw_inj h).2.1
      exact absurd e (by decide +kernel)))
theorem ex_zero (w : World) : Gives 66 #[.string ⟨#[45, 48]⟩] w (.tuple #[.agg #[.bool false, .string ⟨#[]⟩, .string ⟨#[]⟩], .bool false]) :=
  parse_whole_no _ ⟨#[48]⟩ ⟨#[48]⟩ ⟨#[]⟩ true 0 w (fun w => prefix_at _ _ _ w (by rfl) (by rfl)) (fun w => cutq_no _ w (by decide)) (fun w => parse_at _ 0 w (by decide) (by decide +kernel) (by decide +kernel))
    (fun w => rightq_no true 0 1 1 w (by decide) (by decide) (by decide) (by decide) (fun h => by
      have e := (rw_inj h).1
      exact absurd e (by decide +kernel)))
theorem ex_one (w : World) : Gives 66 #[.string ⟨#[51, 47, 49]⟩] w (.tuple #[.agg #[.bool false, .string ⟨#[]⟩, .string ⟨#[]⟩], .bool false]) :=
  parse_frac_one _ ⟨#[51, 47, 49]⟩ ⟨#[51]⟩ ⟨#[49]⟩ false 3 w (fun w => prefix_at _ _ _ w (by rfl) (by rfl)) (fun w => cut_at _ _ _ 1 w (by decide) (by decide) (by decide) (by rfl) (by rfl)) (fun w => parse_at _ 3 w (by decide) (by decide +kernel) (by decide +kernel)) (fun w => parse_at _ 1 w (by decide) (by decide +kernel) (by decide +kernel))
end Go.Proofs.YteajpefbmiiioaaGreatDoor
