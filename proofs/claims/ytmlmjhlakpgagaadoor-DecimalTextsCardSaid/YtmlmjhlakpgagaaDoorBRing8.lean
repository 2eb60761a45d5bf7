/- Contracts of the program and of the reference, part 8: Dl, Di, Dj, Do, Ring. -/
import Derived.Test.YtmlmjhlakpgagaaDoorBRing7
import Derived.Deep.DeepCutAuto
import Derived.Deep.CutRange
namespace Go.Proofs.YtmlmjhlakpgagaaDoor
open Go.RowKit Mth Dm

theorem sub_plus {a b : Int × Nat} {nx ny ng : Bool} {X Y N mm : Nat} (hx : rep nx X = a.1) (hy : rep ny Y = b.1) (hp : Plus (rep nx (X * P10 (mm - a.2))) (rep (!ny) (Y * P10 (mm - b.2))) ng N) : rep ng N = a.1 * 10 ^ (mm - a.2) + -b.1 * 10 ^ (mm - b.2) := by
  rw [hp.val, rep_mul, rep_mul, rep_not, hx, hy, P10_int, P10_int]
theorem sub_fit {a b : Int × Nat} {nx ny ng : Bool} {X Y N mm : Nat} (hx : rep nx X = a.1) (hy : rep ny Y = b.1) (hmm : mm = max a.2 b.2) (hp : Plus (rep nx (X * P10 (mm - a.2))) (rep (!ny) (Y * P10 (mm - b.2))) ng N) : fitD (rep ng N) mm = subD a b := by
  rw [sub_plus hx hy hp]; unfold subD addD; dsimp only; rw [← hmm]
theorem sub_cmp {a b : Int × Nat} {nx ny ng : Bool} {X Y N mm : Nat} (ha : a.2 ≤ 6) (hb : b.2 ≤ 6) (hx : rep nx X = a.1) (hy : rep ny Y = b.1) (hmm : mm = max a.2 b.2) (hp : Plus (rep nx (X * P10 (mm - a.2))) (rep (!ny) (Y * P10 (mm - b.2))) ng N) : cmpD a b = if N = 0 then 0 else if ng then -1 else 1 := by
  have h := sub_plus hx hy hp
  have h1 := scale_V (a := a) (m := mm) (by omega) (by omega)
  have h2 := scale_V (a := b) (m := mm) (by omega) (by omega)
  rw [cmpD_V, cmpI_sub, h1, h2, ← Int.sub_mul, Int.sub_eq_add_neg, ← Int.neg_mul, ← h]
  have hp0 : (0 : Int) < 10 ^ (6 - mm) := Int.pow_pos (by decide)
  by_cases hN : N = 0
  · rw [if_pos hN, hN]; cases ng <;> simp [rep, cmpI]
  · rw [if_neg hN]
    have hN0 : (0 : Int) < (N : Int) := by omega
    have hm := Int.mul_pos hN0 hp0
    cases ng
    · simp only [rep, Bool.false_eq_true, if_false]; unfold cmpI; rw [if_neg (by omega), if_pos hm]
    · simp only [rep, if_true]; unfold cmpI; rw [if_pos (by rw [Int.neg_mul]; omega)]
set_option maxHeartbeats 2000000 in
set_option maxRecDepth 100000 in
theorem qsub_any (n s m t : Int) (w : World) : Gives 23 #[.agg #[.int .i64 n, .int .i64 s], .agg #[.int .i64 m, .int .i64 t]] w (dres (subD (valD n s) (valD m t))) := by
  obtain ⟨nx, X, sa, hA, hx, hsa, hX, ha6, _⟩ := big_case n s
  obtain ⟨ny, Y, sb, hB, hy, hsb, hY, hb6, _⟩ := big_case m t
  generalize valD n s = a at *
  generalize valD m t = b at *
  subst hsa hsb
  obtain ⟨mm, hmm⟩ : ∃ mm, mm = max a.2 b.2 := ⟨_, rfl⟩
  have hm6 : mm ≤ 6 := by omega
  have hpl := fun w => plus_any nx (!ny) X Y a.2 b.2 mm w (small90 hX) (small90 hY) hmm (by omega)
  have hfin := fun ng N (h : Hid (Plus (rep nx (X * P10 (mm - a.2))) (rep (!ny) (Y * P10 (mm - b.2))) ng N)) => sub_fit hx hy hmm h.out
  have HFIN := Lib.hid hfin
  have HA := Lib.hid hA
  have HB := Lib.hid hB
  have HPL := Lib.hid hpl
  have T0 := ((Two.new w (.int .i64 n) (.int .i64 s) 23).alloc (.cells #[.int .i64 m, .int .i64 t] 23)).alloc (.cells #[.int .i64 0, .int .i64 0] 23)
  have T2 := Two.new2 w (.cells #[.int .i64 n, .int .i64 s] 23) (.cells #[.int .i64 m, .int .i64 t] 23) (.int .i64 0) (.int .i64 0) 23
  clear hA hB hpl hfin hx hy hmm hX hY
  go_enter Tryd.func23, Tryd.ntmps23
  go_wp2_with fail
  refine (HB.out _).mono ?_
  rintro e w1 ⟨rfl, g1⟩
  have T0 := T0.kept g1
  have T2 := T2.kept g1
  have G := Lib.hid (gr_three g1)
  have l0 := T0.lt
  have l2 := T2.lt
  clear g1
  go_wp2_with fail
  have T3 := Three.new w1 (.bool (!ny)) (.string (S Y)) (.int .i64 (b.2 : Int)) 59
  have T0 := (T0.alloc (.cells #[.bool (!ny), .string (S Y), .int .i64 (b.2 : Int)] 59)).drew
  have T2 := (T2.alloc (.cells #[.bool (!ny), .string (S Y), .int .i64 (b.2 : Int)] 59)).drew
  have T3 := T3.drew
  have gg := gr_then (gr_then G.out (gr_alloc w1 (.cells #[.bool (!ny), .string (S Y), .int .i64 (b.2 : Int)] 59) none)) (gr_drew _ none)
  have c00 := T0.c0
  have c01 := T0.c1
  have c30 := T3.c0
  have c31 := T3.c1
  have c32 := T3.c2
  have hne1 : w.heap.size ≠ w.heap.size + 1 + 1 := by omega
  have hne2 : w.heap.size + 1 + 1 ≠ w.heap.size := by omega
  have hne3 : w1.heap.size ≠ w.heap.size + 1 + 1 := by omega
  have hne4 : w.heap.size + 1 + 1 ≠ w1.heap.size := by omega
  go_region_held3 (fun w' => w'.cell? ⟨w.heap.size, 0, none⟩ = some (.int .i64 n) ∧ w'.cell? ⟨w.heap.size, 1, none⟩ = some (.int .i64 s) ∧ w'.cell? ⟨w1.heap.size, 0, none⟩ = some (.bool (!ny)) ∧ w'.cell? ⟨w1.heap.size, 1, none⟩ = some (.string (S Y)) ∧ w'.cell? ⟨w1.heap.size, 2, none⟩ = some (.int .i64 (b.2 : Int))) (first | exact ⟨c00, c01, c30, c31, c32⟩ | go_keep)
    (first
    | (go_at_call 42; refine (HA.out _).mono ?_; rintro e wa ⟨rfl, ga⟩; have hA0 := Two.kept (b := w.heap.size) (x := .int .i64 n) (y := .int .i64 s) (by assumption) ga; have hA2 := Two.kept (b := w.heap.size + 1 + 1) (x := .int .i64 0) (y := .int .i64 0) (by assumption) ga; have hA3 := Three.kept (b := w1.heap.size) (x := .bool (!ny)) (y := .string (S Y)) (z := .int .i64 (b.2 : Int)) (by assumption) ga; have dA0 := hA0.c0; have dA1 := hA0.c1; have dA2 := hA3.c0; have dA3 := hA3.c1; have dA4 := hA3.c2; have gA := gr_then (a := w) (by assumption) ga)
    | (go_at_call 41; refine (HPL.out _).mono ?_; rintro e wc ⟨ng, N, rfl, HP, gc⟩; have hC0 := Two.kept (b := w.heap.size) (x := .int .i64 n) (y := .int .i64 s) (by assumption) gc; have hC2 := Two.kept (b := w.heap.size + 1 + 1) (x := .int .i64 0) (y := .int .i64 0) (by assumption) gc; have hC3 := Three.kept (b := w1.heap.size) (x := .bool (!ny)) (y := .string (S Y)) (z := .int .i64 (b.2 : Int)) (by assumption) gc; have dC0 := hC0.c0; have dC1 := hC0.c1; have dC2 := hC3.c0; have dC3 := hC3.c1; have dC4 := hC3.c2; have gC := gr_then (a := w) (by assumption) gc; have HN := Lib.hid HP.out.lt; have HE := Lib.hid (HFIN.out ng N HP))
    | (go_at_call 37; refine (fit_any ng N mm _ (lt100 HN.out) (by omega)).mono ?_; rintro e wd ⟨rfl, gd⟩; rw [HE.out]; unfold dres; have hD0 := Two.kept (b := w.heap.size) (x := .int .i64 n) (y := .int .i64 s) (by assumption) gd; have hD2 := Two.kept (b := w.heap.size + 1 + 1) (x := .int .i64 0) (y := .int .i64 0) (by assumption) gd; have hD3 := Three.kept (b := w1.heap.size) (x := .bool (!ny)) (y := .string (S Y)) (z := .int .i64 (b.2 : Int)) (by assumption) gd; have dD0 := hD0.c0; have dD1 := hD0.c1; have dD2 := hD3.c0; have dD3 := hD3.c1; have dD4 := hD3.c2; have gD := gr_then (a := w) (by assumption) gd; have e0 := hD2.c0; have e1 := hD2.c1; have f0 := hD2.fr 0; have f1 := hD2.fr 1))
  all_goals
    go_wp2
    exact bodyPost_ret (v := dres (subD a b)) (by simp [results, Tryd.results23, go_sem, e0, e1, dres]) rfl ⟨rfl, gr_setn (gr_setn gD (by omega)) (by omega)⟩
set_option maxHeartbeats 2000000 in
set_option maxRecDepth 100000 in
theorem qcmp_any (n s m t : Int) (w : World) : Gives 25 #[.agg #[.int .i64 n, .int .i64 s], .agg #[.int .i64 m, .int .i64 t]] w (.int .i64 (cmpD (valD n s) (valD m t))) := by
  obtain ⟨nx, X, sa, hA, hx, hsa, hX, ha6, _⟩ := big_case n s
  obtain ⟨ny, Y, sb, hB, hy, hsb, hY, hb6, _⟩ := big_case m t
  generalize valD n s = a at *
  generalize valD m t = b at *
  subst hsa hsb
  obtain ⟨mm, hmm⟩ : ∃ mm, mm = max a.2 b.2 := ⟨_, rfl⟩
  have hm6 : mm ≤ 6 := by omega
  have hpl := fun w => plus_any nx (!ny) X Y a.2 b.2 mm w (small90 hX) (small90 hY) hmm (by omega)
  have hfin := fun ng N (h : Hid (Plus (rep nx (X * P10 (mm - a.2))) (rep (!ny) (Y * P10 (mm - b.2))) ng N)) => sub_cmp ha6 hb6 hx hy hmm h.out
  have HFIN := Lib.hid hfin
  have HA := Lib.hid hA
  have HB := Lib.hid hB
  have HPL := Lib.hid hpl
  have T1 := Two.new1 w (.cells #[.int .i64 n, .int .i64 s] 23) (.int .i64 m) (.int .i64 t) 23
  clear hA hB hpl hfin hx hy hmm hX hY
  go_enter Tryd.func25, Tryd.ntmps25
  go_wp2_with fail
  refine (HA.out _).mono ?_
  rintro e w1 ⟨rfl, g1⟩
  have T1 := T1.kept g1
  have G := Lib.hid (gr_two g1)
  have T3 := Three.new w1 (.bool nx) (.string (S X)) (.int .i64 (a.2 : Int)) 59
  have l1 := T1.lt
  have c10 := T1.c0
  have c11 := T1.c1
  clear g1
  go_wp2_with fail
  refine (HB.out _).mono ?_
  rintro e w2 ⟨rfl, g2⟩
  have T3 := T3.kept g2
  have G := Lib.hid (gr_then (gr_then G.out (gr_alloc w1 (.cells #[.bool nx, .string (S X), .int .i64 (a.2 : Int)] 59) none)) g2)
  have l3 := T3.lt
  have c30 := T3.c0
  have c31 := T3.c1
  have c32 := T3.c2
  have hne : w1.heap.size ≠ w2.heap.size := by omega
  clear g2
  go_wp2_with fail
  refine (HPL.out _).mono ?_
  rintro e w3 ⟨ng, N, rfl, HP, g3⟩
  unfold bv
  have G := Lib.hid (gr_then (gr_then G.out (gr_alloc w2 (.cells #[.bool (!ny), .string (S Y), .int .i64 (b.2 : Int)] 59) none)) g3)
  have HE := Lib.hid (HFIN.out ng N HP)
  clear g3
  by_cases hN : N = 0
  · have hsz : ((S N).size : Int) = 0 := by rw [hN, s_zero]; rfl
    have hsb : (((S N).size : Int) == 0) = true := by rw [hN, s_zero]; rfl
    have HR := Lib.hid (show cmpD a b = 0 by rw [HE.out, if_pos hN])
    clear hN
    go_wp2
    go_ret
    exact ⟨by rw [HR.out]; rfl, gr_then G.out (gr_alloc _ _ none)⟩
  · have hsb : (((S N).size : Int) == 0) = false := by have := s_len_pos (n := N) (by omega); rw [beq_eq_false_iff_ne]; omega
    have hr := HE.out
    rw [if_neg hN] at hr
    clear hN
    cases ng
    · have HR := Lib.hid (show cmpD a b = 1 by rw [hr]; rfl)
      clear hr
      go_wp2
      go_ret
      exact ⟨by rw [HR.out]; rfl, gr_then G.out (gr_alloc _ _ none)⟩
    · have HR := Lib.hid (show cmpD a b = -1 by rw [hr]; rfl)
      clear hr
      go_wp2
      go_ret
      exact ⟨by rw [HR.out]; rfl, gr_then G.out (gr_alloc _ _ none)⟩
end Go.Proofs.YtmlmjhlakpgagaaDoor
namespace Go.Proofs.YtmlmjhlakpgagaaDoor
open Go.RowKit Mth Dm

theorem qmake_in (n : Int) (k : Nat) (w : World) (hk : k ≤ 18) (h1 : -9223372036854775808 ≤ n) (h2 : n ≤ 9223372036854775807) : Gives 14 #[.int .i64 n, .int .i64 k] w (dres (fitD n k)) := by
  have hna := fun w => natural_any n w h1 h2
  have hft := fun w => fit_any (decide (n < 0)) n.natAbs k w (Nat.lt_of_le_of_lt (show n.natAbs ≤ 9223372036854775808 by omega) (by decide +kernel)) (by omega)
  rw [big_rep] at hft
  have HNA := Lib.hid hna
  have HFT := Lib.hid hft
  clear hna hft
  go_enter Tryd.func14, Tryd.ntmps14
  go_wp2_with fail
  refine (HNA.out _).mono ?_
  rintro e w1 ⟨rfl, g1⟩
  go_wp2_with fail
  refine (HFT.out _).mono ?_
  rintro e w2 ⟨rfl, g2⟩
  have T := ((Two.new w (.int .i64 0) (.int .i64 0) 23).kept g1).kept g2
  have G := Lib.hid (gr_then (gr_then (gr_alloc w (.cells #[.int .i64 0, .int .i64 0] 23) none) g1) g2)
  have d0 := T.c0
  have d1 := T.c1
  have f0 := T.fr 0
  have f1 := T.fr 1
  clear g1 g2
  unfold dres
  go_wp2
  exact bodyPost_ret (v := dres (fitD n k)) (by simp [results, Tryd.results14, go_sem, d0, d1, dres]) rfl ⟨rfl, gr_setn (gr_setn G.out (by omega)) (by omega)⟩
theorem qmake_out (n k : Int) (w : World) (h : k < 0 ∨ 18 < k) : Gives 14 #[.int .i64 n, .int .i64 k] w (dres (0, 0, false)) := by
  rcases h with h | h
  · go_enter Tryd.func14, Tryd.ntmps14
    go_wp2
    exact bodyPost_ret (v := .tuple #[.agg #[.int .i64 0, .int .i64 0], .bool false]) (by simp [results, Tryd.results14, go_sem]) rfl ⟨rfl, gr_alloc _ _ _⟩
  · have h0 : ¬ k < 0 := by omega
    go_enter Tryd.func14, Tryd.ntmps14
    go_wp2
    exact bodyPost_ret (v := .tuple #[.agg #[.int .i64 0, .int .i64 0], .bool false]) (by simp [results, Tryd.results14, go_sem]) rfl ⟨rfl, gr_alloc _ _ _⟩
theorem qmake_any (n k : Int) (w : World) (h1 : -9223372036854775808 ≤ n) (h2 : n ≤ 9223372036854775807) : Gives 14 #[.int .i64 n, .int .i64 k] w (dres (makeD n k)) := by
  unfold makeD
  split
  · rename_i h
    obtain ⟨j, rfl⟩ := Int.eq_ofNat_of_zero_le h.1
    exact qmake_in n j w (by omega) h1 h2
  · exact qmake_out n k w (by omega)
theorem qof_any (n : Int) (w : World) (h1 : -9223372036854775808 ≤ n) (h2 : n ≤ 9223372036854775807) : Gives 17 #[.int .i64 n] w (dres (fitD n 0)) := by
  go_enter Tryd.func17, Tryd.ntmps17
  go_wp2_with fail
  refine (qmake_in n 0 _ (by decide) h1 h2).mono ?_
  rintro e w1 ⟨rfl, g1⟩
  have T := (Two.new w (.int .i64 0) (.int .i64 0) 23).kept g1
  have G := Lib.hid (gr_then (gr_alloc w (.cells #[.int .i64 0, .int .i64 0] 23) none) g1)
  have d0 := T.c0
  have d1 := T.c1
  have f0 := T.fr 0
  have f1 := T.fr 1
  clear g1
  unfold dres
  go_wp2
  exact bodyPost_ret (v := dres (fitD n 0)) (by simp [results, Tryd.results17, go_sem, d0, d1, dres]) rfl ⟨rfl, gr_setn (gr_setn G.out (by omega)) (by omega)⟩
end Go.Proofs.YtmlmjhlakpgagaaDoor
namespace Go.Proofs.YtmlmjhlakpgagaaDoor
open Go.RowKit Mth Dm

theorem modD_eq (n m : Int) : (n.tmod m + m) % m = n % m := by
  rw [Int.add_emod_right]
  have e := Int.mul_tdiv_add_tmod n m
  conv => rhs; rw [← e, Int.add_comm, Int.add_mul_emod_self_left]
set_option maxRecDepth 100000 in
set_option maxHeartbeats 1000000 in
theorem mod_any (n m : Int) (h : 0 < m) (h2 : m ≤ 1000000) (w : World) :
    Calls Tryd.prog 12 #[.int .i64 n, .int .i64 m] w fun e w' => e = .returned (.int .i64 (n % m)) ∧ w = w' := by
  rw [← modD_eq n m]
  have h0 : (m == 0) = false := by rw [beq_eq_false_iff_ne]; omega
  have hm : ¬ m = 0 := by omega
  have l1 : -m < n.tmod m := Int.lt_tmod_of_pos n h
  have l2 : n.tmod m < m := Int.tmod_lt_of_pos n h
  have l3 : 0 ≤ (n.tmod m + m) % m := Int.emod_nonneg _ (by omega)
  have l4 : (n.tmod m + m) % m < m := Int.emod_lt_of_pos _ h
  have u1 : wrap64 (n.tmod m) = n.tmod m := by unfold wrap64; omega
  have u2 : wrap64 (n.tmod m + m) = n.tmod m + m := by unfold wrap64; omega
  have u3 : wrap64 ((n.tmod m + m) % m) = (n.tmod m + m) % m := by unfold wrap64; omega
  go_enter Tryd.func12, Tryd.ntmps12
  go_wp2
  go_ret
  exact ⟨rfl, rfl⟩
/-- The right decimal of two numbers. -/
def madeD (n s : Int) : Int × Nat := ((fitD (n.tmod 1000000000000001) (s % 7).toNat).1, (fitD (n.tmod 1000000000000001) (s % 7).toNat).2.1)
theorem made_rt (n s : Int) : Dm.Rt (madeD n s) := rt_fit _ _
set_option maxRecDepth 100000 in
theorem made_any (n s : Int) (w : World) : Gives 19 #[.int .i64 n, .int .i64 s] w (.agg #[.int .i64 (madeD n s).1, .int .i64 ((madeD n s).2 : Nat)]) := by
  have l1 : -1000000000000001 < n.tmod 1000000000000001 := Int.lt_tmod_of_pos n (by decide)
  have l2 : n.tmod 1000000000000001 < 1000000000000001 := Int.tmod_lt_of_pos n (by decide)
  have hmk := fun w => qmake_in (n.tmod 1000000000000001) (s % 7).toNat w (by omega) (by omega) (by omega)
  rw [show (((s % 7).toNat : Nat) : Int) = s % 7 from by omega] at hmk
  have u1 : wrap64 (n.tmod 1000000000000001) = n.tmod 1000000000000001 := by unfold wrap64; omega
  unfold madeD
  generalize fitD (n.tmod 1000000000000001) (s % 7).toNat = r at *
  generalize hq : n.tmod 1000000000000001 = q at *
  have HMK := Lib.hid hmk
  clear hmk
  go_enter Tryd.func19, Tryd.ntmps19
  go_wp2_with fail
  refine (mod_any s 7 (by decide) (by decide) _).mono ?_
  rintro e w1 ⟨rfl, rfl⟩
  go_wp2_with fail
  refine (HMK.out _).mono ?_
  rintro e w2 ⟨rfl, g2⟩
  have T := (Two.new w (.int .i64 0) (.int .i64 0) 23).kept g2
  have G := Lib.hid (gr_then (gr_alloc w (.cells #[.int .i64 0, .int .i64 0] 23) none) g2)
  have d0 := T.c0
  have d1 := T.c1
  have f0 := T.fr 0
  have f1 := T.fr 1
  have lt := T.lt
  clear g2
  unfold dres
  go_wp2
  exact bodyPost_ret (v := .agg #[.int .i64 r.1, .int .i64 (r.2.1 : Nat)]) (by simp [results, Tryd.results19, go_sem, d0, d1, lt]) rfl ⟨rfl, gr_then (gr_setn (gr_setn G.out (by omega)) (by omega)) (gr_alloc _ _ none)⟩
end Go.Proofs.YtmlmjhlakpgagaaDoor
namespace Go.Proofs.YtmlmjhlakpgagaaDoor
namespace Dm

/-- What a sum leaves, where it fits. -/
theorem V_add {a b : Int × Nat} (ha : a.2 ≤ 6) (hb : b.2 ≤ 6) (h : (addD a b).2.2 = true) : V ((addD a b).1, (addD a b).2.1) = V a + V b := by
  rw [addD_V ha hb] at h ⊢
  have := V_fit (Nat.le_refl 6) h
  rwa [Nat.sub_self, Int.pow_zero, Int.mul_one] at this
theorem V_le {a : Int × Nat} (M : Int) (h0 : 0 ≤ M) (h1 : -M ≤ a.1) (h2 : a.1 ≤ M) : -(M * 1000000) ≤ V a ∧ V a ≤ M * 1000000 := by
  unfold V
  have hk : (10 : Int) ^ (6 - a.2) ≤ 1000000 := by
    have := pow10_le6 (k := 6 - a.2) (by omega)
    omega
  have hp : (0 : Int) < 10 ^ (6 - a.2) := Int.pow_pos (by decide)
  generalize (10 : Int) ^ (6 - a.2) = p at *
  generalize a.1 = n at *
  have e1 : n * p ≤ M * p := Int.mul_le_mul_of_nonneg_right h2 (by omega)
  have e2 : -M * p ≤ n * p := Int.mul_le_mul_of_nonneg_right h1 (by omega)
  have e3 : M * p ≤ M * 1000000 := Int.mul_le_mul_of_nonneg_left hk h0
  rw [Int.neg_mul] at e2
  omega
theorem fit_small {v : Int} {s : Nat} (M : Int) (h1 : -M ≤ v) (h2 : v ≤ M) (h0 : 0 ≤ M) : -M ≤ (fitD v s).1 ∧ (fitD v s).1 ≤ M := by
  unfold fitD
  split
  · have h4 := strip_val s v
    generalize (strip s v).1 = u at *
    try dsimp only
    have hp : (0 : Int) < 10 ^ (s - (strip s v).2) := Int.pow_pos (by decide)
    generalize (10 : Int) ^ (s - (strip s v).2) = p at *
    by_cases hu : 0 ≤ u
    · have : u * 1 ≤ u * p := Int.mul_le_mul_of_nonneg_left (by omega) hu
      omega
    · have : (-u) * 1 ≤ (-u) * p := Int.mul_le_mul_of_nonneg_left (by omega) (by omega)
      rw [Int.neg_mul, Int.neg_mul] at this
      omega
  · dsimp only; omega
/-- Three small decimals: what the sums are. -/
structure RingFacts (a b c : Int × Nat) : Prop where
  p : (addD a b).2.2 = true
  r : (addD b c).2.2 = true
  u : (addD ((addD a b).1, (addD a b).2.1) c).2.2 = true
  comm : addD b a = addD a b
  assoc : addD a ((addD b c).1, (addD b c).2.1) = addD ((addD a b).1, (addD a b).2.1) c
  back : subD ((addD a b).1, (addD a b).2.1) b = (a.1, a.2, true)
theorem ring_facts {a b c : Int × Nat} (ha : Rt a) (hb : Rt b) (hc : Rt c) (la : -1000000 ≤ a.1 ∧ a.1 ≤ 1000000) (lb : -1000000 ≤ b.1 ∧ b.1 ≤ 1000000) (lc : -1000000 ≤ c.1 ∧ c.1 ≤ 1000000) : RingFacts a b c := by
  have va := V_le 1000000 (by decide) la.1 la.2
  have vb := V_le 1000000 (by decide) lb.1 lb.2
  have vc := V_le 1000000 (by decide) lc.1 lc.2
  have hab : (addD a b).2.2 = true := by rw [addD_V ha.sc hb.sc]; exact fitD_six (by omega) (by omega)
  have hbc : (addD b c).2.2 = true := by rw [addD_V hb.sc hc.sc]; exact fitD_six (by omega) (by omega)
  have eab := V_add ha.sc hb.sc hab
  have ebc := V_add hb.sc hc.sc hbc
  have rab : Rt ((addD a b).1, (addD a b).2.1) := rt_fit _ _
  have rbc : Rt ((addD b c).1, (addD b c).2.1) := rt_fit _ _
  refine ⟨hab, hbc, ?_, addD_comm b a, ?_, ?_⟩
  · rw [addD_V rab.sc hc.sc, eab]; exact fitD_six (by omega) (by omega)
  · rw [addD_V ha.sc rbc.sc, addD_V rab.sc hc.sc, eab, ebc, Int.add_assoc]
  · rw [subD_V rab.sc hb.sc, eab, show V a + V b - V b = V a from by omega, fit_V ha]
/-- What DecimalOrder asks of comparisons. -/
structure OrderFacts (a b c : Int × Nat) : Prop where
  swap : cmpD b a = -cmpD a b
  zero : cmpD a b = 0 ↔ a = b
  lo : -1 ≤ cmpD a b
  hi : cmpD a b ≤ 1
  trans : cmpD a b ≤ 0 → cmpD b c ≤ 0 → cmpD a c ≤ 0
  add : (addD a c).2.2 = true → (addD b c).2.2 = true → cmpD ((addD a c).1, (addD a c).2.1) ((addD b c).1, (addD b c).2.1) = cmpD a b
theorem order_facts {a b c : Int × Nat} (ha : Rt a) (hb : Rt b) (hc : Rt c) : OrderFacts a b c := by
  refine ⟨?_, ?_, ?_, ?_, ?_, ?_⟩
  · rw [cmpD_V, cmpD_V]; exact cmpI_swap _ _
  · rw [cmpD_V, cmpI_eq]; exact ⟨V_inj ha hb, fun h => by rw [h]⟩
  · exact (cmpI_range _ _).1
  · exact (cmpI_range _ _).2
  · rw [cmpD_V, cmpD_V, cmpD_V, cmpI_le, cmpI_le, cmpI_le]; omega
  · intro h1 h2
    rw [cmpD_V, V_add ha.sc hc.sc h1, V_add hb.sc hc.sc h2, cmpI_add, cmpD_V]
theorem order_round {a b : Int × Nat} (ha : Rt a) (hb : Rt b) {k : Int} (h : 0 ≤ k ∧ k ≤ 6) : 0 ≤ cmpD ((roundD a k).1, (roundD a k).2.1) ((roundD b k).1, (roundD b k).2.1) * cmpD a b := by
  rw [cmpD_V, cmpD_V a b, V_round ha h, V_round hb h]
  have hp : 0 < 10 ^ (6 - k.toNat) := Nat.pow_pos (by decide)
  refine cmpI_mono (fun hl => ?_) (fun hl => ?_)
  · exact Int.mul_le_mul_of_nonneg_right (roundI_mono hp hl) (by omega)
  · exact Int.mul_le_mul_of_nonneg_right (roundI_mono hp hl) (by omega)
end Dm
end Go.Proofs.YtmlmjhlakpgagaaDoor
namespace Go.Proofs.YtmlmjhlakpgagaaDoor
open Go.RowKit Mth Dm

/-- Block b holds just these cells. -/
def Row (w : World) (b : Nat) (cs : List Value) (t : TypeId) : Prop := w.heap[b]? = some (.cells cs.toArray t (0, 0))
section
variable {w w1 : World} {b : Nat} {cs : List Value} {t : TypeId}
theorem Row.lt (h : Row w b cs t) : b < w.heap.size := (Array.getElem?_eq_some_iff.1 h).1
theorem Row.cell (h : Row w b cs t) (i : Nat) (v : Value) (hi : cs[i]? = some v) : w.cell? ⟨b, i, none⟩ = some v := by
  rw [cell_of_row w b i _ t (0, 0) h]; simpa using hi
theorem Row.fr (h : Row w b cs t) (i : Nat) : w.frozen? ⟨b, i, none⟩ = false := by
  simp only [World.frozen?]
  rw [show w.heap[b]? = some (.cells cs.toArray t (0, 0)) from h]
  simp
theorem Row.kept (h : Row w b cs t) (hg : w.grownBy w1 none) : Row w1 b cs t := by
  unfold Row at *; rw [hg.block b (Array.getElem?_eq_some_iff.1 h).1 (by simp)]; exact h
theorem Row.new (w : World) (cs : List Value) (t : TypeId) : Row (w.alloc (.cells cs.toArray t)) w.heap.size cs t := heap_alloc_new w _
theorem Row.alloc (h : Row w b cs t) (o : Obj) : Row (w.alloc o) b cs t := h.kept (gr_alloc w o none)
theorem Row.drew (h : Row w b cs t) : Row w.drew b cs t := h
theorem Row.set (h : Row w b cs t) (i : Nat) (v : Value) : Row (w.setCell ⟨b, i, none⟩ v) b (cs.set i v) t := by
  unfold Row at h ⊢
  rw [setCell_eq_setRow w b i _ t (0, 0) _ h, setRow_heap w b _ _ t (0, 0) h]
  simp
theorem Row.other {b' i : Nat} {v : Value} (h : Row w b cs t) (hne : b ≠ b') : Row (w.setCell ⟨b', i, none⟩ v) b cs t := by
  unfold Row at h ⊢
  rw [Below.heap_setCell _ _ _ _ hne]; exact h
end
/-- Six cells of numbers. -/
abbrev six (a0 a1 a2 a3 a4 a5 : Int) : List Value := [.int .i64 a0, .int .i64 a1, .int .i64 a2, .int .i64 a3, .int .i64 a4, .int .i64 a5]
/-- What the loop has filled. -/
def Fill (W : World) (b : Nat) (x y z : Int × Nat) (u : Value) (w : World) : Prop :=
  ((u = .int .i64 0 ∧ Row w b (six 0 0 0 0 0 0) 48) ∨ (u = .int .i64 1 ∧ Row w b (six x.1 x.2 0 0 0 0) 48) ∨ (u = .int .i64 2 ∧ Row w b (six x.1 x.2 y.1 y.2 0 0) 48) ∨ (u = .int .i64 3 ∧ Row w b (six x.1 x.2 y.1 y.2 z.1 z.2) 48)) ∧ W.grownBy w none
theorem made_small {m k : Int} (h1 : -1000000 < m) (h2 : m < 1000000) : -1000000 ≤ (madeD m k).1 ∧ (madeD m k).1 ≤ 1000000 := by
  have h := Int.natAbs_tmod m 1000000000000001
  have h3 := Nat.mod_le m.natAbs (1000000000000001 : Int).natAbs
  unfold madeD
  exact fit_small 1000000 (by omega) (by omega) (by decide)

theorem of_ok {r : Int × Nat × Bool} (h : r.2.2 = true) : r = (r.1, r.2.1, true) := Prod.ext rfl (Prod.ext rfl h)
theorem gives_of {f : FuncId} {args : Array Value} {w : World} {v v' : Value} (h : Gives f args w v) (e : v = v') : Gives f args w v' := e ▸ h
/-- A function of two decimals gives this at these. -/
abbrev G2 (f : FuncId) (n s m t : Int) (r : Int × Nat × Bool) : Prop := ∀ w, PrV w → Gives f #[.agg #[.int .i64 n, .int .i64 s], .agg #[.int .i64 m, .int .i64 t]] w (dres r)
theorem ring_case {n0 n1 n2 : Int} {s0 s1 s2 : Nat} (hR0 : Dm.Rt (n0, s0)) (hR1 : Dm.Rt (n1, s1)) (hR2 : Dm.Rt (n2, s2)) (hS0 : -1000000 ≤ n0 ∧ n0 ≤ 1000000) (hS1 : -1000000 ≤ n1 ∧ n1 ≤ 1000000) (hS2 : -1000000 ≤ n2 ∧ n2 ≤ 1000000) :
    ∃ (n3 : Int) (s3 : Nat) (n4 : Int) (s4 : Nat) (n5 : Int) (s5 : Nat) (b5 : Bool) (n6 : Int) (s6 : Nat) (b6 : Bool) (n7 : Int) (s7 : Nat) (n8 : Int) (s8 : Nat) (b8 : Bool) (n9 : Int) (s9 : Nat) (b9 : Bool),
      G2 20 n0 s0 n1 s1 (n3, s3, true) ∧ G2 20 n1 s1 n0 s0 (n3, s3, true) ∧ G2 20 n1 s1 n2 s2 (n4, s4, true)
      ∧ G2 20 n3 s3 n2 s2 (n7, s7, true) ∧ G2 20 n0 s0 n4 s4 (n7, s7, true) ∧ G2 22 n3 s3 n1 s1 (n0, s0, true)
      ∧ G2 26 n0 s0 n4 s4 (n8, s8, b8) ∧ G2 26 n0 s0 n1 s1 (n5, s5, b5) ∧ G2 26 n0 s0 n2 s2 (n6, s6, b6) ∧ G2 26 n1 s1 n0 s0 (n5, s5, b5)
      ∧ G2 20 n5 s5 n6 s6 (n9, s9, b9) ∧ (b8 = true → b5 = true → b6 = true → b9 = true → n8 = n9 ∧ s8 = s9) := by
  obtain ⟨hp, hr, hu, hcm, has, hbk⟩ := ring_facts hR0 hR1 hR2 hS0 hS1 hS2
  have hdi := distrib hR0 hR1 hR2 hr
  have hv0 := hR0.val
  have hv1 := hR1.val
  have hv2 := hR2.val
  have r3 : Rt ((addD (n0, s0) (n1, s1)).1, (addD (n0, s0) (n1, s1)).2.1) := rt_fit _ _
  have r4 : Rt ((addD (n1, s1) (n2, s2)).1, (addD (n1, s1) (n2, s2)).2.1) := rt_fit _ _
  have r5 : Rt ((mulD (n0, s0) (n1, s1)).1, (mulD (n0, s0) (n1, s1)).2.1) := rt_fit _ _
  have r6 : Rt ((mulD (n0, s0) (n2, s2)).1, (mulD (n0, s0) (n2, s2)).2.1) := rt_fit _ _
  have hv3 := r3.val
  have hv4 := r4.val
  have hv5 := r5.val
  have hv6 := r6.val
  dsimp only at hv0 hv1 hv2 hv3 hv4 hv5 hv6
  refine ⟨_, _, _, _, _, _, _, _, _, _, _, _, _, _, _, _, _, _,
    fun w _ => gives_of (add_any n0 s0 n1 s1 w) (by rw [hv0, hv1]; exact congrArg dres (of_ok hp)),
    fun w _ => gives_of (add_any n1 s1 n0 s0 w) (by rw [hv0, hv1, hcm]; exact congrArg dres (of_ok hp)),
    fun w _ => gives_of (add_any n1 s1 n2 s2 w) (by rw [hv1, hv2]; exact congrArg dres (of_ok hr)),
    fun w _ => gives_of (add_any _ _ n2 s2 w) (by rw [hv3, hv2]; exact congrArg dres (of_ok hu)),
    fun w _ => gives_of (add_any n0 s0 _ _ w) (by rw [hv0, hv4, has]; exact congrArg dres (of_ok hu)),
    fun w _ => gives_of (sub_any _ _ n1 s1 w (by omega) (by omega)) (by rw [hv3, hv1, hbk]),
    fun w hv => gives_of (mul_any n0 s0 _ _ w hv) (by rw [hv0, hv4]),
    fun w hv => gives_of (mul_any n0 s0 n1 s1 w hv) (by rw [hv0, hv1]),
    fun w hv => gives_of (mul_any n0 s0 n2 s2 w hv) (by rw [hv0, hv2]),
    fun w hv => gives_of (mul_any n1 s1 n0 s0 w hv) (by rw [hv0, hv1, mulD_comm]),
    fun w _ => gives_of (add_any _ _ _ _ w) (by rw [hv5, hv6]), ?_⟩
  intro h1 h2 h3 h4
  have h := hdi h1 h2 h3 h4
  rw [h]
  exact ⟨rfl, rfl⟩
theorem idx0 (q0 q1 q2 q3 q4 q5 : Int) (w : World) : (Instr.index 47 (.agg #[.int .i64 q0, .int .i64 q1, .int .i64 q2, .int .i64 q3, .int .i64 q4, .int .i64 q5]) (.int .i64 0)).run Tryd.prog w = .ok (.agg #[.int .i64 q0, .int .i64 q1]) w := by kernel_rfl
theorem idx1 (q0 q1 q2 q3 q4 q5 : Int) (w : World) : (Instr.index 47 (.agg #[.int .i64 q0, .int .i64 q1, .int .i64 q2, .int .i64 q3, .int .i64 q4, .int .i64 q5]) (.int .i64 1)).run Tryd.prog w = .ok (.agg #[.int .i64 q2, .int .i64 q3]) w := by kernel_rfl
theorem idx2 (q0 q1 q2 q3 q4 q5 : Int) (w : World) : (Instr.index 47 (.agg #[.int .i64 q0, .int .i64 q1, .int .i64 q2, .int .i64 q3, .int .i64 q4, .int .i64 q5]) (.int .i64 2)).run Tryd.prog w = .ok (.agg #[.int .i64 q4, .int .i64 q5]) w := by kernel_rfl
theorem gr_rfl (w : World) : w.grownBy w none := ⟨rfl, rfl, rfl, Nat.le_refl _, fun _ _ _ => rfl⟩
theorem gr_al {W w : World} {o : Obj} (h : W.grownBy w none) : W.grownBy (w.alloc o) none := gr_then h (gr_alloc w o none)
theorem gr_dr {W w : World} (h : W.grownBy w none) : W.grownBy w.drew none := gr_then h (gr_drew w none)
set_option maxHeartbeats 8000000 in
set_option maxRecDepth 100000 in
theorem ring_true (q0 q1 q2 q3 q4 q5 : Int) (W : World) (hd : EV W) (_h0 : -9223372036854775808 ≤ q0 ∧ q0 ≤ 9223372036854775807) (_h1 : -9223372036854775808 ≤ q1 ∧ q1 ≤ 9223372036854775807) (_h2 : -9223372036854775808 ≤ q2 ∧ q2 ≤ 9223372036854775807) (_h3 : -9223372036854775808 ≤ q3 ∧ q3 ≤ 9223372036854775807) (_h4 : -9223372036854775808 ≤ q4 ∧ q4 ≤ 9223372036854775807) (_h5 : -9223372036854775808 ≤ q5 ∧ q5 ≤ 9223372036854775807) :
    Gives 8 #[.agg #[.int .i64 q0, .int .i64 q1, .int .i64 q2, .int .i64 q3, .int .i64 q4, .int .i64 q5]] W (.bool true) := by
  have la0 : -1000000 < q0.tmod 1000000 := Int.lt_tmod_of_pos q0 (by decide)
  have lb0 : q0.tmod 1000000 < 1000000 := Int.tmod_lt_of_pos q0 (by decide)
  have la1 : -1000000 < q2.tmod 1000000 := Int.lt_tmod_of_pos q2 (by decide)
  have lb1 : q2.tmod 1000000 < 1000000 := Int.tmod_lt_of_pos q2 (by decide)
  have la2 : -1000000 < q4.tmod 1000000 := Int.lt_tmod_of_pos q4 (by decide)
  have lb2 : q4.tmod 1000000 < 1000000 := Int.tmod_lt_of_pos q4 (by decide)
  generalize hm0 : q0.tmod 1000000 = m0 at la0 lb0
  generalize hk0 : q1.tmod 3 = k0
  generalize hm1 : q2.tmod 1000000 = m1 at la1 lb1
  generalize hk1 : q3.tmod 3 = k1
  generalize hm2 : q4.tmod 1000000 = m2 at la2 lb2
  generalize hk2 : q5.tmod 3 = k2
  have hM0 := fun w => made_any m0 k0 w
  have hS0 := made_small (k := k0) la0 lb0
  have hR0 := made_rt m0 k0
  generalize madeD m0 k0 = x0 at hM0 hS0 hR0
  have hM1 := fun w => made_any m1 k1 w
  have hS1 := made_small (k := k1) la1 lb1
  have hR1 := made_rt m1 k1
  generalize madeD m1 k1 = x1 at hM1 hS1 hR1
  have hM2 := fun w => made_any m2 k2 w
  have hS2 := made_small (k := k2) la2 lb2
  have hR2 := made_rt m2 k2
  generalize madeD m2 k2 = x2 at hM2 hS2 hR2
  obtain ⟨n0, s0⟩ := x0
  obtain ⟨n1, s1⟩ := x1
  obtain ⟨n2, s2⟩ := x2
  obtain ⟨n3, s3, n4, s4, n5, s5, b5, n6, s6, b6, n7, s7, n8, s8, b8, n9, s9, b9, hAB, hBA, hBC, hX, hY, hBK, hMM, hMN, hMO, hMR, hSU, hDI⟩ := ring_case hR0 hR1 hR2 hS0 hS1 hS2
  have HM0 := Lib.hid hM0
  have HM1 := Lib.hid hM1
  have HM2 := Lib.hid hM2
  have HAB := Lib.hid hAB
  have HBA := Lib.hid hBA
  have HBC := Lib.hid hBC
  have HX := Lib.hid hX
  have HY := Lib.hid hY
  have HBK := Lib.hid hBK
  have HMM := Lib.hid hMM
  have HMN := Lib.hid hMN
  have HMO := Lib.hid hMO
  have HMR := Lib.hid hMR
  have HSU := Lib.hid hSU
  have HDI := Lib.hid hDI
  have HD := Lib.hid hd
  clear hd hR0 hR1 hR2 hS0 hS1 hS2 hM0 hM1 hM2 hAB hBA hBC hX hY hBK hMM hMN hMO hMR hSU hDI
  go_enter Tryd.func8, Tryd.ntmps8
  go_wp2_with fail
  have g0 := gr_alloc W (.cells #[.int .i64 q0, .int .i64 q1, .int .i64 q2, .int .i64 q3, .int .i64 q4, .int .i64 q5] 47) none
  have RQ : Row (W.alloc (.cells #[.int .i64 q0, .int .i64 q1, .int .i64 q2, .int .i64 q3, .int .i64 q4, .int .i64 q5] 47)) W.heap.size (six q0 q1 q2 q3 q4 q5) 47 := Row.new W _ _
  refine (sanity_any _ (HD.out.grown g0)).mono ?_
  rintro e w1 ⟨rfl, g1⟩
  have RQ := RQ.kept g1
  have RL : Row (w1.alloc (.cells #[.int .i64 0, .int .i64 0, .int .i64 0, .int .i64 0, .int .i64 0, .int .i64 0] 48)) w1.heap.size (six 0 0 0 0 0 0) 48 := Row.new w1 _ _
  have G := Lib.hid (gr_then (gr_then g0 g1) (gr_alloc w1 (.cells #[.int .i64 0, .int .i64 0, .int .i64 0, .int .i64 0, .int .i64 0, .int .i64 0] 48) none))
  have RQ := RQ.alloc (.cells #[.int .i64 0, .int .i64 0, .int .i64 0, .int .i64 0, .int .i64 0, .int .i64 0] 48)
  have c0 := RQ.cell 0 _ rfl
  have c1 := RQ.cell 1 _ rfl
  have c2 := RQ.cell 2 _ rfl
  have c3 := RQ.cell 3 _ rfl
  have c4 := RQ.cell 4 _ rfl
  have c5 := RQ.cell 5 _ rfl
  go_wp2_with fail
  clear c0 c1 c2 c3 c4 c5 RQ
  go_loopw [29] (fun u wr => Fill W w1.heap.size (n0, s0) (n1, s1) (n2, s2) u wr) (fun u _ => 3 - (intOf u).toNat)
  case atStart => exact ⟨.inl ⟨rfl, RL⟩, G.out⟩
  case round =>
    clear RL G
    obtain ⟨hrel, hg⟩ := hrel
    have hb1 : W.heap.size ≤ w1.heap.size := by have := g1.size; simp at this; omega
    rcases hrel with ⟨rfl, RW⟩ | ⟨rfl, RW⟩ | ⟨rfl, RW⟩ | ⟨rfl, RW⟩
    · have hix := idx0 q0 q1 q2 q3 q4 q5 wr
      go_wp2_with fail
      refine (HM0.out _).mono ?_
      rintro e w3 ⟨rfl, g3⟩
      have R3 := (RW.alloc (.cells #[.int .i64 q0, .int .i64 q1] 39)).kept g3
      have h0 := R3.cell 0 _ rfl
      have h1 := R3.cell 1 _ rfl
      have f0 := R3.fr 0
      have f1 := R3.fr 1
      have gg := gr_then (gr_then hg (gr_alloc wr (.cells #[.int .i64 q0, .int .i64 q1] 39) none)) g3
      go_wp2
      exact ⟨⟨.inr (.inl ⟨rfl, (R3.set 0 _).set 1 _⟩), gr_setn (gr_setn gg hb1) hb1⟩, by simp [intOf]⟩
    · have hix := idx1 q0 q1 q2 q3 q4 q5 wr
      go_wp2_with fail
      refine (HM1.out _).mono ?_
      rintro e w3 ⟨rfl, g3⟩
      have R3 := (RW.alloc (.cells #[.int .i64 q2, .int .i64 q3] 39)).kept g3
      have h0 := R3.cell 2 _ rfl
      have h1 := R3.cell 3 _ rfl
      have f0 := R3.fr 2
      have f1 := R3.fr 3
      have gg := gr_then (gr_then hg (gr_alloc wr (.cells #[.int .i64 q2, .int .i64 q3] 39) none)) g3
      go_wp2
      exact ⟨⟨.inr (.inr (.inl ⟨rfl, (R3.set 2 _).set 3 _⟩)), gr_setn (gr_setn gg hb1) hb1⟩, by simp [intOf]⟩
    · have hix := idx2 q0 q1 q2 q3 q4 q5 wr
      go_wp2_with fail
      refine (HM2.out _).mono ?_
      rintro e w3 ⟨rfl, g3⟩
      have R3 := (RW.alloc (.cells #[.int .i64 q4, .int .i64 q5] 39)).kept g3
      have h0 := R3.cell 4 _ rfl
      have h1 := R3.cell 5 _ rfl
      have f0 := R3.fr 4
      have f1 := R3.fr 5
      have gg := gr_then (gr_then hg (gr_alloc wr (.cells #[.int .i64 q4, .int .i64 q5] 39) none)) g3
      go_wp2
      exact ⟨⟨.inr (.inr (.inr ⟨rfl, (R3.set 4 _).set 5 _⟩)), gr_setn (gr_setn gg hb1) hb1⟩, by simp [intOf]⟩
    · go_wp2_with fail
      have hlt := RW.lt
      have c0 : wr.cell? ⟨w1.heap.size, 0, none⟩ = some (.int .i64 n0) := RW.cell 0 _ rfl
      have c1 : wr.cell? ⟨w1.heap.size, 1, none⟩ = some (.int .i64 (s0 : Int)) := RW.cell 1 _ rfl
      have c2 : wr.cell? ⟨w1.heap.size, 2, none⟩ = some (.int .i64 n1) := RW.cell 2 _ rfl
      have c3 : wr.cell? ⟨w1.heap.size, 3, none⟩ = some (.int .i64 (s1 : Int)) := RW.cell 3 _ rfl
      have c4 : wr.cell? ⟨w1.heap.size, 4, none⟩ = some (.int .i64 n2) := RW.cell 4 _ rfl
      have c5 : wr.cell? ⟨w1.heap.size, 5, none⟩ = some (.int .i64 (s2 : Int)) := RW.cell 5 _ rfl
      go_cut [7, 8, 9] from 43 to 48 (fun p q r wx => ∃ a b c : Nat, p = .pointer (some ⟨a, 0, none⟩) ∧ q = .pointer (some ⟨b, 0, none⟩) ∧ r = .pointer (some ⟨c, 0, none⟩) ∧ Two wx a (.int .i64 n0) (.int .i64 (s0 : Int)) 23 ∧ Two wx b (.int .i64 n1) (.int .i64 (s1 : Int)) 23 ∧ Two wx c (.int .i64 n2) (.int .i64 (s2 : Int)) 23 ∧ W.grownBy wx none)
      case first =>
        have HG := Lib.hid hg
        clear RW hg
        have hK : ∀ w', wr.grownBy w' none → (w'.cell? ⟨w1.heap.size, 0, none⟩ = some (.int .i64 n0) ∧ w'.cell? ⟨w1.heap.size, 1, none⟩ = some (.int .i64 (s0 : Int)) ∧ w'.cell? ⟨w1.heap.size, 2, none⟩ = some (.int .i64 n1) ∧ w'.cell? ⟨w1.heap.size, 3, none⟩ = some (.int .i64 (s1 : Int)) ∧ w'.cell? ⟨w1.heap.size, 4, none⟩ = some (.int .i64 n2) ∧ w'.cell? ⟨w1.heap.size, 5, none⟩ = some (.int .i64 (s2 : Int))) := fun w' h => ⟨h.cell c0 (by simp), h.cell c1 (by simp), h.cell c2 (by simp), h.cell c3 (by simp), h.cell c4 (by simp), h.cell c5 (by simp)⟩
        clear c0 c1 c2 c3 c4 c5
        have HK := Lib.hid hK
        clear hK
        go_region_held3 (fun w' => w'.cell? ⟨w1.heap.size, 0, none⟩ = some (.int .i64 n0) ∧ w'.cell? ⟨w1.heap.size, 1, none⟩ = some (.int .i64 (s0 : Int)) ∧ w'.cell? ⟨w1.heap.size, 2, none⟩ = some (.int .i64 n1) ∧ w'.cell? ⟨w1.heap.size, 3, none⟩ = some (.int .i64 (s1 : Int)) ∧ w'.cell? ⟨w1.heap.size, 4, none⟩ = some (.int .i64 n2) ∧ w'.cell? ⟨w1.heap.size, 5, none⟩ = some (.int .i64 (s2 : Int))) ((refine HK.out _ ?_; repeat (first | (with_reducible exact gr_rfl _) | refine gr_al ?_ | refine gr_dr ?_ | (refine gr_setn ?_ (by simp))))) (fail)
        all_goals
          go_wp2_with fail
          go_meet
          refine ⟨_, _, _, rfl, rfl, rfl, ?_, ?_, ?_, gr_dr (gr_al (gr_al (gr_al HG.out)))⟩
          all_goals
            first
              | exact ((Two.new wr _ _ _).alloc _).alloc _
              | exact (Two.new1 wr _ _ _ _).alloc _
              | exact Two.new2 wr _ _ _ _ _
      case rest =>
        obtain ⟨ba, bb, bc, rfl, rfl, rfl, T7, T8, T9, G⟩ := hcut
        have z7 := T7.c0
        have y7 := T7.c1
        have z8 := T8.c0
        have y8 := T8.c1
        go_wp2_with fail
        refine (HAB.out _ (HD.out.grown G).p).mono ?_
        rintro e v0 ⟨rfl, gn⟩
        clear z7 y7 z8 y8
        have T7 := (T7.kept gn).alloc (.cells #[.int .i64 n3, .int .i64 (s3 : Int)] 23)
        have T8 := (T8.kept gn).alloc (.cells #[.int .i64 n3, .int .i64 (s3 : Int)] 23)
        have T9 := (T9.kept gn).alloc (.cells #[.int .i64 n3, .int .i64 (s3 : Int)] 23)
        have T10 := Two.new v0 (.int .i64 n3) (.int .i64 (s3 : Int)) 23
        have G := gr_then (gr_then G gn) (gr_alloc v0 (.cells #[.int .i64 n3, .int .i64 (s3 : Int)] 23) none)
        clear gn
        unfold dres
        dsimp only
        have z7 := T7.c0
        have y7 := T7.c1
        have z8 := T8.c0
        have y8 := T8.c1
        go_wp2_with fail
        refine (HBA.out _ (HD.out.grown G).p).mono ?_
        rintro e v1 ⟨rfl, gn⟩
        clear z7 y7 z8 y8
        have T7 := (T7.kept gn).alloc (.cells #[.int .i64 n3, .int .i64 (s3 : Int)] 23)
        have T8 := (T8.kept gn).alloc (.cells #[.int .i64 n3, .int .i64 (s3 : Int)] 23)
        have T9 := (T9.kept gn).alloc (.cells #[.int .i64 n3, .int .i64 (s3 : Int)] 23)
        have T10 := (T10.kept gn).alloc (.cells #[.int .i64 n3, .int .i64 (s3 : Int)] 23)
        have T12 := Two.new v1 (.int .i64 n3) (.int .i64 (s3 : Int)) 23
        have G := gr_then (gr_then G gn) (gr_alloc v1 (.cells #[.int .i64 n3, .int .i64 (s3 : Int)] 23) none)
        clear gn
        unfold dres
        dsimp only
        have z8 := T8.c0
        have y8 := T8.c1
        have z9 := T9.c0
        have y9 := T9.c1
        go_wp2_with fail
        refine (HBC.out _ (HD.out.grown G).p).mono ?_
        rintro e v2 ⟨rfl, gn⟩
        clear z8 y8 z9 y9
        have T7 := (T7.kept gn).alloc (.cells #[.int .i64 n4, .int .i64 (s4 : Int)] 23)
        have T8 := (T8.kept gn).alloc (.cells #[.int .i64 n4, .int .i64 (s4 : Int)] 23)
        have T9 := (T9.kept gn).alloc (.cells #[.int .i64 n4, .int .i64 (s4 : Int)] 23)
        have T10 := (T10.kept gn).alloc (.cells #[.int .i64 n4, .int .i64 (s4 : Int)] 23)
        have T12 := (T12.kept gn).alloc (.cells #[.int .i64 n4, .int .i64 (s4 : Int)] 23)
        have T14 := Two.new v2 (.int .i64 n4) (.int .i64 (s4 : Int)) 23
        have G := gr_then (gr_then G gn) (gr_alloc v2 (.cells #[.int .i64 n4, .int .i64 (s4 : Int)] 23) none)
        clear gn
        unfold dres
        dsimp only
        have z9 := T9.c0
        have y9 := T9.c1
        have z10 := T10.c0
        have y10 := T10.c1
        go_wp2_with fail
        refine (HX.out _ (HD.out.grown G).p).mono ?_
        rintro e v3 ⟨rfl, gn⟩
        clear z9 y9 z10 y10
        have T7 := (T7.kept gn).alloc (.cells #[.int .i64 n7, .int .i64 (s7 : Int)] 23)
        have T8 := (T8.kept gn).alloc (.cells #[.int .i64 n7, .int .i64 (s7 : Int)] 23)
        have T9 := (T9.kept gn).alloc (.cells #[.int .i64 n7, .int .i64 (s7 : Int)] 23)
        have T10 := (T10.kept gn).alloc (.cells #[.int .i64 n7, .int .i64 (s7 : Int)] 23)
        have T12 := (T12.kept gn).alloc (.cells #[.int .i64 n7, .int .i64 (s7 : Int)] 23)
        have T14 := (T14.kept gn).alloc (.cells #[.int .i64 n7, .int .i64 (s7 : Int)] 23)
        have T16 := Two.new v3 (.int .i64 n7) (.int .i64 (s7 : Int)) 23
        have G := gr_then (gr_then G gn) (gr_alloc v3 (.cells #[.int .i64 n7, .int .i64 (s7 : Int)] 23) none)
        clear gn
        unfold dres
        dsimp only
        have z7 := T7.c0
        have y7 := T7.c1
        have z14 := T14.c0
        have y14 := T14.c1
        go_wp2_with fail
        refine (HY.out _ (HD.out.grown G).p).mono ?_
        rintro e v4 ⟨rfl, gn⟩
        clear z7 y7 z14 y14
        have T7 := (T7.kept gn).alloc (.cells #[.int .i64 n7, .int .i64 (s7 : Int)] 23)
        have T8 := (T8.kept gn).alloc (.cells #[.int .i64 n7, .int .i64 (s7 : Int)] 23)
        have T9 := (T9.kept gn).alloc (.cells #[.int .i64 n7, .int .i64 (s7 : Int)] 23)
        have T10 := (T10.kept gn).alloc (.cells #[.int .i64 n7, .int .i64 (s7 : Int)] 23)
        have T12 := (T12.kept gn).alloc (.cells #[.int .i64 n7, .int .i64 (s7 : Int)] 23)
        have T14 := (T14.kept gn).alloc (.cells #[.int .i64 n7, .int .i64 (s7 : Int)] 23)
        have T16 := (T16.kept gn).alloc (.cells #[.int .i64 n7, .int .i64 (s7 : Int)] 23)
        have T18 := Two.new v4 (.int .i64 n7) (.int .i64 (s7 : Int)) 23
        have G := gr_then (gr_then G gn) (gr_alloc v4 (.cells #[.int .i64 n7, .int .i64 (s7 : Int)] 23) none)
        clear gn
        unfold dres
        dsimp only
        have z8 := T8.c0
        have y8 := T8.c1
        have z10 := T10.c0
        have y10 := T10.c1
        go_wp2_with fail
        refine (HBK.out _ (HD.out.grown G).p).mono ?_
        rintro e v5 ⟨rfl, gn⟩
        clear z8 y8 z10 y10
        have T7 := (T7.kept gn).alloc (.cells #[.int .i64 n0, .int .i64 (s0 : Int)] 23)
        have T8 := (T8.kept gn).alloc (.cells #[.int .i64 n0, .int .i64 (s0 : Int)] 23)
        have T9 := (T9.kept gn).alloc (.cells #[.int .i64 n0, .int .i64 (s0 : Int)] 23)
        have T10 := (T10.kept gn).alloc (.cells #[.int .i64 n0, .int .i64 (s0 : Int)] 23)
        have T12 := (T12.kept gn).alloc (.cells #[.int .i64 n0, .int .i64 (s0 : Int)] 23)
        have T14 := (T14.kept gn).alloc (.cells #[.int .i64 n0, .int .i64 (s0 : Int)] 23)
        have T16 := (T16.kept gn).alloc (.cells #[.int .i64 n0, .int .i64 (s0 : Int)] 23)
        have T18 := (T18.kept gn).alloc (.cells #[.int .i64 n0, .int .i64 (s0 : Int)] 23)
        have T20 := Two.new v5 (.int .i64 n0) (.int .i64 (s0 : Int)) 23
        have G := gr_then (gr_then G gn) (gr_alloc v5 (.cells #[.int .i64 n0, .int .i64 (s0 : Int)] 23) none)
        clear gn
        unfold dres
        dsimp only
        have z7 := T7.c0
        have y7 := T7.c1
        have z10 := T10.c0
        have y10 := T10.c1
        have z12 := T12.c0
        have y12 := T12.c1
        have z14 := T14.c0
        have y14 := T14.c1
        have z16 := T16.c0
        have y16 := T16.c1
        have z18 := T18.c0
        have y18 := T18.c1
        have z20 := T20.c0
        have y20 := T20.c1
        go_wp2_with fail
        refine (HMM.out _ (HD.out.grown G).p).mono ?_
        rintro e v6 ⟨rfl, gn⟩
        clear z7 y7 z10 y10 z12 y12 z14 y14 z16 y16 z18 y18 z20 y20
        have T7 := (T7.kept gn).alloc (.cells #[.int .i64 n8, .int .i64 (s8 : Int)] 23)
        have T8 := (T8.kept gn).alloc (.cells #[.int .i64 n8, .int .i64 (s8 : Int)] 23)
        have T9 := (T9.kept gn).alloc (.cells #[.int .i64 n8, .int .i64 (s8 : Int)] 23)
        have T10 := (T10.kept gn).alloc (.cells #[.int .i64 n8, .int .i64 (s8 : Int)] 23)
        have T12 := (T12.kept gn).alloc (.cells #[.int .i64 n8, .int .i64 (s8 : Int)] 23)
        have T14 := (T14.kept gn).alloc (.cells #[.int .i64 n8, .int .i64 (s8 : Int)] 23)
        have T16 := (T16.kept gn).alloc (.cells #[.int .i64 n8, .int .i64 (s8 : Int)] 23)
        have T18 := (T18.kept gn).alloc (.cells #[.int .i64 n8, .int .i64 (s8 : Int)] 23)
        have T20 := (T20.kept gn).alloc (.cells #[.int .i64 n8, .int .i64 (s8 : Int)] 23)
        have T22 := Two.new v6 (.int .i64 n8) (.int .i64 (s8 : Int)) 23
        have G := gr_then (gr_then G gn) (gr_alloc v6 (.cells #[.int .i64 n8, .int .i64 (s8 : Int)] 23) none)
        clear gn
        unfold dres
        dsimp only
        clear T14 T10 T12 T16 T18 T20
        have z7 := T7.c0
        have y7 := T7.c1
        have z8 := T8.c0
        have y8 := T8.c1
        go_wp2_with fail
        refine (HMN.out _ (HD.out.grown G).p).mono ?_
        rintro e v7 ⟨rfl, gn⟩
        clear z7 y7 z8 y8
        have T7 := (T7.kept gn).alloc (.cells #[.int .i64 n5, .int .i64 (s5 : Int)] 23)
        have T8 := (T8.kept gn).alloc (.cells #[.int .i64 n5, .int .i64 (s5 : Int)] 23)
        have T9 := (T9.kept gn).alloc (.cells #[.int .i64 n5, .int .i64 (s5 : Int)] 23)
        have T22 := (T22.kept gn).alloc (.cells #[.int .i64 n5, .int .i64 (s5 : Int)] 23)
        have T23 := Two.new v7 (.int .i64 n5) (.int .i64 (s5 : Int)) 23
        have G := gr_then (gr_then G gn) (gr_alloc v7 (.cells #[.int .i64 n5, .int .i64 (s5 : Int)] 23) none)
        clear gn
        unfold dres
        dsimp only
        have z7 := T7.c0
        have y7 := T7.c1
        have z9 := T9.c0
        have y9 := T9.c1
        go_wp2_with fail
        refine (HMO.out _ (HD.out.grown G).p).mono ?_
        rintro e v8 ⟨rfl, gn⟩
        clear z7 y7 z9 y9
        have T7 := (T7.kept gn).alloc (.cells #[.int .i64 n6, .int .i64 (s6 : Int)] 23)
        have T8 := (T8.kept gn).alloc (.cells #[.int .i64 n6, .int .i64 (s6 : Int)] 23)
        have T9 := (T9.kept gn).alloc (.cells #[.int .i64 n6, .int .i64 (s6 : Int)] 23)
        have T22 := (T22.kept gn).alloc (.cells #[.int .i64 n6, .int .i64 (s6 : Int)] 23)
        have T23 := (T23.kept gn).alloc (.cells #[.int .i64 n6, .int .i64 (s6 : Int)] 23)
        have T24 := Two.new v8 (.int .i64 n6) (.int .i64 (s6 : Int)) 23
        have G := gr_then (gr_then G gn) (gr_alloc v8 (.cells #[.int .i64 n6, .int .i64 (s6 : Int)] 23) none)
        clear gn
        unfold dres
        dsimp only
        have z7 := T7.c0
        have y7 := T7.c1
        have z8 := T8.c0
        have y8 := T8.c1
        go_wp2_with fail
        refine (HMR.out _ (HD.out.grown G).p).mono ?_
        rintro e v9 ⟨rfl, gn⟩
        clear z7 y7 z8 y8
        have T7 := (T7.kept gn).alloc (.cells #[.int .i64 n5, .int .i64 (s5 : Int)] 23)
        have T8 := (T8.kept gn).alloc (.cells #[.int .i64 n5, .int .i64 (s5 : Int)] 23)
        have T9 := (T9.kept gn).alloc (.cells #[.int .i64 n5, .int .i64 (s5 : Int)] 23)
        have T22 := (T22.kept gn).alloc (.cells #[.int .i64 n5, .int .i64 (s5 : Int)] 23)
        have T23 := (T23.kept gn).alloc (.cells #[.int .i64 n5, .int .i64 (s5 : Int)] 23)
        have T24 := (T24.kept gn).alloc (.cells #[.int .i64 n5, .int .i64 (s5 : Int)] 23)
        have T25 := Two.new v9 (.int .i64 n5) (.int .i64 (s5 : Int)) 23
        have G := gr_then (gr_then G gn) (gr_alloc v9 (.cells #[.int .i64 n5, .int .i64 (s5 : Int)] 23) none)
        clear gn
        unfold dres
        dsimp only
        clear T7 T8 T9
        have z23 := T23.c0
        have y23 := T23.c1
        have z24 := T24.c0
        have y24 := T24.c1
        go_wp2_with fail
        refine (HSU.out _ (HD.out.grown G).p).mono ?_
        rintro e v10 ⟨rfl, gn⟩
        clear z23 y23 z24 y24
        have T22 := (T22.kept gn).alloc (.cells #[.int .i64 n9, .int .i64 (s9 : Int)] 23)
        have T23 := (T23.kept gn).alloc (.cells #[.int .i64 n9, .int .i64 (s9 : Int)] 23)
        have T24 := (T24.kept gn).alloc (.cells #[.int .i64 n9, .int .i64 (s9 : Int)] 23)
        have T25 := (T25.kept gn).alloc (.cells #[.int .i64 n9, .int .i64 (s9 : Int)] 23)
        have T26 := Two.new v10 (.int .i64 n9) (.int .i64 (s9 : Int)) 23
        have G := gr_then (gr_then G gn) (gr_alloc v10 (.cells #[.int .i64 n9, .int .i64 (s9 : Int)] 23) none)
        clear gn
        unfold dres
        dsimp only
        have z23 := T23.c0
        have y23 := T23.c1
        have z25 := T25.c0
        have y25 := T25.c1
        have z22 := T22.c0
        have y22 := T22.c1
        have z26 := T26.c0
        have y26 := T26.c1
        have HD5 := HDI.out
        clear T23 T24 T25 T22 T26
        cases b8
        · clear HD5; go_wp2; go_ret; exact ⟨rfl, G⟩
        cases b5
        · clear HD5; go_wp2; go_ret; exact ⟨rfl, G⟩
        cases b6
        · clear HD5; go_wp2; go_ret; exact ⟨rfl, G⟩
        cases b9
        · clear HD5; go_wp2; go_ret; exact ⟨rfl, G⟩
        obtain ⟨h8, h9⟩ := HD5 rfl rfl rfl rfl
        subst h8 h9
        clear HD5
        go_wp2; go_ret; exact ⟨rfl, G⟩
end Go.Proofs.YtmlmjhlakpgagaaDoor
