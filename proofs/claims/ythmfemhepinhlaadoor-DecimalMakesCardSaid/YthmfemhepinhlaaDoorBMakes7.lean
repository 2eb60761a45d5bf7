/- Contracts of the program and of the reference, part 7: Df, Di, Dj, Makes, RowN, MakesRow. -/
import Derived.Test.YthmfemhepinhlaaDoorBMakes6
import Derived.Deep.LoopGhost
import Derived.Test.YthmfemhepinhlaaDoorRows
import Derived.ProofKit
import Derived.ChangeSlices
import Derived.LaidLaws
import Derived.Lib.LaidIn
import Derived.Lib.LaidTab
import Derived.Lib.SmallJoins
import Derived.Stop.LaidErr
import Derived.OpenShut
namespace Go.Proofs.YthmfemhepinhlaaDoor
open Go.RowKit Mth Dm

/-- A number with a sign. -/
def rep (neg : Bool) (N : Nat) : Int := if neg then -(N : Int) else N
theorem rep_mod (neg : Bool) (N : Nat) : rep neg N % 10 = 0 ↔ N % 10 = 0 := by unfold rep; split <;> omega
theorem rep_div (neg : Bool) {N : Nat} (h : N % 10 = 0) : rep neg N / 10 = rep neg (N / 10) := by unfold rep; split <;> omega
theorem big_rep (n : Int) : rep (decide (n < 0)) n.natAbs = n := by
  unfold rep; by_cases h : n < 0
  · rw [if_pos (by simpa using h)]; omega
  · rw [if_neg (by simpa using h)]; omega
theorem fit_end {neg : Bool} {N s : Nat} (h : s = 0 ∨ N % 10 ≠ 0) : fitD (rep neg N) s = if s ≤ 6 ∧ N ≤ 1000000000000000 then (rep neg N, s, true) else (0, 0, false) := by
  rw [fitD_stop (by rcases h with h | h; exact .inl h; exact .inr (fun e => h ((rep_mod neg N).1 e)))]
  have e : (s ≤ 6 ∧ -1000000000000000 ≤ rep neg N ∧ rep neg N ≤ 1000000000000000) ↔ (s ≤ 6 ∧ N ≤ 1000000000000000) := by
    unfold rep; split <;> omega
  by_cases hc : s ≤ 6 ∧ N ≤ 1000000000000000
  · rw [if_pos (e.2 hc), if_pos hc]
  · rw [if_neg (fun h => hc (e.1 h)), if_neg hc]
theorem fit_step {neg : Bool} {N s : Nat} (h : N % 10 = 0) : fitD (rep neg N) (s + 1) = fitD (rep neg (N / 10)) s := by
  have := fitD_pow s 1 (rep neg (N / 10))
  rw [← this]
  congr 1
  rw [← rep_div neg h]
  have := (rep_mod neg N).2 h
  omega
set_option maxHeartbeats 2000000 in
set_option maxRecDepth 100000 in
theorem fit_any (neg : Bool) (N sc : Nat) (w : World) (hN : N < 256 ^ 200) (hs : sc ≤ 1000) : Gives 37 #[bv neg N sc] w (dres (fitD (rep neg N) sc)) := by
  have T0 := (Three.new w (.bool neg) (.string (S N)) (.int .i64 (sc : Int)) 59).alloc (.cells #[.int .i64 0, .int .i64 0] 23)
  have T1 := Two.new1 w (.cells #[.bool neg, .string (S N), .int .i64 (sc : Int)] 59) (.int .i64 0) (.int .i64 0) 23
  have g0 := gr_then (gr_alloc w (.cells #[.bool neg, .string (S N), .int .i64 (sc : Int)] 59) none) (gr_alloc _ (.cells #[.int .i64 0, .int .i64 0] 23) none)
  generalize hr : fitD (rep neg N) sc = r
  have HR := Lib.hid hr
  have HNN := Lib.hid hN
  have G := Lib.hid g0
  unfold bv
  clear hr hN g0
  go_enter Tryd.func37, Tryd.ntmps37
  go_wp2_with fail
  go_loopg [] sc (fun g wr => ∃ (N' : Nat), Three wr w.heap.size (.bool neg) (.string (S N')) (.int .i64 (g : Int)) 59 ∧ Two wr (w.heap.size + 1) (.int .i64 0) (.int .i64 0) 23 ∧ w.grownBy wr none ∧ Hid (g ≤ sc ∧ N' ≤ N ∧ fitD (rep neg N') g = r))
  case atStart => exact ⟨N, T0, T1, G.out, Lib.hid ⟨Nat.le_refl _, Nat.le_refl _, HR.out⟩⟩
  case round =>
    obtain ⟨N', hT0, hT1, hg, HI⟩ := hrel
    clear T0 T1 G
    have hgs : gk ≤ 1000 := by have := HI.out.1; omega
    have HN2 := Lib.hid (show N' < 256 ^ 200 from Nat.lt_of_le_of_lt HI.out.2.1 HNN.out)
    have c0 := hT0.c0
    have c1 := hT0.c1
    have c2 := hT0.c2
    by_cases h0 : gk = 0
    · subst h0
      have HFIT := Lib.hid (show r = if 0 ≤ 6 ∧ N' ≤ 1000000000000000 then (rep neg N', 0, true) else (0, 0, false) by rw [← HI.out.2.2, fit_end (.inl rfl)])
      have T0 := hT0
      have T1 := hT1
      have G := Lib.hid hg
      clear hT0 hT1 hg HI
      clear c0 c1 c2
      have c0 := T0.c0
      have c1 := T0.c1
      have c2 := T0.c2
      have d0 := T1.c0
      have d1 := T1.c1
      have f0 := T1.fr 0
      have f1 := T1.fr 1
      by_cases hi : N' ≤ 9223372036854775807
      · have hint := fun w => rint_yes (S N') w (by have := s_size9 HN2.out; omega) (by rw [s_num]; exact hi)
        rw [s_num] at hint
        have HINT := Lib.hid hint
        clear hint
        by_cases hb : N' ≤ 1000000000000000
        · by_cases h6 : (0 : Nat) ≤ 6
          · have hres : r = (rep neg N', 0, true) := by rw [HFIT.out, if_pos ⟨h6, hb⟩]
            have HRES := Lib.hid hres
            clear hres
            cases neg
            · go_wp2_with fail
              refine (HINT.out _).mono ?_
              rintro e w5 ⟨rfl, rfl⟩
              go_wp2
              exact bodyPost_ret (v := .tuple #[.agg #[.int .i64 (N' : Int), .int .i64 0], .bool true]) (by simp [results, Tryd.results37, go_sem, d0, d1]) rfl ⟨by rw [HRES.out]; rfl, gr_setn (gr_setn G.out (by omega)) (by omega)⟩
            · go_wp2_with fail
              refine (HINT.out _).mono ?_
              rintro e w5 ⟨rfl, rfl⟩
              go_wp2
              exact bodyPost_ret (v := .tuple #[.agg #[.int .i64 (-(N' : Int)), .int .i64 0], .bool true]) (by simp [results, Tryd.results37, go_sem, d0, d1]) rfl ⟨by rw [HRES.out]; rfl, gr_setn (gr_setn G.out (by omega)) (by omega)⟩
          · exact absurd (Nat.zero_le 6) h6
        · have hres : r = (0, 0, false) := by rw [HFIT.out, if_neg (fun h => hb h.2)]
          have HRES := Lib.hid hres
          have hb2 : 1000000000000000 < N' := by omega
          clear hres hb
          go_wp2_with fail
          refine (HINT.out _).mono ?_
          rintro e w5 ⟨rfl, rfl⟩
          go_wp2
          exact bodyPost_ret (v := .tuple #[.agg #[.int .i64 0, .int .i64 0], .bool false]) (by simp [results, Tryd.results37, go_sem, d0, d1]) rfl ⟨by rw [HRES.out]; rfl, gr_setn (gr_setn G.out (by omega)) (by omega)⟩
      · have hint := fun w => rint_no (S N') w (by have := s_size9 HN2.out; omega) (by rw [s_num]; omega)
        have HINT := Lib.hid hint
        have hres : r = (0, 0, false) := by rw [HFIT.out, if_neg (fun h => by omega)]
        have HRES := Lib.hid hres
        clear hint hres hi
        go_wp2_with fail
        refine (HINT.out _).mono ?_
        rintro e w5 ⟨rfl, rfl⟩
        go_wp2
        exact bodyPost_ret (v := .tuple #[.agg #[.int .i64 0, .int .i64 0], .bool false]) (by simp [results, Tryd.results37, go_sem, d0, d1]) rfl ⟨by rw [HRES.out]; rfl, gr_setn (gr_setn G.out (by omega)) (by omega)⟩
    · have h0' : 0 < gk := by omega
      go_wp2_with fail
      have T0 := hT0.drew
      have T1 := hT1.drew
      have G := Lib.hid (gr_then hg (gr_drew _ none))
      have d1 := T0.c1
      go_region_held3 (fun w' => w'.cell? ⟨w.heap.size, 1, none⟩ = some (.string (S N'))) (first | exact d1 | go_keep)
        (first
        | (go_at_call 52; refine (rof_any 10 _ (by omega)).mono ?_; rintro e w2 ⟨rfl, g2⟩; have d2 := (T0.kept g2).c1)
        | (go_at_call 53; refine (s_rquo (S N') (S 10) N' 10 _ (s_num _) (s_num _) (by decide) (s_size9 HN2.out) (sz63 (by decide))).mono ?_; rintro e w3 ⟨rfl, g3⟩; have d3 := ((T0.kept g2).kept g3).c1))
      have T0 := (T0.kept g2).kept g3
      have T1 := (T1.kept g2).kept g3
      have G := Lib.hid (gr_then (gr_then G.out g2) g3)
      clear g2 g3 d1 d2 d3 hT0 hT1 hg c0 c1 c2
      by_cases hz : N' % 10 = 0
      · obtain ⟨k, rfl⟩ : ∃ k, gk = k + 1 := ⟨gk - 1, by omega⟩
        have hsz : ¬ 0 < (S (N' % 10)).size := by rw [hz, s_zero]; decide
        have HNX := Lib.hid (show k ≤ sc ∧ N' / 10 ≤ N ∧ fitD (rep neg (N' / 10)) k = r from ⟨by have := HI.out.1; omega, by have := HI.out.2.1; omega, by rw [← HI.out.2.2, fit_step hz]⟩)
        have f1 := T0.fr 1
        have f2 := T0.fr 2
        have c1 := T0.c1
        have c2 := T0.c2
        clear hz
        go_wp2
        go_roundg k
        case measure => omega
        case rel => exact ⟨N' / 10, (T0.s1 _).s2 _, (T1.other (by omega)).other (by omega), gr_setn (gr_setn G.out (Nat.le_refl _)) (Nat.le_refl _), HNX⟩
      · have hsz : 0 < (S (N' % 10)).size := s_len_pos (by omega)
        have HFIT := Lib.hid (show r = if gk ≤ 6 ∧ N' ≤ 1000000000000000 then (rep neg N', gk, true) else (0, 0, false) by rw [← HI.out.2.2, fit_end (.inr hz)])
        clear hz HI
        have c0 := T0.c0
        have c1 := T0.c1
        have c2 := T0.c2
        have d0 := T1.c0
        have d1 := T1.c1
        have f0 := T1.fr 0
        have f1 := T1.fr 1
        by_cases hi : N' ≤ 9223372036854775807
        · have hint := fun w => rint_yes (S N') w (by have := s_size9 HN2.out; omega) (by rw [s_num]; exact hi)
          rw [s_num] at hint
          have HINT := Lib.hid hint
          clear hint
          by_cases hb : N' ≤ 1000000000000000
          · by_cases h6 : gk ≤ 6
            · have hres : r = (rep neg N', gk, true) := by rw [HFIT.out, if_pos ⟨h6, hb⟩]
              have HRES := Lib.hid hres
              clear hres
              cases neg
              · go_wp2_with fail
                refine (HINT.out _).mono ?_
                rintro e w5 ⟨rfl, rfl⟩
                go_wp2
                exact bodyPost_ret (v := .tuple #[.agg #[.int .i64 (N' : Int), .int .i64 (gk : Int)], .bool true]) (by simp [results, Tryd.results37, go_sem, d0, d1]) rfl ⟨by rw [HRES.out]; rfl, gr_setn (gr_setn G.out (by omega)) (by omega)⟩
              · go_wp2_with fail
                refine (HINT.out _).mono ?_
                rintro e w5 ⟨rfl, rfl⟩
                go_wp2
                exact bodyPost_ret (v := .tuple #[.agg #[.int .i64 (-(N' : Int)), .int .i64 (gk : Int)], .bool true]) (by simp [results, Tryd.results37, go_sem, d0, d1]) rfl ⟨by rw [HRES.out]; rfl, gr_setn (gr_setn G.out (by omega)) (by omega)⟩
            · have hres : r = (0, 0, false) := by rw [HFIT.out, if_neg (fun h => h6 h.1)]
              have HRES := Lib.hid hres
              have h7 : 6 < gk := by omega
              clear hres h6
              go_wp2_with fail
              refine (HINT.out _).mono ?_
              rintro e w5 ⟨rfl, rfl⟩
              go_wp2
              exact bodyPost_ret (v := .tuple #[.agg #[.int .i64 0, .int .i64 0], .bool false]) (by simp [results, Tryd.results37, go_sem, d0, d1]) rfl ⟨by rw [HRES.out]; rfl, gr_setn (gr_setn G.out (by omega)) (by omega)⟩
          · have hres : r = (0, 0, false) := by rw [HFIT.out, if_neg (fun h => hb h.2)]
            have HRES := Lib.hid hres
            have hb2 : 1000000000000000 < N' := by omega
            clear hres hb
            go_wp2_with fail
            refine (HINT.out _).mono ?_
            rintro e w5 ⟨rfl, rfl⟩
            go_wp2
            exact bodyPost_ret (v := .tuple #[.agg #[.int .i64 0, .int .i64 0], .bool false]) (by simp [results, Tryd.results37, go_sem, d0, d1]) rfl ⟨by rw [HRES.out]; rfl, gr_setn (gr_setn G.out (by omega)) (by omega)⟩
        · have hint := fun w => rint_no (S N') w (by have := s_size9 HN2.out; omega) (by rw [s_num]; omega)
          have HINT := Lib.hid hint
          have hres : r = (0, 0, false) := by rw [HFIT.out, if_neg (fun h => by omega)]
          have HRES := Lib.hid hres
          clear hint hres hi
          go_wp2_with fail
          refine (HINT.out _).mono ?_
          rintro e w5 ⟨rfl, rfl⟩
          go_wp2
          exact bodyPost_ret (v := .tuple #[.agg #[.int .i64 0, .int .i64 0], .bool false]) (by simp [results, Tryd.results37, go_sem, d0, d1]) rfl ⟨by rw [HRES.out]; rfl, gr_setn (gr_setn G.out (by omega)) (by omega)⟩
end Go.Proofs.YthmfemhepinhlaaDoor
namespace Go.Proofs.YthmfemhepinhlaaDoor
open Go.RowKit Mth Dm

theorem qmake_in (n : Int) (k : Nat) (w : World) (hk : k ≤ 18) (h1 : -9223372036854775808 ≤ n) (h2 : n ≤ 9223372036854775807) : Gives 14 #[.int .i64 n, .int .i64 k] w (dres (fitD n k)) := by
  have hna := fun w => natural_any n w h1 h2
  have hft := fun w => fit_any (decide (n < 0)) n.natAbs k w (Nat.lt_of_le_of_lt (show n.natAbs ≤ 9223372036854775808 by omega) (by decide +kernel)) (by omega)
  rw [big_rep] at hft
  have HNA := Lib.hid hna
  have HFT := Lib.hid hft
  clear hna hft
  go_enter Tryd.func14, Tryd.ntmps14
  go_wp2_with fail
  refine (HNA.out _).mono ?_
  rintro e w1 ⟨rfl, g1⟩
  go_wp2_with fail
  refine (HFT.out _).mono ?_
  rintro e w2 ⟨rfl, g2⟩
  have T := ((Two.new w (.int .i64 0) (.int .i64 0) 23).kept g1).kept g2
  have G := Lib.hid (gr_then (gr_then (gr_alloc w (.cells #[.int .i64 0, .int .i64 0] 23) none) g1) g2)
  have d0 := T.c0
  have d1 := T.c1
  have f0 := T.fr 0
  have f1 := T.fr 1
  clear g1 g2
  unfold dres
  go_wp2
  exact bodyPost_ret (v := dres (fitD n k)) (by simp [results, Tryd.results14, go_sem, d0, d1, dres]) rfl ⟨rfl, gr_setn (gr_setn G.out (by omega)) (by omega)⟩
theorem qmake_out (n k : Int) (w : World) (h : k < 0 ∨ 18 < k) : Gives 14 #[.int .i64 n, .int .i64 k] w (dres (0, 0, false)) := by
  rcases h with h | h
  · go_enter Tryd.func14, Tryd.ntmps14
    go_wp2
    exact bodyPost_ret (v := .tuple #[.agg #[.int .i64 0, .int .i64 0], .bool false]) (by simp [results, Tryd.results14, go_sem]) rfl ⟨rfl, gr_alloc _ _ _⟩
  · have h0 : ¬ k < 0 := by omega
    go_enter Tryd.func14, Tryd.ntmps14
    go_wp2
    exact bodyPost_ret (v := .tuple #[.agg #[.int .i64 0, .int .i64 0], .bool false]) (by simp [results, Tryd.results14, go_sem]) rfl ⟨rfl, gr_alloc _ _ _⟩
theorem qmake_any (n k : Int) (w : World) (h1 : -9223372036854775808 ≤ n) (h2 : n ≤ 9223372036854775807) : Gives 14 #[.int .i64 n, .int .i64 k] w (dres (makeD n k)) := by
  unfold makeD
  split
  · rename_i h
    obtain ⟨j, rfl⟩ := Int.eq_ofNat_of_zero_le h.1
    exact qmake_in n j w (by omega) h1 h2
  · exact qmake_out n k w (by omega)
theorem qof_any (n : Int) (w : World) (h1 : -9223372036854775808 ≤ n) (h2 : n ≤ 9223372036854775807) : Gives 17 #[.int .i64 n] w (dres (fitD n 0)) := by
  go_enter Tryd.func17, Tryd.ntmps17
  go_wp2_with fail
  refine (qmake_in n 0 _ (by decide) h1 h2).mono ?_
  rintro e w1 ⟨rfl, g1⟩
  have T := (Two.new w (.int .i64 0) (.int .i64 0) 23).kept g1
  have G := Lib.hid (gr_then (gr_alloc w (.cells #[.int .i64 0, .int .i64 0] 23) none) g1)
  have d0 := T.c0
  have d1 := T.c1
  have f0 := T.fr 0
  have f1 := T.fr 1
  clear g1
  unfold dres
  go_wp2
  exact bodyPost_ret (v := dres (fitD n 0)) (by simp [results, Tryd.results17, go_sem, d0, d1, dres]) rfl ⟨rfl, gr_setn (gr_setn G.out (by omega)) (by omega)⟩
end Go.Proofs.YthmfemhepinhlaaDoor
namespace Go.Proofs.YthmfemhepinhlaaDoor
open Go.RowKit Mth Dm

theorem modD_eq (n m : Int) : (n.tmod m + m) % m = n % m := by
  rw [Int.add_emod_right]
  have e := Int.mul_tdiv_add_tmod n m
  conv => rhs; rw [← e, Int.add_comm, Int.add_mul_emod_self_left]
set_option maxRecDepth 100000 in
set_option maxHeartbeats 1000000 in
theorem mod_any (n m : Int) (h : 0 < m) (h2 : m ≤ 1000000) (w : World) :
    Calls Tryd.prog 12 #[.int .i64 n, .int .i64 m] w fun e w' => e = .returned (.int .i64 (n % m)) ∧ w = w' := by
  rw [← modD_eq n m]
  have h0 : (m == 0) = false := by rw [beq_eq_false_iff_ne]; omega
  have hm : ¬ m = 0 := by omega
  have l1 : -m < n.tmod m := Int.lt_tmod_of_pos n h
  have l2 : n.tmod m < m := Int.tmod_lt_of_pos n h
  have l3 : 0 ≤ (n.tmod m + m) % m := Int.emod_nonneg _ (by omega)
  have l4 : (n.tmod m + m) % m < m := Int.emod_lt_of_pos _ h
  have u1 : wrap64 (n.tmod m) = n.tmod m := by unfold wrap64; omega
  have u2 : wrap64 (n.tmod m + m) = n.tmod m + m := by unfold wrap64; omega
  have u3 : wrap64 ((n.tmod m + m) % m) = (n.tmod m + m) % m := by unfold wrap64; omega
  go_enter Tryd.func12, Tryd.ntmps12
  go_wp2
  go_ret
  exact ⟨rfl, rfl⟩
/-- The right decimal of two numbers. -/
def madeD (n s : Int) : Int × Nat := ((fitD (n.tmod 1000000000000001) (s % 7).toNat).1, (fitD (n.tmod 1000000000000001) (s % 7).toNat).2.1)
theorem made_rt (n s : Int) : Dm.Rt (madeD n s) := rt_fit _ _
set_option maxRecDepth 100000 in
theorem made_any (n s : Int) (w : World) : Gives 19 #[.int .i64 n, .int .i64 s] w (.agg #[.int .i64 (madeD n s).1, .int .i64 ((madeD n s).2 : Nat)]) := by
  have l1 : -1000000000000001 < n.tmod 1000000000000001 := Int.lt_tmod_of_pos n (by decide)
  have l2 : n.tmod 1000000000000001 < 1000000000000001 := Int.tmod_lt_of_pos n (by decide)
  have hmk := fun w => qmake_in (n.tmod 1000000000000001) (s % 7).toNat w (by omega) (by omega) (by omega)
  rw [show (((s % 7).toNat : Nat) : Int) = s % 7 from by omega] at hmk
  have u1 : wrap64 (n.tmod 1000000000000001) = n.tmod 1000000000000001 := by unfold wrap64; omega
  unfold madeD
  generalize fitD (n.tmod 1000000000000001) (s % 7).toNat = r at *
  generalize hq : n.tmod 1000000000000001 = q at *
  have HMK := Lib.hid hmk
  clear hmk
  go_enter Tryd.func19, Tryd.ntmps19
  go_wp2_with fail
  refine (mod_any s 7 (by decide) (by decide) _).mono ?_
  rintro e w1 ⟨rfl, rfl⟩
  go_wp2_with fail
  refine (HMK.out _).mono ?_
  rintro e w2 ⟨rfl, g2⟩
  have T := (Two.new w (.int .i64 0) (.int .i64 0) 23).kept g2
  have G := Lib.hid (gr_then (gr_alloc w (.cells #[.int .i64 0, .int .i64 0] 23) none) g2)
  have d0 := T.c0
  have d1 := T.c1
  have f0 := T.fr 0
  have f1 := T.fr 1
  have lt := T.lt
  clear g2
  unfold dres
  go_wp2
  exact bodyPost_ret (v := .agg #[.int .i64 r.1, .int .i64 (r.2.1 : Nat)]) (by simp [results, Tryd.results19, go_sem, d0, d1, lt]) rfl ⟨rfl, gr_then (gr_setn (gr_setn G.out (by omega)) (by omega)) (gr_alloc _ _ none)⟩
end Go.Proofs.YthmfemhepinhlaaDoor
namespace Go.Proofs.YthmfemhepinhlaaDoor
open Go.RowKit Mth Dm

theorem makeD_right (n k : Int) : rightD (makeD n k).1 ((makeD n k).2.1 : Nat) = true := by
  unfold makeD; split
  · exact fitD_right _ _
  · rfl
set_option maxHeartbeats 4000000 in
set_option maxRecDepth 100000 in
theorem makes_true (n k0 an sa : Int) (W : World) (hd : EV W) (hn : -9223372036854775808 ≤ n ∧ n ≤ 9223372036854775807) (_hk : -9223372036854775808 ≤ k0 ∧ k0 ≤ 9223372036854775807) (_ha : -9223372036854775808 ≤ an ∧ an ≤ 9223372036854775807) (_hs : -9223372036854775808 ≤ sa ∧ sa ≤ 9223372036854775807) :
    Gives 3 #[.int .i64 n, .int .i64 k0, .agg #[.int .i64 an, .int .i64 sa]] W (.bool true) := by
  obtain ⟨hn1, hn2⟩ := hn
  have hmk := fun k w => make_any n k w hn1 hn2
  have hqk := fun k w => qmake_any n k w hn1 hn2
  have hof := fun w => of_any n w hn1 hn2
  have hqo := fun w => qof_any n w hn1 hn2
  have HMK := Lib.hid hmk
  have HQK := Lib.hid hqk
  have HOF := Lib.hid hof
  have HQO := Lib.hid hqo
  have HD := Lib.hid hd
  clear hmk hqk hof hqo hd
  go_enter Tryd.func3, Tryd.ntmps3
  go_wp2_with fail
  have g0 := gr_alloc W (.cells #[.int .i64 an, .int .i64 sa] 23) none
  refine (sanity_any _ (HD.out.grown g0)).mono ?_
  rintro e w1 ⟨rfl, g1⟩
  have T5 := (Two.new W (.int .i64 an) (.int .i64 sa) 23).kept g1
  have G := Lib.hid (gr_then g0 g1)
  clear g0 g1
  go_wp2_with fail
  refine (mod_any k0 20 (by decide) (by decide) _).mono ?_
  rintro e w2 ⟨rfl, rfl⟩
  generalize k0 % 20 = k1
  go_wp2_with fail
  have hcells : ∀ i, i < 4 → ∃ k : Int, (w1.alloc (.cells #[.int .i64 k0, .int .i64 k1, .int .i64 0, .int .i64 18] 3)).cell? ⟨w1.heap.size, i, none⟩ = some (.int .i64 k) := by
    intro i hi
    rw [cell_of_row _ _ i _ _ (0, 0) (heap_alloc_new w1 _)]
    rcases (show i = 0 ∨ i = 1 ∨ i = 2 ∨ i = 3 by omega) with rfl | rfl | rfl | rfl
    · exact ⟨k0, rfl⟩
    · exact ⟨k1, rfl⟩
    · exact ⟨0, rfl⟩
    · exact ⟨18, rfl⟩
  have HC := Lib.hid hcells
  have T5a := T5.alloc (.cells #[.int .i64 k0, .int .i64 k1, .int .i64 0, .int .i64 18] 3)
  have G1 := Lib.hid (gr_then G.out (gr_alloc w1 (.cells #[.int .i64 k0, .int .i64 k1, .int .i64 0, .int .i64 18] 3) none))
  clear hcells
  go_loopw [24] (fun u wr => ∃ i : Nat, i ≤ 4 ∧ u = .int .i64 i ∧ Hid (∀ i, i < 4 → ∃ k : Int, wr.cell? ⟨w1.heap.size, i, none⟩ = some (.int .i64 k)) ∧ Two wr W.heap.size (.int .i64 an) (.int .i64 sa) 23 ∧ W.grownBy wr none) (fun u _ => 4 - (intOf u).toNat)
  case atStart => exact ⟨0, by omega, rfl, HC, T5a, G1.out⟩
  case round =>
    obtain ⟨i, hi, rfl, HCI, T5, hg⟩ := hrel
    clear HC T5a G1
    by_cases hlt : i < 4
    · obtain ⟨k, hk⟩ := HCI.out i hlt
      have hm := HMK.out k
      have hq := HQK.out k
      have hright := makeD_right n k
      generalize makeD n k = r at *
      obtain ⟨rn, rs, rb⟩ := r
      dsimp only at hright
      have HM := Lib.hid hm
      have HQ := Lib.hid hq
      have HR := Lib.hid (fun w => by have h := right_any rn (rs : Int) w; rw [hright] at h; exact h)
      clear hm hq hright
      go_wp2_with fail
      refine (HM.out _).mono ?_
      rintro e w3 ⟨rfl, g3⟩
      have T10 := Two.new w3 (.int .i64 rn) (.int .i64 (rs : Int)) 23
      have l3 := g3.size
      unfold dres
      dsimp only
      go_wp2_with fail
      refine (HQ.out _).mono ?_
      rintro e w4 ⟨rfl, g4⟩
      have T10 := T10.kept g4
      have gg := gr_then (gr_then g3 (gr_alloc w3 (.cells #[.int .i64 rn, .int .i64 (rs : Int)] 23) none)) g4
      have l4 := T10.lt
      have c0 := T10.c0
      have c1 := T10.c1
      have gr4 := gr_then gg (gr_alloc w4 (.cells #[.int .i64 rn, .int .i64 (rs : Int)] 23) none)
      have HC4 := Lib.hid (show ∀ i, i < 4 → ∃ k : Int, (w4.alloc (.cells #[.int .i64 rn, .int .i64 (rs : Int)] 23)).cell? ⟨w1.heap.size, i, none⟩ = some (.int .i64 k) from fun i hi => by
        obtain ⟨k, hk⟩ := HCI.out i hi
        exact ⟨k, gr4.cell hk (by simp)⟩)
      have T54 := T5.kept gr4
      have G4 := Lib.hid (gr_then hg gr4)
      clear g3 g4 gg gr4 l3
      unfold dres
      dsimp only
      cases rb
      · go_wp2
        exact ⟨⟨i + 1, by omega, by go_num, HC4, T54, G4.out⟩, by simp [intOf]; omega⟩
      · go_wp2_with fail
        refine (HR.out _).mono ?_
        rintro e w5 ⟨rfl, g5⟩
        have HC5 := Lib.hid (show ∀ i, i < 4 → ∃ k : Int, w5.cell? ⟨w1.heap.size, i, none⟩ = some (.int .i64 k) from fun i hi => by
          obtain ⟨k, hk⟩ := HC4.out i hi
          exact ⟨k, g5.cell hk (by simp)⟩)
        have T55 := T54.kept g5
        have G5 := Lib.hid (gr_then G4.out g5)
        clear g5
        go_wp2
        exact ⟨⟨i + 1, by omega, by go_num, HC5, T55, G5.out⟩, by simp [intOf]; omega⟩
    · have h4 : i = 4 := by omega
      have hge : ¬ i < 4 := by omega
      have hr1 := fun w => right_any an sa w
      have hr2 := fun w => qright_any an sa w
      have ho := HOF.out
      have hq := HQO.out
      generalize fitD n 0 = r at ho hq
      obtain ⟨rn, rs, rb⟩ := r
      generalize rightD an sa = rr at hr1 hr2
      have HR1 := Lib.hid hr1
      have HR2 := Lib.hid hr2
      have HO := Lib.hid ho
      have HQ := Lib.hid hq
      clear hr1 hr2 ho hq h4
      go_wp2_with fail
      refine (HO.out _).mono ?_
      rintro e w3 ⟨rfl, g3⟩
      have T14 := Two.new w3 (.int .i64 rn) (.int .i64 (rs : Int)) 23
      unfold dres
      dsimp only
      go_wp2_with fail
      refine (HQ.out _).mono ?_
      rintro e w4 ⟨rfl, g4⟩
      have T14 := T14.kept g4
      have T16 := Two.new w4 (.int .i64 rn) (.int .i64 (rs : Int)) 23
      have gg := gr_then (gr_then g3 (gr_alloc w3 (.cells #[.int .i64 rn, .int .i64 (rs : Int)] 23) none)) g4
      have gr4 := gr_then (gr_then gg (gr_alloc w4 (.cells #[.int .i64 rn, .int .i64 (rs : Int)] 23) none)) (gr_drew _ none)
      have T14 := (T14.alloc (.cells #[.int .i64 rn, .int .i64 (rs : Int)] 23)).drew
      have T16 := T16.drew
      have T5 := T5.kept gr4
      have G4 := gr_then hg gr4
      clear g3 g4 gg gr4
      unfold dres
      dsimp only
      go_wp2_with fail
      have c0 := T5.c0
      have c1 := T5.c1
      have d0 := T14.c0
      have d1 := T14.c1
      have e0 := T16.c0
      have e1 := T16.c1
      go_region_held3 (fun w' => w'.cell? ⟨W.heap.size, 0, none⟩ = some (.int .i64 an) ∧ w'.cell? ⟨W.heap.size, 1, none⟩ = some (.int .i64 sa) ∧ w'.cell? ⟨w3.heap.size, 0, none⟩ = some (.int .i64 rn) ∧ w'.cell? ⟨w3.heap.size, 1, none⟩ = some (.int .i64 (rs : Int)) ∧ w'.cell? ⟨w4.heap.size, 0, none⟩ = some (.int .i64 rn) ∧ w'.cell? ⟨w4.heap.size, 1, none⟩ = some (.int .i64 (rs : Int))) (first | exact ⟨Two.c0 (by assumption), Two.c1 (by assumption), Two.c0 (by assumption), Two.c1 (by assumption), Two.c0 (by assumption), Two.c1 (by assumption)⟩ | go_keep)
        (first
        | (go_at_call 15; refine (HR1.out _).mono ?_; rintro e wa ⟨rfl, ga⟩; have hA5 := Two.kept (b := W.heap.size) (x := .int .i64 an) (y := .int .i64 sa) (by assumption) ga; have hA14 := Two.kept (b := w3.heap.size) (x := .int .i64 rn) (y := .int .i64 (rs : Int)) (by assumption) ga; have hA16 := Two.kept (b := w4.heap.size) (x := .int .i64 rn) (y := .int .i64 (rs : Int)) (by assumption) ga; have gA := gr_then (a := W) (by assumption) ga; have ca0 := hA5.c0; have ca1 := hA5.c1; have ca2 := hA14.c0; have ca3 := hA14.c1; have ca4 := hA16.c0; have ca5 := hA16.c1)
        | (go_at_call 18; refine (HR2.out _).mono ?_; rintro e wb ⟨rfl, gb⟩; have hB5 := Two.kept (b := W.heap.size) (x := .int .i64 an) (y := .int .i64 sa) (by assumption) gb; have hB14 := Two.kept (b := w3.heap.size) (x := .int .i64 rn) (y := .int .i64 (rs : Int)) (by assumption) gb; have hB16 := Two.kept (b := w4.heap.size) (x := .int .i64 rn) (y := .int .i64 (rs : Int)) (by assumption) gb; have gB := gr_then (a := W) (by assumption) gb; have cb0 := hB5.c0; have cb1 := hB5.c1; have cb2 := hB14.c0; have cb3 := hB14.c1; have cb4 := hB16.c0; have cb5 := hB16.c1))
      all_goals
        go_wp2
        go_ret
        exact ⟨rfl, by assumption⟩
end Go.Proofs.YthmfemhepinhlaaDoor
namespace Go.Proofs.YthmfemhepinhlaaDoor
open Go.ChangeShapes Go.WideShapes Go.ChangeAt Go.RowKit Mth

theorem own0 : ownKnob Tryd.prog.godebug = none := by kernel_rfl
theorem laidOut0 : laidOutB Tryd.prog = true := by kernel_rfl

def cellsD : DataW Unit → Array Value
  | .agg l => (l.map fun | .lit (.int k z) => Value.int k z | .lit (.string s) => Value.string ⟨s.toArray⟩ | _ => Value.nilIface).toArray
  | _ => #[]
abbrev synS : ByteArray := { data := #[105, 110, 118, 97, 108, 105, 100, 32, 115, 121, 110, 116, 97, 120] }
abbrev rngS : ByteArray := { data := #[118, 97, 108, 117, 101, 32, 111, 117, 116, 32, 111, 102, 32, 114, 97, 110, 103, 101] }
/-- So many blocks has the settled world. -/
noncomputable def low : Nat := (World.holding Tryd.prog default ⟨#[], #[], []⟩).heap.size
noncomputable def laidWorld (os : Os) : World :=
  let w0 := World.holding Tryd.prog os ⟨#[.cells #[.string synS] 131, .cells #[.string rngS] 131], #[], []⟩
  let put (h : Array Obj) (g : Nat) (cs : Array Value) : Array Obj := h.modify g fun
    | .cells _ t frozen => .cells cs t frozen
    | o => o
  { w0 with heap := put (put (put (put (put (put w0.heap 5 (cellsD Rows.laid_math_bits_deBruijn32tab)) 6 (cellsD Rows.laid_math_bits_deBruijn64tab)) 4 (cellsD Rows.laid_internal_strconv_uint64pow10)) 0 (cellsD Rows.laid_concord_decimal_primes)) 2 #[.iface 129 (.pointer (some ⟨low, 0, none⟩))]) 3 #[.iface 129 (.pointer (some ⟨low + 1, 0, none⟩))] }
abbrev laidL : List (String × DataW Unit) := [("math/bits.deBruijn32tab", Rows.laid_math_bits_deBruijn32tab), ("math/bits.deBruijn64tab", Rows.laid_math_bits_deBruijn64tab), ("internal/strconv.uint64pow10", Rows.laid_internal_strconv_uint64pow10), ("strconv.ErrRange", Rows.laid_strconv_ErrRange), ("strconv.ErrSyntax", Rows.laid_strconv_ErrSyntax), ("concord/decimal.primes", Rows.laid_concord_decimal_primes)]
theorem starE : "*" ++ "errors.errorString" = "*errors.errorString" := by decide
theorem rowE (u : TypeId) (h : Tryd.prog.typeName? 3 u = some "*errors.errorString") : u = 129 :=
  typeName_ptr_named (nm := "errors.errorString") (by rw [starE]; kernel_rfl) (by kernel_rfl) (by decide) u (by rw [starE]; exact h)
theorem gES : Tryd.prog.globalNamed "strconv.ErrSyntax" = some 2 := by kernel_rfl
theorem gER : Tryd.prog.globalNamed "strconv.ErrRange" = some 3 := by kernel_rfl
theorem ev_of {w : World} (h : laidMet Tryd.prog laidL w) : EV w := by
  have hR : laidMet Tryd.prog (("strconv.ErrRange", .iface "*errors.errorString" (.ptr (.agg [.lit (.string [118, 97, 108, 117, 101, 32, 111, 117, 116, 32, 111, 102, 32, 114, 97, 110, 103, 101])]))) :: [("strconv.ErrSyntax", Rows.laid_strconv_ErrSyntax), ("concord/decimal.primes", Rows.laid_concord_decimal_primes)]) w := h.tail.tail.tail
  have hS : laidMet Tryd.prog (("strconv.ErrSyntax", .iface "*errors.errorString" (.ptr (.agg [.lit (.string [105, 110, 118, 97, 108, 105, 100, 32, 115, 121, 110, 116, 97, 120])]))) :: [("concord/decimal.primes", Rows.laid_concord_decimal_primes)]) w := h.tail.tail.tail.tail
  obtain ⟨a0, s0, hv0, -, -, -⟩ := laid_sentinel hR gER (ti := 78) (by kernel_rfl) Tryd.underlying78 rowE Tryd.underlying129 Tryd.underlying131 rfl rfl Tryd.underlying9 (by kernel_rfl) (by kernel_rfl)
  obtain ⟨a1, s1, hv1, -, -, -⟩ := laid_sentinel hS gES (ti := 78) (by kernel_rfl) Tryd.underlying78 rowE Tryd.underlying129 Tryd.underlying131 rfl rfl Tryd.underlying9 (by kernel_rfl) (by kernel_rfl)
  refine ⟨?_, ?_, ⟨_, _, by have h0 := World.var?_cell gES hv1 0; simpa using h0⟩, ⟨_, _, by have h0 := World.var?_cell gER hv0 0; simpa using h0⟩⟩
  · exact Lib.tabIs_of_head (g := 4) (t := 120) (e := 107) (n := 20) (by kernel_rfl) (by kernel_rfl) (by kernel_rfl) (by kernel_rfl) (by kernel_rfl) (by kernel_rfl) (show laidMet Tryd.prog [("internal/strconv.uint64pow10", Lib.tabData .u64 Lib.pow10Tab), ("strconv.ErrRange", Rows.laid_strconv_ErrRange), ("strconv.ErrSyntax", Rows.laid_strconv_ErrSyntax), ("concord/decimal.primes", Rows.laid_concord_decimal_primes)] w from h.tail.tail)
  · exact Lib.tabIs_of_head (g := 0) (t := 39) (e := 3) (n := 2) (by kernel_rfl) (by kernel_rfl) (by kernel_rfl) (by kernel_rfl) (by kernel_rfl) (by kernel_rfl) (show laidMet Tryd.prog [("concord/decimal.primes", Lib.tabData .i64 [2, 5])] w from h.tail.tail.tail.tail.tail)
set_option maxRecDepth 1000000 in
theorem laid_at (os : Os) (args : Array Value) : laidMet Tryd.prog laidL ((laidWorld os).forCall (fun _ _ => 0) ⟨#[], args, []⟩).memory :=
  have h : LaidIn Tryd.prog ((laidWorld os).forCall (fun _ _ => 0) ⟨#[], args, []⟩).memory laidL [5, 6, 4, 3, 2, 0, low, low + 1] :=
    LaidIn.of_run [5, 6, 4, 3, 2, 0, low, low + 1] 8 (by kernel_rfl) (by kernel_rfl) (by kernel_rfl) (by kernel_rfl)
  h.met

set_option maxRecDepth 100000 in
theorem int_arg {H : Type} {enc : TypeId × Value → H} {W : World} {base : Nat} {v : Value} {d : DataW H} {p : List MemPlace} (hok : Value.okWide Tryd.prog W .any base 3 v) (h : DataW.Trod enc Tryd.prog W 0 (fun _ => true) true 3 v d p) : ∃ n : Int, v = .int .i64 n ∧ -9223372036854775808 ≤ n ∧ n ≤ 9223372036854775807 := by
  obtain ⟨n, rfl, _, _, hw⟩ := open_int Tryd.underlying3 hok h
  have a1 : IntKind.i64.min = -9223372036854775808 := rfl
  have a2 : IntKind.i64.max = 9223372036854775807 := rfl
  refine ⟨n, rfl, ?_⟩
  simpa [Lit.wf, a1, a2] using hw
set_option maxRecDepth 100000 in
theorem byte_arg {H : Type} {enc : TypeId × Value → H} {W : World} {base : Nat} {v : Value} {d : DataW H} {p : List MemPlace} (hok : Value.okWide Tryd.prog W .any base 5 v) (h : DataW.Trod enc Tryd.prog W 0 (fun _ => true) true 5 v d p) : ∃ n : Nat, v = .int .u8 (n : Int) ∧ n ≤ 255 := by
  obtain ⟨n, rfl, _, _, hw⟩ := open_int Tryd.underlying5 hok h
  have a1 : IntKind.u8.min = 0 := rfl
  have a2 : IntKind.u8.max = 255 := rfl
  have hb : 0 ≤ n ∧ n ≤ 255 := by simpa [Lit.wf, a1, a2] using hw
  exact ⟨n.toNat, by rw [Int.toNat_of_nonneg hb.1], by omega⟩
set_option maxRecDepth 100000 in
theorem str_arg {H : Type} {enc : TypeId × Value → H} {W : World} {base : Nat} {v : Value} {d : DataW H} {p : List MemPlace} (hok : Value.okWide Tryd.prog W .any base 9 v) (h : DataW.Trod enc Tryd.prog W 0 (fun _ => true) true 9 v d p) : ∃ s : ByteArray, v = .string s ∧ s.size ≤ maxLen := by
  obtain ⟨s, rfl⟩ := okWide_string Tryd.underlying9 hok
  obtain ⟨fuel, hf⟩ := h
  refine ⟨s, rfl, ?_⟩
  cases fuel with
  | zero => simp [DataW.trod] at hf
  | succ n =>
    simp [DataW.trod, Value.cells, Tryd.underlying9] at hf
    exact hf.1
theorem wf_i64 {n : Int} (h : (Lit.int .i64 n).wf = true) : -9223372036854775808 ≤ n ∧ n ≤ 9223372036854775807 := by
  have a1 : IntKind.i64.min = -9223372036854775808 := rfl
  have a2 : IntKind.i64.max = 9223372036854775807 := rfl
  simpa [Lit.wf, a1, a2] using h
theorem wf_u8 {n : Int} (h : (Lit.int .u8 n).wf = true) : ∃ m : Nat, n = (m : Int) ∧ m ≤ 255 := by
  have a1 : IntKind.u8.min = 0 := rfl
  have a2 : IntKind.u8.max = 255 := rfl
  have hb : 0 ≤ n ∧ n ≤ 255 := by simpa [Lit.wf, a1, a2] using h
  exact ⟨n.toNat, by rw [Int.toNat_of_nonneg hb.1], by omega⟩
/-- An argument that is an array of 2 numbers. -/
theorem arr2_arg {P : Program} {k : IntKind} {t e : TypeId} (ht : P.underlying t = some (.array 2 e)) (he : P.underlying e = some (.int k)) (hc : P.cellsOf t = 2) (hce : P.cellsOf e = 1) {H : Type} {enc : TypeId × Value → H} {W : World} {base : Nat} {v : Value} {d : DataW H} {p : List MemPlace} (hok : Value.okWide P W .any base t v) (h : DataW.Trod enc P W 0 (fun _ => true) true t v d p) : ∃ a0 a1 : Int, v = .agg #[.int k a0, .int k a1] ∧ (Lit.int k a0).wf = true ∧ (Lit.int k a1).wf = true := by
  simp only [Value.okWide, ht] at hok
  obtain ⟨cs, rfl, hsz, _⟩ := hok
  obtain ⟨fuel, hf⟩ := h
  rw [hc] at hsz
  obtain ⟨x0, x1, rfl⟩ : ∃ x0 x1, cs = #[x0, x1] := by
    rcases cs with ⟨l⟩
    match l, hsz with
    | [x0, x1], _ => exact ⟨x0, x1, rfl⟩
  obtain ⟨xs, m, _, _, _, hlen, hf2⟩ := DataW.trod_array ht hf
  have h0 := hf2 0 (by decide)
  have h1 := hf2 1 (by decide)
  rw [hce] at h0 h1
  match xs, hlen with
  | [y0, y1], _ =>
    obtain ⟨a0, e0, _, w0⟩ := DataW.trod_int he (x := y0) (by simpa using h0)
    obtain ⟨a1, e1, _, w1⟩ := DataW.trod_int he (x := y1) (by simpa using h1)
    simp [Value.cells] at e0 e1
    exact ⟨a0, a1, by rw [e0, e1], w0, w1⟩
/-- An argument that is an array of 4 numbers. -/
theorem arr4_arg {P : Program} {k : IntKind} {t e : TypeId} (ht : P.underlying t = some (.array 4 e)) (he : P.underlying e = some (.int k)) (hc : P.cellsOf t = 4) (hce : P.cellsOf e = 1) {H : Type} {enc : TypeId × Value → H} {W : World} {base : Nat} {v : Value} {d : DataW H} {p : List MemPlace} (hok : Value.okWide P W .any base t v) (h : DataW.Trod enc P W 0 (fun _ => true) true t v d p) : ∃ a0 a1 a2 a3 : Int, v = .agg #[.int k a0, .int k a1, .int k a2, .int k a3] ∧ (Lit.int k a0).wf = true ∧ (Lit.int k a1).wf = true ∧ (Lit.int k a2).wf = true ∧ (Lit.int k a3).wf = true := by
  simp only [Value.okWide, ht] at hok
  obtain ⟨cs, rfl, hsz, _⟩ := hok
  obtain ⟨fuel, hf⟩ := h
  rw [hc] at hsz
  obtain ⟨x0, x1, x2, x3, rfl⟩ : ∃ x0 x1 x2 x3, cs = #[x0, x1, x2, x3] := by
    rcases cs with ⟨l⟩
    match l, hsz with
    | [x0, x1, x2, x3], _ => exact ⟨x0, x1, x2, x3, rfl⟩
  obtain ⟨xs, m, _, _, _, hlen, hf2⟩ := DataW.trod_array ht hf
  have h0 := hf2 0 (by decide)
  have h1 := hf2 1 (by decide)
  have h2 := hf2 2 (by decide)
  have h3 := hf2 3 (by decide)
  rw [hce] at h0 h1 h2 h3
  match xs, hlen with
  | [y0, y1, y2, y3], _ =>
    obtain ⟨a0, e0, _, w0⟩ := DataW.trod_int he (x := y0) (by simpa using h0)
    obtain ⟨a1, e1, _, w1⟩ := DataW.trod_int he (x := y1) (by simpa using h1)
    obtain ⟨a2, e2, _, w2⟩ := DataW.trod_int he (x := y2) (by simpa using h2)
    obtain ⟨a3, e3, _, w3⟩ := DataW.trod_int he (x := y3) (by simpa using h3)
    simp [Value.cells] at e0 e1 e2 e3
    exact ⟨a0, a1, a2, a3, by rw [e0, e1, e2, e3], w0, w1, w2, w3⟩
set_option maxRecDepth 100000 in
theorem dec_arg {H : Type} {enc : TypeId × Value → H} {W : World} {base : Nat} {v : Value} {d : DataW H} {p : List MemPlace} (hok : Value.okWide Tryd.prog W .any base 23 v) (h : DataW.Trod enc Tryd.prog W 0 (fun _ => true) true 23 v d p) : ∃ a0 a1 : Int, v = .agg #[.int .i64 a0, .int .i64 a1] ∧ (Lit.int .i64 a0).wf = true ∧ (Lit.int .i64 a1).wf = true := by
  obtain ⟨v0, v1, y0, y1, n, rfl, _, _, h0, h1⟩ := Joins.open_agg2 Tryd.underlying23 (by kernel_rfl) (by kernel_rfl) hok h
  obtain ⟨a0, e0, _, w0⟩ := DataW.trod_int Tryd.underlying3 h0
  obtain ⟨a1, e1, _, w1⟩ := DataW.trod_int Tryd.underlying3 h1
  simp [Value.cells] at e0 e1
  exact ⟨a0, a1, by rw [e0, e1], w0, w1⟩
/-- An argument that is three pairs of numbers. -/
theorem arr32_arg {P : Program} {k : IntKind} {t e2 e : TypeId} (ht : P.underlying t = some (.array 3 e2)) (ht2 : P.underlying e2 = some (.array 2 e)) (he : P.underlying e = some (.int k)) (hc : P.cellsOf t = 6) (hc2 : P.cellsOf e2 = 2) (hce : P.cellsOf e = 1) {H : Type} {enc : TypeId × Value → H} {W : World} {base : Nat} {v : Value} {d : DataW H} {p : List MemPlace} (hok : Value.okWide P W .any base t v) (h : DataW.Trod enc P W 0 (fun _ => true) true t v d p) : ∃ a0 a1 a2 a3 a4 a5 : Int, v = .agg #[.int k a0, .int k a1, .int k a2, .int k a3, .int k a4, .int k a5] ∧ (Lit.int k a0).wf = true ∧ (Lit.int k a1).wf = true ∧ (Lit.int k a2).wf = true ∧ (Lit.int k a3).wf = true ∧ (Lit.int k a4).wf = true ∧ (Lit.int k a5).wf = true := by
  simp only [Value.okWide, ht] at hok
  obtain ⟨cs, rfl, hsz, _⟩ := hok
  obtain ⟨fuel, hf⟩ := h
  rw [hc] at hsz
  obtain ⟨x0, x1, x2, x3, x4, x5, rfl⟩ : ∃ x0 x1 x2 x3 x4 x5, cs = #[x0, x1, x2, x3, x4, x5] := by
    rcases cs with ⟨l⟩
    match l, hsz with
    | [x0, x1, x2, x3, x4, x5], _ => exact ⟨x0, x1, x2, x3, x4, x5, rfl⟩
  obtain ⟨xs, m, _, _, _, hlen, hf2⟩ := DataW.trod_array ht hf
  have h0 := hf2 0 (by decide)
  have h1 := hf2 1 (by decide)
  have h2 := hf2 2 (by decide)
  rw [hc2] at h0 h1 h2
  match xs, hlen with
  | [y0, y1, y2], _ =>
    have key : ∀ {c0 c1 : Value} {y}, DataW.trod enc P W 0 (fun _ => true) true m e2 [c0, c1] = some y → ∃ b0 b1 : Int, c0 = .int k b0 ∧ c1 = .int k b1 ∧ (Lit.int k b0).wf = true ∧ (Lit.int k b1).wf = true := by
      intro c0 c1 y hy
      obtain ⟨zs, m', _, _, _, hl2, hg⟩ := DataW.trod_array ht2 hy
      have g0 := hg 0 (by decide)
      have g1 := hg 1 (by decide)
      rw [hce] at g0 g1
      match zs, hl2 with
      | [z0, z1], _ =>
        obtain ⟨b0, e0, _, w0⟩ := DataW.trod_int he (x := z0) (by simpa using g0)
        obtain ⟨b1, e1, _, w1⟩ := DataW.trod_int he (x := z1) (by simpa using g1)
        simp at e0 e1
        exact ⟨b0, b1, e0, e1, w0, w1⟩
    obtain ⟨a0, a1, rfl, rfl, w0, w1⟩ := key (y := y0) (by simpa [Value.cells] using h0)
    obtain ⟨a2, a3, rfl, rfl, w2, w3⟩ := key (y := y1) (by simpa [Value.cells] using h1)
    obtain ⟨a4, a5, rfl, rfl, w4, w5⟩ := key (y := y2) (by simpa [Value.cells] using h2)
    exact ⟨a0, a1, a2, a3, a4, a5, rfl, w0, w1, w2, w3, w4, w5⟩
theorem gr_low {w w' : World} (hg : w.grownBy w' none) : Below w.heap.size w w' := ⟨hg.os, hg.tape, hg.output, hg.size, fun k hk => hg.block k hk (by simp)⟩
end Go.Proofs.YthmfemhepinhlaaDoor
namespace Go.Proofs.YthmfemhepinhlaaDoor
open Go.ChangeShapes Go.WideShapes Go.ChangeAt Go.RowKit Mth

set_option maxRecDepth 1000000 in
set_option maxHeartbeats 4000000 in
theorem makes_lifted (os : Os) (started : os.Started) (H : Type) (enc : TypeId × Value → H) :
    ReturnsInHanded {} Tryd.checked os 3 .any (fun w args => (Rows.decimalMakesSpec.pre enc Tryd.prog Tryd.f3 Rows.decimalMakesRow.domain false w args ∧ laidMet Tryd.prog Rows.decimalMakesRow.laid w) ∧ sizedMet enc Tryd.prog Tryd.f3 (OpenSpec.ofChange Rows.decimalMakesSpec) false w args)
      (Rows.decimalMakesSpec.post enc Tryd.prog Tryd.f3 false true false false) := by
  refine returnsInHanded_of_change_and (C := Tryd.checked) (X := fun w _ => laidMet Tryd.prog Rows.decimalMakesRow.laid w) (fun _ _ _ hh h => h.of_heap hh) own0 started (by kernel_rfl) Tryd.func3
    (ChangeSpec.witness_at (enc := enc) (C := Tryd.checked) (os := os) (X := fun w _ => laidMet Tryd.prog Rows.decimalMakesRow.laid w) false (laidWorld os) #[.int .i64 0, .int .i64 0, .agg #[.int .i64 0, .int .i64 0]] 8 rfl (by kernel_rfl) (by kernel_rfl) (by kernel_rfl) (by kernel_rfl) (by kernel_rfl) (laid_at os _)) ?_
  intro W base args ds gs before hval0 hW hcnd0 _ hL _
  have hval : ∀ (j : Nat) t v, Tryd.f3.params[j]? = some t → args[j]? = some v → Value.okWide Tryd.prog W .any base t v := hval0
  have hW' := hW
  obtain ⟨p, q, hA0, hV, rfl, hfz, hnd⟩ := hW
  have hA : DataW.TrodAll enc Tryd.prog W 0 (fun _ => true) true Tryd.f3.params.toList args.toList ds p := hA0
  rw [Tryd.params3] at hA hval
  obtain ⟨v0, v1, v2, d0, d1, d2, p0, p1, p2, rfl, rfl, rfl, h0, h1, h2⟩ := trodAll_three hA
  obtain ⟨rfl, rfl⟩ := trodVars_none hV
  clear hA0 hval0 hA
  simp only [List.append_nil] at hW'
  have k0 := hval 0 3 v0 rfl rfl
  have k1 := hval 1 3 v1 rfl rfl
  have k2 := hval 2 23 v2 rfl rfl
  obtain ⟨n0, rfl, w0⟩ := int_arg k0 h0
  obtain ⟨n1, rfl, w1⟩ := int_arg k1 h1
  obtain ⟨n2, s2, rfl, w2, x2⟩ := dec_arg k2 h2
  refine (makes_true n0 n1 n2 s2 W (ev_of hL) w0 w1 (wf_i64 w2) (wf_i64 x2)).mono fun e W' ⟨he, hg⟩ => ?_
  subst he
  have hb : Below W.heap.size W W' := gr_low hg
  have hlt : ∀ x ∈ p0 ++ p1 ++ p2, x.block < W.heap.size := fun x hx => by simpa using hW'.lt x hx
  have hl0 : ∀ x ∈ p0, x.block < W.heap.size := fun x hx => hlt x (by simp [hx])
  have hl1 : ∀ x ∈ p1, x.block < W.heap.size := fun x hx => hlt x (by simp [hx])
  have hl2 : ∀ x ∈ p2, x.block < W.heap.size := fun x hx => hlt x (by simp [hx])
  refine ⟨_, rfl, _, _, _, [], p0 ++ p1 ++ p2, [], hW', ?_, ?_, rfl, hb.frame _, fun h => by cases h⟩
  · exact trodAll_mk1 (shut_bool Tryd.underlying4 true)
  · have h3 := trodAll_mk3 (Below.trod laidOut0 (by kernel_rfl) (of_decide_eq_true (by kernel_rfl)) h0 hb hl0) (Below.trod laidOut0 (by kernel_rfl) (of_decide_eq_true (by kernel_rfl)) h1 hb hl1) (Below.trod laidOut0 (by kernel_rfl) (of_decide_eq_true (by kernel_rfl)) h2 hb hl2)
    rw [← List.append_assoc] at h3
    exact h3

theorem makes_row : Rows.DecimalMakesSaid :=
  OpenClaim.holds_of_wide 3 Tryd.f3 rfl rfl rfl rfl rfl rfl rfl ⟨rfl, rfl, rfl, rfl, rfl⟩ rfl rfl rfl rfl rfl (by kernel_rfl) Tryd.func3 (by kernel_rfl)
    (of_decide_eq_true (by kernel_rfl)) (by unfold Func.isWrapper; first | (rw [if_pos (by decide +kernel)]; kernel_rfl) | (rw [if_neg (by decide +kernel)]; exact ⟨rfl, rfl⟩))
    (fun os started H enc _ => makes_lifted os started H enc)
end Go.Proofs.YthmfemhepinhlaaDoor
