/- Contracts of the program and of the reference, part 7: Dg, Df, Dh, Dk, Dn. -/
import Derived.Test.YtmlmjhlakpgagaaDoorBRing6
import Derived.Deep.LoopGhost
namespace Go.Proofs.YtmlmjhlakpgagaaDoor
open Go.RowKit Mth Dm

theorem lt100 {n : Nat} (h : n < 256 ^ 100) : n < 256 ^ 200 := Nat.lt_trans h (by decide +kernel)
theorem P10_12 {k : Nat} (h : k ≤ 12) : P10 k ≤ 1000000000000 := Nat.le_trans (P10_le h) (by decide)
set_option maxHeartbeats 1000000 in
set_option maxRecDepth 100000 in
theorem wider_any (neg : Bool) (N s m : Nat) (w : World) (hN : N < 256 ^ 100) (hs : s ≤ m) (hm : m ≤ 12) : Gives 59 #[bv neg N s, .int .i64 m] w (bv neg (N * P10 (m - s)) m) := by
  have T0 := (Three.new w (.bool neg) (.string (S N)) (.int .i64 (s : Int)) 59).alloc (.cells #[.bool false, .string ⟨#[]⟩, .int .i64 0] 59)
  have T1 := Three.new1 w (.cells #[.bool neg, .string (S N), .int .i64 (s : Int)] 59) (.bool false) (.string ⟨#[]⟩) (.int .i64 0) 59
  have g0 := gr_then (gr_alloc w (.cells #[.bool neg, .string (S N), .int .i64 (s : Int)] 59) none) (gr_alloc _ (.cells #[.bool false, .string ⟨#[]⟩, .int .i64 0] 59) none)
  have hpw : ∀ w, Gives 50 #[.int .i64 ((m : Int) - s)] w (.string (S (P10 (m - s)))) := fun w => by
    rw [show (m : Int) - s = ((m - s : Nat) : Int) from by omega]; exact power_any _ w (by omega)
  have hp12 := P10_12 (k := m - s) (by omega)
  have hmul := fun w => s_rmul (S N) (S (P10 (m - s))) N (P10 (m - s)) w (s_num _) (s_num _) (by have := s_size9 (lt100 hN); omega) (by have := sz63 (n := P10 (m - s)) (by omega); omega)
  generalize P10 (m - s) = p at *
  generalize N * p = Np at *
  have HP := Lib.hid hpw
  have HM := Lib.hid hmul
  have G := Lib.hid (gr_then g0 (gr_drew _ none))
  have hw : IntKind.i64.wrap ((m : Int) - s) = (m : Int) - s := IntWalk.i64_in _ (by omega)
  clear g0 hpw hmul hN
  have T0 := T0.drew
  have T1 := T1.drew
  unfold bv
  go_enter Tryd.func59, Tryd.ntmps59
  go_wp2_with fail
  have c0 := T0.c0
  have c1 := T0.c1
  have c2 := T0.c2
  go_region_held3 (fun w' => w'.cell? ⟨w.heap.size, 0, none⟩ = some (.bool neg) ∧ w'.cell? ⟨w.heap.size, 1, none⟩ = some (.string (S N)) ∧ w'.cell? ⟨w.heap.size, 2, none⟩ = some (.int .i64 (s : Int))) (first | exact ⟨c0, c1, c2⟩ | go_keep)
    (first
    | (go_at_call 50; refine (HP.out _).mono ?_; rintro e w2 ⟨rfl, g2⟩; have T2 := T0.kept g2; have T3 := T1.kept g2; have d0 := T2.c0; have d1 := T2.c1; have d2 := T2.c2)
    | (go_at_call 48; refine (HM.out _).mono ?_; rintro e w3 ⟨rfl, g3⟩; have T4 := T2.kept g3; have T5 := T3.kept g3; have e0 := T4.c0; have e1 := T4.c1; have e2 := T4.c2; have f0 := T5.fr 0; have f1 := T5.fr 1; have f2 := T5.fr 2; have k0 := T5.c0; have k1 := T5.c1; have k2 := T5.c2))
  all_goals
    have G := Lib.hid (gr_then (gr_then G.out g2) g3)
    go_wp2
    exact bodyPost_ret (v := .agg #[.bool neg, .string (S Np), .int .i64 (m : Int)]) (by simp [results, Tryd.results59, go_sem, k0, k1, k2]) rfl ⟨rfl, gr_setn (gr_setn (gr_setn G.out (by omega)) (by omega)) (by omega)⟩
end Go.Proofs.YtmlmjhlakpgagaaDoor
namespace Go.Proofs.YtmlmjhlakpgagaaDoor
open Go.RowKit Mth Dm

/-- A number with a sign. -/
def rep (neg : Bool) (N : Nat) : Int := if neg then -(N : Int) else N
theorem rep_mod (neg : Bool) (N : Nat) : rep neg N % 10 = 0 ↔ N % 10 = 0 := by unfold rep; split <;> omega
theorem rep_div (neg : Bool) {N : Nat} (h : N % 10 = 0) : rep neg N / 10 = rep neg (N / 10) := by unfold rep; split <;> omega
theorem big_rep (n : Int) : rep (decide (n < 0)) n.natAbs = n := by
  unfold rep; by_cases h : n < 0
  · rw [if_pos (by simpa using h)]; omega
  · rw [if_neg (by simpa using h)]; omega
theorem fit_end {neg : Bool} {N s : Nat} (h : s = 0 ∨ N % 10 ≠ 0) : fitD (rep neg N) s = if s ≤ 6 ∧ N ≤ 1000000000000000 then (rep neg N, s, true) else (0, 0, false) := by
  rw [fitD_stop (by rcases h with h | h; exact .inl h; exact .inr (fun e => h ((rep_mod neg N).1 e)))]
  have e : (s ≤ 6 ∧ -1000000000000000 ≤ rep neg N ∧ rep neg N ≤ 1000000000000000) ↔ (s ≤ 6 ∧ N ≤ 1000000000000000) := by
    unfold rep; split <;> omega
  by_cases hc : s ≤ 6 ∧ N ≤ 1000000000000000
  · rw [if_pos (e.2 hc), if_pos hc]
  · rw [if_neg (fun h => hc (e.1 h)), if_neg hc]
theorem fit_step {neg : Bool} {N s : Nat} (h : N % 10 = 0) : fitD (rep neg N) (s + 1) = fitD (rep neg (N / 10)) s := by
  have := fitD_pow s 1 (rep neg (N / 10))
  rw [← this]
  congr 1
  rw [← rep_div neg h]
  have := (rep_mod neg N).2 h
  omega
set_option maxHeartbeats 2000000 in
set_option maxRecDepth 100000 in
theorem fit_any (neg : Bool) (N sc : Nat) (w : World) (hN : N < 256 ^ 200) (hs : sc ≤ 1000) : Gives 37 #[bv neg N sc] w (dres (fitD (rep neg N) sc)) := by
  have T0 := (Three.new w (.bool neg) (.string (S N)) (.int .i64 (sc : Int)) 59).alloc (.cells #[.int .i64 0, .int .i64 0] 23)
  have T1 := Two.new1 w (.cells #[.bool neg, .string (S N), .int .i64 (sc : Int)] 59) (.int .i64 0) (.int .i64 0) 23
  have g0 := gr_then (gr_alloc w (.cells #[.bool neg, .string (S N), .int .i64 (sc : Int)] 59) none) (gr_alloc _ (.cells #[.int .i64 0, .int .i64 0] 23) none)
  generalize hr : fitD (rep neg N) sc = r
  have HR := Lib.hid hr
  have HNN := Lib.hid hN
  have G := Lib.hid g0
  unfold bv
  clear hr hN g0
  go_enter Tryd.func37, Tryd.ntmps37
  go_wp2_with fail
  go_loopg [] sc (fun g wr => ∃ (N' : Nat), Three wr w.heap.size (.bool neg) (.string (S N')) (.int .i64 (g : Int)) 59 ∧ Two wr (w.heap.size + 1) (.int .i64 0) (.int .i64 0) 23 ∧ w.grownBy wr none ∧ Hid (g ≤ sc ∧ N' ≤ N ∧ fitD (rep neg N') g = r))
  case atStart => exact ⟨N, T0, T1, G.out, Lib.hid ⟨Nat.le_refl _, Nat.le_refl _, HR.out⟩⟩
  case round =>
    obtain ⟨N', hT0, hT1, hg, HI⟩ := hrel
    clear T0 T1 G
    have hgs : gk ≤ 1000 := by have := HI.out.1; omega
    have HN2 := Lib.hid (show N' < 256 ^ 200 from Nat.lt_of_le_of_lt HI.out.2.1 HNN.out)
    have c0 := hT0.c0
    have c1 := hT0.c1
    have c2 := hT0.c2
    by_cases h0 : gk = 0
    · subst h0
      have HFIT := Lib.hid (show r = if 0 ≤ 6 ∧ N' ≤ 1000000000000000 then (rep neg N', 0, true) else (0, 0, false) by rw [← HI.out.2.2, fit_end (.inl rfl)])
      have T0 := hT0
      have T1 := hT1
      have G := Lib.hid hg
      clear hT0 hT1 hg HI
      clear c0 c1 c2
      have c0 := T0.c0
      have c1 := T0.c1
      have c2 := T0.c2
      have d0 := T1.c0
      have d1 := T1.c1
      have f0 := T1.fr 0
      have f1 := T1.fr 1
      by_cases hi : N' ≤ 9223372036854775807
      · have hint := fun w => rint_yes (S N') w (by have := s_size9 HN2.out; omega) (by rw [s_num]; exact hi)
        rw [s_num] at hint
        have HINT := Lib.hid hint
        clear hint
        by_cases hb : N' ≤ 1000000000000000
        · by_cases h6 : (0 : Nat) ≤ 6
          · have hres : r = (rep neg N', 0, true) := by rw [HFIT.out, if_pos ⟨h6, hb⟩]
            have HRES := Lib.hid hres
            clear hres
            cases neg
            · go_wp2_with fail
              refine (HINT.out _).mono ?_
              rintro e w5 ⟨rfl, rfl⟩
              go_wp2
              exact bodyPost_ret (v := .tuple #[.agg #[.int .i64 (N' : Int), .int .i64 0], .bool true]) (by simp [results, Tryd.results37, go_sem, d0, d1]) rfl ⟨by rw [HRES.out]; rfl, gr_setn (gr_setn G.out (by omega)) (by omega)⟩
            · go_wp2_with fail
              refine (HINT.out _).mono ?_
              rintro e w5 ⟨rfl, rfl⟩
              go_wp2
              exact bodyPost_ret (v := .tuple #[.agg #[.int .i64 (-(N' : Int)), .int .i64 0], .bool true]) (by simp [results, Tryd.results37, go_sem, d0, d1]) rfl ⟨by rw [HRES.out]; rfl, gr_setn (gr_setn G.out (by omega)) (by omega)⟩
          · exact absurd (Nat.zero_le 6) h6
        · have hres : r = (0, 0, false) := by rw [HFIT.out, if_neg (fun h => hb h.2)]
          have HRES := Lib.hid hres
          have hb2 : 1000000000000000 < N' := by omega
          clear hres hb
          go_wp2_with fail
          refine (HINT.out _).mono ?_
          rintro e w5 ⟨rfl, rfl⟩
          go_wp2
          exact bodyPost_ret (v := .tuple #[.agg #[.int .i64 0, .int .i64 0], .bool false]) (by simp [results, Tryd.results37, go_sem, d0, d1]) rfl ⟨by rw [HRES.out]; rfl, gr_setn (gr_setn G.out (by omega)) (by omega)⟩
      · have hint := fun w => rint_no (S N') w (by have := s_size9 HN2.out; omega) (by rw [s_num]; omega)
        have HINT := Lib.hid hint
        have hres : r = (0, 0, false) := by rw [HFIT.out, if_neg (fun h => by omega)]
        have HRES := Lib.hid hres
        clear hint hres hi
        go_wp2_with fail
        refine (HINT.out _).mono ?_
        rintro e w5 ⟨rfl, rfl⟩
        go_wp2
        exact bodyPost_ret (v := .tuple #[.agg #[.int .i64 0, .int .i64 0], .bool false]) (by simp [results, Tryd.results37, go_sem, d0, d1]) rfl ⟨by rw [HRES.out]; rfl, gr_setn (gr_setn G.out (by omega)) (by omega)⟩
    · have h0' : 0 < gk := by omega
      go_wp2_with fail
      have T0 := hT0.drew
      have T1 := hT1.drew
      have G := Lib.hid (gr_then hg (gr_drew _ none))
      have d1 := T0.c1
      go_region_held3 (fun w' => w'.cell? ⟨w.heap.size, 1, none⟩ = some (.string (S N'))) (first | exact d1 | go_keep)
        (first
        | (go_at_call 52; refine (rof_any 10 _ (by omega)).mono ?_; rintro e w2 ⟨rfl, g2⟩; have d2 := (T0.kept g2).c1)
        | (go_at_call 53; refine (s_rquo (S N') (S 10) N' 10 _ (s_num _) (s_num _) (by decide) (s_size9 HN2.out) (sz63 (by decide))).mono ?_; rintro e w3 ⟨rfl, g3⟩; have d3 := ((T0.kept g2).kept g3).c1))
      have T0 := (T0.kept g2).kept g3
      have T1 := (T1.kept g2).kept g3
      have G := Lib.hid (gr_then (gr_then G.out g2) g3)
      clear g2 g3 d1 d2 d3 hT0 hT1 hg c0 c1 c2
      by_cases hz : N' % 10 = 0
      · obtain ⟨k, rfl⟩ : ∃ k, gk = k + 1 := ⟨gk - 1, by omega⟩
        have hsz : ¬ 0 < (S (N' % 10)).size := by rw [hz, s_zero]; decide
        have HNX := Lib.hid (show k ≤ sc ∧ N' / 10 ≤ N ∧ fitD (rep neg (N' / 10)) k = r from ⟨by have := HI.out.1; omega, by have := HI.out.2.1; omega, by rw [← HI.out.2.2, fit_step hz]⟩)
        have f1 := T0.fr 1
        have f2 := T0.fr 2
        have c1 := T0.c1
        have c2 := T0.c2
        clear hz
        go_wp2
        go_roundg k
        case measure => omega
        case rel => exact ⟨N' / 10, (T0.s1 _).s2 _, (T1.other (by omega)).other (by omega), gr_setn (gr_setn G.out (Nat.le_refl _)) (Nat.le_refl _), HNX⟩
      · have hsz : 0 < (S (N' % 10)).size := s_len_pos (by omega)
        have HFIT := Lib.hid (show r = if gk ≤ 6 ∧ N' ≤ 1000000000000000 then (rep neg N', gk, true) else (0, 0, false) by rw [← HI.out.2.2, fit_end (.inr hz)])
        clear hz HI
        have c0 := T0.c0
        have c1 := T0.c1
        have c2 := T0.c2
        have d0 := T1.c0
        have d1 := T1.c1
        have f0 := T1.fr 0
        have f1 := T1.fr 1
        by_cases hi : N' ≤ 9223372036854775807
        · have hint := fun w => rint_yes (S N') w (by have := s_size9 HN2.out; omega) (by rw [s_num]; exact hi)
          rw [s_num] at hint
          have HINT := Lib.hid hint
          clear hint
          by_cases hb : N' ≤ 1000000000000000
          · by_cases h6 : gk ≤ 6
            · have hres : r = (rep neg N', gk, true) := by rw [HFIT.out, if_pos ⟨h6, hb⟩]
              have HRES := Lib.hid hres
              clear hres
              cases neg
              · go_wp2_with fail
                refine (HINT.out _).mono ?_
                rintro e w5 ⟨rfl, rfl⟩
                go_wp2
                exact bodyPost_ret (v := .tuple #[.agg #[.int .i64 (N' : Int), .int .i64 (gk : Int)], .bool true]) (by simp [results, Tryd.results37, go_sem, d0, d1]) rfl ⟨by rw [HRES.out]; rfl, gr_setn (gr_setn G.out (by omega)) (by omega)⟩
              · go_wp2_with fail
                refine (HINT.out _).mono ?_
                rintro e w5 ⟨rfl, rfl⟩
                go_wp2
                exact bodyPost_ret (v := .tuple #[.agg #[.int .i64 (-(N' : Int)), .int .i64 (gk : Int)], .bool true]) (by simp [results, Tryd.results37, go_sem, d0, d1]) rfl ⟨by rw [HRES.out]; rfl, gr_setn (gr_setn G.out (by omega)) (by omega)⟩
            · have hres : r = (0, 0, false) := by rw [HFIT.out, if_neg (fun h => h6 h.1)]
              have HRES := Lib.hid hres
              have h7 : 6 < gk := by omega
              clear hres h6
              go_wp2_with fail
              refine (HINT.out _).mono ?_
              rintro e w5 ⟨rfl, rfl⟩
              go_wp2
              exact bodyPost_ret (v := .tuple #[.agg #[.int .i64 0, .int .i64 0], .bool false]) (by simp [results, Tryd.results37, go_sem, d0, d1]) rfl ⟨by rw [HRES.out]; rfl, gr_setn (gr_setn G.out (by omega)) (by omega)⟩
          · have hres : r = (0, 0, false) := by rw [HFIT.out, if_neg (fun h => hb h.2)]
            have HRES := Lib.hid hres
            have hb2 : 1000000000000000 < N' := by omega
            clear hres hb
            go_wp2_with fail
            refine (HINT.out _).mono ?_
            rintro e w5 ⟨rfl, rfl⟩
            go_wp2
            exact bodyPost_ret (v := .tuple #[.agg #[.int .i64 0, .int .i64 0], .bool false]) (by simp [results, Tryd.results37, go_sem, d0, d1]) rfl ⟨by rw [HRES.out]; rfl, gr_setn (gr_setn G.out (by omega)) (by omega)⟩
        · have hint := fun w => rint_no (S N') w (by have := s_size9 HN2.out; omega) (by rw [s_num]; omega)
          have HINT := Lib.hid hint
          have hres : r = (0, 0, false) := by rw [HFIT.out, if_neg (fun h => by omega)]
          have HRES := Lib.hid hres
          clear hint hres hi
          go_wp2_with fail
          refine (HINT.out _).mono ?_
          rintro e w5 ⟨rfl, rfl⟩
          go_wp2
          exact bodyPost_ret (v := .tuple #[.agg #[.int .i64 0, .int .i64 0], .bool false]) (by simp [results, Tryd.results37, go_sem, d0, d1]) rfl ⟨by rw [HRES.out]; rfl, gr_setn (gr_setn G.out (by omega)) (by omega)⟩
end Go.Proofs.YtmlmjhlakpgagaaDoor
namespace Go.Proofs.YtmlmjhlakpgagaaDoor
open Go.RowKit Mth Dm

theorem lt90 {N p : Nat} (h : N < 256 ^ 90) (hp : p ≤ 1000000000000) : N * p < 256 ^ 99 := by
  have h1 : N * p ≤ N * 1000000000000 := Nat.mul_le_mul_left _ hp
  have h2 : (256 : Nat) ^ 90 * 1000000000000 ≤ 256 ^ 99 := by decide +kernel
  omega
theorem lt90' {n : Nat} (h : n < 256 ^ 90) : n < 256 ^ 100 := Nat.lt_trans h (by decide +kernel)
theorem lt99 {n : Nat} (h : n < 256 ^ 99) : n < 256 ^ 200 := Nat.lt_trans h (by decide +kernel)
/-- What plus has to give. -/
structure Plus (X Y : Int) (neg : Bool) (N : Nat) : Prop where
  val : rep neg N = X + Y
  lt : N < 256 ^ 100
theorem plus_same (neg : Bool) {X Y : Nat} (hX : X < 256 ^ 99) (hY : Y < 256 ^ 99) : Plus (rep neg X) (rep neg Y) neg (X + Y) := by
  refine ⟨by cases neg <;> (simp only [rep, if_true, Bool.false_eq_true, if_false]; omega), ?_⟩
  have h0 : (256 : Nat) ^ 99 + 256 ^ 99 < 256 ^ 100 := by decide +kernel
  omega
theorem plus_diff (neg : Bool) {X Y : Nat} (hX : X < 256 ^ 99) (hY : Y < 256 ^ 99) : Plus (rep neg X) (rep (!neg) Y) (if X < Y then !neg && decide (0 < Y - X) else neg && decide (0 < X - Y)) (if X < Y then Y - X else X - Y) := by
  have h0 : (256 : Nat) ^ 99 < 256 ^ 100 := by decide +kernel
  by_cases h : X < Y
  · rw [if_pos h, if_pos h]
    refine ⟨?_, by omega⟩
    rw [show decide (0 < Y - X) = true from decide_eq_true (by omega)]
    cases neg <;> (simp [rep]; omega)
  · rw [if_neg h, if_neg h]
    refine ⟨?_, by omega⟩
    by_cases h2 : 0 < X - Y
    · rw [decide_eq_true h2]; cases neg <;> (simp [rep]; omega)
    · rw [decide_eq_false h2]; cases neg <;> (simp [rep]; omega)
set_option maxHeartbeats 2000000 in
set_option maxRecDepth 100000 in
theorem plus_any (n1 n2 : Bool) (N1 N2 s1 s2 mm : Nat) (w : World) (h1 : N1 < 256 ^ 90) (h2 : N2 < 256 ^ 90) (hmm : mm = max s1 s2) (hm12 : mm ≤ 12) :
    Calls Tryd.prog 41 #[bv n1 N1 s1, bv n2 N2 s2] w fun e w' => ∃ neg N, e = .returned (bv neg N mm) ∧ Hid (Plus (rep n1 (N1 * P10 (mm - s1))) (rep n2 (N2 * P10 (mm - s2))) neg N) ∧ w.grownBy w' none := by
  have T0 := ((Three.new w (.bool n1) (.string (S N1)) (.int .i64 (s1 : Int)) 59).alloc (.cells #[.bool n2, .string (S N2), .int .i64 (s2 : Int)] 59)).alloc (.cells #[.bool false, .string ⟨#[]⟩, .int .i64 0] 59)
  have T1 := (Three.new1 w (.cells #[.bool n1, .string (S N1), .int .i64 (s1 : Int)] 59) (.bool n2) (.string (S N2)) (.int .i64 (s2 : Int)) 59).alloc (.cells #[.bool false, .string ⟨#[]⟩, .int .i64 0] 59)
  have T2 := Three.new2 w (.cells #[.bool n1, .string (S N1), .int .i64 (s1 : Int)] 59) (.cells #[.bool n2, .string (S N2), .int .i64 (s2 : Int)] 59) (.bool false) (.string ⟨#[]⟩) (.int .i64 0) 59
  have hx : max (s1 : Int) (s2 : Int) = (mm : Int) := by omega
  have hx1 : (if s1 < s2 then (s2 : Int) else (s1 : Int)) = (mm : Int) := by split <;> omega
  have hs1 : s1 ≤ 12 := by omega
  have hs2 : s2 ≤ 12 := by omega
  have hs3 : s1 ≤ mm := by omega
  have hs4 : s2 ≤ mm := by omega
  have hw1 := fun w => wider_any n1 N1 s1 mm w (lt90' h1) (by omega) hm12
  have hw2 := fun w => wider_any n2 N2 s2 mm w (lt90' h2) (by omega) hm12
  have hX := lt90 h1 (P10_12 (k := mm - s1) (by omega))
  have hY := lt90 h2 (P10_12 (k := mm - s2) (by omega))
  generalize N1 * P10 (mm - s1) = X at *
  generalize N2 * P10 (mm - s2) = Y at *
  have HX := Lib.hid hX
  have HY := Lib.hid hY
  have HW1 := Lib.hid hw1
  have HW2 := Lib.hid hw2
  clear hX hY hw1 hw2 hmm h1 h2
  unfold bv
  go_enter Tryd.func41, Tryd.ntmps41
  go_wp2_with fail
  refine (HW1.out _).mono ?_
  unfold bv
  rintro e w1 ⟨rfl, g1⟩
  have T0 := T0.kept g1
  have T1 := T1.kept g1
  have T2 := T2.kept g1
  have G := Lib.hid (gr_three g1)
  have T5a := Three.new w1 (.bool n1) (.string (S X)) (.int .i64 (mm : Int)) 59
  have a2 := T0.c2
  have b0 := T1.c0
  have b1 := T1.c1
  have b2 := T1.c2
  have l0 := T0.lt
  have l1 := T1.lt
  have l2a := T2.lt
  clear g1
  go_wp2_with fail
  refine (HW2.out _).mono ?_
  unfold bv
  rintro e w2 ⟨rfl, g2⟩
  have T5b := T5a.kept g2
  have T2c := (T2.alloc _).kept g2
  have G := Lib.hid (gr_then (gr_then G.out (gr_alloc _ _ none)) g2)
  have l5 := T5b.lt
  have l2 := T2c.lt
  have l25 : w1.heap.size ≠ w2.heap.size := by omega
  have n1x : w1.heap.size ≠ w.heap.size + 1 + 1 := by omega
  have n2x : w2.heap.size ≠ w.heap.size + 1 + 1 := by omega
  have n3x : w.heap.size + 1 + 1 ≠ w1.heap.size := by omega
  have n4x : w.heap.size + 1 + 1 ≠ w2.heap.size := by omega
  have p0 := T5b.c0
  have p1 := T5b.c1
  have p2 := T5b.c2
  clear g2 a2 b0 b1 b2
  cases n1 <;> cases n2
  · have T6 := Three.new w2 (.bool false) (.string (S Y)) (.int .i64 (mm : Int)) 59
    have T5d := T5b.alloc (.cells #[.bool false, .string (S Y), .int .i64 (mm : Int)] 59)
    have T2d := T2c.alloc (.cells #[.bool false, .string (S Y), .int .i64 (mm : Int)] 59)
    have HRES := Lib.hid (plus_same false HX.out HY.out)
    have hadd := fun w => s_radd (S X) (S Y) X Y w (s_num _) (s_num _) (s_size9 (lt99 HX.out)) (s_size9 (lt99 HY.out))
    have HADD := Lib.hid hadd
    clear hadd
    go_wp2_with fail
    have T5 := T5d.drew
    have T6 := T6.drew
    have T2 := T2d.drew
    have c50 := T5.c0
    have c51 := T5.c1
    have c52 := T5.c2
    have c61 := T6.c1
    have G := Lib.hid (gr_then (gr_then G.out (gr_alloc w2 (.cells #[.bool false, .string (S Y), .int .i64 (mm : Int)] 59) none)) (gr_drew _ none))
    go_region_held3 (fun w' => w'.cell? ⟨w1.heap.size, 0, none⟩ = some (.bool false) ∧ w'.cell? ⟨w1.heap.size, 1, none⟩ = some (.string (S X)) ∧ w'.cell? ⟨w1.heap.size, 2, none⟩ = some (.int .i64 (mm : Int)) ∧ w'.cell? ⟨w2.heap.size, 1, none⟩ = some (.string (S Y))) (first | exact ⟨c50, c51, c52, c61⟩ | go_keep)
      (first
      | (go_at_call 51; refine (HADD.out _).mono ?_; rintro e w4 ⟨rfl, g4⟩; have K5 := T5.kept g4; have K6 := T6.kept g4; have K2 := T2.kept g4; have d0 := K5.c0; have d1 := K5.c1; have d2 := K5.c2; have d3 := K6.c1; have f0 := K2.fr 0; have f1 := K2.fr 1; have f2 := K2.fr 2; have k0 := K2.c0; have k1 := K2.c1; have k2 := K2.c2))
    all_goals
      have G := Lib.hid (gr_then G.out g4)
      go_wp2
      exact bodyPost_ret (v := .agg #[.bool false, .string (S (X + Y)), .int .i64 (mm : Int)]) (by simp [results, Tryd.results41, go_sem, k0, k1, k2]) rfl ⟨false, X + Y, rfl, HRES, gr_setn (gr_setn (gr_setn G.out (by omega)) (by omega)) (by omega)⟩
  · have T6 := Three.new w2 (.bool true) (.string (S Y)) (.int .i64 (mm : Int)) 59
    have T5d := T5b.alloc (.cells #[.bool true, .string (S Y), .int .i64 (mm : Int)] 59)
    have T2d := T2c.alloc (.cells #[.bool true, .string (S Y), .int .i64 (mm : Int)] 59)
    have hcmp := fun w => s_rcmp (S X) (S Y) X Y w (s_num _) (s_num _) (s_size9 (lt99 HX.out)) (s_size9 (lt99 HY.out))
    have hpd := plus_diff false HX.out HY.out
    rcases Nat.lt_or_ge X Y with hlt | hge
    · rw [show cmpN X Y = -1 from by unfold cmpN; rw [if_pos hlt]] at hcmp
      have hsub := fun w => s_rsub (S Y) (S X) Y X w (s_num _) (s_num _) (s_size9 (lt99 HY.out)) (s_size9 (lt99 HX.out)) (Nat.le_of_lt hlt)
      rw [if_pos hlt, if_pos hlt, show decide (0 < Y - X) = true from decide_eq_true (by omega)] at hpd
      have HRES := Lib.hid hpd
      have hsz : 0 < (S (Y - X)).size := s_len_pos (by omega)
      have HCMP := Lib.hid hcmp
      have HSUB := Lib.hid hsub
      clear hcmp hsub hlt hpd
      generalize Y - X = D at *
      go_wp2_with fail
      refine (HCMP.out _).mono ?_
      rintro e w4 ⟨rfl, g4⟩
      have K5 := T5d.kept g4
      have K6 := T6.kept g4
      have K2 := T2d.kept g4
      have G := Lib.hid (gr_then (gr_then G.out (gr_alloc w2 (.cells #[.bool true, .string (S Y), .int .i64 (mm : Int)] 59) none)) g4)
      have q0 := K5.c0
      have q1 := K5.c1
      have q2 := K5.c2
      have r0 := K6.c0
      have r1 := K6.c1
      have r2 := K6.c2
      have u0 := K5.fr 0
      have u1 := K5.fr 1
      have u2 := K5.fr 2
      have v0 := K6.fr 0
      have v1 := K6.fr 1
      have v2 := K6.fr 2
      have f0 := K2.fr 0
      have f1 := K2.fr 1
      have f2 := K2.fr 2
      have k0 := K2.c0
      have k1 := K2.c1
      have k2 := K2.c2
      have l4 := K6.lt
      have l6 := K5.lt
      have l7 := K2.lt
      clear g4
      go_wp2_with fail
      refine (HSUB.out _).mono ?_
      rintro e w5 ⟨rfl, g5⟩
      have K5 := ((((((K5.s0 (.bool true)).s1 (.string (S Y))).s2 (.int .i64 (mm : Int))).other (b' := w2.heap.size) (i := 0) (v := .bool false) l25).other (b' := w2.heap.size) (i := 1) (v := .string (S X)) l25).other (b' := w2.heap.size) (i := 2) (v := .int .i64 (mm : Int)) l25)
      have K5 := (K5.alloc (.cells #[.bool false, .string (S X), .int .i64 (mm : Int)] 59)).kept g5
      have K2 := ((((((K2.other (b' := w1.heap.size) (i := 0) (v := .bool true) n3x).other (b' := w1.heap.size) (i := 1) (v := .string (S Y)) n3x).other (b' := w1.heap.size) (i := 2) (v := .int .i64 (mm : Int)) n3x).other (b' := w2.heap.size) (i := 0) (v := .bool false) n4x).other (b' := w2.heap.size) (i := 1) (v := .string (S X)) n4x).other (b' := w2.heap.size) (i := 2) (v := .int .i64 (mm : Int)) n4x)
      have K2 := (K2.alloc (.cells #[.bool false, .string (S X), .int .i64 (mm : Int)] 59)).kept g5
      have G := gr_setn (i := 0) (g := w1.heap.size) (v := .bool true) G.out (by omega)
      have G := gr_setn (i := 1) (g := w1.heap.size) (v := .string (S Y)) G (by omega)
      have G := gr_setn (i := 2) (g := w1.heap.size) (v := .int .i64 (mm : Int)) G (by omega)
      have G := gr_setn (i := 0) (g := w2.heap.size) (v := .bool false) G (by omega)
      have G := gr_setn (i := 1) (g := w2.heap.size) (v := .string (S X)) G (by omega)
      have G := gr_setn (i := 2) (g := w2.heap.size) (v := .int .i64 (mm : Int)) G (by omega)
      have G := Lib.hid (gr_then (gr_then G (gr_alloc _ (.cells #[.bool false, .string (S X), .int .i64 (mm : Int)] 59) none)) g5)
      have q0 := K5.c0
      have q1 := K5.c1
      have q2 := K5.c2
      have f0 := K2.fr 0
      have f1 := K2.fr 1
      have f2 := K2.fr 2
      have k0 := K2.c0
      have k1 := K2.c1
      have k2 := K2.c2
      clear g5
      go_wp2
      exact bodyPost_ret (v := .agg #[.bool true, .string (S D), .int .i64 (mm : Int)]) (by simp [results, Tryd.results41, go_sem, k0, k1, k2]) rfl ⟨true, D, rfl, HRES, gr_setn (gr_setn (gr_setn G.out (by omega)) (by omega)) (by omega)⟩
    · have hc : 0 ≤ cmpN X Y := by unfold cmpN; rw [if_neg (by omega)]; split <;> decide
      generalize cmpN X Y = c at *
      have hsub := fun w => s_rsub (S X) (S Y) X Y w (s_num _) (s_num _) (s_size9 (lt99 HX.out)) (s_size9 (lt99 HY.out)) hge
      rw [if_neg (by omega), if_neg (by omega)] at hpd
      have HCMP := Lib.hid hcmp
      have HSUB := Lib.hid hsub
      clear hcmp hsub hge
      generalize X - Y = D at *
      rcases Nat.eq_zero_or_pos D with hD | hD
      · rw [decide_eq_false (by omega)] at hpd
        have hsz : ¬ 0 < (S D).size := by rw [hD, s_zero]; decide
        have HRES := Lib.hid hpd
        clear hpd hD
        go_wp2_with fail
        refine (HCMP.out _).mono ?_
        rintro e w4 ⟨rfl, g4⟩
        have K5 := T5d.kept g4
        have K6 := T6.kept g4
        have K2 := T2d.kept g4
        have G := Lib.hid (gr_then (gr_then G.out (gr_alloc w2 (.cells #[.bool true, .string (S Y), .int .i64 (mm : Int)] 59) none)) g4)
        have q0 := K5.c0
        have q1 := K5.c1
        have q2 := K5.c2
        have r0 := K6.c0
        have r1 := K6.c1
        have r2 := K6.c2
        have u0 := K5.fr 0
        have u1 := K5.fr 1
        have u2 := K5.fr 2
        have v0 := K6.fr 0
        have v1 := K6.fr 1
        have v2 := K6.fr 2
        have f0 := K2.fr 0
        have f1 := K2.fr 1
        have f2 := K2.fr 2
        have k0 := K2.c0
        have k1 := K2.c1
        have k2 := K2.c2
        have l4 := K6.lt
        have l6 := K5.lt
        have l7 := K2.lt
        clear g4
        go_wp2_with fail
        refine (HSUB.out _).mono ?_
        rintro e w5 ⟨rfl, g5⟩
        have K5 := K5.kept g5
        have K2 := K2.kept g5
        have G := Lib.hid (gr_then G.out g5)
        have q0 := K5.c0
        have q1 := K5.c1
        have q2 := K5.c2
        have f0 := K2.fr 0
        have f1 := K2.fr 1
        have f2 := K2.fr 2
        have k0 := K2.c0
        have k1 := K2.c1
        have k2 := K2.c2
        clear g5
        go_wp2
        exact bodyPost_ret (v := .agg #[.bool false, .string (S D), .int .i64 (mm : Int)]) (by simp [results, Tryd.results41, go_sem, k0, k1, k2]) rfl ⟨false, D, rfl, HRES, gr_setn (gr_setn (gr_setn G.out (by omega)) (by omega)) (by omega)⟩
      · rw [decide_eq_true hD] at hpd
        have hsz : 0 < (S D).size := s_len_pos hD
        have HRES := Lib.hid hpd
        clear hpd hD
        go_wp2_with fail
        refine (HCMP.out _).mono ?_
        rintro e w4 ⟨rfl, g4⟩
        have K5 := T5d.kept g4
        have K6 := T6.kept g4
        have K2 := T2d.kept g4
        have G := Lib.hid (gr_then (gr_then G.out (gr_alloc w2 (.cells #[.bool true, .string (S Y), .int .i64 (mm : Int)] 59) none)) g4)
        have q0 := K5.c0
        have q1 := K5.c1
        have q2 := K5.c2
        have r0 := K6.c0
        have r1 := K6.c1
        have r2 := K6.c2
        have u0 := K5.fr 0
        have u1 := K5.fr 1
        have u2 := K5.fr 2
        have v0 := K6.fr 0
        have v1 := K6.fr 1
        have v2 := K6.fr 2
        have f0 := K2.fr 0
        have f1 := K2.fr 1
        have f2 := K2.fr 2
        have k0 := K2.c0
        have k1 := K2.c1
        have k2 := K2.c2
        have l4 := K6.lt
        have l6 := K5.lt
        have l7 := K2.lt
        clear g4
        go_wp2_with fail
        refine (HSUB.out _).mono ?_
        rintro e w5 ⟨rfl, g5⟩
        have K5 := K5.kept g5
        have K2 := K2.kept g5
        have G := Lib.hid (gr_then G.out g5)
        have q0 := K5.c0
        have q1 := K5.c1
        have q2 := K5.c2
        have f0 := K2.fr 0
        have f1 := K2.fr 1
        have f2 := K2.fr 2
        have k0 := K2.c0
        have k1 := K2.c1
        have k2 := K2.c2
        clear g5
        go_wp2
        exact bodyPost_ret (v := .agg #[.bool false, .string (S D), .int .i64 (mm : Int)]) (by simp [results, Tryd.results41, go_sem, k0, k1, k2]) rfl ⟨false, D, rfl, HRES, gr_setn (gr_setn (gr_setn G.out (by omega)) (by omega)) (by omega)⟩
  · have T6 := Three.new w2 (.bool false) (.string (S Y)) (.int .i64 (mm : Int)) 59
    have T5d := T5b.alloc (.cells #[.bool false, .string (S Y), .int .i64 (mm : Int)] 59)
    have T2d := T2c.alloc (.cells #[.bool false, .string (S Y), .int .i64 (mm : Int)] 59)
    have hcmp := fun w => s_rcmp (S X) (S Y) X Y w (s_num _) (s_num _) (s_size9 (lt99 HX.out)) (s_size9 (lt99 HY.out))
    have hpd := plus_diff true HX.out HY.out
    rcases Nat.lt_or_ge X Y with hlt | hge
    · rw [show cmpN X Y = -1 from by unfold cmpN; rw [if_pos hlt]] at hcmp
      have hsub := fun w => s_rsub (S Y) (S X) Y X w (s_num _) (s_num _) (s_size9 (lt99 HY.out)) (s_size9 (lt99 HX.out)) (Nat.le_of_lt hlt)
      rw [if_pos hlt, if_pos hlt, show decide (0 < Y - X) = true from decide_eq_true (by omega)] at hpd
      have HRES := Lib.hid hpd
      have hsz : 0 < (S (Y - X)).size := s_len_pos (by omega)
      have HCMP := Lib.hid hcmp
      have HSUB := Lib.hid hsub
      clear hcmp hsub hlt hpd
      generalize Y - X = D at *
      go_wp2_with fail
      refine (HCMP.out _).mono ?_
      rintro e w4 ⟨rfl, g4⟩
      have K5 := T5d.kept g4
      have K6 := T6.kept g4
      have K2 := T2d.kept g4
      have G := Lib.hid (gr_then (gr_then G.out (gr_alloc w2 (.cells #[.bool false, .string (S Y), .int .i64 (mm : Int)] 59) none)) g4)
      have q0 := K5.c0
      have q1 := K5.c1
      have q2 := K5.c2
      have r0 := K6.c0
      have r1 := K6.c1
      have r2 := K6.c2
      have u0 := K5.fr 0
      have u1 := K5.fr 1
      have u2 := K5.fr 2
      have v0 := K6.fr 0
      have v1 := K6.fr 1
      have v2 := K6.fr 2
      have f0 := K2.fr 0
      have f1 := K2.fr 1
      have f2 := K2.fr 2
      have k0 := K2.c0
      have k1 := K2.c1
      have k2 := K2.c2
      have l4 := K6.lt
      have l6 := K5.lt
      have l7 := K2.lt
      clear g4
      go_wp2_with fail
      refine (HSUB.out _).mono ?_
      rintro e w5 ⟨rfl, g5⟩
      have K5 := ((((((K5.s0 (.bool false)).s1 (.string (S Y))).s2 (.int .i64 (mm : Int))).other (b' := w2.heap.size) (i := 0) (v := .bool true) l25).other (b' := w2.heap.size) (i := 1) (v := .string (S X)) l25).other (b' := w2.heap.size) (i := 2) (v := .int .i64 (mm : Int)) l25)
      have K5 := (K5.alloc (.cells #[.bool true, .string (S X), .int .i64 (mm : Int)] 59)).kept g5
      have K2 := ((((((K2.other (b' := w1.heap.size) (i := 0) (v := .bool false) n3x).other (b' := w1.heap.size) (i := 1) (v := .string (S Y)) n3x).other (b' := w1.heap.size) (i := 2) (v := .int .i64 (mm : Int)) n3x).other (b' := w2.heap.size) (i := 0) (v := .bool true) n4x).other (b' := w2.heap.size) (i := 1) (v := .string (S X)) n4x).other (b' := w2.heap.size) (i := 2) (v := .int .i64 (mm : Int)) n4x)
      have K2 := (K2.alloc (.cells #[.bool true, .string (S X), .int .i64 (mm : Int)] 59)).kept g5
      have G := gr_setn (i := 0) (g := w1.heap.size) (v := .bool false) G.out (by omega)
      have G := gr_setn (i := 1) (g := w1.heap.size) (v := .string (S Y)) G (by omega)
      have G := gr_setn (i := 2) (g := w1.heap.size) (v := .int .i64 (mm : Int)) G (by omega)
      have G := gr_setn (i := 0) (g := w2.heap.size) (v := .bool true) G (by omega)
      have G := gr_setn (i := 1) (g := w2.heap.size) (v := .string (S X)) G (by omega)
      have G := gr_setn (i := 2) (g := w2.heap.size) (v := .int .i64 (mm : Int)) G (by omega)
      have G := Lib.hid (gr_then (gr_then G (gr_alloc _ (.cells #[.bool true, .string (S X), .int .i64 (mm : Int)] 59) none)) g5)
      have q0 := K5.c0
      have q1 := K5.c1
      have q2 := K5.c2
      have f0 := K2.fr 0
      have f1 := K2.fr 1
      have f2 := K2.fr 2
      have k0 := K2.c0
      have k1 := K2.c1
      have k2 := K2.c2
      clear g5
      go_wp2
      exact bodyPost_ret (v := .agg #[.bool false, .string (S D), .int .i64 (mm : Int)]) (by simp [results, Tryd.results41, go_sem, k0, k1, k2]) rfl ⟨false, D, rfl, HRES, gr_setn (gr_setn (gr_setn G.out (by omega)) (by omega)) (by omega)⟩
    · have hc : 0 ≤ cmpN X Y := by unfold cmpN; rw [if_neg (by omega)]; split <;> decide
      generalize cmpN X Y = c at *
      have hsub := fun w => s_rsub (S X) (S Y) X Y w (s_num _) (s_num _) (s_size9 (lt99 HX.out)) (s_size9 (lt99 HY.out)) hge
      rw [if_neg (by omega), if_neg (by omega)] at hpd
      have HCMP := Lib.hid hcmp
      have HSUB := Lib.hid hsub
      clear hcmp hsub hge
      generalize X - Y = D at *
      rcases Nat.eq_zero_or_pos D with hD | hD
      · rw [decide_eq_false (by omega)] at hpd
        have hsz : ¬ 0 < (S D).size := by rw [hD, s_zero]; decide
        have HRES := Lib.hid hpd
        clear hpd hD
        go_wp2_with fail
        refine (HCMP.out _).mono ?_
        rintro e w4 ⟨rfl, g4⟩
        have K5 := T5d.kept g4
        have K6 := T6.kept g4
        have K2 := T2d.kept g4
        have G := Lib.hid (gr_then (gr_then G.out (gr_alloc w2 (.cells #[.bool false, .string (S Y), .int .i64 (mm : Int)] 59) none)) g4)
        have q0 := K5.c0
        have q1 := K5.c1
        have q2 := K5.c2
        have r0 := K6.c0
        have r1 := K6.c1
        have r2 := K6.c2
        have u0 := K5.fr 0
        have u1 := K5.fr 1
        have u2 := K5.fr 2
        have v0 := K6.fr 0
        have v1 := K6.fr 1
        have v2 := K6.fr 2
        have f0 := K2.fr 0
        have f1 := K2.fr 1
        have f2 := K2.fr 2
        have k0 := K2.c0
        have k1 := K2.c1
        have k2 := K2.c2
        have l4 := K6.lt
        have l6 := K5.lt
        have l7 := K2.lt
        clear g4
        go_wp2_with fail
        refine (HSUB.out _).mono ?_
        rintro e w5 ⟨rfl, g5⟩
        have K5 := K5.kept g5
        have K2 := K2.kept g5
        have G := Lib.hid (gr_then G.out g5)
        have q0 := K5.c0
        have q1 := K5.c1
        have q2 := K5.c2
        have f0 := K2.fr 0
        have f1 := K2.fr 1
        have f2 := K2.fr 2
        have k0 := K2.c0
        have k1 := K2.c1
        have k2 := K2.c2
        clear g5
        go_wp2
        exact bodyPost_ret (v := .agg #[.bool false, .string (S D), .int .i64 (mm : Int)]) (by simp [results, Tryd.results41, go_sem, k0, k1, k2]) rfl ⟨false, D, rfl, HRES, gr_setn (gr_setn (gr_setn G.out (by omega)) (by omega)) (by omega)⟩
      · rw [decide_eq_true hD] at hpd
        have hsz : 0 < (S D).size := s_len_pos hD
        have HRES := Lib.hid hpd
        clear hpd hD
        go_wp2_with fail
        refine (HCMP.out _).mono ?_
        rintro e w4 ⟨rfl, g4⟩
        have K5 := T5d.kept g4
        have K6 := T6.kept g4
        have K2 := T2d.kept g4
        have G := Lib.hid (gr_then (gr_then G.out (gr_alloc w2 (.cells #[.bool false, .string (S Y), .int .i64 (mm : Int)] 59) none)) g4)
        have q0 := K5.c0
        have q1 := K5.c1
        have q2 := K5.c2
        have r0 := K6.c0
        have r1 := K6.c1
        have r2 := K6.c2
        have u0 := K5.fr 0
        have u1 := K5.fr 1
        have u2 := K5.fr 2
        have v0 := K6.fr 0
        have v1 := K6.fr 1
        have v2 := K6.fr 2
        have f0 := K2.fr 0
        have f1 := K2.fr 1
        have f2 := K2.fr 2
        have k0 := K2.c0
        have k1 := K2.c1
        have k2 := K2.c2
        have l4 := K6.lt
        have l6 := K5.lt
        have l7 := K2.lt
        clear g4
        go_wp2_with fail
        refine (HSUB.out _).mono ?_
        rintro e w5 ⟨rfl, g5⟩
        have K5 := K5.kept g5
        have K2 := K2.kept g5
        have G := Lib.hid (gr_then G.out g5)
        have q0 := K5.c0
        have q1 := K5.c1
        have q2 := K5.c2
        have f0 := K2.fr 0
        have f1 := K2.fr 1
        have f2 := K2.fr 2
        have k0 := K2.c0
        have k1 := K2.c1
        have k2 := K2.c2
        clear g5
        go_wp2
        exact bodyPost_ret (v := .agg #[.bool true, .string (S D), .int .i64 (mm : Int)]) (by simp [results, Tryd.results41, go_sem, k0, k1, k2]) rfl ⟨true, D, rfl, HRES, gr_setn (gr_setn (gr_setn G.out (by omega)) (by omega)) (by omega)⟩
  · have T6 := Three.new w2 (.bool true) (.string (S Y)) (.int .i64 (mm : Int)) 59
    have T5d := T5b.alloc (.cells #[.bool true, .string (S Y), .int .i64 (mm : Int)] 59)
    have T2d := T2c.alloc (.cells #[.bool true, .string (S Y), .int .i64 (mm : Int)] 59)
    have HRES := Lib.hid (plus_same true HX.out HY.out)
    have hadd := fun w => s_radd (S X) (S Y) X Y w (s_num _) (s_num _) (s_size9 (lt99 HX.out)) (s_size9 (lt99 HY.out))
    have HADD := Lib.hid hadd
    clear hadd
    go_wp2_with fail
    have T5 := T5d.drew
    have T6 := T6.drew
    have T2 := T2d.drew
    have c50 := T5.c0
    have c51 := T5.c1
    have c52 := T5.c2
    have c61 := T6.c1
    have G := Lib.hid (gr_then (gr_then G.out (gr_alloc w2 (.cells #[.bool true, .string (S Y), .int .i64 (mm : Int)] 59) none)) (gr_drew _ none))
    go_region_held3 (fun w' => w'.cell? ⟨w1.heap.size, 0, none⟩ = some (.bool true) ∧ w'.cell? ⟨w1.heap.size, 1, none⟩ = some (.string (S X)) ∧ w'.cell? ⟨w1.heap.size, 2, none⟩ = some (.int .i64 (mm : Int)) ∧ w'.cell? ⟨w2.heap.size, 1, none⟩ = some (.string (S Y))) (first | exact ⟨c50, c51, c52, c61⟩ | go_keep)
      (first
      | (go_at_call 51; refine (HADD.out _).mono ?_; rintro e w4 ⟨rfl, g4⟩; have K5 := T5.kept g4; have K6 := T6.kept g4; have K2 := T2.kept g4; have d0 := K5.c0; have d1 := K5.c1; have d2 := K5.c2; have d3 := K6.c1; have f0 := K2.fr 0; have f1 := K2.fr 1; have f2 := K2.fr 2; have k0 := K2.c0; have k1 := K2.c1; have k2 := K2.c2))
    all_goals
      have G := Lib.hid (gr_then G.out g4)
      go_wp2
      exact bodyPost_ret (v := .agg #[.bool true, .string (S (X + Y)), .int .i64 (mm : Int)]) (by simp [results, Tryd.results41, go_sem, k0, k1, k2]) rfl ⟨true, X + Y, rfl, HRES, gr_setn (gr_setn (gr_setn G.out (by omega)) (by omega)) (by omega)⟩
end Go.Proofs.YtmlmjhlakpgagaaDoor
namespace Go.Proofs.YtmlmjhlakpgagaaDoor
open Go.RowKit Mth Dm

theorem rep_mul (neg : Bool) (N p : Nat) : rep neg (N * p) = rep neg N * (p : Int) := by cases neg <;> simp [rep, Int.neg_mul]
theorem rep_not (neg : Bool) (N : Nat) : rep (!neg) N = -rep neg N := by cases neg <;> simp [rep]
/-- What big gives of a decimal, in short. -/
theorem big_case (n s : Int) : ∃ (nx : Bool) (X sa : Nat), (∀ w, Gives 42 #[.agg #[.int .i64 n, .int .i64 s]] w (.agg #[.bool nx, .string (S X), .int .i64 (sa : Int)])) ∧ rep nx X = (valD n s).1 ∧ sa = (valD n s).2 ∧ X ≤ 1000000000000000 ∧ sa ≤ 6 ∧ (nx = true → 0 < X) := by
  have h := rt_val n s
  have h1 := h.lo
  have h2 := h.hi
  exact ⟨decide ((valD n s).1 < 0), (valD n s).1.natAbs, (valD n s).2, fun w => big_any n s w, big_rep _, rfl, by omega, h.sc, fun h => by have := of_decide_eq_true h; omega⟩
theorem small90 {X : Nat} (h : X ≤ 1000000000000000) : X < 256 ^ 90 := Nat.lt_of_le_of_lt h (by decide +kernel)
theorem add_plus {a b : Int × Nat} {nx ny ng : Bool} {X Y N mm : Nat} (hx : rep nx X = a.1) (hy : rep ny Y = b.1) (hmm : mm = max a.2 b.2) (hp : Plus (rep nx (X * P10 (mm - a.2))) (rep ny (Y * P10 (mm - b.2))) ng N) : fitD (rep ng N) mm = addD a b := by
  rw [hp.val, rep_mul, rep_mul, hx, hy, P10_int, P10_int]; unfold addD; rw [hmm]
set_option maxHeartbeats 2000000 in
set_option maxRecDepth 100000 in
theorem qadd_any (n s m t : Int) (w : World) : Gives 21 #[.agg #[.int .i64 n, .int .i64 s], .agg #[.int .i64 m, .int .i64 t]] w (dres (addD (valD n s) (valD m t))) := by
  obtain ⟨nx, X, sa, hA, hx, hsa, hX, ha6, _⟩ := big_case n s
  obtain ⟨ny, Y, sb, hB, hy, hsb, hY, hb6, _⟩ := big_case m t
  generalize valD n s = a at *
  generalize valD m t = b at *
  subst hsa hsb
  obtain ⟨mm, hmm⟩ : ∃ mm, mm = max a.2 b.2 := ⟨_, rfl⟩
  have hm6 : mm ≤ 6 := by omega
  have hpl := fun w => plus_any nx ny X Y a.2 b.2 mm w (small90 hX) (small90 hY) hmm (by omega)
  have hfin := fun ng N (h : Hid (Plus (rep nx (X * P10 (mm - a.2))) (rep ny (Y * P10 (mm - b.2))) ng N)) => add_plus hx hy hmm h.out
  have HFIN := Lib.hid hfin
  have HA := Lib.hid hA
  have HB := Lib.hid hB
  have HPL := Lib.hid hpl
  have T0 := ((Two.new w (.int .i64 n) (.int .i64 s) 23).alloc (.cells #[.int .i64 m, .int .i64 t] 23)).alloc (.cells #[.int .i64 0, .int .i64 0] 23)
  have T1 := (Two.new1 w (.cells #[.int .i64 n, .int .i64 s] 23) (.int .i64 m) (.int .i64 t) 23).alloc (.cells #[.int .i64 0, .int .i64 0] 23)
  have T2 := Two.new2 w (.cells #[.int .i64 n, .int .i64 s] 23) (.cells #[.int .i64 m, .int .i64 t] 23) (.int .i64 0) (.int .i64 0) 23
  have g0 := gr_three (a := w) (b := (((w.alloc (.cells #[.int .i64 n, .int .i64 s] 23)).alloc (.cells #[.int .i64 m, .int .i64 t] 23)).alloc (.cells #[.int .i64 0, .int .i64 0] 23)).drew) (gr_drew _ _)
  have T0 := T0.drew
  have T1 := T1.drew
  have T2 := T2.drew
  have c00 := T0.c0
  have c01 := T0.c1
  have c10 := T1.c0
  have c11 := T1.c1
  clear hA hB hpl hfin hx hy hmm hX hY
  have hne1 : w.heap.size ≠ w.heap.size + 1 + 1 := by omega
  have hne2 : w.heap.size + 1 + 1 ≠ w.heap.size := by omega
  have hne3 : w.heap.size + 1 ≠ w.heap.size + 1 + 1 := by omega
  go_enter Tryd.func21, Tryd.ntmps21
  go_wp2_with fail
  go_region_held3 (fun w' => w'.cell? ⟨w.heap.size, 0, none⟩ = some (.int .i64 n) ∧ w'.cell? ⟨w.heap.size, 1, none⟩ = some (.int .i64 s) ∧ w'.cell? ⟨w.heap.size + 1, 0, none⟩ = some (.int .i64 m) ∧ w'.cell? ⟨w.heap.size + 1, 1, none⟩ = some (.int .i64 t)) (first | exact ⟨c00, c01, c10, c11⟩ | exact ⟨Two.c0 (by assumption), Two.c1 (by assumption), Two.c0 (by assumption), Two.c1 (by assumption)⟩ | go_keep)
    (first
    | (go_at_call_of 42 (Value.agg #[.int .i64 n, .int .i64 s]); refine (HA.out _).mono ?_; rintro e wa ⟨rfl, ga⟩; have hA0 := Two.kept (b := w.heap.size) (x := .int .i64 n) (y := .int .i64 s) (by assumption) ga; have hA1 := Two.kept (b := w.heap.size + 1) (x := .int .i64 m) (y := .int .i64 t) (by assumption) ga; have hA2 := Two.kept (b := w.heap.size + 1 + 1) (x := .int .i64 0) (y := .int .i64 0) (by assumption) ga; have gA := gr_then (a := w) (by assumption) ga; have dA0 := hA0.c0; have dA1 := hA0.c1; have dA2 := hA1.c0; have dA3 := hA1.c1)
    | (go_at_call_of 42 (Value.agg #[.int .i64 m, .int .i64 t]); refine (HB.out _).mono ?_; rintro e wb ⟨rfl, gb⟩; have hB0 := Two.kept (b := w.heap.size) (x := .int .i64 n) (y := .int .i64 s) (by assumption) gb; have hB1 := Two.kept (b := w.heap.size + 1) (x := .int .i64 m) (y := .int .i64 t) (by assumption) gb; have hB2 := Two.kept (b := w.heap.size + 1 + 1) (x := .int .i64 0) (y := .int .i64 0) (by assumption) gb; have gB := gr_then (a := w) (by assumption) gb; have dB0 := hB0.c0; have dB1 := hB0.c1; have dB2 := hB1.c0; have dB3 := hB1.c1)
    | (go_at_call 41; refine (HPL.out _).mono ?_; rintro e wc ⟨ng, N, rfl, HP, gc⟩; have hC0 := Two.kept (b := w.heap.size) (x := .int .i64 n) (y := .int .i64 s) (by assumption) gc; have hC1 := Two.kept (b := w.heap.size + 1) (x := .int .i64 m) (y := .int .i64 t) (by assumption) gc; have hC2 := Two.kept (b := w.heap.size + 1 + 1) (x := .int .i64 0) (y := .int .i64 0) (by assumption) gc; have gC := gr_then (a := w) (by assumption) gc; have dC0 := hC0.c0; have dC1 := hC0.c1; have dC2 := hC1.c0; have dC3 := hC1.c1; have HN := Lib.hid HP.out.lt; have HE := Lib.hid (HFIN.out ng N HP))
    | (go_at_call 37; refine (fit_any ng N mm _ (lt100 HN.out) (by omega)).mono ?_; rintro e wd ⟨rfl, gd⟩; rw [HE.out]; unfold dres; have hD0 := Two.kept (b := w.heap.size) (x := .int .i64 n) (y := .int .i64 s) (by assumption) gd; have hD1 := Two.kept (b := w.heap.size + 1) (x := .int .i64 m) (y := .int .i64 t) (by assumption) gd; have hD2 := Two.kept (b := w.heap.size + 1 + 1) (x := .int .i64 0) (y := .int .i64 0) (by assumption) gd; have gD := gr_then (a := w) (by assumption) gd; have dD0 := hD0.c0; have dD1 := hD0.c1; have dD2 := hD1.c0; have dD3 := hD1.c1; have e0 := hD2.c0; have e1 := hD2.c1; have f0 := hD2.fr 0; have f1 := hD2.fr 1))
  all_goals
    go_wp2
    exact bodyPost_ret (v := dres (addD a b)) (by simp [results, Tryd.results21, go_sem, e0, e1, dres]) rfl ⟨rfl, gr_setn (gr_setn gD (by omega)) (by omega)⟩
end Go.Proofs.YtmlmjhlakpgagaaDoor
namespace Go.Proofs.YtmlmjhlakpgagaaDoor
open Go.RowKit Mth Dm

theorem rep_prod (p q : Bool) (X Y : Nat) : rep (p != q) (X * Y) = rep p X * rep q Y := by cases p <;> cases q <;> simp [rep, Int.neg_mul, Int.mul_neg]
set_option maxHeartbeats 4000000 in
set_option maxRecDepth 100000 in
theorem qmul_any (n s m t : Int) (w : World) : Gives 27 #[.agg #[.int .i64 n, .int .i64 s], .agg #[.int .i64 m, .int .i64 t]] w (dres (mulD (valD n s) (valD m t))) := by
  obtain ⟨nx, X, sa, hA, hx, hsa, hX, ha6, _⟩ := big_case n s
  obtain ⟨ny, Y, sb, hB, hy, hsb, hY, hb6, _⟩ := big_case m t
  generalize valD n s = a at *
  generalize valD m t = b at *
  subst hsa hsb
  have hlt : X * Y < 256 ^ 200 := by
    have h1 : X * Y ≤ 1000000000000000 * 1000000000000000 := Nat.mul_le_mul hX hY
    exact Nat.lt_of_le_of_lt h1 (by decide +kernel)
  have hmul := fun w => s_rmul (S X) (S Y) X Y w (s_num _) (s_num _) (by have := sz63 (n := X) (by omega); omega) (by have := sz63 (n := Y) (by omega); omega)
  have hft := fun w => fit_any (nx != ny) (X * Y) (a.2 + b.2) w hlt (by omega)
  rw [rep_prod, hx, hy, show fitD (a.1 * b.1) (a.2 + b.2) = mulD a b from rfl] at hft
  unfold bv at hft
  rw [show ((a.2 + b.2 : Nat) : Int) = (a.2 : Int) + (b.2 : Int) from by simp] at hft
  generalize X * Y = P at *
  have HA := Lib.hid hA
  have HB := Lib.hid hB
  have HM := Lib.hid hmul
  have HF := Lib.hid hft
  have hw : IntKind.i64.wrap ((a.2 : Int) + (b.2 : Int)) = (a.2 : Int) + (b.2 : Int) := IntWalk.i64_in _ (by omega)
  have T1 := (Two.new1 w (.cells #[.int .i64 n, .int .i64 s] 23) (.int .i64 m) (.int .i64 t) 23).alloc (.cells #[.int .i64 0, .int .i64 0] 23)
  have T2 := Two.new2 w (.cells #[.int .i64 n, .int .i64 s] 23) (.cells #[.int .i64 m, .int .i64 t] 23) (.int .i64 0) (.int .i64 0) 23
  clear hA hB hmul hft hx hy hX hY hlt
  go_enter Tryd.func27, Tryd.ntmps27
  go_wp2_with fail
  refine (HA.out _).mono ?_
  rintro e w1 ⟨rfl, g1⟩
  have T1 := T1.kept g1
  have T2 := T2.kept g1
  have G := Lib.hid (gr_three g1)
  have l1 := T1.lt
  have l2 := T2.lt
  have c10 := T1.c0
  have c11 := T1.c1
  have T3 := Three.new w1 (.bool nx) (.string (S X)) (.int .i64 (a.2 : Int)) 59
  clear g1
  go_wp2_with fail
  refine (HB.out _).mono ?_
  rintro e w2 ⟨rfl, g2⟩
  have T3 := T3.kept g2
  have T2 := (T2.alloc (.cells #[.bool nx, .string (S X), .int .i64 (a.2 : Int)] 59)).kept g2
  have G := Lib.hid (gr_then (gr_then G.out (gr_alloc w1 (.cells #[.bool nx, .string (S X), .int .i64 (a.2 : Int)] 59) none)) g2)
  have l3 := T3.lt
  have T4 := (Three.new w2 (.bool ny) (.string (S Y)) (.int .i64 (b.2 : Int)) 59).drew
  have T3 := (T3.alloc (.cells #[.bool ny, .string (S Y), .int .i64 (b.2 : Int)] 59)).drew
  have T2 := (T2.alloc (.cells #[.bool ny, .string (S Y), .int .i64 (b.2 : Int)] 59)).drew
  have gg := gr_then (gr_then G.out (gr_alloc w2 (.cells #[.bool ny, .string (S Y), .int .i64 (b.2 : Int)] 59) none)) (gr_drew _ none)
  clear g2
  have hn1 : w1.heap.size ≠ w.heap.size + 1 + 1 := by omega
  have hn2 : w.heap.size + 1 + 1 ≠ w1.heap.size := by omega
  have hn3 : w2.heap.size ≠ w.heap.size + 1 + 1 := by omega
  have hn4 : w.heap.size + 1 + 1 ≠ w2.heap.size := by omega
  have c30 := T3.c0
  have c31 := T3.c1
  have c32 := T3.c2
  have c40 := T4.c0
  have c41 := T4.c1
  have c42 := T4.c2
  go_wp2_with fail
  go_region_held3 (fun w' => w'.cell? ⟨w1.heap.size, 0, none⟩ = some (.bool nx) ∧ w'.cell? ⟨w1.heap.size, 1, none⟩ = some (.string (S X)) ∧ w'.cell? ⟨w1.heap.size, 2, none⟩ = some (.int .i64 (a.2 : Int)) ∧ w'.cell? ⟨w2.heap.size, 0, none⟩ = some (.bool ny) ∧ w'.cell? ⟨w2.heap.size, 1, none⟩ = some (.string (S Y)) ∧ w'.cell? ⟨w2.heap.size, 2, none⟩ = some (.int .i64 (b.2 : Int))) (first | exact ⟨c30, c31, c32, c40, c41, c42⟩ | go_keep)
    (first
    | (go_at_call 48; refine (HM.out _).mono ?_; rintro e wa ⟨rfl, ga⟩; have hA3 := T3.kept ga; have hA4 := T4.kept ga; have hA2 := T2.kept ga; have gA := gr_then gg ga; have dA0 := hA3.c0; have dA1 := hA3.c1; have dA2 := hA3.c2; have dA3 := hA4.c0; have dA4 := hA4.c1; have dA5 := hA4.c2)
    | (go_at_call 37; refine (HF.out _).mono ?_; rintro e wd ⟨rfl, gd⟩; unfold dres; have hD3 := hA3.kept gd; have hD4 := hA4.kept gd; have hD2 := hA2.kept gd; have gD := gr_then gA gd; have dD0 := hD3.c0; have dD1 := hD3.c1; have dD2 := hD3.c2; have dD3 := hD4.c0; have dD4 := hD4.c1; have dD5 := hD4.c2; have e0 := hD2.c0; have e1 := hD2.c1; have f0 := hD2.fr 0; have f1 := hD2.fr 1))
  all_goals
    go_wp2
    exact bodyPost_ret (v := dres (mulD a b)) (by simp [results, Tryd.results27, go_sem, e0, e1, dres]) rfl ⟨rfl, gr_setn (gr_setn gD (by omega)) (by omega)⟩
theorem round_rep {nx : Bool} {X : Nat} {n : Int} (h : rep nx X = n) (hp : nx = true → 0 < X) (p : Nat) : rep nx ((2 * X + p) / (2 * p)) = roundI n p := by
  subst h
  cases nx
  · simp only [rep, Bool.false_eq_true, if_false]; rw [roundI_nat]
  · have := hp rfl
    simp only [rep, if_true]; unfold roundI; rw [if_pos (by omega), Int.natAbs_neg, Int.natAbs_natCast]
theorem qround_out (n s k : Int) (w : World) (h : k < 0 ∨ 6 < k) : Gives 29 #[.agg #[.int .i64 n, .int .i64 s], .int .i64 k] w (dres (0, 0, false)) := by
  have hT := Two.new1 w (.cells #[.int .i64 n, .int .i64 s] 23) (.int .i64 0) (.int .i64 0) 23
  have g := gr_then (gr_alloc w (.cells #[.int .i64 n, .int .i64 s] 23) none) (gr_alloc _ (.cells #[.int .i64 0, .int .i64 0] 23) none)
  have d0 := hT.c0
  have d1 := hT.c1
  have G := Lib.hid g
  clear g
  have hk : k < 0 ∨ (¬ k < 0 ∧ 6 < k) := by omega
  clear h
  rcases hk with h | ⟨h, h2⟩
  all_goals
    go_enter Tryd.func29, Tryd.ntmps29
    go_wp2
    exact bodyPost_ret (v := .tuple #[.agg #[.int .i64 0, .int .i64 0], .bool false]) (by simp [results, Tryd.results29, go_sem, d0, d1]) rfl ⟨rfl, G.out⟩
set_option maxHeartbeats 2000000 in
set_option maxRecDepth 100000 in
theorem qround_in (n s : Int) (k : Nat) (w : World) (hk : k ≤ 6) : Gives 29 #[.agg #[.int .i64 n, .int .i64 s], .int .i64 k] w (dres (roundD (valD n s) k)) := by
  obtain ⟨nx, X, sa, hA, hx, hsa, hX, ha6, hneg⟩ := big_case n s
  have hrt := rt_val n s
  generalize valD n s = a at *
  subst hsa
  have HA := Lib.hid hA
  have T1 := Two.new1 w (.cells #[.int .i64 n, .int .i64 s] 23) (.int .i64 0) (.int .i64 0) 23
  clear hA
  by_cases hle : a.2 ≤ k
  · have hr : roundD a (k : Int) = (a.1, a.2, true) := by unfold roundD; rw [if_pos ⟨by omega, by omega⟩, if_pos (by omega)]
    have hft := fun w => fit_any nx X a.2 w (Nat.lt_of_le_of_lt hX (by decide +kernel)) (by omega)
    rw [hx, hrt.fit] at hft
    rw [hr]
    have HF := Lib.hid hft
    clear hr hft hrt hx hX hneg
    go_enter Tryd.func29, Tryd.ntmps29
    go_wp2_with fail
    refine (HA.out _).mono ?_
    rintro e w1 ⟨rfl, g1⟩
    have T1 := (T1.kept g1).alloc (.cells #[.bool nx, .string (S X), .int .i64 (a.2 : Int)] 59)
    have G := Lib.hid (gr_then (gr_two g1) (gr_alloc w1 (.cells #[.bool nx, .string (S X), .int .i64 (a.2 : Int)] 59) none))
    clear g1
    go_wp2_with fail
    refine (HF.out _).mono ?_
    rintro e w2 ⟨rfl, g2⟩
    unfold dres
    have T1 := T1.kept g2
    have G := Lib.hid (gr_then G.out g2)
    have e0 := T1.c0
    have e1 := T1.c1
    have f0 := T1.fr 0
    have f1 := T1.fr 1
    clear g2
    go_wp2
    exact bodyPost_ret (v := dres (a.1, a.2, true)) (by simp [results, Tryd.results29, go_sem, e0, e1, dres]) rfl ⟨rfl, gr_setn (gr_setn G.out (by omega)) (by omega)⟩
  · have hr : roundD a (k : Int) = fitD (roundI a.1 (P10 (a.2 - k))) k := by
      unfold roundD
      rw [if_pos ⟨by omega, by omega⟩, if_neg (by omega)]
      rfl
    rw [hr]
    have hpw : ∀ w, Gives 50 #[.int .i64 ((a.2 : Int) - k)] w (.string (S (P10 (a.2 - k)))) := fun w => by
      rw [show (a.2 : Int) - k = ((a.2 - k : Nat) : Int) from by omega]; exact power_any _ w (by omega)
    have hp6 := P10_le6 (k := a.2 - k) (by omega)
    have hp0 := P10_pos (a.2 - k)
    generalize P10 (a.2 - k) = p at *
    have hrr := round_rep hx hneg p
    have hm2 := fun w => s_rmul (S X) (S 2) X 2 w (s_num _) (s_num _) (by have := sz63 (n := X) (by omega); omega) (by have := sz63 (n := 2) (by omega); omega)
    have had := fun w => s_radd (S (X * 2)) (S p) (X * 2) p w (s_num _) (s_num _) (by have := sz63 (n := X * 2) (by omega); omega) (by have := sz63 (n := p) (by omega); omega)
    have hp2 := fun w => s_rmul (S p) (S 2) p 2 w (s_num _) (s_num _) (by have := sz63 (n := p) (by omega); omega) (by have := sz63 (n := 2) (by omega); omega)
    have hqu := fun w => s_rquo (S (X * 2 + p)) (S (p * 2)) (X * 2 + p) (p * 2) w (s_num _) (s_num _) (by omega) (by have := sz63 (n := X * 2 + p) (by omega); omega) (by have := sz63 (n := p * 2) (by omega); omega)
    have hql : (X * 2 + p) / (p * 2) < 256 ^ 200 := Nat.lt_of_le_of_lt (Nat.div_le_self _ _) (lt200 (by omega))
    have hft := fun w => fit_any nx ((X * 2 + p) / (p * 2)) k w hql (by omega)
    rw [show rep nx ((X * 2 + p) / (p * 2)) = roundI a.1 p from by rw [← hrr, Nat.mul_comm X 2, Nat.mul_comm p 2]] at hft
    generalize (X * 2 + p) / (p * 2) = q at *
    generalize (X * 2 + p) % (p * 2) = r at *
    have h2 := fun w => rof_any 2 w (by omega)
    rw [show (⟨(enc 2).toArray⟩ : ByteArray) = S 2 from rfl] at h2
    generalize X * 2 + p = Z at *
    generalize p * 2 = p2 at *
    generalize X * 2 = X2 at *
    have HPW := Lib.hid hpw
    have HM2 := Lib.hid hm2
    have HAD := Lib.hid had
    have HP2 := Lib.hid hp2
    have HQU := Lib.hid hqu
    have HF := Lib.hid hft
    have H2 := Lib.hid h2
    have hlt : k < a.2 := by omega
    clear hpw hm2 had hp2 hqu hql hft h2 hr hrt hx hX hneg hrr hle hp6 hp0
    go_enter Tryd.func29, Tryd.ntmps29
    go_wp2_with fail
    refine (HA.out _).mono ?_
    rintro e w1 ⟨rfl, g1⟩
    have T1 := (T1.kept g1).alloc (.cells #[.bool nx, .string (S X), .int .i64 (a.2 : Int)] 59)
    have G := Lib.hid (gr_then (gr_two g1) (gr_alloc w1 (.cells #[.bool nx, .string (S X), .int .i64 (a.2 : Int)] 59) none))
    have T3 := Three.new w1 (.bool nx) (.string (S X)) (.int .i64 (a.2 : Int)) 59
    clear g1
    go_wp2_with fail
    refine (HPW.out _).mono ?_
    rintro e w2 ⟨rfl, g2⟩
    have T1 := (T1.kept g2).drew
    have T3 := (T3.kept g2).drew
    have gg := gr_then (gr_then G.out g2) (gr_drew _ none)
    have c1 := T3.c1
    clear g2
    go_wp2_with fail
    go_region_held3 (fun w' => w'.cell? ⟨w1.heap.size, 1, none⟩ = some (.string (S X))) (first | exact c1 | go_keep)
      (first
      | (go_at_call 52; refine (H2.out _).mono ?_; rintro e wa ⟨rfl, ga⟩; have hA1 := T1.kept ga; have hA3 := T3.kept ga; have gA := gr_then gg ga; have dA := hA3.c1)
      | (go_at_call 48; refine (HM2.out _).mono ?_; rintro e wb ⟨rfl, gb⟩; have hB1 := hA1.kept gb; have hB3 := hA3.kept gb; have gB := gr_then gA gb; have dB := hB3.c1)
      | (go_at_call 51; refine (HAD.out _).mono ?_; rintro e wc ⟨rfl, gc⟩; have hC1 := hB1.kept gc; have hC3 := hB3.kept gc; have gC := gr_then gB gc; have dC := hC3.c1))
    all_goals
      have k0 := hC3.c0
      go_wp2_with fail
      refine (H2.out _).mono ?_
      rintro e wd ⟨rfl, gd⟩
      go_wp2_with fail
      refine (HP2.out _).mono ?_
      rintro e we ⟨rfl, ge⟩
      go_wp2_with fail
      refine (HQU.out _).mono ?_
      rintro e wf ⟨rfl, gf⟩
      have hF1 := ((hC1.kept gd).kept ge).kept gf
      have hF3 := ((hC3.kept gd).kept ge).kept gf
      have gF := gr_then (gr_then (gr_then gC gd) ge) gf
      have k1 := hF3.c0
      go_wp2_with fail
      refine (HF.out _).mono ?_
      rintro e wh ⟨rfl, gh⟩
      unfold dres
      have hH1 := hF1.kept gh
      have gH := gr_then gF gh
      have e0 := hH1.c0
      have e1 := hH1.c1
      have f0 := hH1.fr 0
      have f1 := hH1.fr 1
      go_wp2
      exact bodyPost_ret (v := dres (fitD (roundI a.1 p) k)) (by simp [results, Tryd.results29, go_sem, e0, e1, dres]) rfl ⟨rfl, gr_setn (gr_setn gH (by omega)) (by omega)⟩
theorem qround_any (n s k : Int) (w : World) : Gives 29 #[.agg #[.int .i64 n, .int .i64 s], .int .i64 k] w (dres (roundD (valD n s) k)) := by
  by_cases h : 0 ≤ k ∧ k ≤ 6
  · obtain ⟨j, rfl⟩ := Int.eq_ofNat_of_zero_le h.1
    exact qround_in n s j w (by omega)
  · rw [show roundD (valD n s) k = (0, 0, false) from by unfold roundD; rw [if_neg h]]
    exact qround_out n s k w (by omega)
end Go.Proofs.YtmlmjhlakpgagaaDoor
