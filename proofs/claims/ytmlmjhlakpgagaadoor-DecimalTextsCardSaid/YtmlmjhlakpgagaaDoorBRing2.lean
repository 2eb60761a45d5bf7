/- Contracts of the program and of the reference, part 2: Db. -/
import Derived.Test.YtmlmjhlakpgagaaDoorBRing1
import Derived.Outline
namespace Go.Proofs.YtmlmjhlakpgagaaDoor
open Go.RowKit Mth Dm

theorem gcell {W w1 : World} (hg : W.grownBy w1 none) : (∀ b o, b < W.heap.size → w1.cell? ⟨b, o, none⟩ = W.cell? ⟨b, o, none⟩) ∧ (∀ b o, b < W.heap.size → w1.frozen? ⟨b, o, none⟩ = W.frozen? ⟨b, o, none⟩) := by
  have hb : Below W.heap.size W w1 := ⟨hg.os, hg.tape, hg.output, hg.size, fun k hk => hg.block k hk (by simp)⟩
  exact ⟨fun b o h => hb.cell (p := ⟨b, o, none⟩) h, fun b o h => hb.frozen (p := ⟨b, o, none⟩) h⟩
/-- A block of two cells. -/
def Two (w : World) (b : Nat) (x y : Value) (t : TypeId) : Prop := w.heap[b]? = some (.cells #[x, y] t (0, 0))
theorem Two.lt {w : World} {b : Nat} {x y : Value} {t : TypeId} (h : Two w b x y t) : b < w.heap.size := (Array.getElem?_eq_some_iff.1 h).1
theorem Two.c0 {w : World} {b : Nat} {x y : Value} {t : TypeId} (h : Two w b x y t) : w.cell? ⟨b, 0, none⟩ = some x := by rw [cell_of_row w b 0 _ t (0, 0) h]; rfl
theorem Two.c1 {w : World} {b : Nat} {x y : Value} {t : TypeId} (h : Two w b x y t) : w.cell? ⟨b, 1, none⟩ = some y := by rw [cell_of_row w b 1 _ t (0, 0) h]; rfl
theorem Two.fr {w : World} {b : Nat} {x y : Value} {t : TypeId} (h : Two w b x y t) (i : Nat) : w.frozen? ⟨b, i, none⟩ = false := by
  simp only [World.frozen?]
  rw [show w.heap[b]? = some (.cells #[x, y] t (0, 0)) from h]
  simp
theorem Two.kept {w w1 : World} {b : Nat} {x y : Value} {t : TypeId} (h : Two w b x y t) (hg : w.grownBy w1 none) : Two w1 b x y t := by
  unfold Two at *; rw [hg.block b (Array.getElem?_eq_some_iff.1 h).1 (by simp)]; exact h
theorem Two.new (w : World) (x y : Value) (t : TypeId) : Two (w.alloc (.cells #[x, y] t)) w.heap.size x y t := heap_alloc_new w _
theorem Two.new1 (w : World) (o : Obj) (x y : Value) (t : TypeId) : Two ((w.alloc o).alloc (.cells #[x, y] t)) (w.heap.size + 1) x y t := by
  have h := Two.new (w.alloc o) x y t
  rwa [show (w.alloc o).heap.size = w.heap.size + 1 from by simp] at h
theorem Two.new2 (w : World) (o p : Obj) (x y : Value) (t : TypeId) : Two (((w.alloc o).alloc p).alloc (.cells #[x, y] t)) (w.heap.size + 1 + 1) x y t := by
  have h := Two.new1 (w.alloc o) p x y t
  rwa [show (w.alloc o).heap.size = w.heap.size + 1 from by simp] at h
theorem Two.alloc {w : World} {b : Nat} {x y : Value} {t : TypeId} (h : Two w b x y t) (o : Obj) : Two (w.alloc o) b x y t := h.kept (gr_alloc w o none)
theorem Two.set2 {w : World} {b : Nat} {x y : Value} {t : TypeId} (h : Two w b x y t) (x' y' : Value) : Two ((w.setCell ⟨b, 0, none⟩ x').setCell ⟨b, 1, none⟩ y') b x' y' t := by
  unfold Two at h ⊢
  have h1 : (w.setCell ⟨b, 0, none⟩ x').heap[b]? = some (.cells #[x', y] t (0, 0)) := by
    rw [setCell_eq_setRow w b 0 _ t (0, 0) _ h, setRow_heap w b _ _ t (0, 0) h]; rfl
  rw [setCell_eq_setRow _ b 1 _ t (0, 0) _ h1, setRow_heap _ b _ _ t (0, 0) h1]; rfl
theorem Two.other {w : World} {b b' i : Nat} {x y v : Value} {t : TypeId} (h : Two w b x y t) (hne : b ≠ b') : Two (w.setCell ⟨b', i, none⟩ v) b x y t := by
  unfold Two at h ⊢
  rw [Below.heap_setCell _ _ _ _ hne]; exact h
theorem Two.drew {w : World} {b : Nat} {x y : Value} {t : TypeId} (h : Two w b x y t) : Two w.drew b x y t := h
theorem gr_setn {a b : World} {g i : Nat} {v : Value} (h : a.grownBy b none) (hg : a.heap.size ≤ g) : a.grownBy (b.setCell ⟨g, i, none⟩ v) none := gr_new h (gr_set _ _ _ _) hg
theorem gr_two {a b : World} {o p : Obj} (h : ((a.alloc o).alloc p).grownBy b none) : a.grownBy b none := gr_then (gr_then (gr_alloc a o none) (gr_alloc _ p none)) h
theorem gr_three {a b : World} {o p q : Obj} (h : (((a.alloc o).alloc p).alloc q).grownBy b none) : a.grownBy b none := gr_then (gr_then (gr_then (gr_alloc a o none) (gr_alloc _ p none)) (gr_alloc _ q none)) h
theorem value_any (n s : Int) (w : World) :
    Calls Tryd.prog 39 #[.agg #[.int .i64 n, .int .i64 s]] w fun e w' => e = .returned (.agg #[.int .i64 (valD n s).1, .int .i64 ((valD n s).2 : Nat)]) ∧ w.grownBy w' none := by
  cases hr : rightD n s with
  | true =>
    rw [valD_right hr]
    have h0 := (rightD_iff.1 hr).1
    rw [show ((s.toNat : Nat) : Int) = s from by omega]
    have HR := Lib.hid hr
    clear hr h0
    go_enter Tryd.func39, Tryd.ntmps39
    go_wp2_with fail
    refine (right_any n s _).mono ?_
    rintro e w1 ⟨rfl, hg⟩
    rw [HR.out]
    obtain ⟨hc, hf⟩ := gcell hg
    go_wp2
    exact bodyPost_ret (v := .agg #[.int .i64 n, .int .i64 s]) (by simp [results, Tryd.results39, go_sem, hc]) rfl ⟨rfl, gr_setn (gr_setn (gr_two hg) (by omega)) (by omega)⟩
  | false =>
    rw [valD_wrong hr]
    have HR := Lib.hid hr
    clear hr
    go_enter Tryd.func39, Tryd.ntmps39
    go_wp2_with fail
    refine (right_any n s _).mono ?_
    rintro e w1 ⟨rfl, hg⟩
    rw [HR.out]
    obtain ⟨hc, hf⟩ := gcell hg
    go_wp2
    exact bodyPost_ret (v := .agg #[.int .i64 0, .int .i64 0]) (by simp [results, Tryd.results39, go_sem, hc]) rfl ⟨rfl, gr_setn (gr_setn (gr_two hg) (by omega)) (by omega)⟩
theorem fitD_rightD (v : Int) (s : Nat) : rightD (strip s v).1 ((strip s v).2 : Nat) = (fitD v s).2.2 ∧ fitD v s = (if rightD (strip s v).1 ((strip s v).2 : Nat) then ((strip s v).1, (strip s v).2, true) else (0, 0, false)) := by
  have hd := strip_done s v
  unfold fitD
  by_cases h : (strip s v).2 ≤ 6 ∧ -1000000000000000 ≤ (strip s v).1 ∧ (strip s v).1 ≤ 1000000000000000
  · have hr : rightD (strip s v).1 ((strip s v).2 : Nat) = true := by
      rw [rightD_iff]
      exact ⟨by omega, by omega, h.2.1, h.2.2, by rcases hd with h | h; left; omega; right; exact h⟩
    rw [if_pos h, hr]; exact ⟨rfl, rfl⟩
  · have hr : rightD (strip s v).1 ((strip s v).2 : Nat) = false := by
      rw [Bool.eq_false_iff]; intro hr
      rw [rightD_iff] at hr
      exact h ⟨by omega, hr.2.2.1, hr.2.2.2.1⟩
    rw [if_neg h, hr]; exact ⟨rfl, rfl⟩
/-- What a function gives that returns a decimal and whether there is one. -/
def dres (r : Int × Nat × Bool) : Value := .tuple #[.agg #[.int .i64 r.1, .int .i64 (r.2.1 : Nat)], .bool r.2.2]
theorem make_out (n k : Int) (w : World) (h : k < 0 ∨ 18 < k) :
    Calls Tryd.prog 13 #[.int .i64 n, .int .i64 k] w fun e w' => e = .returned (dres (0, 0, false)) ∧ w.grownBy w' none := by
  rcases h with h | h
  · go_enter Tryd.func13, Tryd.ntmps13
    go_wp2
    exact bodyPost_ret (v := .tuple #[.agg #[.int .i64 0, .int .i64 0], .bool false]) (by simp [results, Tryd.results13, go_sem]) rfl ⟨rfl, gr_alloc _ _ _⟩
  · have h0 : ¬ k < 0 := by omega
    go_enter Tryd.func13, Tryd.ntmps13
    go_wp2
    exact bodyPost_ret (v := .tuple #[.agg #[.int .i64 0, .int .i64 0], .bool false]) (by simp [results, Tryd.results13, go_sem]) rfl ⟨rfl, gr_alloc _ _ _⟩
theorem make_in (n : Int) (k : Nat) (w : World) (hk : k ≤ 18) (h1 : -9223372036854775808 ≤ n) (h2 : n ≤ 9223372036854775807) :
    Calls Tryd.prog 13 #[.int .i64 n, .int .i64 k] w fun e w' => e = .returned (dres (fitD n k)) ∧ w.grownBy w' none := by
  obtain ⟨f1, f2⟩ := fitD_rightD n k
  rw [f2]
  have hz := fun w => zeros_any n k (by omega) w h1 h2
  generalize strip k n = q at f1 hz ⊢
  obtain ⟨m, s⟩ := q
  dsimp only at f1 hz ⊢
  generalize hb : rightD m (s : Int) = b
  have HB := Lib.hid hb
  have HZ := Lib.hid hz
  clear hb hz f1 f2
  have hsz : ((s : Nat) : Int) = (s : Int) := rfl
  clear hsz
  cases b
  · rw [show dres (if false = true then (m, s, true) else (0, 0, false)) = dres (0, 0, false) from rfl]
    go_enter Tryd.func13, Tryd.ntmps13
    go_wp2_with fail
    refine (HZ.out _).mono ?_
    rintro e w1 ⟨rfl, rfl⟩
    go_wp2_with fail
    refine (right_any m s _).mono ?_
    rintro e w1 ⟨rfl, hg⟩
    rw [HB.out]
    obtain ⟨hc, hf⟩ := gcell hg
    have hT := ((Two.new w (.int .i64 0) (.int .i64 0) 23).alloc _).kept hg
    have h00 := hT.c0
    have h01 := hT.c1
    go_wp2
    exact bodyPost_ret (v := .tuple #[.agg #[.int .i64 0, .int .i64 0], .bool false]) (by simp [results, Tryd.results13, go_sem, h00, h01]) rfl ⟨rfl, gr_setn (gr_setn (gr_two hg) (by omega)) (by omega)⟩
  · rw [show dres (if true = true then (m, s, true) else (0, 0, false)) = dres (m, s, true) from rfl]
    go_enter Tryd.func13, Tryd.ntmps13
    go_wp2_with fail
    refine (HZ.out _).mono ?_
    rintro e w1 ⟨rfl, rfl⟩
    go_wp2_with fail
    refine (right_any m s _).mono ?_
    rintro e w1 ⟨rfl, hg⟩
    rw [HB.out]
    obtain ⟨hc, hf⟩ := gcell hg
    have hT := ((Two.new w (.int .i64 0) (.int .i64 0) 23).alloc _).kept hg
    have h00 := hT.c0
    have h01 := hT.c1
    go_wp2
    exact bodyPost_ret (v := .tuple #[.agg #[.int .i64 m, .int .i64 (s : Int)], .bool true]) (by simp [results, Tryd.results13, go_sem, h00, h01]) rfl ⟨rfl, gr_setn (gr_setn (gr_two hg) (by omega)) (by omega)⟩
theorem make_any (n k : Int) (w : World) (h1 : -9223372036854775808 ≤ n) (h2 : n ≤ 9223372036854775807) :
    Calls Tryd.prog 13 #[.int .i64 n, .int .i64 k] w fun e w' => e = .returned (dres (makeD n k)) ∧ w.grownBy w' none := by
  unfold makeD
  split
  · rename_i h
    obtain ⟨j, rfl⟩ := Int.eq_ofNat_of_zero_le h.1
    exact make_in n j w (by omega) h1 h2
  · exact make_out n k w (by omega)
theorem make_at (n v k : Int) (s : Nat) (w : World) (hn : n = v) (hk : k = (s : Int)) (hs : s ≤ 18) (h1 : -9223372036854775808 ≤ v) (h2 : v ≤ 9223372036854775807) :
    Calls Tryd.prog 13 #[.int .i64 n, .int .i64 k] w fun e w' => e = .returned (dres (fitD v s)) ∧ w.grownBy w' none := by
  subst hn; subst hk; exact make_in n s w hs h1 h2
theorem of_any (n : Int) (w : World) (h1 : -9223372036854775808 ≤ n) (h2 : n ≤ 9223372036854775807) :
    Calls Tryd.prog 16 #[.int .i64 n] w fun e w' => e = .returned (dres (fitD n 0)) ∧ w.grownBy w' none := by
  go_enter Tryd.func16, Tryd.ntmps16
  go_wp2_with fail
  refine (make_at n n 0 0 _ rfl rfl (by decide) h1 h2).mono ?_
  rintro e w1 ⟨rfl, hg⟩
  unfold dres
  obtain ⟨hc, hf⟩ := gcell hg
  have hz : w.heap.size < w1.heap.size := by have := hg.size; simp at this; omega
  go_wp2
  exact bodyPost_ret (v := dres (fitD n 0)) (by simp [results, Tryd.results16, go_sem, hc, dres]) rfl ⟨rfl, gr_setn (gr_setn (gr_then (gr_alloc w _ none) hg) (by omega)) (by omega)⟩
theorem P10_le6 {k : Nat} (h : k ≤ 6) : P10 k ≤ 1000000 := Nat.le_trans (P10_le h) (by decide)
theorem quiet_l {P : Program} {f : FuncId} {args : Array Value} {w : World} {n : Nat} {v : Value} (h : Calls P f args (w.drewN n) fun e w' => e = .returned v ∧ w.drewN n = w') : Calls P f args (w.drewN n) fun e w'' => e = .returned v ∧ ∃ m, w'' = w.drewN m :=
  h.mono fun _ _ ⟨he, hm⟩ => ⟨he, n, hm.symm⟩
theorem cast_div2 (p : Nat) : (2000000000000000 : Int) / (p : Int) = ((2000000000000000 / p : Nat) : Int) := by simp
theorem cast_div1 (p : Nat) : (1000000000000000 : Int) / (p : Int) = ((1000000000000000 / p : Nat) : Int) := by simp
theorem gr_dn {a b : World} {o : Obj} {n : Nat} (h : ((a.alloc o).drewN n) = b) : a.grownBy b none := by subst h; exact gr_then (gr_alloc a o none) (gr_drewN _ n none)
theorem unitsOf_no (n : Int) (s m : Nat) (w : World) (hn1 : -1000000000000000 ≤ n) (hn2 : n ≤ 1000000000000000) (hs : s ≤ m) (hm : m ≤ 6) (hbig : n.natAbs > 2000000000000000 / P10 (m - s)) :
    Calls Tryd.prog 40 #[.agg #[.int .i64 n, .int .i64 (s : Int)], .int .i64 m] w fun e w' => e = .returned (.tuple #[.int .i64 0, .bool false]) ∧ w.grownBy w' none := by
  have hp := P10_pos (m - s)
  have hp2 : P10 (m - s) ≤ 1000000 := P10_le6 (by omega)
  have hpot := pot_at ((m : Int) - s) (m - s) (by omega) (by omega)
  generalize P10 (m - s) = p at hbig hp hp2 hpot
  have HB := Lib.hid hbig
  have HP := Lib.hid hpot
  have habs := abs_any n
  have HA := Lib.hid habs
  clear hbig hpot habs
  go_enter Tryd.func40, Tryd.ntmps40
  go_wp2_with fail
  refine (HP.out _).mono ?_
  rintro e w1 ⟨rfl, rfl⟩
  have hbt : decide ((2000000000000000 / (p : Int)) < ((n.natAbs : Nat) : Int)) = true := by
    have := HB.out
    apply decide_eq_true
    rw [cast_div2]
    omega
  have hbt2 : decide (((2000000000000000 : Int).tdiv (p : Int)) < ((n.natAbs : Nat) : Int)) = true := by
    rw [Int.tdiv_eq_ediv_of_nonneg (by decide)]; exact hbt
  go_wp2
  go_quiet ((go_at_call 47; exact quiet_l (HA.out _ (by omega) (by omega))))
  go_wp2
  go_ret2
  exact ⟨rfl, gr_dn rfl⟩
theorem unitsOf_yes (n : Int) (s m : Nat) (w : World) (hn1 : -1000000000000000 ≤ n) (hn2 : n ≤ 1000000000000000) (hs : s ≤ m) (hm : m ≤ 6) (hbig : ¬ n.natAbs > 2000000000000000 / P10 (m - s)) :
    Calls Tryd.prog 40 #[.agg #[.int .i64 n, .int .i64 (s : Int)], .int .i64 m] w fun e w' => e = .returned (.tuple #[.int .i64 (n * (P10 (m - s) : Nat)), .bool true]) ∧ w.grownBy w' none := by
  have hp := P10_pos (m - s)
  have hp2 : P10 (m - s) ≤ 1000000 := P10_le6 (by omega)
  have hpot := pot_at ((m : Int) - s) (m - s) (by omega) (by omega)
  generalize P10 (m - s) = p at hbig hp hp2 hpot
  have hle : n.natAbs * p ≤ 2000000000000000 := (Nat.le_div_iff_mul_le hp).1 (by omega)
  have hmul : (n * (p : Int)).natAbs = n.natAbs * p := by rw [Int.natAbs_mul, Int.natAbs_natCast]
  have hm1 : -2000000000000000 ≤ n * (p : Int) := by omega
  have hm2 : n * (p : Int) ≤ 2000000000000000 := by omega
  have HB := Lib.hid hbig
  have HP := Lib.hid hpot
  have habs := abs_any n
  have HA := Lib.hid habs
  clear hbig hpot habs hmul hle
  go_enter Tryd.func40, Tryd.ntmps40
  go_wp2_with fail
  refine (HP.out _).mono ?_
  rintro e w1 ⟨rfl, rfl⟩
  have hbt : decide ((2000000000000000 / (p : Int)) < ((n.natAbs : Nat) : Int)) = false := by
    have := HB.out
    apply decide_eq_false
    rw [cast_div2]
    omega
  have hbt2 : decide (((2000000000000000 : Int).tdiv (p : Int)) < ((n.natAbs : Nat) : Int)) = false := by
    rw [Int.tdiv_eq_ediv_of_nonneg (by decide)]; exact hbt
  go_wp2
  go_quiet ((go_at_call 47; exact quiet_l (HA.out _ (by omega) (by omega))))
  go_wp2
  go_ret2
  exact ⟨rfl, gr_dn rfl⟩
/-- The parts of a right decimal. -/
theorem parts_any (n : Int) (s : Nat) (w : World) (hn1 : -1000000000000000 ≤ n) (hn2 : n ≤ 1000000000000000) (hs : s ≤ 6) :
    Calls Tryd.prog 43 #[.agg #[.int .i64 n, .int .i64 (s : Int)]] w fun e w' => e = .returned (.tuple #[.int .i64 (n.tdiv (P10 s : Nat)), .int .i64 (n.tmod (P10 s : Nat) * (P10 (6 - s) : Nat))]) ∧ w.grownBy w' none := by
  have hp := P10_pos s
  have hp2 : P10 s ≤ 1000000 := P10_le6 (by omega)
  have hq : P10 s * P10 (6 - s) = 1000000 := by unfold P10; rw [← Nat.pow_add, show s + (6 - s) = 6 from by omega]
  have hpot := pot_any s (by omega)
  have hpot2 := pot_at ((6 : Int) - s) (6 - s) (by omega) (by omega)
  have hq2 : P10 (6 - s) ≤ 1000000 := P10_le6 (by omega)
  generalize P10 s = p at hp hp2 hq hpot
  generalize P10 (6 - s) = q at hq hq2 hpot2
  have hr1 : (n.tmod (p : Int)).natAbs < p := by
    rw [Int.natAbs_tmod, Int.natAbs_natCast]; exact Nat.mod_lt _ hp
  have hrq : (n.tmod (p : Int) * (q : Int)).natAbs ≤ 1000000 := by
    rw [Int.natAbs_mul, Int.natAbs_natCast, ← hq]
    exact Nat.mul_le_mul_right _ (Nat.le_of_lt hr1)
  have hw : IntKind.i64.wrap (n.tmod (p : Int) * (q : Int)) = n.tmod (p : Int) * (q : Int) := IntWalk.i64_in _ (by omega)
  have hd1 : (n.tdiv (p : Int)).natAbs ≤ 1000000000000000 := by
    rw [Int.natAbs_tdiv, Int.natAbs_natCast]; exact Nat.le_trans (Nat.div_le_self _ _) (by omega)
  have hw2 : IntKind.i64.wrap (n.tdiv (p : Int)) = n.tdiv (p : Int) := IntWalk.i64_in _ (by omega)
  have hb1 : -1000000 ≤ n.tmod (p : Int) * (q : Int) := by omega
  have hb2 : n.tmod (p : Int) * (q : Int) ≤ 1000000 := by omega
  have hz : ((p : Int) == 0) = false := by rw [beq_eq_false_iff_ne]; omega
  have HP := Lib.hid hpot
  have HP2 := Lib.hid hpot2
  clear hpot hpot2 hq hr1 hrq hd1
  go_enter Tryd.func43, Tryd.ntmps43
  go_wp2_with fail
  refine (HP.out _).mono ?_
  rintro e w1 ⟨rfl, rfl⟩
  go_wp2
  go_quiet ((go_at_call 49; exact quiet_l (HP2.out _)))
  go_wp2
  go_ret2
  exact ⟨rfl, gr_dn rfl⟩
end Go.Proofs.YtmlmjhlakpgagaaDoor
