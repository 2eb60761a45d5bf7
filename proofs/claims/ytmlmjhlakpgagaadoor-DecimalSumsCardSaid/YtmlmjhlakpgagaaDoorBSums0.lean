/- The law of the claim at the level of the call, and its row: ProdK, Sums, SumsRow. -/
import Derived.Test.YtmlmjhlakpgagaaDoorBRing9
namespace Go.Proofs.YtmlmjhlakpgagaaDoor
open Go.RowKit Mth Dm


/-- Pairs of decimals in a block. -/
def PairCells (B N : Nat) (w : World) : Prop := ∀ i, i < N → ∃ n s m t : Int, -9223372036854775808 ≤ m ∧ m ≤ 9223372036854775807 ∧ w.cell? ⟨B, i * 4, none⟩ = some (.int .i64 n) ∧ w.cell? ⟨B, i * 4 + 1, none⟩ = some (.int .i64 s) ∧ w.cell? ⟨B, i * 4 + 2, none⟩ = some (.int .i64 m) ∧ w.cell? ⟨B, i * 4 + 3, none⟩ = some (.int .i64 t)
theorem PairCells.kept {B N : Nat} {w w1 : World} (h : PairCells B N w) (hg : w.grownBy w1 none) : PairCells B N w1 := fun i hi => by
  obtain ⟨n, s, m, t, h1, h2, c0, c1, c2, c3⟩ := h i hi
  exact ⟨n, s, m, t, h1, h2, hg.cell c0 (by simp), hg.cell c1 (by simp), hg.cell c2 (by simp), hg.cell c3 (by simp)⟩
theorem Two.new_at {w : World} {x y : Value} {t : TypeId} {b : Nat} (h : b = w.heap.size) : Two (w.alloc (.cells #[x, y] t)) b x y t := by subst h; exact Two.new w x y t
/-- A block of four ints. -/
def Quad (w : World) (b : Nat) (q0 q1 q2 q3 : Int) : Prop := w.heap[b]? = some (.cells #[.int .i64 q0, .int .i64 q1, .int .i64 q2, .int .i64 q3] 32 (0, 0))
section
variable {w w1 : World} {b : Nat} {q0 q1 q2 q3 : Int}
theorem Quad.lt (h : Quad w b q0 q1 q2 q3) : b < w.heap.size := (Array.getElem?_eq_some_iff.1 h).1
theorem Quad.c0 (h : Quad w b q0 q1 q2 q3) : w.cell? ⟨b, 0, none⟩ = some (.int .i64 q0) := by rw [cell_of_row w b 0 _ 32 (0, 0) h]; rfl
theorem Quad.c1 (h : Quad w b q0 q1 q2 q3) : w.cell? ⟨b, 1, none⟩ = some (.int .i64 q1) := by rw [cell_of_row w b 1 _ 32 (0, 0) h]; rfl
theorem Quad.c2 (h : Quad w b q0 q1 q2 q3) : w.cell? ⟨b, 2, none⟩ = some (.int .i64 q2) := by rw [cell_of_row w b 2 _ 32 (0, 0) h]; rfl
theorem Quad.c3 (h : Quad w b q0 q1 q2 q3) : w.cell? ⟨b, 3, none⟩ = some (.int .i64 q3) := by rw [cell_of_row w b 3 _ 32 (0, 0) h]; rfl
theorem Quad.kept (h : Quad w b q0 q1 q2 q3) (hg : w.grownBy w1 none) : Quad w1 b q0 q1 q2 q3 := by
  unfold Quad at *; rw [hg.block b (Array.getElem?_eq_some_iff.1 h).1 (by simp)]; exact h
theorem Quad.new2 (w : World) (o p : Obj) (q0 q1 q2 q3 : Int) : Quad (((w.alloc o).alloc p).alloc (.cells #[.int .i64 q0, .int .i64 q1, .int .i64 q2, .int .i64 q3] 32)) (w.heap.size + 1 + 1) q0 q1 q2 q3 := by
  have h := heap_alloc_new ((w.alloc o).alloc p) (.cells #[.int .i64 q0, .int .i64 q1, .int .i64 q2, .int .i64 q3] 32)
  simpa [Quad] using h
end
end Go.Proofs.YtmlmjhlakpgagaaDoor
namespace Go.Proofs.YtmlmjhlakpgagaaDoor
open Go.RowKit Mth Dm

set_option maxHeartbeats 16000000 in
set_option maxRecDepth 100000 in
theorem sums_true (an sa bn sb q0 q1 q2 q3 : Int) (W : World) (hd : EV W) (_h0 : -9223372036854775808 ≤ an ∧ an ≤ 9223372036854775807) (_h1 : -9223372036854775808 ≤ sa ∧ sa ≤ 9223372036854775807) (_h2 : -9223372036854775808 ≤ bn ∧ bn ≤ 9223372036854775807) (_h3 : -9223372036854775808 ≤ sb ∧ sb ≤ 9223372036854775807) (_h4 : -9223372036854775808 ≤ q0 ∧ q0 ≤ 9223372036854775807) (_h5 : -9223372036854775808 ≤ q1 ∧ q1 ≤ 9223372036854775807) (_h6 : -9223372036854775808 ≤ q2 ∧ q2 ≤ 9223372036854775807) (_h7 : -9223372036854775808 ≤ q3 ∧ q3 ≤ 9223372036854775807) :
    Gives 4 #[.agg #[.int .i64 an, .int .i64 sa], .agg #[.int .i64 bn, .int .i64 sb], .agg #[.int .i64 q0, .int .i64 q1, .int .i64 q2, .int .i64 q3]] W (.bool true) := by
  have hX := fun w => made_any q0 q1 w
  have hY := fun w => made_any q2 q3 w
  have rx := made_rt q0 q1
  have ry := made_rt q2 q3
  generalize madeD q0 q1 = x at hX rx
  generalize madeD q2 q3 = y at hY ry
  obtain ⟨xn, xs⟩ := x
  obtain ⟨yn, ys⟩ := y
  have HX := Lib.hid hX
  have HY := Lib.hid hY
  have HD := Lib.hid hd
  clear hd hX hY
  go_enter Tryd.func4, Tryd.ntmps4
  go_wp2_with fail
  have g0 := gr_then (gr_then (gr_alloc W (.cells #[.int .i64 an, .int .i64 sa] 23) none) (gr_alloc _ (.cells #[.int .i64 bn, .int .i64 sb] 23) none)) (gr_alloc _ (.cells #[.int .i64 q0, .int .i64 q1, .int .i64 q2, .int .i64 q3] 32) none)
  refine (sanity_any _ (HD.out.grown g0)).mono ?_
  rintro e w1 ⟨rfl, g1⟩
  have TA := (((Two.new W (.int .i64 an) (.int .i64 sa) 23).alloc (.cells #[.int .i64 bn, .int .i64 sb] 23)).alloc (.cells #[.int .i64 q0, .int .i64 q1, .int .i64 q2, .int .i64 q3] 32)).kept g1
  have TB := ((Two.new1 W (.cells #[.int .i64 an, .int .i64 sa] 23) (.int .i64 bn) (.int .i64 sb) 23).alloc (.cells #[.int .i64 q0, .int .i64 q1, .int .i64 q2, .int .i64 q3] 32)).kept g1
  have TQ := (Quad.new2 W (.cells #[.int .i64 an, .int .i64 sa] 23) (.cells #[.int .i64 bn, .int .i64 sb] 23) q0 q1 q2 q3).kept g1
  have G := gr_then g0 g1
  clear g0 g1
  have lA := TA.lt
  have lB := TB.lt
  have lw := TQ.lt
  have lW := G.size
  go_wp2_with fail
  go_cut [8, 9] from 21 to 30 (fun p q wx => ∃ a b : Nat, p = .pointer (some ⟨a, 0, none⟩) ∧ q = .pointer (some ⟨b, 0, none⟩) ∧ a ≠ b ∧ Two wx a (.int .i64 xn) (.int .i64 (xs : Int)) 23 ∧ Two wx b (.int .i64 yn) (.int .i64 (ys : Int)) 23 ∧ Two wx W.heap.size (.int .i64 an) (.int .i64 (sa : Int)) 23 ∧ Two wx (W.heap.size + 1) (.int .i64 bn) (.int .i64 (sb : Int)) 23 ∧ Quad wx (W.heap.size + 1 + 1) q0 q1 q2 q3 ∧ W.grownBy wx none)
  case first =>
    have hK : ∀ w', w1.grownBy w' none → (w'.cell? ⟨W.heap.size + 1 + 1, 0, none⟩ = some (.int .i64 q0) ∧ w'.cell? ⟨W.heap.size + 1 + 1, 1, none⟩ = some (.int .i64 q1) ∧ w'.cell? ⟨W.heap.size + 1 + 1, 2, none⟩ = some (.int .i64 q2) ∧ w'.cell? ⟨W.heap.size + 1 + 1, 3, none⟩ = some (.int .i64 q3)) := fun w' h => ⟨(TQ.kept h).c0, (TQ.kept h).c1, (TQ.kept h).c2, (TQ.kept h).c3⟩
    have HK := Lib.hid hK
    clear hK
    go_region_held3 (fun w' => w'.cell? ⟨W.heap.size + 1 + 1, 0, none⟩ = some (.int .i64 q0) ∧ w'.cell? ⟨W.heap.size + 1 + 1, 1, none⟩ = some (.int .i64 q1) ∧ w'.cell? ⟨W.heap.size + 1 + 1, 2, none⟩ = some (.int .i64 q2) ∧ w'.cell? ⟨W.heap.size + 1 + 1, 3, none⟩ = some (.int .i64 q3)) ((refine HK.out _ ?_; repeat (first | (with_reducible exact gr_rfl _) | (with_reducible refine gr_al ?_) | (with_reducible refine gr_dr ?_) | (with_reducible refine gr_then ?_ gb) | (with_reducible refine gr_then ?_ ga) | (with_reducible refine gr_setn ?_ (by first | omega | (simp; done) | (simp; omega))))))
      (first
      | (have h__ := sA; clear h__; go_at_call 19; (with_reducible refine (HY.out _).mono ?_); rintro e wb ⟨rfl, gb⟩; obtain ⟨hcB, hfB⟩ := gcell gb; have tB := gb.size; (try simp at tB); have sB : w1.heap.size ≤ wb.heap.size := (by omega); (try have eB1 : wa.heap.size < wb.heap.size := (by omega)); (try have eB2 : w1.heap.size < wb.heap.size := (by omega)); (try have eB3 : w1.heap.size + 1 < wb.heap.size := (by omega)))
      | (go_at_call 19; (with_reducible refine (HX.out _).mono ?_); rintro e wa ⟨rfl, ga⟩; obtain ⟨hcA, hfA⟩ := gcell ga; have tA := ga.size; (try simp at tA); have sA : w1.heap.size ≤ wa.heap.size := (by omega); (try have eA1 : w1.heap.size < wa.heap.size := (by omega)); (try have eA2 : w1.heap.size + 1 < wa.heap.size := (by omega))))
    all_goals
      go_wp2_with fail
      go_meet
      have hfin : W.grownBy w1 none := G
      refine ⟨_, _, rfl, rfl, ?_, ?_, ?_, TA.kept ?_, TB.kept ?_, TQ.kept ?_, gr_then G ?_⟩
      · first | omega | (simp; done) | (simp; omega)
      · repeat (first | ((with_reducible refine Two.new_at ?_); first | rfl | (simp; done) | omega) | (with_reducible refine Two.set2 (x := .int .i64 0) (y := .int .i64 0) ?_ _ _) | ((with_reducible refine Two.other ?_ ?_); rotate_left; (first | omega | (simp; done) | (simp; omega))) | (with_reducible refine Two.kept ?_ gb) | (with_reducible refine Two.kept ?_ ga) | (with_reducible refine Two.alloc ?_ _) | (with_reducible refine Two.drew ?_))
      · repeat (first | ((with_reducible refine Two.new_at ?_); first | rfl | (simp; done) | omega) | (with_reducible refine Two.set2 (x := .int .i64 0) (y := .int .i64 0) ?_ _ _) | ((with_reducible refine Two.other ?_ ?_); rotate_left; (first | omega | (simp; done) | (simp; omega))) | (with_reducible refine Two.kept ?_ gb) | (with_reducible refine Two.kept ?_ ga) | (with_reducible refine Two.alloc ?_ _) | (with_reducible refine Two.drew ?_))
      all_goals (repeat (first | (with_reducible exact gr_rfl _) | (with_reducible refine gr_al ?_) | (with_reducible refine gr_dr ?_) | (with_reducible refine gr_then ?_ gb) | (with_reducible refine gr_then ?_ ga) | (with_reducible refine gr_setn ?_ (by first | omega | (simp; done) | (simp; omega)))))
  case rest =>
    clear TA TB TQ G lA lB lw lW
    obtain ⟨ba, bb, rfl, rfl, hne, TX, TY, TA, TB, TQ, G⟩ := hcut
    clear hne
    have d0 := TA.c0
    have d1 := TA.c1
    have d2 := TB.c0
    have d3 := TB.c1
    have d4 := TX.c0
    have d5 := TX.c1
    have d6 := TY.c0
    have d7 := TY.c1
    go_wp2_with fail
    clear d0 d1 d2 d3 d4 d5 d6 d7
    have HC : PairCells wc.heap.size 5 (wc.alloc (.cells #[.int .i64 an, .int .i64 sa, .int .i64 bn, .int .i64 sb, .int .i64 xn, .int .i64 (xs : Int), .int .i64 yn, .int .i64 (ys : Int), .int .i64 xn, .int .i64 (xs : Int), .int .i64 bn, .int .i64 sb, .int .i64 an, .int .i64 sa, .int .i64 yn, .int .i64 (ys : Int), .int .i64 xn, .int .i64 (xs : Int), .int .i64 xn, .int .i64 (xs : Int)] 34)) := by
      intro i hi
      rw [cell_of_row _ _ (i * 4) _ _ (0, 0) (heap_alloc_new wc _), cell_of_row _ _ (i * 4 + 1) _ _ (0, 0) (heap_alloc_new wc _), cell_of_row _ _ (i * 4 + 2) _ _ (0, 0) (heap_alloc_new wc _), cell_of_row _ _ (i * 4 + 3) _ _ (0, 0) (heap_alloc_new wc _)]
      rcases (show i = 0 ∨ i = 1 ∨ i = 2 ∨ i = 3 ∨ i = 4 by omega) with rfl | rfl | rfl | rfl | rfl
      · exact ⟨an, sa, bn, sb, _h2.1, _h2.2, rfl, rfl, rfl, rfl⟩
      · exact ⟨xn, (xs : Int), yn, (ys : Int), by have := ry.lo; dsimp only at this; omega, by have := ry.hi; dsimp only at this; omega, rfl, rfl, rfl, rfl⟩
      · exact ⟨xn, (xs : Int), bn, sb, _h2.1, _h2.2, rfl, rfl, rfl, rfl⟩
      · exact ⟨an, sa, yn, (ys : Int), by have := ry.lo; dsimp only at this; omega, by have := ry.hi; dsimp only at this; omega, rfl, rfl, rfl, rfl⟩
      · exact ⟨xn, (xs : Int), xn, (xs : Int), by have := rx.lo; dsimp only at this; omega, by have := rx.hi; dsimp only at this; omega, rfl, rfl, rfl, rfl⟩
    have G1 := gr_then G (gr_alloc wc (.cells #[.int .i64 an, .int .i64 sa, .int .i64 bn, .int .i64 sb, .int .i64 xn, .int .i64 (xs : Int), .int .i64 yn, .int .i64 (ys : Int), .int .i64 xn, .int .i64 (xs : Int), .int .i64 bn, .int .i64 sb, .int .i64 an, .int .i64 sa, .int .i64 yn, .int .i64 (ys : Int), .int .i64 xn, .int .i64 (xs : Int), .int .i64 xn, .int .i64 (xs : Int)] 34) none)
    clear G TX TY TA TB TQ
    generalize wc.heap.size = bs at HC ⊢
    go_loopw [48] (fun u wr => ∃ i : Nat, i ≤ 5 ∧ u = .int .i64 i ∧ PairCells bs 5 wr ∧ W.grownBy wr none) (fun u _ => 5 - (intOf u).toNat)
    case atStart => exact ⟨0, by omega, rfl, HC, G1⟩
    case round =>
      obtain ⟨i, hi, rfl, HCI, hg⟩ := hrel
      clear HC G1
      by_cases hlt : i < 5
      · obtain ⟨n, s, m, t, hm1, hm2, c0, c1, c2, c3⟩ := HCI i hlt
        have R : Row (wr.alloc (.cells #[.int .i64 n, .int .i64 s, .int .i64 m, .int .i64 t] 34)) wr.heap.size [.int .i64 n, .int .i64 s, .int .i64 m, .int .i64 t] 34 := Row.new wr _ _
        have p0 := R.cell 0 _ rfl
        have p1 := R.cell 1 _ rfl
        have p2 := R.cell 2 _ rfl
        have p3 := R.cell 3 _ rfl
        have h1 := fun w => add_any n s m t w
        have h2 := fun w => qadd_any n s m t w
        have h3 := fun w => sub_any n s m t w hm1 hm2
        have h4 := fun w => qsub_any n s m t w
        have h5 := fun w => cmp_any n s m t w
        have h6 := fun w => qcmp_any n s m t w
        generalize addD (valD n s) (valD m t) = r at h1 h2
        generalize subD (valD n s) (valD m t) = q at h3 h4
        generalize cmpD (valD n s) (valD m t) = c at h5 h6
        obtain ⟨rn, rs, rb⟩ := r
        obtain ⟨qn, qs, qb⟩ := q
        have H1 := Lib.hid h1
        have H2 := Lib.hid h2
        have H3 := Lib.hid h3
        have H4 := Lib.hid h4
        have H5 := Lib.hid h5
        have H6 := Lib.hid h6
        clear h1 h2 h3 h4 h5 h6
        have hlen := HCI
        clear HCI
        have HCI := Lib.hid hlen
        have hg := gr_then hg (gr_alloc wr (.cells #[.int .i64 n, .int .i64 s, .int .i64 m, .int .i64 t] 34) none)
        have HCI := Lib.hid (HCI.out.kept (gr_alloc wr (.cells #[.int .i64 n, .int .i64 s, .int .i64 m, .int .i64 t] 34) none))
        clear hlen
        go_wp2_with fail
        refine (H1.out _).mono ?_
        rintro e v0 ⟨rfl, gn⟩
        have R := (R.kept gn).alloc (.cells #[.int .i64 rn, .int .i64 (rs : Int)] 23)
        clear p0 p1 p2 p3 c0 c1 c2 c3
        have p0 := R.cell 0 _ rfl
        have p1 := R.cell 1 _ rfl
        have p2 := R.cell 2 _ rfl
        have p3 := R.cell 3 _ rfl
        have T12 := Two.new v0 (.int .i64 rn) (.int .i64 (rs : Int)) 23
        have hg := gr_then (gr_then hg gn) (gr_alloc v0 (.cells #[.int .i64 rn, .int .i64 (rs : Int)] 23) none)
        have HCI := Lib.hid ((HCI.out.kept gn).kept (gr_alloc v0 (.cells #[.int .i64 rn, .int .i64 (rs : Int)] 23) none))
        clear gn
        unfold dres
        dsimp only
        go_wp2_with fail
        refine (H2.out _).mono ?_
        rintro e v1 ⟨rfl, gn⟩
        have R := (R.kept gn).alloc (.cells #[.int .i64 rn, .int .i64 (rs : Int)] 23)
        clear p0 p1 p2 p3
        have p0 := R.cell 0 _ rfl
        have p1 := R.cell 1 _ rfl
        have p2 := R.cell 2 _ rfl
        have p3 := R.cell 3 _ rfl
        have T12 := (T12.kept gn).alloc (.cells #[.int .i64 rn, .int .i64 (rs : Int)] 23)
        have T14 := Two.new v1 (.int .i64 rn) (.int .i64 (rs : Int)) 23
        have hg := gr_then (gr_then hg gn) (gr_alloc v1 (.cells #[.int .i64 rn, .int .i64 (rs : Int)] 23) none)
        have HCI := Lib.hid ((HCI.out.kept gn).kept (gr_alloc v1 (.cells #[.int .i64 rn, .int .i64 (rs : Int)] 23) none))
        clear gn
        unfold dres
        dsimp only
        go_wp2_with fail
        refine (H3.out _).mono ?_
        rintro e v2 ⟨rfl, gn⟩
        have R := (R.kept gn).alloc (.cells #[.int .i64 qn, .int .i64 (qs : Int)] 23)
        clear p0 p1 p2 p3
        have p0 := R.cell 0 _ rfl
        have p1 := R.cell 1 _ rfl
        have p2 := R.cell 2 _ rfl
        have p3 := R.cell 3 _ rfl
        have T12 := (T12.kept gn).alloc (.cells #[.int .i64 qn, .int .i64 (qs : Int)] 23)
        have T14 := (T14.kept gn).alloc (.cells #[.int .i64 qn, .int .i64 (qs : Int)] 23)
        have T16 := Two.new v2 (.int .i64 qn) (.int .i64 (qs : Int)) 23
        have hg := gr_then (gr_then hg gn) (gr_alloc v2 (.cells #[.int .i64 qn, .int .i64 (qs : Int)] 23) none)
        have HCI := Lib.hid ((HCI.out.kept gn).kept (gr_alloc v2 (.cells #[.int .i64 qn, .int .i64 (qs : Int)] 23) none))
        clear gn
        unfold dres
        dsimp only
        go_wp2_with fail
        refine (H4.out _).mono ?_
        rintro e v3 ⟨rfl, gn⟩
        have R := (R.kept gn).alloc (.cells #[.int .i64 qn, .int .i64 (qs : Int)] 23)
        clear p0 p1 p2 p3
        have p0 := R.cell 0 _ rfl
        have p1 := R.cell 1 _ rfl
        have p2 := R.cell 2 _ rfl
        have p3 := R.cell 3 _ rfl
        have T12 := (T12.kept gn).alloc (.cells #[.int .i64 qn, .int .i64 (qs : Int)] 23)
        have T14 := (T14.kept gn).alloc (.cells #[.int .i64 qn, .int .i64 (qs : Int)] 23)
        have T16 := (T16.kept gn).alloc (.cells #[.int .i64 qn, .int .i64 (qs : Int)] 23)
        have T18 := Two.new v3 (.int .i64 qn) (.int .i64 (qs : Int)) 23
        have hg := gr_then (gr_then hg gn) (gr_alloc v3 (.cells #[.int .i64 qn, .int .i64 (qs : Int)] 23) none)
        have HCI := Lib.hid ((HCI.out.kept gn).kept (gr_alloc v3 (.cells #[.int .i64 qn, .int .i64 (qs : Int)] 23) none))
        clear gn
        unfold dres
        dsimp only
        go_wp2_with fail
        have hlast : W.heap.size ≤ v3.heap.size + 1 := by have := hg.size; simp at this; omega
        clear hlast p0 p1 p2 p3
        have hK : ∀ w', World.grownBy (v3.alloc (.cells #[.int .i64 qn, .int .i64 (qs : Int)] 23)) w' none → (w'.cell? ⟨wr.heap.size, 0, none⟩ = some (.int .i64 n) ∧ w'.cell? ⟨wr.heap.size, 1, none⟩ = some (.int .i64 s) ∧ w'.cell? ⟨wr.heap.size, 2, none⟩ = some (.int .i64 m) ∧ w'.cell? ⟨wr.heap.size, 3, none⟩ = some (.int .i64 t) ∧ w'.cell? ⟨v0.heap.size, 0, none⟩ = some (.int .i64 rn) ∧ w'.cell? ⟨v0.heap.size, 1, none⟩ = some (.int .i64 (rs : Int)) ∧ w'.cell? ⟨v1.heap.size, 0, none⟩ = some (.int .i64 rn) ∧ w'.cell? ⟨v1.heap.size, 1, none⟩ = some (.int .i64 (rs : Int)) ∧ w'.cell? ⟨v2.heap.size, 0, none⟩ = some (.int .i64 qn) ∧ w'.cell? ⟨v2.heap.size, 1, none⟩ = some (.int .i64 (qs : Int)) ∧ w'.cell? ⟨v3.heap.size, 0, none⟩ = some (.int .i64 qn) ∧ w'.cell? ⟨v3.heap.size, 1, none⟩ = some (.int .i64 (qs : Int))) := fun w' h => ⟨(R.kept h).cell 0 _ rfl, (R.kept h).cell 1 _ rfl, (R.kept h).cell 2 _ rfl, (R.kept h).cell 3 _ rfl, (T12.kept h).c0, (T12.kept h).c1, (T14.kept h).c0, (T14.kept h).c1, (T16.kept h).c0, (T16.kept h).c1, (T18.kept h).c0, (T18.kept h).c1⟩
        have HK := Lib.hid hK
        have HG := Lib.hid hg
        clear hK hg R T12 T14 T16 T18
        generalize (v3.alloc (.cells #[.int .i64 qn, .int .i64 (qs : Int)] 23)) = wz at HK HG HCI ⊢
        go_region_held3 (fun w' => w'.cell? ⟨wr.heap.size, 0, none⟩ = some (.int .i64 n) ∧ w'.cell? ⟨wr.heap.size, 1, none⟩ = some (.int .i64 s) ∧ w'.cell? ⟨wr.heap.size, 2, none⟩ = some (.int .i64 m) ∧ w'.cell? ⟨wr.heap.size, 3, none⟩ = some (.int .i64 t) ∧ w'.cell? ⟨v0.heap.size, 0, none⟩ = some (.int .i64 rn) ∧ w'.cell? ⟨v0.heap.size, 1, none⟩ = some (.int .i64 (rs : Int)) ∧ w'.cell? ⟨v1.heap.size, 0, none⟩ = some (.int .i64 rn) ∧ w'.cell? ⟨v1.heap.size, 1, none⟩ = some (.int .i64 (rs : Int)) ∧ w'.cell? ⟨v2.heap.size, 0, none⟩ = some (.int .i64 qn) ∧ w'.cell? ⟨v2.heap.size, 1, none⟩ = some (.int .i64 (qs : Int)) ∧ w'.cell? ⟨v3.heap.size, 0, none⟩ = some (.int .i64 qn) ∧ w'.cell? ⟨v3.heap.size, 1, none⟩ = some (.int .i64 (qs : Int))) ((refine HK.out _ ?_; repeat (first | (with_reducible exact gr_rfl _) | (with_reducible refine gr_al ?_) | (with_reducible refine gr_dr ?_) | (with_reducible refine gr_then ?_ gd) | (with_reducible refine gr_then ?_ gc))))
          (first
          | (go_at_call 24; (with_reducible refine (H5.out _).mono ?_); rintro e wk ⟨rfl, gc⟩)
          | (go_at_call 25; (with_reducible refine (H6.out _).mono ?_); rintro e wd ⟨rfl, gd⟩))
        all_goals
          have gz : wz.grownBy wd none := gr_then (gr_then (gr_drew wz none) gc) gd
          go_wp2
          exact ⟨⟨i + 1, by omega, by go_num, HCI.out.kept gz, gr_then HG.out gz⟩, by simp [intOf]; omega⟩
      · have hge : ¬ i < 5 := hlt
        go_wp2
        go_ret
        exact ⟨rfl, hg⟩
end Go.Proofs.YtmlmjhlakpgagaaDoor
namespace Go.Proofs.YtmlmjhlakpgagaaDoor
open Go.ChangeShapes Go.WideShapes Go.ChangeAt Go.RowKit Mth

set_option maxRecDepth 1000000 in
set_option maxHeartbeats 4000000 in
theorem sums_lifted (os : Os) (started : os.Started) (H : Type) (enc : TypeId × Value → H) :
    ReturnsInHanded {} Tryd.checked os 4 .any (fun w args => (Rows.decimalSumsSpec.pre enc Tryd.prog Tryd.f4 Rows.decimalSumsRow.domain false w args ∧ laidMet Tryd.prog Rows.decimalSumsRow.laid w) ∧ sizedMet enc Tryd.prog Tryd.f4 (OpenSpec.ofChange Rows.decimalSumsSpec) false w args)
      (Rows.decimalSumsSpec.post enc Tryd.prog Tryd.f4 false true false false) := by
  refine returnsInHanded_of_change_and (C := Tryd.checked) (X := fun w _ => laidMet Tryd.prog Rows.decimalSumsRow.laid w) (fun _ _ _ hh h => h.of_heap hh) own0 started (by kernel_rfl) Tryd.func4
    (ChangeSpec.witness_at (enc := enc) (C := Tryd.checked) (os := os) (X := fun w _ => laidMet Tryd.prog Rows.decimalSumsRow.laid w) false (laidWorld os) #[.agg #[.int .i64 0, .int .i64 0], .agg #[.int .i64 0, .int .i64 0], .agg #[.int .i64 0, .int .i64 0, .int .i64 0, .int .i64 0]] 8 rfl (by kernel_rfl) (by kernel_rfl) (by kernel_rfl) (by kernel_rfl) (by kernel_rfl) (laid_at os _)) ?_
  intro W base args ds gs before hval0 hW hcnd0 _ hL _
  have hval : ∀ (j : Nat) t v, Tryd.f4.params[j]? = some t → args[j]? = some v → Value.okWide Tryd.prog W .any base t v := hval0
  have hW' := hW
  obtain ⟨p, q, hA0, hV, rfl, hfz, hnd⟩ := hW
  have hA : DataW.TrodAll enc Tryd.prog W 0 (fun _ => true) true Tryd.f4.params.toList args.toList ds p := hA0
  rw [Tryd.params4] at hA hval
  obtain ⟨v0, v1, v2, d0, d1, d2, p0, p1, p2, rfl, rfl, rfl, h0, h1, h2⟩ := trodAll_three hA
  obtain ⟨rfl, rfl⟩ := trodVars_none hV
  clear hA0 hval0 hA
  simp only [List.append_nil] at hW'
  have k0 := hval 0 23 v0 rfl rfl
  have k1 := hval 1 23 v1 rfl rfl
  have k2 := hval 2 32 v2 rfl rfl
  obtain ⟨n0, s0, rfl, w0, x0⟩ := dec_arg k0 h0
  obtain ⟨n1, s1, rfl, w1, x1⟩ := dec_arg k1 h1
  obtain ⟨n2_0, n2_1, n2_2, n2_3, rfl, w2_0, w2_1, w2_2, w2_3⟩ := arr4_arg Tryd.underlying32 Tryd.underlying3 (by kernel_rfl) (by kernel_rfl) k2 h2
  refine (sums_true n0 s0 n1 s1 n2_0 n2_1 n2_2 n2_3 W (ev_of hL) (wf_i64 w0) (wf_i64 x0) (wf_i64 w1) (wf_i64 x1) (wf_i64 w2_0) (wf_i64 w2_1) (wf_i64 w2_2) (wf_i64 w2_3)).mono fun e W' ⟨he, hg⟩ => ?_
  subst he
  have hb : Below W.heap.size W W' := gr_low hg
  have hlt : ∀ x ∈ p0 ++ p1 ++ p2, x.block < W.heap.size := fun x hx => by simpa using hW'.lt x hx
  have hl0 : ∀ x ∈ p0, x.block < W.heap.size := fun x hx => hlt x (by simp [hx])
  have hl1 : ∀ x ∈ p1, x.block < W.heap.size := fun x hx => hlt x (by simp [hx])
  have hl2 : ∀ x ∈ p2, x.block < W.heap.size := fun x hx => hlt x (by simp [hx])
  refine ⟨_, rfl, _, _, _, [], p0 ++ p1 ++ p2, [], hW', ?_, ?_, rfl, hb.frame _, fun h => by cases h⟩
  · exact trodAll_mk1 (shut_bool Tryd.underlying4 true)
  · have h3 := trodAll_mk3 (Below.trod laidOut0 (by kernel_rfl) (of_decide_eq_true (by kernel_rfl)) h0 hb hl0) (Below.trod laidOut0 (by kernel_rfl) (of_decide_eq_true (by kernel_rfl)) h1 hb hl1) (Below.trod laidOut0 (by kernel_rfl) (of_decide_eq_true (by kernel_rfl)) h2 hb hl2)
    rw [← List.append_assoc] at h3
    exact h3

theorem sums_row : Rows.DecimalSumsSaid :=
  OpenClaim.holds_of_wide 4 Tryd.f4 rfl rfl rfl rfl rfl rfl rfl ⟨rfl, rfl, rfl, rfl, rfl⟩ rfl rfl rfl rfl rfl (by kernel_rfl) Tryd.func4 (by kernel_rfl)
    (of_decide_eq_true (by kernel_rfl)) (by unfold Func.isWrapper; first | (rw [if_pos (by decide +kernel)]; kernel_rfl) | (rw [if_neg (by decide +kernel)]; exact ⟨rfl, rfl⟩))
    (fun os started H enc _ => sums_lifted os started H enc)
end Go.Proofs.YtmlmjhlakpgagaaDoor
