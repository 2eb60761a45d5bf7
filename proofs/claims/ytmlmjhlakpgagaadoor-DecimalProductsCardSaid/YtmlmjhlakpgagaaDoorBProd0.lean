/- The law of the claim at the level of the call, and its row: ProdK, Products, ProductsRow. -/
import Derived.Test.YtmlmjhlakpgagaaDoorBRing9
namespace Go.Proofs.YtmlmjhlakpgagaaDoor
open Go.RowKit Mth Dm


/-- Pairs of decimals in a block. -/
def PairCells (B N : Nat) (w : World) : Prop := ∀ i, i < N → ∃ n s m t : Int, -9223372036854775808 ≤ m ∧ m ≤ 9223372036854775807 ∧ w.cell? ⟨B, i * 4, none⟩ = some (.int .i64 n) ∧ w.cell? ⟨B, i * 4 + 1, none⟩ = some (.int .i64 s) ∧ w.cell? ⟨B, i * 4 + 2, none⟩ = some (.int .i64 m) ∧ w.cell? ⟨B, i * 4 + 3, none⟩ = some (.int .i64 t)
theorem PairCells.kept {B N : Nat} {w w1 : World} (h : PairCells B N w) (hg : w.grownBy w1 none) : PairCells B N w1 := fun i hi => by
  obtain ⟨n, s, m, t, h1, h2, c0, c1, c2, c3⟩ := h i hi
  exact ⟨n, s, m, t, h1, h2, hg.cell c0 (by simp), hg.cell c1 (by simp), hg.cell c2 (by simp), hg.cell c3 (by simp)⟩
theorem Two.new_at {w : World} {x y : Value} {t : TypeId} {b : Nat} (h : b = w.heap.size) : Two (w.alloc (.cells #[x, y] t)) b x y t := by subst h; exact Two.new w x y t
/-- A block of four ints. -/
def Quad (w : World) (b : Nat) (q0 q1 q2 q3 : Int) : Prop := w.heap[b]? = some (.cells #[.int .i64 q0, .int .i64 q1, .int .i64 q2, .int .i64 q3] 32 (0, 0))
section
variable {w w1 : World} {b : Nat} {q0 q1 q2 q3 : Int}
theorem Quad.lt (h : Quad w b q0 q1 q2 q3) : b < w.heap.size := (Array.getElem?_eq_some_iff.1 h).1
theorem Quad.c0 (h : Quad w b q0 q1 q2 q3) : w.cell? ⟨b, 0, none⟩ = some (.int .i64 q0) := by rw [cell_of_row w b 0 _ 32 (0, 0) h]; rfl
theorem Quad.c1 (h : Quad w b q0 q1 q2 q3) : w.cell? ⟨b, 1, none⟩ = some (.int .i64 q1) := by rw [cell_of_row w b 1 _ 32 (0, 0) h]; rfl
theorem Quad.c2 (h : Quad w b q0 q1 q2 q3) : w.cell? ⟨b, 2, none⟩ = some (.int .i64 q2) := by rw [cell_of_row w b 2 _ 32 (0, 0) h]; rfl
theorem Quad.c3 (h : Quad w b q0 q1 q2 q3) : w.cell? ⟨b, 3, none⟩ = some (.int .i64 q3) := by rw [cell_of_row w b 3 _ 32 (0, 0) h]; rfl
theorem Quad.kept (h : Quad w b q0 q1 q2 q3) (hg : w.grownBy w1 none) : Quad w1 b q0 q1 q2 q3 := by
  unfold Quad at *; rw [hg.block b (Array.getElem?_eq_some_iff.1 h).1 (by simp)]; exact h
theorem Quad.new2 (w : World) (o p : Obj) (q0 q1 q2 q3 : Int) : Quad (((w.alloc o).alloc p).alloc (.cells #[.int .i64 q0, .int .i64 q1, .int .i64 q2, .int .i64 q3] 32)) (w.heap.size + 1 + 1) q0 q1 q2 q3 := by
  have h := heap_alloc_new ((w.alloc o).alloc p) (.cells #[.int .i64 q0, .int .i64 q1, .int .i64 q2, .int .i64 q3] 32)
  simpa [Quad] using h
end
end Go.Proofs.YtmlmjhlakpgagaaDoor
namespace Go.Proofs.YtmlmjhlakpgagaaDoor
open Go.RowKit Mth Dm

set_option maxHeartbeats 16000000 in
set_option maxRecDepth 100000 in
theorem prod_true (an sa bn sb q0 q1 q2 q3 : Int) (W : World) (hd : EV W) (_h0 : -9223372036854775808 ≤ an ∧ an ≤ 9223372036854775807) (_h1 : -9223372036854775808 ≤ sa ∧ sa ≤ 9223372036854775807) (_h2 : -9223372036854775808 ≤ bn ∧ bn ≤ 9223372036854775807) (_h3 : -9223372036854775808 ≤ sb ∧ sb ≤ 9223372036854775807) (_h4 : -9223372036854775808 ≤ q0 ∧ q0 ≤ 9223372036854775807) (_h5 : -9223372036854775808 ≤ q1 ∧ q1 ≤ 9223372036854775807) (_h6 : -9223372036854775808 ≤ q2 ∧ q2 ≤ 9223372036854775807) (_h7 : -9223372036854775808 ≤ q3 ∧ q3 ≤ 9223372036854775807) :
    Gives 5 #[.agg #[.int .i64 an, .int .i64 sa], .agg #[.int .i64 bn, .int .i64 sb], .agg #[.int .i64 q0, .int .i64 q1, .int .i64 q2, .int .i64 q3]] W (.bool true) := by
  have la0 : -1000000 < q0.tmod 1000000 := Int.lt_tmod_of_pos q0 (by decide)
  have lb0 : q0.tmod 1000000 < 1000000 := Int.tmod_lt_of_pos q0 (by decide)
  have la2 : -1000000 < q2.tmod 1000000 := Int.lt_tmod_of_pos q2 (by decide)
  have lb2 : q2.tmod 1000000 < 1000000 := Int.tmod_lt_of_pos q2 (by decide)
  have hX := fun w => made_any q0 q1 w
  have hY := fun w => made_any q2 q3 w
  have rx := made_rt q0 q1
  have ry := made_rt q2 q3
  generalize madeD q0 q1 = x at hX rx
  generalize madeD q2 q3 = y at hY ry
  obtain ⟨xn, xs⟩ := x
  obtain ⟨yn, ys⟩ := y
  have HX := Lib.hid hX
  have HY := Lib.hid hY
  have HD := Lib.hid hd
  clear hd hX hY
  go_enter Tryd.func5, Tryd.ntmps5
  go_wp2_with fail
  have g0 := gr_then (gr_then (gr_alloc W (.cells #[.int .i64 an, .int .i64 sa] 23) none) (gr_alloc _ (.cells #[.int .i64 bn, .int .i64 sb] 23) none)) (gr_alloc _ (.cells #[.int .i64 q0, .int .i64 q1, .int .i64 q2, .int .i64 q3] 32) none)
  refine (sanity_any _ (HD.out.grown g0)).mono ?_
  rintro e w1 ⟨rfl, g1⟩
  have TA := (((Two.new W (.int .i64 an) (.int .i64 sa) 23).alloc (.cells #[.int .i64 bn, .int .i64 sb] 23)).alloc (.cells #[.int .i64 q0, .int .i64 q1, .int .i64 q2, .int .i64 q3] 32)).kept g1
  have TB := ((Two.new1 W (.cells #[.int .i64 an, .int .i64 sa] 23) (.int .i64 bn) (.int .i64 sb) 23).alloc (.cells #[.int .i64 q0, .int .i64 q1, .int .i64 q2, .int .i64 q3] 32)).kept g1
  have TQ := (Quad.new2 W (.cells #[.int .i64 an, .int .i64 sa] 23) (.cells #[.int .i64 bn, .int .i64 sb] 23) q0 q1 q2 q3).kept g1
  have G := gr_then g0 g1
  clear g0 g1
  have lA := TA.lt
  have lB := TB.lt
  have lw := TQ.lt
  have lW := G.size
  go_wp2_with fail
  go_cut [8, 9] from 17 to 26 (fun p q wx => ∃ a b : Nat, p = .pointer (some ⟨a, 0, none⟩) ∧ q = .pointer (some ⟨b, 0, none⟩) ∧ a ≠ b ∧ Two wx a (.int .i64 xn) (.int .i64 (xs : Int)) 23 ∧ Two wx b (.int .i64 yn) (.int .i64 (ys : Int)) 23 ∧ Two wx W.heap.size (.int .i64 an) (.int .i64 (sa : Int)) 23 ∧ Two wx (W.heap.size + 1) (.int .i64 bn) (.int .i64 (sb : Int)) 23 ∧ Quad wx (W.heap.size + 1 + 1) q0 q1 q2 q3 ∧ W.grownBy wx none)
  case first =>
    have hK : ∀ w', w1.grownBy w' none → (w'.cell? ⟨W.heap.size + 1 + 1, 0, none⟩ = some (.int .i64 q0) ∧ w'.cell? ⟨W.heap.size + 1 + 1, 1, none⟩ = some (.int .i64 q1) ∧ w'.cell? ⟨W.heap.size + 1 + 1, 2, none⟩ = some (.int .i64 q2) ∧ w'.cell? ⟨W.heap.size + 1 + 1, 3, none⟩ = some (.int .i64 q3)) := fun w' h => ⟨(TQ.kept h).c0, (TQ.kept h).c1, (TQ.kept h).c2, (TQ.kept h).c3⟩
    have HK := Lib.hid hK
    clear hK
    go_region_held3 (fun w' => w'.cell? ⟨W.heap.size + 1 + 1, 0, none⟩ = some (.int .i64 q0) ∧ w'.cell? ⟨W.heap.size + 1 + 1, 1, none⟩ = some (.int .i64 q1) ∧ w'.cell? ⟨W.heap.size + 1 + 1, 2, none⟩ = some (.int .i64 q2) ∧ w'.cell? ⟨W.heap.size + 1 + 1, 3, none⟩ = some (.int .i64 q3)) ((refine HK.out _ ?_; repeat (first | (with_reducible exact gr_rfl _) | (with_reducible refine gr_al ?_) | (with_reducible refine gr_dr ?_) | (with_reducible refine gr_then ?_ gb) | (with_reducible refine gr_then ?_ ga) | (with_reducible refine gr_setn ?_ (by first | omega | (simp; done) | (simp; omega))))))
      (first
      | (have h__ := sA; clear h__; go_at_call 19; (with_reducible refine (HY.out _).mono ?_); rintro e wb ⟨rfl, gb⟩; obtain ⟨hcB, hfB⟩ := gcell gb; have tB := gb.size; (try simp at tB); have sB : w1.heap.size ≤ wb.heap.size := (by omega); (try have eB1 : wa.heap.size < wb.heap.size := (by omega)); (try have eB2 : w1.heap.size < wb.heap.size := (by omega)); (try have eB3 : w1.heap.size + 1 < wb.heap.size := (by omega)))
      | (go_at_call 19; (with_reducible refine (HX.out _).mono ?_); rintro e wa ⟨rfl, ga⟩; obtain ⟨hcA, hfA⟩ := gcell ga; have tA := ga.size; (try simp at tA); have sA : w1.heap.size ≤ wa.heap.size := (by omega); (try have eA1 : w1.heap.size < wa.heap.size := (by omega)); (try have eA2 : w1.heap.size + 1 < wa.heap.size := (by omega))))
    all_goals
      go_wp2_with fail
      go_meet
      have hfin : W.grownBy w1 none := G
      refine ⟨_, _, rfl, rfl, ?_, ?_, ?_, TA.kept ?_, TB.kept ?_, TQ.kept ?_, gr_then G ?_⟩
      · first | omega | (simp; done) | (simp; omega)
      · repeat (first | ((with_reducible refine Two.new_at ?_); first | rfl | (simp; done) | omega) | (with_reducible refine Two.set2 (x := .int .i64 0) (y := .int .i64 0) ?_ _ _) | ((with_reducible refine Two.other ?_ ?_); rotate_left; (first | omega | (simp; done) | (simp; omega))) | (with_reducible refine Two.kept ?_ gb) | (with_reducible refine Two.kept ?_ ga) | (with_reducible refine Two.alloc ?_ _) | (with_reducible refine Two.drew ?_))
      · repeat (first | ((with_reducible refine Two.new_at ?_); first | rfl | (simp; done) | omega) | (with_reducible refine Two.set2 (x := .int .i64 0) (y := .int .i64 0) ?_ _ _) | ((with_reducible refine Two.other ?_ ?_); rotate_left; (first | omega | (simp; done) | (simp; omega))) | (with_reducible refine Two.kept ?_ gb) | (with_reducible refine Two.kept ?_ ga) | (with_reducible refine Two.alloc ?_ _) | (with_reducible refine Two.drew ?_))
      all_goals (repeat (first | (with_reducible exact gr_rfl _) | (with_reducible refine gr_al ?_) | (with_reducible refine gr_dr ?_) | (with_reducible refine gr_then ?_ gb) | (with_reducible refine gr_then ?_ ga) | (with_reducible refine gr_setn ?_ (by first | omega | (simp; done) | (simp; omega)))))
  case rest =>
    clear TA TB TQ G lA lB lw lW
    obtain ⟨ba, bb, rfl, rfl, hne, TX, TY, TA, TB, TQ, G⟩ := hcut
    clear hne
    generalize hq0 : q0.tmod 1000000 = m0 at la0 lb0
    have hw0 : IntKind.i64.wrap m0 = m0 := IntWalk.i64_in _ (by omega)
    generalize hq2 : q2.tmod 1000000 = m2 at la2 lb2
    have hw2 : IntKind.i64.wrap m2 = m2 := IntWalk.i64_in _ (by omega)
    have hZ := fun w => made_any m0 q1 w
    have hV := fun w => made_any m2 q3 w
    have rz := made_rt m0 q1
    have rv := made_rt m2 q3
    generalize madeD m0 q1 = z at hZ rz
    generalize madeD m2 q3 = v at hV rv
    obtain ⟨zn, zs⟩ := z
    obtain ⟨vn, vs⟩ := v
    have HZ := Lib.hid hZ
    have HV := Lib.hid hV
    clear hZ hV
    have hK : ∀ w', wc.grownBy w' none → (w'.cell? ⟨W.heap.size, 0, none⟩ = some (.int .i64 an) ∧ w'.cell? ⟨W.heap.size, 1, none⟩ = some (.int .i64 sa) ∧ w'.cell? ⟨W.heap.size + 1, 0, none⟩ = some (.int .i64 bn) ∧ w'.cell? ⟨W.heap.size + 1, 1, none⟩ = some (.int .i64 sb) ∧ w'.cell? ⟨ba, 0, none⟩ = some (.int .i64 xn) ∧ w'.cell? ⟨ba, 1, none⟩ = some (.int .i64 (xs : Int)) ∧ w'.cell? ⟨bb, 0, none⟩ = some (.int .i64 yn) ∧ w'.cell? ⟨bb, 1, none⟩ = some (.int .i64 (ys : Int)) ∧ w'.cell? ⟨W.heap.size + 1 + 1, 0, none⟩ = some (.int .i64 q0) ∧ w'.cell? ⟨W.heap.size + 1 + 1, 1, none⟩ = some (.int .i64 q1) ∧ w'.cell? ⟨W.heap.size + 1 + 1, 2, none⟩ = some (.int .i64 q2) ∧ w'.cell? ⟨W.heap.size + 1 + 1, 3, none⟩ = some (.int .i64 q3)) := fun w' h => ⟨(TA.kept h).c0, (TA.kept h).c1, (TB.kept h).c0, (TB.kept h).c1, (TX.kept h).c0, (TX.kept h).c1, (TY.kept h).c0, (TY.kept h).c1, (TQ.kept h).c0, (TQ.kept h).c1, (TQ.kept h).c2, (TQ.kept h).c3⟩
    have HK := Lib.hid hK
    have HG := Lib.hid G
    clear hK TX TY TA TB TQ G
    go_wp2_with fail
    go_region_held3 (fun w' => w'.cell? ⟨W.heap.size, 0, none⟩ = some (.int .i64 an) ∧ w'.cell? ⟨W.heap.size, 1, none⟩ = some (.int .i64 sa) ∧ w'.cell? ⟨W.heap.size + 1, 0, none⟩ = some (.int .i64 bn) ∧ w'.cell? ⟨W.heap.size + 1, 1, none⟩ = some (.int .i64 sb) ∧ w'.cell? ⟨ba, 0, none⟩ = some (.int .i64 xn) ∧ w'.cell? ⟨ba, 1, none⟩ = some (.int .i64 (xs : Int)) ∧ w'.cell? ⟨bb, 0, none⟩ = some (.int .i64 yn) ∧ w'.cell? ⟨bb, 1, none⟩ = some (.int .i64 (ys : Int)) ∧ w'.cell? ⟨W.heap.size + 1 + 1, 0, none⟩ = some (.int .i64 q0) ∧ w'.cell? ⟨W.heap.size + 1 + 1, 1, none⟩ = some (.int .i64 q1) ∧ w'.cell? ⟨W.heap.size + 1 + 1, 2, none⟩ = some (.int .i64 q2) ∧ w'.cell? ⟨W.heap.size + 1 + 1, 3, none⟩ = some (.int .i64 q3)) ((refine HK.out _ ?_; repeat (first | (with_reducible exact gr_rfl _) | (with_reducible refine gr_al ?_) | (with_reducible refine gr_dr ?_) | (with_reducible refine gr_then ?_ gd) | (with_reducible refine gr_then ?_ gc))))
      (first
      | (have h__ := gc; clear h__; go_at_call 19; (with_reducible refine (HV.out _).mono ?_); rintro e wd ⟨rfl, gd⟩)
      | (go_at_call 19; (with_reducible refine (HZ.out _).mono ?_); rintro e wk ⟨rfl, gc⟩))
    all_goals
      have G := gr_then (gr_then (gr_dr HG.out) gc) gd
      go_wp2
      have HC : PairCells wd.heap.size 4 (wd.alloc (.cells #[.int .i64 an, .int .i64 sa, .int .i64 bn, .int .i64 sb, .int .i64 xn, .int .i64 (xs : Int), .int .i64 yn, .int .i64 (ys : Int), .int .i64 xn, .int .i64 (xs : Int), .int .i64 bn, .int .i64 sb, .int .i64 zn, .int .i64 (zs : Int), .int .i64 vn, .int .i64 (vs : Int)] 34)) := by
        intro i hi
        rw [cell_of_row _ _ (i * 4) _ _ (0, 0) (heap_alloc_new wd _), cell_of_row _ _ (i * 4 + 1) _ _ (0, 0) (heap_alloc_new wd _), cell_of_row _ _ (i * 4 + 2) _ _ (0, 0) (heap_alloc_new wd _), cell_of_row _ _ (i * 4 + 3) _ _ (0, 0) (heap_alloc_new wd _)]
        rcases (show i = 0 ∨ i = 1 ∨ i = 2 ∨ i = 3 by omega) with rfl | rfl | rfl | rfl
        · exact ⟨an, sa, bn, sb, _h2.1, _h2.2, rfl, rfl, rfl, rfl⟩
        · exact ⟨xn, (xs : Int), yn, (ys : Int), by have := ry.lo; dsimp only at this; omega, by have := ry.hi; dsimp only at this; omega, rfl, rfl, rfl, rfl⟩
        · exact ⟨xn, (xs : Int), bn, sb, _h2.1, _h2.2, rfl, rfl, rfl, rfl⟩
        · exact ⟨zn, (zs : Int), vn, (vs : Int), by have := rv.lo; dsimp only at this; omega, by have := rv.hi; dsimp only at this; omega, rfl, rfl, rfl, rfl⟩
      have G1 := gr_then G (gr_alloc wd (.cells #[.int .i64 an, .int .i64 sa, .int .i64 bn, .int .i64 sb, .int .i64 xn, .int .i64 (xs : Int), .int .i64 yn, .int .i64 (ys : Int), .int .i64 xn, .int .i64 (xs : Int), .int .i64 bn, .int .i64 sb, .int .i64 zn, .int .i64 (zs : Int), .int .i64 vn, .int .i64 (vs : Int)] 34) none)
      clear G gc gd
      generalize wd.heap.size = bs at HC ⊢
      go_loopw [51] (fun u wr => ∃ i : Nat, i ≤ 4 ∧ u = .int .i64 i ∧ PairCells bs 4 wr ∧ W.grownBy wr none) (fun u _ => 4 - (intOf u).toNat)
      case atStart => exact ⟨0, by omega, rfl, HC, G1⟩
      case round =>
        obtain ⟨i, hi, rfl, HCI, hg⟩ := hrel
        clear HC G1
        by_cases hlt : i < 4
        · obtain ⟨n, s, m, t, hm1, hm2, c0, c1, c2, c3⟩ := HCI i hlt
          have R : Row (wr.alloc (.cells #[.int .i64 n, .int .i64 s, .int .i64 m, .int .i64 t] 34)) wr.heap.size [.int .i64 n, .int .i64 s, .int .i64 m, .int .i64 t] 34 := Row.new wr _ _
          have p0 := R.cell 0 _ rfl
          have p1 := R.cell 1 _ rfl
          have p2 := R.cell 2 _ rfl
          have p3 := R.cell 3 _ rfl
          have h1 := fun w hv => mul_any n s m t w hv
          have h2 := fun w => qmul_any n s m t w
          generalize mulD (valD n s) (valD m t) = r at h1 h2
          obtain ⟨rn, rs, rb⟩ := r
          have H1 := Lib.hid h1
          have H2 := Lib.hid h2
          clear h1 h2
          have hlen := HCI
          clear HCI
          have HCI := Lib.hid hlen
          have hg := gr_then hg (gr_alloc wr (.cells #[.int .i64 n, .int .i64 s, .int .i64 m, .int .i64 t] 34) none)
          have HCI := Lib.hid (HCI.out.kept (gr_alloc wr (.cells #[.int .i64 n, .int .i64 s, .int .i64 m, .int .i64 t] 34) none))
          clear hlen
          go_wp2_with fail
          refine (H1.out _ (HD.out.grown hg).p).mono ?_
          rintro e v0 ⟨rfl, gn⟩
          have R := (R.kept gn).alloc (.cells #[.int .i64 rn, .int .i64 (rs : Int)] 23)
          clear p0 p1 p2 p3 c0 c1 c2 c3
          have p0 := R.cell 0 _ rfl
          have p1 := R.cell 1 _ rfl
          have p2 := R.cell 2 _ rfl
          have p3 := R.cell 3 _ rfl
          have T12 := Two.new v0 (.int .i64 rn) (.int .i64 (rs : Int)) 23
          have hg := gr_then (gr_then hg gn) (gr_alloc v0 (.cells #[.int .i64 rn, .int .i64 (rs : Int)] 23) none)
          have HCI := Lib.hid ((HCI.out.kept gn).kept (gr_alloc v0 (.cells #[.int .i64 rn, .int .i64 (rs : Int)] 23) none))
          clear gn
          unfold dres
          dsimp only
          go_wp2_with fail
          refine (H2.out _).mono ?_
          rintro e v1 ⟨rfl, gn⟩
          have R := (R.kept gn).alloc (.cells #[.int .i64 rn, .int .i64 (rs : Int)] 23)
          clear p0 p1 p2 p3
          have p0 := R.cell 0 _ rfl
          have p1 := R.cell 1 _ rfl
          have p2 := R.cell 2 _ rfl
          have p3 := R.cell 3 _ rfl
          have T12 := (T12.kept gn).alloc (.cells #[.int .i64 rn, .int .i64 (rs : Int)] 23)
          have T14 := Two.new v1 (.int .i64 rn) (.int .i64 (rs : Int)) 23
          have hg := gr_then (gr_then hg gn) (gr_alloc v1 (.cells #[.int .i64 rn, .int .i64 (rs : Int)] 23) none)
          have HCI := Lib.hid ((HCI.out.kept gn).kept (gr_alloc v1 (.cells #[.int .i64 rn, .int .i64 (rs : Int)] 23) none))
          clear gn
          unfold dres
          dsimp only
          have z12 := T12.c0
          have y12 := T12.c1
          have z14 := T14.c0
          have y14 := T14.c1
          go_wp2
          exact ⟨⟨i + 1, by omega, by go_num, HCI.out, hg⟩, by simp [intOf]; omega⟩
        · have hge : ¬ i < 4 := hlt
          go_wp2
          go_ret
          exact ⟨rfl, hg⟩
end Go.Proofs.YtmlmjhlakpgagaaDoor
namespace Go.Proofs.YtmlmjhlakpgagaaDoor
open Go.ChangeShapes Go.WideShapes Go.ChangeAt Go.RowKit Mth

set_option maxRecDepth 1000000 in
set_option maxHeartbeats 4000000 in
theorem prod_lifted (os : Os) (started : os.Started) (H : Type) (enc : TypeId × Value → H) :
    ReturnsInHanded {} Tryd.checked os 5 .any (fun w args => (Rows.decimalProductsSpec.pre enc Tryd.prog Tryd.f5 Rows.decimalProductsRow.domain false w args ∧ laidMet Tryd.prog Rows.decimalProductsRow.laid w) ∧ sizedMet enc Tryd.prog Tryd.f5 (OpenSpec.ofChange Rows.decimalProductsSpec) false w args)
      (Rows.decimalProductsSpec.post enc Tryd.prog Tryd.f5 false true false false) := by
  refine returnsInHanded_of_change_and (C := Tryd.checked) (X := fun w _ => laidMet Tryd.prog Rows.decimalProductsRow.laid w) (fun _ _ _ hh h => h.of_heap hh) own0 started (by kernel_rfl) Tryd.func5
    (ChangeSpec.witness_at (enc := enc) (C := Tryd.checked) (os := os) (X := fun w _ => laidMet Tryd.prog Rows.decimalProductsRow.laid w) false (laidWorld os) #[.agg #[.int .i64 0, .int .i64 0], .agg #[.int .i64 0, .int .i64 0], .agg #[.int .i64 0, .int .i64 0, .int .i64 0, .int .i64 0]] 8 rfl (by kernel_rfl) (by kernel_rfl) (by kernel_rfl) (by kernel_rfl) (by kernel_rfl) (laid_at os _)) ?_
  intro W base args ds gs before hval0 hW hcnd0 _ hL _
  have hval : ∀ (j : Nat) t v, Tryd.f5.params[j]? = some t → args[j]? = some v → Value.okWide Tryd.prog W .any base t v := hval0
  have hW' := hW
  obtain ⟨p, q, hA0, hV, rfl, hfz, hnd⟩ := hW
  have hA : DataW.TrodAll enc Tryd.prog W 0 (fun _ => true) true Tryd.f5.params.toList args.toList ds p := hA0
  rw [Tryd.params5] at hA hval
  obtain ⟨v0, v1, v2, d0, d1, d2, p0, p1, p2, rfl, rfl, rfl, h0, h1, h2⟩ := trodAll_three hA
  obtain ⟨rfl, rfl⟩ := trodVars_none hV
  clear hA0 hval0 hA
  simp only [List.append_nil] at hW'
  have k0 := hval 0 23 v0 rfl rfl
  have k1 := hval 1 23 v1 rfl rfl
  have k2 := hval 2 32 v2 rfl rfl
  obtain ⟨n0, s0, rfl, w0, x0⟩ := dec_arg k0 h0
  obtain ⟨n1, s1, rfl, w1, x1⟩ := dec_arg k1 h1
  obtain ⟨n2_0, n2_1, n2_2, n2_3, rfl, w2_0, w2_1, w2_2, w2_3⟩ := arr4_arg Tryd.underlying32 Tryd.underlying3 (by kernel_rfl) (by kernel_rfl) k2 h2
  refine (prod_true n0 s0 n1 s1 n2_0 n2_1 n2_2 n2_3 W (ev_of hL) (wf_i64 w0) (wf_i64 x0) (wf_i64 w1) (wf_i64 x1) (wf_i64 w2_0) (wf_i64 w2_1) (wf_i64 w2_2) (wf_i64 w2_3)).mono fun e W' ⟨he, hg⟩ => ?_
  subst he
  have hb : Below W.heap.size W W' := gr_low hg
  have hlt : ∀ x ∈ p0 ++ p1 ++ p2, x.block < W.heap.size := fun x hx => by simpa using hW'.lt x hx
  have hl0 : ∀ x ∈ p0, x.block < W.heap.size := fun x hx => hlt x (by simp [hx])
  have hl1 : ∀ x ∈ p1, x.block < W.heap.size := fun x hx => hlt x (by simp [hx])
  have hl2 : ∀ x ∈ p2, x.block < W.heap.size := fun x hx => hlt x (by simp [hx])
  refine ⟨_, rfl, _, _, _, [], p0 ++ p1 ++ p2, [], hW', ?_, ?_, rfl, hb.frame _, fun h => by cases h⟩
  · exact trodAll_mk1 (shut_bool Tryd.underlying4 true)
  · have h3 := trodAll_mk3 (Below.trod laidOut0 (by kernel_rfl) (of_decide_eq_true (by kernel_rfl)) h0 hb hl0) (Below.trod laidOut0 (by kernel_rfl) (of_decide_eq_true (by kernel_rfl)) h1 hb hl1) (Below.trod laidOut0 (by kernel_rfl) (of_decide_eq_true (by kernel_rfl)) h2 hb hl2)
    rw [← List.append_assoc] at h3
    exact h3

theorem prod_row : Rows.DecimalProductsSaid :=
  OpenClaim.holds_of_wide 5 Tryd.f5 rfl rfl rfl rfl rfl rfl rfl ⟨rfl, rfl, rfl, rfl, rfl⟩ rfl rfl rfl rfl rfl (by kernel_rfl) Tryd.func5 (by kernel_rfl)
    (of_decide_eq_true (by kernel_rfl)) (by unfold Func.isWrapper; first | (rw [if_pos (by decide +kernel)]; kernel_rfl) | (rw [if_neg (by decide +kernel)]; exact ⟨rfl, rfl⟩))
    (fun os started H enc _ => prod_lifted os started H enc)
end Go.Proofs.YtmlmjhlakpgagaaDoor
