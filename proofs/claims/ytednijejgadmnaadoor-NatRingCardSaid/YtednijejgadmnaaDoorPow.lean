/- The contract of nat.power over the product modulo an even number of one word. -/
import Derived.Test.YtednijejgadmnaaDoorBits
namespace Go.Proofs.YtednijejgadmnaaDoor
open Go.RowKit Go.Shelf Mth

theorem bitsFromTop_any (e : ByteArray) (w : World) :
    Calls Tryd.prog 87 #[.string e] w fun x w' => x = .returned (.func (.func 98) #[] #[.pointer (some ⟨w.heap.size, 0, none⟩)]) ∧ w.alloc (.cells #[.string e] 24) = w' := by
  go_enter Tryd.func87, Tryd.ntmps87
  go_wp2
  go_ret
  exact ⟨rfl, rfl⟩

theorem num_own {W W' : World} {v : Value} {N : Nat} {row : Option Nat} (h : Num W v N) (hg : W.grownBy W' row) (hrow : ∀ r, row = some r → ∃ o : Obj, W.heap[r]? = some o ∧ o.isCells = false) : Num W' v N := by
  obtain ⟨g, off, m, c, xs, rfl, h⟩ := h
  refine ⟨g, off, m, c, xs, rfl, h.kept hg ?_⟩
  intro e
  obtain ⟨o, ho, hc⟩ := hrow g e.symm
  have hb := h.blk
  unfold Blk at hb
  rw [hb] at ho
  obtain rfl := Option.some.inj ho
  simp [Obj.isCells] at hc

/-- Squares and products, bit by bit. -/
def accP (M b : Nat) (l : List Bool) : Nat := l.foldl (fun r bit => if bit then r * r % M * b % M else r * r % M) (1 % M)
theorem accP_snoc (M b : Nat) (l : List Bool) (x : Bool) : accP M b (l ++ [x]) = if x then accP M b l * accP M b l % M * b % M else accP M b l * accP M b l % M := by simp [accP]
theorem accP_lt {M : Nat} (h : 0 < M) (b : Nat) (l : List Bool) : accP M b l < M := by
  rcases List.eq_nil_or_concat l with rfl | ⟨l', x, rfl⟩
  · exact Nat.mod_lt _ h
  · rw [List.concat_eq_append, accP_snoc]; split <;> exact Nat.mod_lt _ h

theorem blk_ne {k : IntKind} {e : TypeId} {W : World} {g B : Nat} {xs : List Nat} {p : Option Addr} {n c : Nat} (h : Blk k e W g xs) (hv : W.cell? ⟨B, 0, none⟩ = some (.slice p n c)) : g ≠ B := by
  rintro rfl
  by_cases hl : 0 < xs.length
  · rw [h.cell hl] at hv; simp at hv
  · have : xs = [] := List.eq_nil_of_length_eq_zero (by omega)
    subst this
    rw [cell_of_row W g 0 _ e (0, 0) h] at hv
    simp [cellsOf] at hv
theorem num_set {W : World} {x v : Value} {N K B : Nat} (h : Num W x N) (hx : Num W v K) (hv : W.cell? ⟨B, 0, none⟩ = some v) (r : Value) : Num (W.setCell ⟨B, 0, none⟩ r) x N := by
  obtain ⟨_, _, _, _, _, rfl, _⟩ := hx
  obtain ⟨g, off, m, c, xs, rfl, h⟩ := h
  exact ⟨g, off, m, c, xs, rfl, h.kept (gr_set _ _ _ _) (by have := blk_ne h.blk hv; simpa using this)⟩

theorem below_gr {w w' : World} (h : Below w.heap.size w w') : w.grownBy w' none := ⟨h.os, h.tape, h.output, h.size, fun k hk _ => h.block k hk⟩
theorem cell_top (w : World) (v : Value) (t : TypeId) : (w.alloc (.cells #[v] t)).cell? ⟨w.heap.size, 0, none⟩ = some v := by
  rw [cell_of_row _ _ _ #[v] t (0, 0) (heap_alloc_new w _)]; rfl
theorem frozen_top (w : World) (v : Value) (t : TypeId) : (w.alloc (.cells #[v] t)).frozen? ⟨w.heap.size, 0, none⟩ = false := by
  unfold World.frozen?
  rw [show (w.alloc (.cells #[v] t)).heap[(⟨w.heap.size, 0, none⟩ : Addr).block]? = some (.cells #[v] t (0, 0)) from heap_alloc_new w _]
  rfl
theorem boxes4 (w : World) (v0 v1 v2 v3 : Value) (t0 t1 t2 t3 : TypeId) (W : World) (hW : W = (((w.alloc (.cells #[v0] t0)).alloc (.cells #[v1] t1)).alloc (.cells #[v2] t2)).alloc (.cells #[v3] t3)) :
    W.heap.size = w.heap.size + 4 ∧ W.cell? ⟨w.heap.size, 0, none⟩ = some v0 ∧ W.cell? ⟨w.heap.size + 1, 0, none⟩ = some v1 ∧ W.cell? ⟨w.heap.size + 1 + 1, 0, none⟩ = some v2 ∧ W.cell? ⟨w.heap.size + 1 + 1 + 1, 0, none⟩ = some v3 ∧ W.frozen? ⟨w.heap.size + 1 + 1, 0, none⟩ = false ∧ w.grownBy W none := by
  subst hW
  have g0 := cell_top w v0 t0
  have g1 := cell_top (w.alloc (.cells #[v0] t0)) v1 t1
  have g2 := cell_top ((w.alloc (.cells #[v0] t0)).alloc (.cells #[v1] t1)) v2 t2
  have g3 := cell_top (((w.alloc (.cells #[v0] t0)).alloc (.cells #[v1] t1)).alloc (.cells #[v2] t2)) v3 t3
  simp only [World.size_alloc] at g1 g2 g3
  have f2 := frozen_top ((w.alloc (.cells #[v0] t0)).alloc (.cells #[v1] t1)) v2 t2
  simp only [World.size_alloc] at f2
  refine ⟨by simp, ?_, ?_, ?_, g3, ?_, gr_then (gr_then (gr_then (gr_alloc _ _ none) (gr_alloc _ _ none)) (gr_alloc _ _ none)) (gr_alloc _ _ none)⟩
  · exact (gr_alloc _ _ none).cell ((gr_alloc _ _ none).cell ((gr_alloc _ _ none).cell g0 (by simp)) (by simp)) (by simp)
  · exact (gr_alloc _ _ none).cell ((gr_alloc _ _ none).cell g1 (by simp)) (by simp)
  · exact (gr_alloc _ _ none).cell g2 (by simp)
  · exact (World.frozen?_of_block (Below.heap_alloc _ _ _ (by simp))).trans f2

attribute [local go_sem] Oper.semAt_some
set_option maxRecDepth 100000 in
set_option maxHeartbeats 2000000 in
theorem power_even (vb vo vm : Value) (b M Bm : Nat) (e : ByteArray) (w : World) (hb : Num w vb b) (ho : Num w vo 1) (hm : Num w vm M) (hc : w.cell? ⟨Bm, 0, none⟩ = some vm) (h1 : 1 < M) (hM : M < W64) (hbM : b < M) (hsz : e.size ≤ 1000000000000) :
    Calls Tryd.prog 69 #[vb, vo, .string e, .func (.func 72) #[] #[.pointer (some ⟨Bm, 0, none⟩)]] w fun x w' => ∃ r, x = .returned r ∧ Num w' r (accP M b (bitsTop (num e.data.toList) (bitsN (num e.data.toList)))) ∧ w.grownBy w' none := by
  obtain ⟨g1, o1, m1, c1, xs, rfl, hb⟩ := hb
  obtain ⟨g2, o2, m2, c2, ys, rfl, ho⟩ := ho
  have HB := Lib.hid hb
  have HO := Lib.hid ho
  have HM := Lib.hid hm
  clear hb ho hm
  refine (callsIn_wide (n := 5)).1 ?_
  refine callsIn_of_wp_marks Tryd.func69 rfl trivial ?_ rfl
  simp only [Tryd.ntmps69, List.size_toArray, List.length_cons, List.length_nil, Nat.reduceAdd, Nat.reduceSub, Array.replicate_succ, Array.replicate_zero, List.push_toArray, List.append_toArray, List.nil_append, List.cons_append]
  gi_wp2
  refine ⟨trivial, (callsIn_wide.2 (bitsFromTop_any _ _)).mono ?_⟩
  rintro e' w' ⟨rfl, rfl⟩
  obtain ⟨W0, hW0⟩ : ∃ W0, W0 = (((w.alloc (Obj.cells #[Value.slice (some ⟨g1, o1, none⟩) m1 c1] 51)).alloc (Obj.cells #[Value.func (Fn.func 72) #[] #[Value.pointer (some ⟨Bm, 0, none⟩)]] 52)).alloc (Obj.cells #[Value.slice (some ⟨g2, o2, none⟩) m2 c2] 51)).alloc (Obj.cells #[.string e] 24) := ⟨_, rfl⟩
  obtain ⟨hs0, k0, k1, k2, k3, f2, hg0⟩ := boxes4 w _ _ _ _ _ _ _ _ W0 hW0
  rw [← hW0]
  simp only [World.size_alloc]
  have kc := hg0.cell hc (by simp)
  clear hW0
  gi_wp2
  have hn1 : Num W0 (.slice (some ⟨g1, o1, none⟩) m1 c1) b := ⟨g1, o1, m1, c1, xs, rfl, HB.out.kept hg0 (by simp)⟩
  have hn2 : Num W0 (.slice (some ⟨g2, o2, none⟩) m2 c2) 1 := ⟨g2, o2, m2, c2, ys, rfl, HO.out.kept hg0 (by simp)⟩
  have hnm : Num W0 vm M := HM.out.kept hg0
  have hBm : Bm < w.heap.size := World.block_lt_of_cell? w _ hc
  have hbb : Below w.heap.size w W0 := ⟨hg0.os, hg0.tape, hg0.output, hg0.size, fun k hk => hg0.block k hk (by simp)⟩
  refine wpIn_rangeFunc_ownF rfl (by omega) (gf := 98) (lb := #[.pointer (some ⟨w.heap.size + 1 + 1 + 1, 0, none⟩)]) rfl trivial (enters_of Tryd.func98 (by kernel_rfl) rfl)
    (bits_stops 4 (w.heap.size + 1 + 1 + 1) e W0 k3 hsz) (fun h k v hv => k v (h v hv)) (fun W l o o' _ hl ho _ v hv => ?_) (Below.refl _ _) (fun _ => rfl)
    (fun pre W => (∃ v, W.cell? ⟨w.heap.size + 1 + 1, 0, none⟩ = some v ∧ W.frozen? ⟨w.heap.size + 1 + 1, 0, none⟩ = false ∧ Num W v (accP M b pre) ∧ W.cell? ⟨w.heap.size, 0, none⟩ = some (.slice (some ⟨g1, o1, none⟩) m1 c1) ∧ Num W (.slice (some ⟨g1, o1, none⟩) m1 c1) b ∧ W.cell? ⟨w.heap.size + 1, 0, none⟩ = some (.func (.func 72) #[] #[.pointer (some ⟨Bm, 0, none⟩)]) ∧ W.cell? ⟨Bm, 0, none⟩ = some vm ∧ Num W vm M) ∧ Below w.heap.size w W)
    (fun _ _ _ => False)
    (OwnFrom.and (Own.from (fun s A B row hs hg hr => by obtain ⟨v, q1, q2, q3, q4, q5, q6, q7, q8⟩ := hs; exact ⟨v, cell_kept q1 hg hr, (frozen_kept q1 hg hr).trans q2, num_own q3 hg hr, cell_kept q4 hg hr, num_own q5 hg hr, cell_kept q6 hg hr, cell_kept q7 hg hr, num_own q8 hg hr⟩) _) (ownFrom_below (Nat.le_refl _) (by omega)))
    (fun _ _ _ _ _ hs _ _ => hs)
    ⟨⟨_, k2, f2, (by rw [show accP M b [] = 1 from Nat.mod_eq_of_lt h1]; exact hn2), k0, hn1, k1, kc, hnm⟩, hbb⟩
    (fun x => { tmps := #[.slice (some ⟨g1, o1, none⟩) m1 c1, .slice (some ⟨g2, o2, none⟩) m2 c2, .string e, .func (.func 72) #[] #[.pointer (some ⟨Bm, 0, none⟩)], .pointer (some ⟨w.heap.size, 0, none⟩), undef, undef, .pointer (some ⟨w.heap.size + 1, 0, none⟩), .slice none 0 0, .pointer (some ⟨w.heap.size + 1 + 1, 0, none⟩), .bool x, .slice (some ⟨g2, o2, none⟩) m2 c2, .string e, .func (.func 98) #[] #[.pointer (some ⟨w.heap.size + 1 + 1 + 1, 0, none⟩)], .bool x, undef, undef, undef, undef, undef, undef, undef, undef, undef, undef], defers := [] }) ?assign ?body ?done ?stop
  case assign =>
    intro l x W K hK
    gi_wp2
    exact hK
  case body =>
    rintro l pre x W ⟨⟨v, q1, q2, q3, q4, q5, q6, q7, q8⟩, hB⟩ _
    have hA := accP_lt (by omega : 0 < M) b pre
    have hAW : accP M b pre < W64 := Nat.lt_trans hA hM
    have hne0 : w.heap.size ≠ w.heap.size + 1 + 1 := by omega
    have hne1 : w.heap.size + 1 ≠ w.heap.size + 1 + 1 := by omega
    have hne3 : w.heap.size + 1 + 1 + 1 ≠ w.heap.size + 1 + 1 := by omega
    have hneB : Bm ≠ w.heap.size + 1 + 1 := by omega
    have HI := Lib.hid (And.intro q3 (And.intro q5 q8))
    have HA := Lib.hid hAW
    clear q3 q5 q8 hA hAW k0 k1 k2 k3 f2 kc hn1 hn2 hnm hbb hg0 hs0
    gi_wp2
    refine ⟨trivial, (CallsIn.inRound l (callsIn_wide.2 (even_times v v vm _ _ M Bm W HI.out.1 HI.out.1 HI.out.2.2 q7 (by omega) (.inr hM) ⟨HA.out, HA.out⟩))).mono ?_⟩
    rintro e' W1 ⟨r, rfl, hr, hg1⟩
    obtain ⟨sg, so, sm, sc, ss, rfl, hr⟩ := hr
    have p1 := hg1.cell q1 (by simp)
    have p2 : W1.frozen? ⟨w.heap.size + 1 + 1, 0, none⟩ = false := (World.frozen?_of_block (hg1.block _ (World.block_lt_of_cell? W _ q1) (by simp))).trans q2
    have p4 := hg1.cell q4 (by simp)
    have p6 := hg1.cell q6 (by simp)
    have p7 := hg1.cell q7 (by simp)
    have hv1 := HI.out.1.kept hg1
    have hb1 := HI.out.2.1.kept hg1
    have hm1 := HI.out.2.2.kept hg1
    have hr : Num W1 (.slice (some ⟨sg, so, none⟩) sm sc) _ := ⟨sg, so, sm, sc, ss, rfl, hr⟩
    have HR := Lib.hid (And.intro hr (And.intro hv1 (And.intro hb1 hm1)))
    clear hr hv1 hb1 hm1 q1 q2 q4 q6 q7
    cases x with
    | false =>
      gi_wp2
      refine ⟨(KeepsOthers.of_grownBy hg1 (by simp)).trans (KeepsOthers.setCell _ _ _), fun u hu => (gr_set _ _ _ _).cell (hg1.cell hu (by simp)) (by simp), ⟨_, World.cell?_setCell_same' _ _ _ (by rw [p1]; rfl), by rw [World.frozen?_setCell]; exact p2, ?_, (gr_set _ _ _ _).cell p4 (by simp; omega), num_set HR.out.2.2.1 HR.out.2.1 p1 _, (gr_set _ _ _ _).cell p6 (by simp), (gr_set _ _ _ _).cell p7 (by simp; omega), num_set HR.out.2.2.2 HR.out.2.1 p1 _⟩, (hB.grown hg1 hB.size (by simp)).setCell (p := ⟨w.heap.size + 1 + 1, 0, none⟩) (by simp; omega) _⟩
      rw [accP_snoc, if_neg (by decide)]
      exact num_set HR.out.1 HR.out.2.1 p1 _
    | true =>
      gi_wp2
      have n1 := num_set HR.out.1 HR.out.2.1 p1 (.slice (some ⟨sg, so, none⟩) sm sc)
      have n3 := num_set HR.out.2.2.1 HR.out.2.1 p1 (.slice (some ⟨sg, so, none⟩) sm sc)
      have n4 := num_set HR.out.2.2.2 HR.out.2.1 p1 (.slice (some ⟨sg, so, none⟩) sm sc)
      have s1 : (W1.setCell ⟨w.heap.size + 1 + 1, 0, none⟩ (.slice (some ⟨sg, so, none⟩) sm sc)).cell? ⟨w.heap.size + 1 + 1, 0, none⟩ = some (.slice (some ⟨sg, so, none⟩) sm sc) := World.cell?_setCell_same' _ _ _ (by rw [p1]; rfl)
      have s2 : (W1.setCell ⟨w.heap.size + 1 + 1, 0, none⟩ (.slice (some ⟨sg, so, none⟩) sm sc)).frozen? ⟨w.heap.size + 1 + 1, 0, none⟩ = false := by rw [World.frozen?_setCell]; exact p2
      have s4 := (gr_set W1 (w.heap.size + 1 + 1) 0 (.slice (some ⟨sg, so, none⟩) sm sc)).cell p4 (by simp; omega)
      have s6 := (gr_set W1 (w.heap.size + 1 + 1) 0 (.slice (some ⟨sg, so, none⟩) sm sc)).cell p6 (by simp)
      have s7 := (gr_set W1 (w.heap.size + 1 + 1) 0 (.slice (some ⟨sg, so, none⟩) sm sc)).cell p7 (by simp; omega)
      have sB := (hB.grown hg1 hB.size (by simp)).setCell (p := ⟨w.heap.size + 1 + 1, 0, none⟩) (by simp; omega) (.slice (some ⟨sg, so, none⟩) sm sc)
      have sK : KeepsOthers W (W1.setCell ⟨w.heap.size + 1 + 1, 0, none⟩ (.slice (some ⟨sg, so, none⟩) sm sc)) := (KeepsOthers.of_grownBy hg1 (by simp)).trans (KeepsOthers.setCell _ _ _)
      have sP : KpBox (w.heap.size + 1 + 1 + 1) W (W1.setCell ⟨w.heap.size + 1 + 1, 0, none⟩ (.slice (some ⟨sg, so, none⟩) sm sc)) := fun u hu => (gr_set _ _ _ _).cell (hg1.cell hu (by simp)) (by simp)
      generalize W1.setCell ⟨w.heap.size + 1 + 1, 0, none⟩ (.slice (some ⟨sg, so, none⟩) sm sc) = W2 at *
      have HN := Lib.hid (And.intro n1 (And.intro n3 n4))
      have HSK := Lib.hid (And.intro sK sP)
      clear n1 n3 n4 HR p1 p2 p4 p6 p7 hg1 sK sP
      have hA2 : accP M b pre * accP M b pre % M < W64 := Nat.lt_trans (Nat.mod_lt _ (by omega)) hM
      refine ⟨trivial, (CallsIn.inRound l (callsIn_wide.2 (even_times _ _ vm _ _ M Bm W2 HN.out.1 HN.out.2.1 HN.out.2.2 s7 (by omega) (.inr hM) ⟨hA2, Nat.lt_trans hbM hM⟩))).mono ?_⟩
      rintro e' W3 ⟨r3, rfl, hr3, hg3⟩
      obtain ⟨tg, tof, tm, tc, ts, rfl, hr3⟩ := hr3
      have t1 := hg3.cell s1 (by simp)
      have t2 : W3.frozen? ⟨w.heap.size + 1 + 1, 0, none⟩ = false := (World.frozen?_of_block (hg3.block _ (World.block_lt_of_cell? W2 _ s1) (by simp))).trans s2
      have t4 := hg3.cell s4 (by simp)
      have t6 := hg3.cell s6 (by simp)
      have t7 := hg3.cell s7 (by simp)
      have hr3' : Num W3 (.slice (some ⟨tg, tof, none⟩) tm tc) _ := ⟨tg, tof, tm, tc, ts, rfl, hr3⟩
      have HR3 := Lib.hid (And.intro hr3' (And.intro (HN.out.1.kept hg3) (And.intro (HN.out.2.1.kept hg3) (HN.out.2.2.kept hg3))))
      clear hr3 hr3' s1 s2 s4 s6 s7 hA2
      gi_wp2
      refine ⟨HSK.out.1.trans ((KeepsOthers.of_grownBy hg3 (by simp)).trans (KeepsOthers.setCell _ _ _)), fun u hu => (gr_set _ _ _ _).cell (hg3.cell (HSK.out.2 u hu) (by simp)) (by simp), ⟨_, World.cell?_setCell_same' _ _ _ (by rw [t1]; rfl), by rw [World.frozen?_setCell]; exact t2, ?_, (gr_set _ _ _ _).cell t4 (by simp; omega), num_set HR3.out.2.2.1 HR3.out.2.1 t1 _, (gr_set _ _ _ _).cell t6 (by simp), (gr_set _ _ _ _).cell t7 (by simp; omega), num_set HR3.out.2.2.2 HR3.out.2.1 t1 _⟩, (sB.grown hg3 sB.size (by simp)).setCell (p := ⟨w.heap.size + 1 + 1, 0, none⟩) (by simp; omega) _⟩
      rw [accP_snoc, if_pos rfl]
      exact num_set HR3.out.1 HR3.out.2.1 t1 _
  case done =>
    rintro D ys' W hD rfl ⟨⟨v, q1, q2, q3, q4, q5, q6, q7, q8⟩, hB⟩ hK
    have hBK := hB.trans (belowK_b (w := w) (Nat.le_refl _) W D _ (.deferred none) (by omega) hK rfl rfl)
    have hnv := num_own q3 (grownBy_putObj' W D (.deferred none)) (fun r e => by cases e; exact ⟨_, hK, rfl⟩)
    clear q3 q5 q8
    gi_wp2
    refine ⟨by simp, .inl ⟨_, _, rfl, run_takeDeferred hK, ?_⟩⟩
    exact ⟨_, results_tmp rfl _ _ _, v, rfl, hnv, below_gr hBK⟩
  case stop =>
    rintro D c pre W _ _ h _
    exact h.elim
  exact cell_kept hv (grownBy_putObj' W l o') (fun r e => by cases e; exact ⟨o, hl, ho⟩)
end Go.Proofs.YtednijejgadmnaaDoor
