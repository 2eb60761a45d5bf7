/- Contracts of package nat and of the reference, part 6: Bits, Pow, PowE, Fmt, Groups, Build, Dec, Text, IsText. -/
import Derived.Test.YtoadjhmehgkeaaaDoorEInts5
import Derived.RangeFuncNested
import Derived.RangeFuncBound
import Derived.RangeFuncCalls
import Derived.RangeFuncLeaves
import Derived.Shelf.Abstract
import Derived.Shelf.RegionOpen
import Derived.WalkKit
import Derived.OwnWalkIn
import Derived.TacticsInMore
import Derived.LoopNIn
import Derived.LoopIn
import Derived.Lib.ItoaMem
import Derived.Lib.Walk
import Derived.Lib.Repeat
namespace Go.Proofs.YtoadjhmehgkeaaaDoor
open Go.RowKit Go.Shelf Mth
attribute [local go_sem] Oper.semAt_some

/-- The i-th binary digit from the top. -/
def bitTop (N i : Nat) : Bool := decide (N / 2 ^ (bitsN N - 1 - i) % 2 = 1)
def bitsTop (N i : Nat) : List Bool := (List.range i).map (bitTop N)
theorem bitsTop_succ (N i : Nat) : bitsTop N (i + 1) = bitsTop N i ++ [bitTop N i] := by simp [bitsTop, List.range_succ]
theorem length_bitsTop (N i : Nat) : (bitsTop N i).length = i := by simp [bitsTop]
/-- What a round must keep for the iterator: its box. -/
def KpBox (Be : Nat) (W W' : World) : Prop := ∀ v, W.cell? ⟨Be, 0, none⟩ = some v → W'.cell? ⟨Be, 0, none⟩ = some v

theorem bitsN_le (e : ByteArray) : bitsN (num e.data.toList) ≤ 8 * e.size := by
  have h := num_lt e.data.toList
  rw [len_toList, show (256 : Nat) = 2 ^ 8 from rfl, ← Nat.pow_mul] at h
  unfold bitsN
  split
  · omega
  · rename_i h0
    have := (Nat.log2_lt h0).2 h
    omega

theorem byte_at {L : List UInt8} {q : Nat} (h : q < L.length) : (L[L.length - 1 - q]'(by omega)).toNat = num L / 256 ^ q % 256 := by
  have e : L = L.take (L.length - 1 - q) ++ (L[L.length - 1 - q]'(by omega) :: L.drop (L.length - q)) := by
    conv => lhs; rw [← List.take_append_drop (L.length - 1 - q) L]
    rw [List.drop_eq_getElem_cons (by omega), show L.length - 1 - q + 1 = L.length - q from by omega]
  have hl : (L.drop (L.length - q)).length = q := by rw [List.length_drop]; omega
  have hr := num_lt (L.drop (L.length - q))
  rw [hl] at hr
  have hd := (L[L.length - 1 - q]'(by omega)).toNat_lt
  generalize hx : L[L.length - 1 - q]'(by omega) = d at *
  have hn : num L = (num (L.take (L.length - 1 - q)) * 256 + d.toNat) * 256 ^ q + num (L.drop (L.length - q)) := by
    conv => lhs; rw [e]
    rw [num_append, num_cons, List.length_cons, hl, Nat.pow_succ, Nat.add_mul, Nat.mul_assoc, Nat.mul_comm 256]
    omega
  rw [hn, Nat.mul_comm _ (256 ^ q), Nat.mul_add_div (Nat.pow_pos (by decide)), Nat.div_eq_of_lt hr]
  omega
theorem bit_of_byte (N q r : Nat) (hr : r < 8) : N / 256 ^ q % 256 / 2 ^ r % 2 = N / 2 ^ (8 * q + r) % 2 := by
  have h1 : 256 = 2 ^ r * (2 * 2 ^ (7 - r)) := by rw [← Nat.pow_succ', ← Nat.pow_add, show r + (7 - r).succ = 8 from by omega]
  generalize hX : N / 256 ^ q = X
  rw [show X % 256 = X % (2 ^ r * (2 * 2 ^ (7 - r))) from by rw [← h1], Nat.mod_mul_right_div_self, Nat.mod_mod_of_dvd _ (Nat.dvd_mul_right _ _), ← hX, Nat.pow_add, ← Nat.div_div_eq_div_mul, Nat.pow_mul]
theorem bit_walk {e : ByteArray} {k m : Nat} (h : e.size - 1 - m / 8 < e.size) (hm : k = bitsN (num e.data.toList) ∧ m + 1 ≤ k ∧ k ≤ 8 * e.size) :
    bitTop (num e.data.toList) (k - (m + 1)) = (bits BinOp.and IntKind.u8 ((e[e.size - 1 - m / 8].toNat : Int) / (2 : Int) ^ (m % 8)) 1 == 1) := by
  obtain ⟨hk, h1, h2⟩ := hm
  have hq : m / 8 < e.data.toList.length := by rw [len_toList]; omega
  have hb := byte_at hq
  have hd : e[e.size - 1 - m / 8] = e.data.toList[e.data.toList.length - 1 - m / 8]'(by omega) := rfl
  rw [hd, hb]
  have hpc : ((2 : Int) ^ (m % 8)) = ((2 ^ (m % 8) : Nat) : Int) := by simp
  rw [hpc, ← Int.natCast_ediv]
  have hlt : num e.data.toList / 256 ^ (m / 8) % 256 / 2 ^ (m % 8) < 256 := Nat.lt_of_le_of_lt (Nat.div_le_self _ _) (Nat.mod_lt _ (by decide))
  have hbit := bit_of_byte (num e.data.toList) (m / 8) (m % 8) (Nat.mod_lt _ (by decide))
  rw [show 8 * (m / 8) + m % 8 = m from by omega] at hbit
  unfold bitTop
  rw [← hk, show k - 1 - (k - (m + 1)) = m from by omega, ← hbit]
  generalize num e.data.toList / 256 ^ (m / 8) % 256 / 2 ^ (m % 8) = c at hlt
  have hm1 := bits_mask .u8 8 (by decide) wraps_u8 1 (by decide) (c : Int) (by omega) (by omega)
  rw [show ((2 : Int) ^ 1 - 1) = 1 from by decide] at hm1
  rw [hm1, Bool.eq_iff_iff, decide_eq_true_eq, beq_iff_eq]
  omega

set_option maxRecDepth 100000 in
set_option maxHeartbeats 2000000 in
theorem bits_stops (n : Nat) (Be : Nat) (e : ByteArray) (w : World) (hc : w.cell? ⟨Be, 0, none⟩ = some (.string e)) (hsz : e.size ≤ 1000000000000) :
    SeqStopsK Fence.wide n Tryd.prog 98 #[.pointer (some ⟨Be, 0, none⟩)] (fun x : Bool => #[Value.bool x]) (KpBox Be) (fun xs => xs = bitsTop (num e.data.toList) (bitsN (num e.data.toList))) (fun _ => True) (bitsN (num e.data.toList)) w := fun l J Jx W hb _ _ hY h0 => by
  have hcW : W.cell? ⟨Be, 0, none⟩ = some (.string e) := by
    rw [hb.cell (p := ⟨Be, 0, none⟩) (World.block_lt_of_cell? w _ hc)]; exact hc
  generalize hN : num e.data.toList = N at *
  generalize hK : bitsN N = k at *
  have HN := Lib.hid hN
  have HK := Lib.hid hK
  clear hN hK
  refine callsIn_of_wp Tryd.func98 rfl trivial ?_ rfl
  simp only [Tryd.ntmps98, List.size_toArray, List.length_cons, List.length_nil, Nat.reduceAdd, Nat.reduceSub, Array.replicate_succ, Array.replicate_zero, List.push_toArray, List.append_toArray, List.nil_append, List.cons_append]
  gi_wp2
  refine ⟨trivial, fun h => absurd h (by decide), ?_⟩
  refine (callsIn_wide.2 (bits_any e _ hsz)).mono ?_
  rintro e' w' ⟨rfl, rfl⟩
  rw [HN.out, HK.out]
  have hkb : k ≤ 8 * e.size := by rw [← HK.out, ← HN.out]; exact bitsN_le e
  gi_wp2
  gi_loopw [3] (fun p wr => ∃ m : Nat, m ≤ k ∧ p = .int .i64 ((m : Int) - 1) ∧ J (bitsTop N (k - m)) wr ∧ wr.cell? ⟨Be, 0, none⟩ = some (.string e)) (fun p _ => (intOf p + 1).toNat)
  case atStart => exact ⟨k, Nat.le_refl _, rfl, by rw [Nat.sub_self]; exact h0, hcW⟩
  case round =>
    obtain ⟨m, hm, rfl, hJ, hce⟩ := hrel
    rcases m with _ | m
    · gi_wp2
      go_end0
      refine ⟨⟨_, rfl⟩, .inl ⟨_, rfl, ?_⟩⟩
      rw [Nat.sub_zero] at hJ
      exact hJ
    · rw [show (((m + 1 : Nat) : Int) - 1) = (m : Int) from by omega]
      obtain ⟨fn, tmps, assign, body, hy, hR⟩ := hY (bitsTop N (k - (m + 1))) (bitTop N (k - (m + 1))) wr hJ (by rw [length_bitsTop]; omega)
      have hlt : e.size - 1 - m / 8 < e.size := by omega
      have hbt : bitTop N (k - (m + 1)) = (bits BinOp.and IntKind.u8 ((e[e.size - 1 - m / 8].toNat : Int) / (2 : Int) ^ (m % 8)) 1 == 1) := by
        rw [← HN.out]
        exact bit_walk hlt ⟨by rw [HN.out, HK.out], by omega, hkb⟩
      rw [hbt] at hy
      have HBT := Lib.hid hbt
      clear hbt
      gi_wp2
      refine ⟨fun h => absurd h (by decide), ?_⟩
      refine hR.mono ?_
      rintro e' W3 (⟨rfl, hJ3, hk3⟩ | ⟨rfl, hJx3⟩)
      · have hc3 := hk3 _ hce
        have hJ4 : J (bitsTop N (k - m)) W3 := by
          rw [show k - m = k - (m + 1) + 1 from by omega, bitsTop_succ]; exact hJ3
        clear hJ3 hk3 hce hy
        gi_wp2
        refine ⟨⟨m, by omega, rfl, hJ4, hc3⟩, by simp [intOf]⟩
      · clear hy
        gi_wp2
        refine bodyPost_ret (results_none rfl _ _ _) rfl ?_
        exact ⟨⟨_, rfl⟩, .inr ⟨_, trivial, hJx3⟩⟩
end Go.Proofs.YtoadjhmehgkeaaaDoor
namespace Go.Proofs.YtoadjhmehgkeaaaDoor
open Go.RowKit Go.Shelf Mth

theorem bitsFromTop_any (e : ByteArray) (w : World) :
    Calls Tryd.prog 87 #[.string e] w fun x w' => x = .returned (.func (.func 98) #[] #[.pointer (some ⟨w.heap.size, 0, none⟩)]) ∧ w.alloc (.cells #[.string e] 24) = w' := by
  go_enter Tryd.func87, Tryd.ntmps87
  go_wp2
  go_ret
  exact ⟨rfl, rfl⟩

theorem num_own {W W' : World} {v : Value} {N : Nat} {row : Option Nat} (h : Num W v N) (hg : W.grownBy W' row) (hrow : ∀ r, row = some r → ∃ o : Obj, W.heap[r]? = some o ∧ o.isCells = false) : Num W' v N := by
  obtain ⟨g, off, m, c, xs, rfl, h⟩ := h
  refine ⟨g, off, m, c, xs, rfl, h.kept hg ?_⟩
  intro e
  obtain ⟨o, ho, hc⟩ := hrow g e.symm
  have hb := h.blk
  unfold Blk at hb
  rw [hb] at ho
  obtain rfl := Option.some.inj ho
  simp [Obj.isCells] at hc

/-- Squares and products, bit by bit. -/
def accP (M b : Nat) (l : List Bool) : Nat := l.foldl (fun r bit => if bit then r * r % M * b % M else r * r % M) (1 % M)
theorem accP_snoc (M b : Nat) (l : List Bool) (x : Bool) : accP M b (l ++ [x]) = if x then accP M b l * accP M b l % M * b % M else accP M b l * accP M b l % M := by simp [accP]
theorem accP_lt {M : Nat} (h : 0 < M) (b : Nat) (l : List Bool) : accP M b l < M := by
  rcases List.eq_nil_or_concat l with rfl | ⟨l', x, rfl⟩
  · exact Nat.mod_lt _ h
  · rw [List.concat_eq_append, accP_snoc]; split <;> exact Nat.mod_lt _ h

theorem blk_ne {k : IntKind} {e : TypeId} {W : World} {g B : Nat} {xs : List Nat} {p : Option Addr} {n c : Nat} (h : Blk k e W g xs) (hv : W.cell? ⟨B, 0, none⟩ = some (.slice p n c)) : g ≠ B := by
  rintro rfl
  by_cases hl : 0 < xs.length
  · rw [h.cell hl] at hv; simp at hv
  · have : xs = [] := List.eq_nil_of_length_eq_zero (by omega)
    subst this
    rw [cell_of_row W g 0 _ e (0, 0) h] at hv
    simp [cellsOf] at hv
theorem num_set {W : World} {x v : Value} {N K B : Nat} (h : Num W x N) (hx : Num W v K) (hv : W.cell? ⟨B, 0, none⟩ = some v) (r : Value) : Num (W.setCell ⟨B, 0, none⟩ r) x N := by
  obtain ⟨_, _, _, _, _, rfl, _⟩ := hx
  obtain ⟨g, off, m, c, xs, rfl, h⟩ := h
  exact ⟨g, off, m, c, xs, rfl, h.kept (gr_set _ _ _ _) (by have := blk_ne h.blk hv; simpa using this)⟩

theorem below_gr {w w' : World} (h : Below w.heap.size w w') : w.grownBy w' none := ⟨h.os, h.tape, h.output, h.size, fun k hk _ => h.block k hk⟩
theorem cell_top (w : World) (v : Value) (t : TypeId) : (w.alloc (.cells #[v] t)).cell? ⟨w.heap.size, 0, none⟩ = some v := by
  rw [cell_of_row _ _ _ #[v] t (0, 0) (heap_alloc_new w _)]; rfl
theorem frozen_top (w : World) (v : Value) (t : TypeId) : (w.alloc (.cells #[v] t)).frozen? ⟨w.heap.size, 0, none⟩ = false := by
  unfold World.frozen?
  rw [show (w.alloc (.cells #[v] t)).heap[(⟨w.heap.size, 0, none⟩ : Addr).block]? = some (.cells #[v] t (0, 0)) from heap_alloc_new w _]
  rfl
theorem boxes4 (w : World) (v0 v1 v2 v3 : Value) (t0 t1 t2 t3 : TypeId) (W : World) (hW : W = (((w.alloc (.cells #[v0] t0)).alloc (.cells #[v1] t1)).alloc (.cells #[v2] t2)).alloc (.cells #[v3] t3)) :
    W.heap.size = w.heap.size + 4 ∧ W.cell? ⟨w.heap.size, 0, none⟩ = some v0 ∧ W.cell? ⟨w.heap.size + 1, 0, none⟩ = some v1 ∧ W.cell? ⟨w.heap.size + 1 + 1, 0, none⟩ = some v2 ∧ W.cell? ⟨w.heap.size + 1 + 1 + 1, 0, none⟩ = some v3 ∧ W.frozen? ⟨w.heap.size + 1 + 1, 0, none⟩ = false ∧ w.grownBy W none := by
  subst hW
  have g0 := cell_top w v0 t0
  have g1 := cell_top (w.alloc (.cells #[v0] t0)) v1 t1
  have g2 := cell_top ((w.alloc (.cells #[v0] t0)).alloc (.cells #[v1] t1)) v2 t2
  have g3 := cell_top (((w.alloc (.cells #[v0] t0)).alloc (.cells #[v1] t1)).alloc (.cells #[v2] t2)) v3 t3
  simp only [World.size_alloc] at g1 g2 g3
  have f2 := frozen_top ((w.alloc (.cells #[v0] t0)).alloc (.cells #[v1] t1)) v2 t2
  simp only [World.size_alloc] at f2
  refine ⟨by simp, ?_, ?_, ?_, g3, ?_, gr_then (gr_then (gr_then (gr_alloc _ _ none) (gr_alloc _ _ none)) (gr_alloc _ _ none)) (gr_alloc _ _ none)⟩
  · exact (gr_alloc _ _ none).cell ((gr_alloc _ _ none).cell ((gr_alloc _ _ none).cell g0 (by simp)) (by simp)) (by simp)
  · exact (gr_alloc _ _ none).cell ((gr_alloc _ _ none).cell g1 (by simp)) (by simp)
  · exact (gr_alloc _ _ none).cell g2 (by simp)
  · exact (World.frozen?_of_block (Below.heap_alloc _ _ _ (by simp))).trans f2

attribute [local go_sem] Oper.semAt_some
set_option maxRecDepth 100000 in
set_option maxHeartbeats 2000000 in
theorem power_even (vb vo vm : Value) (b M Bm : Nat) (e : ByteArray) (w : World) (hb : Num w vb b) (ho : Num w vo 1) (hm : Num w vm M) (hc : w.cell? ⟨Bm, 0, none⟩ = some vm) (h1 : 1 < M) (K : Nat) (hK : K ≤ 137438953473) (hM : M < W64 ^ K) (hbM : b < M) (hsz : e.size ≤ 1000000000000) :
    Calls Tryd.prog 69 #[vb, vo, .string e, .func (.func 72) #[] #[.pointer (some ⟨Bm, 0, none⟩)]] w fun x w' => ∃ r, x = .returned r ∧ Num w' r (accP M b (bitsTop (num e.data.toList) (bitsN (num e.data.toList)))) ∧ w.grownBy w' none := by
  obtain ⟨g1, o1, m1, c1, xs, rfl, hb⟩ := hb
  obtain ⟨g2, o2, m2, c2, ys, rfl, ho⟩ := ho
  have HB := Lib.hid hb
  have HO := Lib.hid ho
  have HM := Lib.hid hm
  clear hb ho hm
  refine (callsIn_wide (n := 5)).1 ?_
  refine callsIn_of_wp_marks Tryd.func69 rfl trivial ?_ rfl
  simp only [Tryd.ntmps69, List.size_toArray, List.length_cons, List.length_nil, Nat.reduceAdd, Nat.reduceSub, Array.replicate_succ, Array.replicate_zero, List.push_toArray, List.append_toArray, List.nil_append, List.cons_append]
  gi_wp2
  refine ⟨trivial, (callsIn_wide.2 (bitsFromTop_any _ _)).mono ?_⟩
  rintro e' w' ⟨rfl, rfl⟩
  obtain ⟨W0, hW0⟩ : ∃ W0, W0 = (((w.alloc (Obj.cells #[Value.slice (some ⟨g1, o1, none⟩) m1 c1] 51)).alloc (Obj.cells #[Value.func (Fn.func 72) #[] #[Value.pointer (some ⟨Bm, 0, none⟩)]] 52)).alloc (Obj.cells #[Value.slice (some ⟨g2, o2, none⟩) m2 c2] 51)).alloc (Obj.cells #[.string e] 24) := ⟨_, rfl⟩
  obtain ⟨hs0, k0, k1, k2, k3, f2, hg0⟩ := boxes4 w _ _ _ _ _ _ _ _ W0 hW0
  rw [← hW0]
  simp only [World.size_alloc]
  have kc := hg0.cell hc (by simp)
  clear hW0
  gi_wp2
  have hn1 : Num W0 (.slice (some ⟨g1, o1, none⟩) m1 c1) b := ⟨g1, o1, m1, c1, xs, rfl, HB.out.kept hg0 (by simp)⟩
  have hn2 : Num W0 (.slice (some ⟨g2, o2, none⟩) m2 c2) 1 := ⟨g2, o2, m2, c2, ys, rfl, HO.out.kept hg0 (by simp)⟩
  have hnm : Num W0 vm M := HM.out.kept hg0
  have hBm : Bm < w.heap.size := World.block_lt_of_cell? w _ hc
  have hbb : Below w.heap.size w W0 := ⟨hg0.os, hg0.tape, hg0.output, hg0.size, fun k hk => hg0.block k hk (by simp)⟩
  refine wpIn_rangeFunc_ownF rfl (by omega) (gf := 98) (lb := #[.pointer (some ⟨w.heap.size + 1 + 1 + 1, 0, none⟩)]) rfl trivial (enters_of Tryd.func98 (by kernel_rfl) rfl)
    (bits_stops 4 (w.heap.size + 1 + 1 + 1) e W0 k3 hsz) (fun h k v hv => k v (h v hv)) (fun W l o o' _ hl ho _ v hv => ?_) (Below.refl _ _) (fun _ => rfl)
    (fun pre W => (∃ v, W.cell? ⟨w.heap.size + 1 + 1, 0, none⟩ = some v ∧ W.frozen? ⟨w.heap.size + 1 + 1, 0, none⟩ = false ∧ Num W v (accP M b pre) ∧ W.cell? ⟨w.heap.size, 0, none⟩ = some (.slice (some ⟨g1, o1, none⟩) m1 c1) ∧ Num W (.slice (some ⟨g1, o1, none⟩) m1 c1) b ∧ W.cell? ⟨w.heap.size + 1, 0, none⟩ = some (.func (.func 72) #[] #[.pointer (some ⟨Bm, 0, none⟩)]) ∧ W.cell? ⟨Bm, 0, none⟩ = some vm ∧ Num W vm M) ∧ Below w.heap.size w W)
    (fun _ _ _ => False)
    (OwnFrom.and (Own.from (fun s A B row hs hg hr => by obtain ⟨v, q1, q2, q3, q4, q5, q6, q7, q8⟩ := hs; exact ⟨v, cell_kept q1 hg hr, (frozen_kept q1 hg hr).trans q2, num_own q3 hg hr, cell_kept q4 hg hr, num_own q5 hg hr, cell_kept q6 hg hr, cell_kept q7 hg hr, num_own q8 hg hr⟩) _) (ownFrom_below (Nat.le_refl _) (by omega)))
    (fun _ _ _ _ _ hs _ _ => hs)
    ⟨⟨_, k2, f2, (by rw [show accP M b [] = 1 from Nat.mod_eq_of_lt h1]; exact hn2), k0, hn1, k1, kc, hnm⟩, hbb⟩
    (fun x => { tmps := #[.slice (some ⟨g1, o1, none⟩) m1 c1, .slice (some ⟨g2, o2, none⟩) m2 c2, .string e, .func (.func 72) #[] #[.pointer (some ⟨Bm, 0, none⟩)], .pointer (some ⟨w.heap.size, 0, none⟩), undef, undef, .pointer (some ⟨w.heap.size + 1, 0, none⟩), .slice none 0 0, .pointer (some ⟨w.heap.size + 1 + 1, 0, none⟩), .bool x, .slice (some ⟨g2, o2, none⟩) m2 c2, .string e, .func (.func 98) #[] #[.pointer (some ⟨w.heap.size + 1 + 1 + 1, 0, none⟩)], .bool x, undef, undef, undef, undef, undef, undef, undef, undef, undef, undef], defers := [] }) ?assign ?body ?done ?stop
  case assign =>
    intro l x W K hK
    gi_wp2
    exact hK
  case body =>
    rintro l pre x W ⟨⟨v, q1, q2, q3, q4, q5, q6, q7, q8⟩, hB⟩ _
    have hA := accP_lt (by omega : 0 < M) b pre
    have hAW : accP M b pre < W64 ^ K := Nat.lt_trans hA hM
    have hne0 : w.heap.size ≠ w.heap.size + 1 + 1 := by omega
    have hne1 : w.heap.size + 1 ≠ w.heap.size + 1 + 1 := by omega
    have hne3 : w.heap.size + 1 + 1 + 1 ≠ w.heap.size + 1 + 1 := by omega
    have hneB : Bm ≠ w.heap.size + 1 + 1 := by omega
    have HI := Lib.hid (And.intro q3 (And.intro q5 q8))
    have HA := Lib.hid hAW
    clear q3 q5 q8 hA hAW k0 k1 k2 k3 f2 kc hn1 hn2 hnm hbb hg0 hs0
    gi_wp2
    refine ⟨trivial, (CallsIn.inRound l (callsIn_wide.2 (even_times v v vm _ _ M Bm W HI.out.1 HI.out.1 HI.out.2.2 q7 (by omega) K hK ⟨HA.out, HA.out⟩))).mono ?_⟩
    rintro e' W1 ⟨r, rfl, hr, hg1⟩
    obtain ⟨sg, so, sm, sc, ss, rfl, hr⟩ := hr
    have p1 := hg1.cell q1 (by simp)
    have p2 : W1.frozen? ⟨w.heap.size + 1 + 1, 0, none⟩ = false := (World.frozen?_of_block (hg1.block _ (World.block_lt_of_cell? W _ q1) (by simp))).trans q2
    have p4 := hg1.cell q4 (by simp)
    have p6 := hg1.cell q6 (by simp)
    have p7 := hg1.cell q7 (by simp)
    have hv1 := HI.out.1.kept hg1
    have hb1 := HI.out.2.1.kept hg1
    have hm1 := HI.out.2.2.kept hg1
    have hr : Num W1 (.slice (some ⟨sg, so, none⟩) sm sc) _ := ⟨sg, so, sm, sc, ss, rfl, hr⟩
    have HR := Lib.hid (And.intro hr (And.intro hv1 (And.intro hb1 hm1)))
    clear hr hv1 hb1 hm1 q1 q2 q4 q6 q7
    cases x with
    | false =>
      gi_wp2
      refine ⟨(KeepsOthers.of_grownBy hg1 (by simp)).trans (KeepsOthers.setCell _ _ _), fun u hu => (gr_set _ _ _ _).cell (hg1.cell hu (by simp)) (by simp), ⟨_, World.cell?_setCell_same' _ _ _ (by rw [p1]; rfl), by rw [World.frozen?_setCell]; exact p2, ?_, (gr_set _ _ _ _).cell p4 (by simp; omega), num_set HR.out.2.2.1 HR.out.2.1 p1 _, (gr_set _ _ _ _).cell p6 (by simp), (gr_set _ _ _ _).cell p7 (by simp; omega), num_set HR.out.2.2.2 HR.out.2.1 p1 _⟩, (hB.grown hg1 hB.size (by simp)).setCell (p := ⟨w.heap.size + 1 + 1, 0, none⟩) (by simp; omega) _⟩
      rw [accP_snoc, if_neg (by decide)]
      exact num_set HR.out.1 HR.out.2.1 p1 _
    | true =>
      gi_wp2
      have n1 := num_set HR.out.1 HR.out.2.1 p1 (.slice (some ⟨sg, so, none⟩) sm sc)
      have n3 := num_set HR.out.2.2.1 HR.out.2.1 p1 (.slice (some ⟨sg, so, none⟩) sm sc)
      have n4 := num_set HR.out.2.2.2 HR.out.2.1 p1 (.slice (some ⟨sg, so, none⟩) sm sc)
      have s1 : (W1.setCell ⟨w.heap.size + 1 + 1, 0, none⟩ (.slice (some ⟨sg, so, none⟩) sm sc)).cell? ⟨w.heap.size + 1 + 1, 0, none⟩ = some (.slice (some ⟨sg, so, none⟩) sm sc) := World.cell?_setCell_same' _ _ _ (by rw [p1]; rfl)
      have s2 : (W1.setCell ⟨w.heap.size + 1 + 1, 0, none⟩ (.slice (some ⟨sg, so, none⟩) sm sc)).frozen? ⟨w.heap.size + 1 + 1, 0, none⟩ = false := by rw [World.frozen?_setCell]; exact p2
      have s4 := (gr_set W1 (w.heap.size + 1 + 1) 0 (.slice (some ⟨sg, so, none⟩) sm sc)).cell p4 (by simp; omega)
      have s6 := (gr_set W1 (w.heap.size + 1 + 1) 0 (.slice (some ⟨sg, so, none⟩) sm sc)).cell p6 (by simp)
      have s7 := (gr_set W1 (w.heap.size + 1 + 1) 0 (.slice (some ⟨sg, so, none⟩) sm sc)).cell p7 (by simp; omega)
      have sB := (hB.grown hg1 hB.size (by simp)).setCell (p := ⟨w.heap.size + 1 + 1, 0, none⟩) (by simp; omega) (.slice (some ⟨sg, so, none⟩) sm sc)
      have sK : KeepsOthers W (W1.setCell ⟨w.heap.size + 1 + 1, 0, none⟩ (.slice (some ⟨sg, so, none⟩) sm sc)) := (KeepsOthers.of_grownBy hg1 (by simp)).trans (KeepsOthers.setCell _ _ _)
      have sP : KpBox (w.heap.size + 1 + 1 + 1) W (W1.setCell ⟨w.heap.size + 1 + 1, 0, none⟩ (.slice (some ⟨sg, so, none⟩) sm sc)) := fun u hu => (gr_set _ _ _ _).cell (hg1.cell hu (by simp)) (by simp)
      generalize W1.setCell ⟨w.heap.size + 1 + 1, 0, none⟩ (.slice (some ⟨sg, so, none⟩) sm sc) = W2 at *
      have HN := Lib.hid (And.intro n1 (And.intro n3 n4))
      have HSK := Lib.hid (And.intro sK sP)
      clear n1 n3 n4 HR p1 p2 p4 p6 p7 hg1 sK sP
      have hA2 : accP M b pre * accP M b pre % M < W64 ^ K := Nat.lt_trans (Nat.mod_lt _ (by omega)) hM
      refine ⟨trivial, (CallsIn.inRound l (callsIn_wide.2 (even_times _ _ vm _ _ M Bm W2 HN.out.1 HN.out.2.1 HN.out.2.2 s7 (by omega) K hK ⟨hA2, Nat.lt_trans hbM hM⟩))).mono ?_⟩
      rintro e' W3 ⟨r3, rfl, hr3, hg3⟩
      obtain ⟨tg, tof, tm, tc, ts, rfl, hr3⟩ := hr3
      have t1 := hg3.cell s1 (by simp)
      have t2 : W3.frozen? ⟨w.heap.size + 1 + 1, 0, none⟩ = false := (World.frozen?_of_block (hg3.block _ (World.block_lt_of_cell? W2 _ s1) (by simp))).trans s2
      have t4 := hg3.cell s4 (by simp)
      have t6 := hg3.cell s6 (by simp)
      have t7 := hg3.cell s7 (by simp)
      have hr3' : Num W3 (.slice (some ⟨tg, tof, none⟩) tm tc) _ := ⟨tg, tof, tm, tc, ts, rfl, hr3⟩
      have HR3 := Lib.hid (And.intro hr3' (And.intro (HN.out.1.kept hg3) (And.intro (HN.out.2.1.kept hg3) (HN.out.2.2.kept hg3))))
      clear hr3 hr3' s1 s2 s4 s6 s7 hA2
      gi_wp2
      refine ⟨HSK.out.1.trans ((KeepsOthers.of_grownBy hg3 (by simp)).trans (KeepsOthers.setCell _ _ _)), fun u hu => (gr_set _ _ _ _).cell (hg3.cell (HSK.out.2 u hu) (by simp)) (by simp), ⟨_, World.cell?_setCell_same' _ _ _ (by rw [t1]; rfl), by rw [World.frozen?_setCell]; exact t2, ?_, (gr_set _ _ _ _).cell t4 (by simp; omega), num_set HR3.out.2.2.1 HR3.out.2.1 t1 _, (gr_set _ _ _ _).cell t6 (by simp), (gr_set _ _ _ _).cell t7 (by simp; omega), num_set HR3.out.2.2.2 HR3.out.2.1 t1 _⟩, (sB.grown hg3 sB.size (by simp)).setCell (p := ⟨w.heap.size + 1 + 1, 0, none⟩) (by simp; omega) _⟩
      rw [accP_snoc, if_pos rfl]
      exact num_set HR3.out.1 HR3.out.2.1 t1 _
  case done =>
    rintro D ys' W hD rfl ⟨⟨v, q1, q2, q3, q4, q5, q6, q7, q8⟩, hB⟩ hK
    have hBK := hB.trans (belowK_b (w := w) (Nat.le_refl _) W D _ (.deferred none) (by omega) hK rfl rfl)
    have hnv := num_own q3 (grownBy_putObj' W D (.deferred none)) (fun r e => by cases e; exact ⟨_, hK, rfl⟩)
    clear q3 q5 q8
    gi_wp2
    refine ⟨by simp, .inl ⟨_, _, rfl, run_takeDeferred hK, ?_⟩⟩
    exact ⟨_, results_tmp rfl _ _ _, v, rfl, hnv, below_gr hBK⟩
  case stop =>
    rintro D c pre W _ _ h _
    exact h.elim
  exact cell_kept hv (grownBy_putObj' W l o') (fun r e => by cases e; exact ⟨o, hl, ho⟩)
end Go.Proofs.YtoadjhmehgkeaaaDoor
namespace Go.Proofs.YtoadjhmehgkeaaaDoor
open Go.RowKit Go.Shelf Mth

theorem num_single (w : World) (n : Nat) (h0 : n ≠ 0) (h : n < W64) : Num (w.alloc (.cells #[.int .u64 (n : Int)] 57)) (.slice (some ⟨w.heap.size, 0, none⟩) 1 1) n :=
  ⟨w.heap.size, 0, 1, 1, [n], rfl, blk_one w .u64 57 n, by simp, dg_one h, vs_one _ _, .inr (by simpa [gt] using h0), Nat.le_refl _, by decide, by omega⟩

theorem powerByEven_any (vb vm : Value) (b M : Nat) (e : ByteArray) (w : World) (hb : Num w vb b) (hm : Num w vm M) (h1 : 1 < M) (K : Nat) (hK : K ≤ 137438953473) (hM : M < W64 ^ K) (hbM : b < M) (hsz : e.size ≤ 1000000000000) :
    Calls Tryd.prog 43 #[vb, .string e, vm] w fun x w' => ∃ r, x = .returned r ∧ Num w' r (accP M b (bitsTop (num e.data.toList) (bitsN (num e.data.toList)))) ∧ w.grownBy w' none := by
  have HB := Lib.hid hb
  have HM := Lib.hid hm
  obtain ⟨g2, o2, m2, c2, ys, rfl, hm⟩ := hm
  clear hb hm
  go_enter Tryd.func43, Tryd.ntmps43
  go_wp2_with fail
  have g2' := gr_then (gr_alloc w (.cells #[Value.slice (some ⟨g2, o2, none⟩) m2 c2] 51) none) (gr_alloc _ (.cells #[Value.int .u64 1] 57) none)
  have hone := num_single (w.alloc (.cells #[Value.slice (some ⟨g2, o2, none⟩) m2 c2] 51)) 1 (by decide) (by decide)
  rw [World.size_alloc] at hone
  have hcm := (gr_alloc (w.alloc (.cells #[Value.slice (some ⟨g2, o2, none⟩) m2 c2] 51)) (.cells #[Value.int .u64 1] 57) none).cell (cell_top w (.slice (some ⟨g2, o2, none⟩) m2 c2) 51) (by simp)
  refine (power_even vb _ _ b M w.heap.size e _ (HB.out.kept g2') hone (HM.out.kept g2') hcm h1 K hK hM hbM hsz).mono ?_
  rintro x w' ⟨r, rfl, hr, hg⟩
  have HR := Lib.hid hr
  clear hr hone hcm
  go_wp2
  go_ret
  exact ⟨r, rfl, HR.out, gr_then g2' hg⟩

theorem words_pos {xs : List Nat} {N : Nat} (h : Words xs N) (h0 : 0 < N) : 0 < xs.length := by
  rcases Nat.eq_zero_or_pos xs.length with h1 | h1
  · have := words_nil h h1; omega
  · exact h1
theorem words_odd {xs : List Nat} {N : Nat} (h : Words xs N) (h0 : 0 < xs.length) : gt xs 0 % 2 = N % 2 := by
  have h1 := h.val
  obtain ⟨k, hk⟩ : ∃ k, xs.length = k + 1 := ⟨xs.length - 1, by omega⟩
  rw [hk, vs_left] at h1
  rw [← h1, W64_eq]
  omega

theorem pow_even (s e t : ByteArray) (w : World) (hs : s.size ≤ 1000000000000) (he : e.size ≤ 1000000000000) (ht : t.size ≤ 1000000000000) (h1 : 1 < num t.data.toList) (hev : num t.data.toList % 2 = 0) :
    Calls Tryd.prog 25 #[.string s, .string e, .string t] w fun x w' => x = .returned (.tuple #[.string ⟨(enc (accP (num t.data.toList) (num s.data.toList % num t.data.toList) (bitsTop (num e.data.toList) (bitsN (num e.data.toList))))).toArray⟩, .bool true]) ∧ w.grownBy w' none := by
  obtain ⟨y, hy⟩ : ∃ y, y = num t.data.toList := ⟨_, rfl⟩
  have HY := Lib.hid hy
  rw [← hy] at h1 hev ⊢
  obtain ⟨acc, hacc⟩ : ∃ acc, acc = (⟨(enc (accP y (num s.data.toList % y) (bitsTop (num e.data.toList) (bitsN (num e.data.toList))))).toArray⟩ : ByteArray) := ⟨_, rfl⟩
  rw [← hacc]
  have HACC := Lib.hid hacc
  clear hy hacc
  go_enter Tryd.func25, Tryd.ntmps25
  go_wp2_with fail
  refine (wordsOf_any t w (by omega)).mono ?_
  rintro x w1 ⟨b1, ys, rfl, hlt1, hb1, hg1, hw1, hsz1⟩
  rw [← HY.out] at hw1
  have hpos : 0 < ys.length := words_pos hw1 (by omega)
  obtain ⟨z, hz⟩ : ∃ z, z = gt ys 0 := ⟨_, rfl⟩
  have hpz : z % 2 = y % 2 := by rw [hz]; exact words_odd hw1 hpos
  have hM : y < W64 ^ ys.length := hw1.lt
  have hK : ys.length ≤ 137438953473 := by omega
  have hn1 := Num.of_words hb1 hw1 (by omega)
  have hcell : w1.cell? ⟨b1, 0, none⟩ = some (.int .u64 (z : Int)) := by rw [hb1.cell hpos, hz]
  have hb0 : ((ys.length : Int) == 0) = false := by rw [beq_eq_false_iff_ne]; omega
  have HN1 := Lib.hid hn1
  have HMY := Lib.hid hM
  clear hn1 hw1 hsz1 hz hM
  go_wp2_with fail
  refine (wordsOf_any s w1 (by omega)).mono ?_
  rintro x w2 ⟨b2, xs, rfl, hlt2, hb2, hg2, hw2, hsz2⟩
  have HN2 := Lib.hid (Num.of_words hb2 hw2 (by omega))
  have hcell2 := hg2.cell hcell (by simp)
  clear hcell
  go_wp2_with fail
  refine (divide_all _ _ _ _ w2 HN2.out (HN1.out.kept hg2) (by omega)).mono ?_
  rintro x w3 ⟨q, r, rfl, hq, hr, hg3⟩
  have HQ := Lib.hid hq
  have HR := Lib.hid hr
  have hcell3 := hg3.cell hcell2 (by simp)
  have hpar : (((z : Int) % 2) == 1) = false := by rw [beq_eq_false_iff_ne]; omega
  clear hq hr hcell2
  go_wp2_with fail
  refine (powerByEven_any _ _ _ y e w3 HR.out ((HN1.out.kept hg2).kept hg3) h1 _ hK HMY.out (Nat.mod_lt _ (by omega)) he).mono ?_
  rintro x w4 ⟨p, rfl, hp, hg4⟩
  have HP := Lib.hid hp
  clear hp
  go_wp2_with fail
  refine (natOf_num p _ w4 (.inr HP.out)).mono ?_
  rintro x w5 ⟨rfl, hg5⟩
  rw [← HACC.out]
  go_wp2
  go_ret2
  exact ⟨rfl, gr_then hg1 (gr_then hg2 (gr_then hg3 (gr_then hg4 hg5)))⟩
end Go.Proofs.YtoadjhmehgkeaaaDoor
namespace Go.Proofs.YtoadjhmehgkeaaaDoor
open Go.RowKit Go.Sort Go.Lib

set_option maxHeartbeats 6400000 in
set_option maxRecDepth 100000 in
theorem formatUint_in (u : Nat) (hu64 : u < 18446744073709551616) (w : World)
    (htab : Lib.TabIs Tryd.prog w "internal/strconv.uint64pow10" .u64 Lib.pow10Tab) :
    Calls Tryd.prog 77 #[.int .u64 u, .int .i64 10] w fun e w' => e = .returned (.string ⟨(Lib.decDigits u).toArray⟩) ∧ ∃ k os, w' = grow (w.drewN k) os := by
  by_cases hs : u < 100
  · go_enter Tryd.func77, Tryd.ntmps77
    go_wp2_with fail
    refine (Tryd.internal_strconv_small u hs _).mono ?_
    rintro e w' ⟨rfl, rfl⟩
    go_wp2
    go_ret
    exact ⟨rfl, 0, #[], by simp [World.drewN_zero]⟩
  · have hu1 : 1 ≤ u := by omega
    have hnd20 : Lib.nDigits u ≤ 20 := by have := Lib.numDigits_eq u hu1 hu64; split at this <;> omega
    have hal : Tryd.prog.arrayLen 109 = 24 := by simp [Program.arrayLen, Tryd.underlying109]
    have hsl1 : ∀ W, (Instr.sliceAt 109 (.pointer (some ⟨w.heap.size, 0, none⟩)) none (some (.int .i64 (Lib.nDigits u : Int))) none).run Tryd.prog W = .ok (.slice (some ⟨w.heap.size, 0, none⟩) (Lib.nDigits u) 24) W := fun W => by
      rw [run_sliceAt_array_h W 109 ⟨w.heap.size, 0, none⟩ (by simp [Program.arrayLen, Program.elem, Tryd.underlying109]) .i64 (Lib.nDigits u : Int) (by omega) (by rw [hal]; omega)]
      go_simp
    have hH0 : Holds (fun (b : UInt8) => Value.int .u8 (b.toNat : Int)) (w.alloc (.cells zeros24 109)) w.heap.size 0 (Array.replicate (Lib.nDigits u) (0 : UInt8)) := fun j hj => by
      have hj' : j < Lib.nDigits u := by simpa using hj
      refine ⟨?_, World.frozen?_alloc_new _ _ _ _⟩
      rw [World.cell?_alloc_new, zeros24_at _ (by omega), getElem!_pos _ j hj]
      simp
    have hfmt := Tryd.internal_strconv_formatBase10 w.heap.size 0 24 u (Array.replicate (Lib.nDigits u) 0) (w.alloc (.cells Lib.zeros24 109)) hH0 (by rw [Array.size_replicate]; exact Lib.lt_pow_nDigits u) hu64 (by rw [Array.size_replicate]; omega)
    rw [Array.size_replicate] at hfmt
    have HH0 := Lib.hid hH0
    clear hH0 hal
    go_enter Tryd.func77, Tryd.ntmps77
    go_wp2_with fail
    refine (Tryd.internal_strconv_numDigits u hu1 hu64 _ (Lib.tabIs_alloc htab _)).mono ?_
    rintro e w' ⟨rfl, rfl⟩
    go_wp2_with fail
    refine hfmt.mono ?_
    rintro e w' ⟨rfl, k, v', dk, rfl, hF⟩
    have hcv : (convert 22 9 (.slice (some ⟨w.heap.size, 0, none⟩) (Lib.nDigits u) 24)).run Tryd.prog ((putRow (fun (b : UInt8) => Value.int .u8 (b.toNat : Int)) (w.alloc (.cells Lib.zeros24 109)) w.heap.size 0 dk).drewN k) = .ok (.string ⟨(Lib.decDigits u).toArray⟩) ((putRow (fun (b : UInt8) => Value.int .u8 (b.toNat : Int)) (w.alloc (.cells Lib.zeros24 109)) w.heap.size 0 dk).drewN k) := by
      have h := run_convert_bytes_back (P := Tryd.prog) ((putRow (fun (b : UInt8) => Value.int .u8 (b.toNat : Int)) (w.alloc (.cells Lib.zeros24 109)) w.heap.size 0 dk).drewN k) 22 9 5 ⟨w.heap.size, 0, none⟩ 24 (Lib.decDigits u) Tryd.underlying22 Tryd.underlying5 Tryd.underlying9 (fun j hj => by
        rw [Lib.row_is_numeral hF j hj, Lib.add_plain, World.cell?_drewN]
        exact cell?_putRow (fun (b : UInt8) => Value.int .u8 (b.toNat : Int)) _ w.heap.size 0 _ dk HH0.out (by rw [hF.size, Array.size_replicate]) j (by rw [hF.size]; rw [Lib.decDigits_length] at hj; exact hj))
      rw [Lib.decDigits_length] at h
      exact h
    go_wp2
    go_ret
    obtain ⟨os, eo⟩ : ∃ os, (putRow (fun (b : UInt8) => Value.int .u8 (b.toNat : Int)) (w.alloc (.cells Lib.zeros24 109)) w.heap.size 0 dk).drewN k = grow (w.drewN k) os := by
      rw [alloc_eq_grow]
      obtain ⟨os', _, e⟩ := putRow_grow_new (fun (b : UInt8) => Value.int .u8 (b.toNat : Int)) w #[.cells Lib.zeros24 109] w.heap.size 0 dk (Nat.le_refl _)
      exact ⟨os', by rw [e]; rfl⟩
    exact ⟨rfl, k, os, eo⟩

theorem formatUint_any (u : Nat) (hu64 : u < 18446744073709551616) (w : World)
    (htab : Lib.TabIs Tryd.prog w "internal/strconv.uint64pow10" .u64 Lib.pow10Tab) :
    Calls Tryd.prog 51 #[.int .u64 u, .int .i64 10] w fun e w' => e = .returned (.string ⟨(Lib.decDigits u).toArray⟩) ∧ ∃ k os, w' = grow (w.drewN k) os := by
  go_enter Tryd.func51, Tryd.ntmps51
  go_wp2_with fail
  refine (formatUint_in u hu64 _ htab).mono ?_
  rintro e w' ⟨rfl, k, os, rfl⟩
  go_wp2
  go_ret
  exact ⟨rfl, k, os, rfl⟩
end Go.Proofs.YtoadjhmehgkeaaaDoor
namespace Go.Proofs.YtoadjhmehgkeaaaDoor
open Go.RowKit Mth

def B19 : Nat := 10000000000000000000
theorem B19_eq : B19 = 10000000000000000000 := rfl
theorem W64_le_B19 : W64 ≤ B19 ^ 2 := by decide

/-- m groups are taken off N, rest is left. -/
structure Grp (gs : List Nat) (m N rest : Nat) : Prop where
  val : N = vs B19 gs 0 m + B19 ^ m * rest
  dg : ∀ i, i < m → gt gs i < B19
theorem Grp.next {gs us : List Nat} {m N rest r q : Nat} (h : Grp gs m N rest) (ha : Apped gs us [r] m 1 0) (hr : r < B19) (he : rest = B19 * q + r) : Grp us (m + 1) N q := by
  have hm : gt us m = r := by have := ha.new 0 (by omega); simpa [gt] using this
  constructor
  · rw [vs_split, vs_congr (ys := gs) (off' := 0) (fun i hi => by rw [Nat.zero_add]; exact ha.old i hi)]
    rw [show vs B19 us (0 + m) 1 = r from by simp [vs, hm], h.val, he, Nat.pow_succ, Nat.mul_add, Nat.mul_assoc]
    omega
  · intro i hi
    by_cases e : i = m
    · rw [e, hm]; exact hr
    · rw [ha.old i (by omega)]; exact h.dg i (by omega)
theorem Grp.few {gs : List Nat} {m N rest n : Nat} (h : Grp gs m N rest) (hN : N < W64 ^ n) (h0 : 0 < rest) : m < 2 * n := by
  have h1 : B19 ^ m ≤ N := by
    rw [h.val]
    have := Nat.mul_le_mul_left (B19 ^ m) h0
    omega
  have h2 : W64 ^ n ≤ B19 ^ (2 * n) := by rw [Nat.pow_mul]; exact Nat.pow_le_pow_left W64_le_B19 n
  rcases Nat.lt_or_ge m (2 * n) with h3 | h3
  · exact h3
  · have := Nat.pow_le_pow_right (n := B19) (by decide) h3
    omega

/-- What groupsOf leaves. -/
def Groups (w w' : World) (e : Ending) (N k : Nat) : Prop := ∃ v m gs, e = .returned v ∧ Own .u64 57 w' v m gs ∧ (v.ownBlock = none ∨ ∃ g, v.ownBlock = some g ∧ w.heap.size ≤ g) ∧ vs B19 gs 0 m = N ∧ (∀ i, i < m → gt gs i < B19) ∧ (m = 0 ∨ gt gs (m - 1) ≠ 0) ∧ m ≤ k

theorem NumAt.pos {w : World} {g off m c N : Nat} {xs : List Nat} (h : NumAt w g off m c xs N) (h0 : 0 < m) : 0 < N := by
  obtain ⟨k, rfl⟩ : ∃ k, m = k + 1 := ⟨m - 1, by omega⟩
  have ht := h.top
  rw [← h.val, vs_split]
  rcases ht with ht | ht
  · omega
  · rw [show off + (k + 1 - 1) = off + k from by omega] at ht
    have h1 : 0 < W64 ^ k * gt xs (off + k) := Nat.mul_pos (Nat.pow_pos W64_pos) (by omega)
    have h2 : vs W64 xs (off + k) 1 = gt xs (off + k) := by simp [vs]
    rw [h2]; omega

set_option maxHeartbeats 2000000 in
set_option maxRecDepth 100000 in
theorem groupsOf_num (b n c N : Nat) (xs : List Nat) (w : World) (h : NumAt w b 0 n c xs N) :
    Calls Tryd.prog 49 #[.slice (some ⟨b, 0, none⟩) n c] w fun e w' => Groups w w' e N (2 * n) ∧ w.grownBy w' (some b) := by
  have HB := Lib.hid (show N < W64 ^ n from by rw [← h.val]; exact vs_lt h.dg)
  have hlt := h.blk.lt
  have hsm := h.small
  obtain ⟨i0, hi, hz0, hz1, hz2⟩ := info_parts infoW
  go_enter Tryd.func49, Tryd.ntmps49
  go_wp2
  go_loopw [0, 3] (fun v u wr => ∃ (m rest k : Nat) (zs gs : List Nat), v = .slice (some ⟨b, 0, none⟩) k c ∧ lenOf u = m ∧ Own .u64 57 wr u m gs ∧ (u.ownBlock = none ∨ ∃ g, u.ownBlock = some g ∧ w.heap.size ≤ g) ∧ NumAt wr b 0 k c zs rest ∧ w.grownBy wr (some b) ∧ Hid (Grp gs m N rest) ∧ (rest = 0 → m = 0 ∨ gt gs (m - 1) ≠ 0) ∧ m ≤ 2 * n) (fun _ u _ => 2 * n - lenOf u)
  case atStart => exact ⟨0, N, n, xs, [], rfl, rfl, .nil _ _ _, .inl rfl, h, World.grownBy.refl _ _, ⟨by simp [vs], fun i hi => by omega⟩, fun _ => .inl rfl, Nat.zero_le _⟩
  case round =>
    obtain ⟨m, rest, k, zs, gs, rfl, hlm, hown, hblk, hnum, hg, HG, htop, hm2⟩ := hrel
    by_cases hk : 0 < k
    · have hrest := hnum.pos hk
      have hfew := HG.out.few HB.out hrest
      have hval := hnum.val
      have HV := Lib.hid hval
      have hdec : decide ((k : Int) > 0) = true := by simpa using hk
      clear htop hval
      have hnb : u3.ownBlock = none ∨ u3.ownBlock ≠ some b := by
        rcases hblk with h | ⟨g, h, h'⟩
        · exact .inl h
        · exact .inr (by rw [h]; intro e; cases e; omega)
      go_wp2_with fail
      refine (divideInPlace_any b 0 k c B19 zs wr hnum.blk hnum.fit hnum.dg hnum.small (by decide) (by decide)).mono ?_
      rintro e w1 ⟨r, zs1, rfl, hb1, hg1, hdv⟩
      have hown1 := hown.kept hg1 hnb
      have hown2 := hown1.kept (gr_alloc w1 (.cells #[.int .u64 (r : Int)] 57) none) (Decidable.em _)
      have hbr : Blk .u64 57 (w1.alloc (.cells #[.int .u64 (r : Int)] 57)) w1.heap.size [r] := by unfold Blk; rw [heap_alloc_new]; simp [cellsOf]
      have HO := Lib.hid hown2
      have HD := Lib.hid hdv
      have HU := Lib.hid (show m ≤ 2199023255552 from by omega)
      have hfew := Lib.hid hfew
      clear hown hown1 hown2 hdv
      go_wp2_with (at_builtin; refine wpList_append_blk rfl (.tmp 7) (.tmp 10) 51 rfl .u64 57 i0 8 Tryd.underlying51 hi hz0 hz1 hz2 _ m gs rfl HO.out w1.heap.size 0 1 1 [r] rfl ?_ (by simp) (by omega) ?_ ?_ ?_)
      case refine_1 => intro j hj; exact hbr.cell (by simpa using hj)
      case refine_2 => have := HU.out; unfold maxLen; omega
      case refine_3 => have := HU.out; omega
      intro v' w2 us hownv hg2 happ hblkv
      rcases hownv with ⟨_, h0, _⟩ | ⟨g, rfl, hbg, h1, h2⟩
      · omega
      have hge : w.heap.size ≤ g := by
        rcases hblkv with h | ⟨g', h, h'⟩
        · rcases hblk with h'' | ⟨g'', h'', h'⟩
          · rw [h''] at h; simp [Value.ownBlock] at h
          · rw [h''] at h; simp only [Value.ownBlock, Option.some.injEq] at h; omega
        · simp only [Value.ownBlock, Option.some.injEq] at h
          have h3 : (w1.alloc (.cells #[.int .u64 (r : Int)] 57)).heap.size = w1.heap.size + 1 := by simp
          have := hg.size; have := hg1.size
          omega
      have hgb : w.grownBy w2 (some b) := by
        refine gr_trans (gr_trans hg hg1 (.inr rfl) (.inr (.inl rfl))) (gr_then (gr_alloc w1 (.cells #[.int .u64 (r : Int)] 57) none) hg2) (.inr rfl) (.inr (.inr fun j e => ?_))
        rcases hblk with h' | ⟨g', h', h''⟩
        · rw [h'] at e; cases e
        · rw [h'] at e; cases e; exact h''
      have hb2 : Blk .u64 57 w2 b zs1 := by
        refine (hb1.alloc _).kept hg2 ?_
        rcases hnb with h | h
        · rw [h]; simp
        · exact fun e => h e.symm
      obtain ⟨q, hq⟩ : ∃ q, q = vs W64 zs1 0 k := ⟨_, rfl⟩
      have hrq : rest = B19 * q + r := by rw [hq, ← HV.out]; exact HD.out.2.2.2
      have HN := Lib.hid (HG.out.next happ HD.out.2.2.1 hrq)
      have HR := Lib.hid (show q = 0 → gt us m ≠ 0 from fun e => by
        have := happ.new 0 (by omega)
        rw [Nat.add_zero] at this
        rw [this]
        rw [e] at hrq
        simp [gt]
        omega)
      have hl1 : zs1.length = zs.length := HD.out.1.len
      have htr := trimmed_num b 0 k c zs1 w2 hb2 (by rw [hl1]; exact hnum.fit) HD.out.2.1 hnum.cap hnum.max hnum.small
      rw [← hq] at htr
      clear hi hz0 hz1 hz2 HO hb1 hb2 hq hrq hl1 happ hblkv hblk
      go_wp2_with fail
      refine htr.mono ?_
      rintro e w3 ⟨⟨k', rfl, hk'⟩, rfl⟩
      go_wp2
      refine ⟨⟨m + 1, q, k', zs1, us, rfl, rfl, .inr ⟨g, rfl, hbg, h1, h2⟩, .inr ⟨g, rfl, hge⟩, hk', hgb, HN, fun e => .inr (HR.out e), by have := hfew.out; omega⟩, ?_⟩
      have := hfew.out
      show 2 * n - (m + 1) < 2 * n - lenOf u3
      rw [hlm]; omega
    · have hk0 : k = 0 := by omega
      subst hk0
      have hrest : rest = 0 := by rw [← hnum.val]; simp [vs]
      subst hrest
      have hv := HG.out.val
      have hdec : decide (((0 : Nat) : Int) > 0) = false := by decide
      have HV := Lib.hid hv
      clear hv
      go_wp2
      go_ret
      exact ⟨⟨u3, m, gs, rfl, hown, hblk, by rw [HV.out]; simp, HG.out.dg, htop trivial, hm2⟩, hg⟩
end Go.Proofs.YtoadjhmehgkeaaaDoor
namespace Go.Proofs.YtoadjhmehgkeaaaDoor
open Go.RowKit Go.Sort Go.Lib

abbrev Bld (B b : Nat) (l : List UInt8) (w : World) : Prop := Lib.IsBuilder 72 5 B b (Lib.byteCells l) w
theorem writeString_any (B b : Nat) (l : List UInt8) (s : ByteArray) (w : World) (h : Bld B b l w) (hlen : l.length + s.size ≤ 140737488355328) (hBw : B ≤ w.heap.size) :
    Calls Tryd.prog 50 #[.pointer (some ⟨b, 0, none⟩), .string s] w fun e w' => e = .returned (.tuple #[.int .i64 s.size, .nilIface]) ∧ Bld B b (l ++ s.data.toList) w' ∧ Below B w w' := by
  refine (Any.Builder_WriteString (P := Tryd.prog) (ρ := Tryd.lays105_ren) { Tryd.lays105 with } Tryd.Builder_Extra_105 B b (Lib.byteCells l) s w h (by rw [Lib.byteCells_length]; exact hlen) hBw).mono ?_
  rintro e w' ⟨rfl, h1, h2⟩
  refine ⟨rfl, .inr ?_, h2⟩
  rw [Lib.byteCells_append, ← Lib.strCells_eq]
  exact h1
theorem bld_kept {B b : Nat} {l : List UInt8} {w w' : World} (h : Bld B b l w) (hg : w.grownBy w' none) : Bld B b l w' := by
  have key : ∀ p, Lib.BuilderAt 72 5 B b p (Lib.byteCells l) w → Lib.BuilderAt 72 5 B b p (Lib.byteCells l) w' := by
    intro p k
    have hlt := k.lt
    obtain ⟨hB, v, hb, hown, hne⟩ := k
    refine ⟨hB, v, (hg.block b hlt (by simp)).trans hb, hown.kept hg ?_, hne⟩
    cases v.ownBlock <;> simp
  exact h.imp (key _) (key _)
theorem below_blk {B : Nat} {w w' : World} (h : Below B w w') (_hB : B ≤ w.heap.size) {b : Nat} {k : IntKind} {e : TypeId} {xs : List Nat} (hb : Blk k e w b xs) (hlt : b < B) : Blk k e w' b xs := by
  unfold Blk at hb ⊢
  rw [h.block b hlt]; exact hb
theorem gr_grow (w : World) (k : Nat) (os : Array Obj) (r : Option Nat) : w.grownBy (grow (w.drewN k) os) r :=
  ⟨rfl, rfl, rfl, by simp, fun j hj _ => by rw [heap_grow_old _ _ (by simpa using hj)]; rfl⟩
/-- A world below which all stays as it was, from a world's own heap on: it has only grown. -/
theorem gr_below {w w' : World} (h : Below w.heap.size w w') (r : Option Nat) : w.grownBy w' r := ⟨h.os, h.tape, h.output, h.size, fun k hk _ => h.block k hk⟩
end Go.Proofs.YtoadjhmehgkeaaaDoor
namespace Go.Proofs.YtoadjhmehgkeaaaDoor
open Mth Go.Lib

/-- The last k decimal digits. -/
def pad : Nat → Nat → List UInt8
  | 0, _ => []
  | k + 1, r => pad k (r / 10) ++ [UInt8.ofNat (48 + r % 10)]
theorem decDigits_pad {q : Nat} (hq : 1 ≤ q) : ∀ (k r : Nat), r < 10 ^ k → decDigits (r + 10 ^ k * q) = decDigits q ++ pad k r
  | 0, r, h => by
    have : r = 0 := by simpa using h
    subst this; simp [pad]
  | k + 1, r, h => by
    have hp : 1 ≤ 10 ^ k := Nat.one_le_pow _ _ (by decide)
    rw [Nat.pow_succ] at h ⊢
    have hmul : 10 ^ k * 10 * q = 10 * (10 ^ k * q) := by rw [Nat.mul_comm (10 ^ k) 10, Nat.mul_assoc]
    have hk : 1 ≤ 10 ^ k * q := Nat.mul_pos hp hq
    rw [decDigits, dif_neg (by omega), hmul]
    rw [show (r + 10 * (10 ^ k * q)) / 10 = r / 10 + 10 ^ k * q from by omega, show (r + 10 * (10 ^ k * q)) % 10 = r % 10 from by omega]
    rw [decDigits_pad hq k (r / 10) (by omega), pad, List.append_assoc]
theorem pad_zero : ∀ k, pad k 0 = List.replicate k 48
  | 0 => rfl
  | k + 1 => by rw [pad, Nat.zero_div, pad_zero k, List.replicate_succ']; rfl
theorem pad_dec : ∀ (k r : Nat), 1 ≤ k → r < 10 ^ k → pad k r = List.replicate (k - nDigits r) 48 ++ decDigits r
  | 0, r, h1, h => by omega
  | k + 1, r, h1, h => by
    by_cases hr : r < 10
    · rw [pad, show r / 10 = 0 from by omega, pad_zero, decDigits_one hr, nDigits_small hr, show r % 10 = r from by omega]; rfl
    · have hk : 1 ≤ k := by
        rcases k with _ | k
        · simp at h; omega
        · omega
      rw [Nat.pow_succ] at h
      have hu : decDigits r = decDigits (r / 10) ++ [UInt8.ofNat (48 + r % 10)] := by rw [decDigits, dif_neg hr]
      rw [pad, pad_dec k (r / 10) hk (by omega), nDigits_big hr, hu, show k + 1 - (nDigits (r / 10) + 1) = k - nDigits (r / 10) from by omega, List.append_assoc]
theorem nDigits_le_of_lt : ∀ (k r : Nat), 1 ≤ k → r < 10 ^ k → nDigits r ≤ k
  | 0, r, h1, h => by omega
  | k + 1, r, h1, h => by
    by_cases hr : r < 10
    · rw [nDigits_small hr]; omega
    · have hk : 1 ≤ k := by
        rcases k with _ | k
        · simp at h; omega
        · omega
      rw [Nat.pow_succ] at h
      rw [nDigits_big hr]
      have := nDigits_le_of_lt k (r / 10) hk (by omega)
      omega
/-- The text of the d + 1 highest of m groups. -/
def tx (gs : List Nat) (m : Nat) : Nat → List UInt8
  | 0 => decDigits (gt gs (m - 1))
  | d + 1 => tx gs m d ++ (List.replicate (19 - nDigits (gt gs (m - 2 - d))) 48 ++ decDigits (gt gs (m - 2 - d)))
theorem tx_eq (gs : List Nat) (m : Nat) (hd : ∀ i, i < m → gt gs i < B19) (ht : gt gs (m - 1) ≠ 0) (hm : 0 < m) : ∀ d, d < m → tx gs m d = decDigits (vs B19 gs (m - 1 - d) (d + 1)) ∧ 0 < vs B19 gs (m - 1 - d) (d + 1)
  | 0, h => by
    have : vs B19 gs (m - 1 - 0) (0 + 1) = gt gs (m - 1) := by simp [vs]
    rw [this]
    exact ⟨rfl, by omega⟩
  | d + 1, h => by
    obtain ⟨h1, h2⟩ := tx_eq gs m hd ht hm d (by omega)
    have hi := hd (m - 2 - d) (by omega)
    have hv := vs_left B19 gs (m - 2 - d) (d + 1)
    rw [show m - 2 - d + 1 = m - 1 - d from by omega] at hv
    rw [tx, h1, show m - 1 - (d + 1) = m - 2 - d from by omega, hv]
    rw [show B19 = 10 ^ 19 from by decide] at *
    rw [decDigits_pad h2 19 _ hi, pad_dec 19 _ (by decide) hi]
    refine ⟨rfl, ?_⟩
    have := Nat.mul_pos (show 0 < 10 ^ 19 from by decide) h2
    omega
theorem tx_all {gs : List Nat} {m : Nat} (hd : ∀ i, i < m → gt gs i < B19) (ht : gt gs (m - 1) ≠ 0) (hm : 0 < m) : tx gs m (m - 1) = decDigits (vs B19 gs 0 m) := by
  have := (tx_eq gs m hd ht hm (m - 1) (by omega)).1
  rw [show m - 1 - (m - 1) = 0 from by omega, show m - 1 + 1 = m from by omega] at this
  exact this
theorem tx_length {gs : List Nat} {m : Nat} (hd : ∀ i, i < m → gt gs i < B19) : ∀ d, d < m → (tx gs m d).length ≤ 19 * (d + 1)
  | 0, h => by
    rw [tx, decDigits_length]
    have := nDigits_le_of_lt 19 _ (by decide) (by rw [← show B19 = 10 ^ 19 from by decide]; exact hd (m - 1) (by omega))
    omega
  | d + 1, h => by
    have h1 := tx_length hd d (by omega)
    have := nDigits_le_of_lt 19 _ (by decide) (by rw [← show B19 = 10 ^ 19 from by decide]; exact hd (m - 2 - d) (by omega))
    simp only [tx, List.length_append, List.length_replicate, decDigits_length]
    omega
end Go.Proofs.YtoadjhmehgkeaaaDoor
namespace Go.Proofs.YtoadjhmehgkeaaaDoor
open Go.RowKit Mth Go.Lib

theorem tab_gr {w w' : World} {name : String} {k : IntKind} {zs : List Int} (h : TabIs Tryd.prog w name k zs) (hg : w.grownBy w' none) : TabIs Tryd.prog w' name k zs := by
  unfold TabIs World.var? at *
  cases hq : Tryd.prog.globalNamed name with
  | none => simp [hq] at h
  | some g =>
    simp only [hq, Option.bind_some] at h ⊢
    have hlt : g < w.heap.size := by
      rcases Nat.lt_or_ge g w.heap.size with h' | h'
      · exact h'
      · rw [Array.getElem?_eq_none h'] at h; simp at h
    rw [hg.block g hlt (by simp)]
    exact h

theorem gr_low {B : Nat} {w w' : World} (h : w.grownBy w' none) (hB : B ≤ w.heap.size) : Below B w w' := ⟨h.os, h.tape, h.output, h.size, fun k hk => h.block k (by omega) (by simp)⟩
abbrev Tab (w : World) : Prop := Lib.TabIs Tryd.prog w "internal/strconv.uint64pow10" .u64 Lib.pow10Tab

set_option maxHeartbeats 4000000 in
set_option maxRecDepth 100000 in
theorem text_any (s : ByteArray) (w : World) (hs : s.size ≤ 1000000000000) (htab : Tab w) :
    Calls Tryd.prog 28 #[.string s] w fun e w' => e = .returned (.string ⟨(decDigits (num s.data.toList)).toArray⟩) ∧ w.grownBy w' none := by
  obtain ⟨N, hN⟩ : ∃ N, N = num s.data.toList := ⟨_, rfl⟩
  rw [← hN]
  have HN := Lib.hid hN
  clear hN
  go_enter Tryd.func28, Tryd.ntmps28
  go_wp2_with fail
  refine (wordsOf_any s w (by omega)).mono ?_
  rintro x w1 ⟨b1, ys, rfl, hlt1, hb1, hg1, hw1, hsz1⟩
  rw [← HN.out] at hw1
  have hat := NumAt.of_words hb1 hw1 (by omega)
  have HSZ := Lib.hid hsz1
  clear hb1 hw1 hsz1
  go_wp2_with fail
  refine (groupsOf_num b1 _ _ N ys w1 hat).mono ?_
  rintro x w2 ⟨⟨v, m, gs, rfl, hown, hblk, hval, hdg, htop, hm2⟩, hg2⟩
  have hgr2 : w.grownBy w2 none := gr_new hg1 hg2 hlt1
  have hm3 : m ≤ 274877906946 := by have := HSZ.out; omega
  have HV := Lib.hid hval
  have HD := Lib.hid hdg
  have HM := Lib.hid hm2
  have HT := Lib.hid htop
  have htab2 := tab_gr htab hgr2
  clear hat hval hdg hm2 htop htab
  rcases m with _ | m
  · have hN0 : N = 0 := by rw [← HV.out]; simp [vs]
    have hlen : ∃ x c, v = .slice x 0 c := by
      rcases hown with ⟨rfl, _⟩ | ⟨g, rfl, _⟩
      · exact ⟨_, _, rfl⟩
      · exact ⟨_, _, rfl⟩
    obtain ⟨x, c, rfl⟩ := hlen
    clear hown hblk
    subst hN0
    go_wp2
    go_ret
    exact ⟨by rw [decDigits_one (by omega)]; rfl, hgr2⟩
  · rcases hown with ⟨_, h0, _⟩ | ⟨g, rfl, hbg, h1, h2⟩
    · omega
    have hglt : g < w2.heap.size := hbg.lt
    have HBG := Lib.hid hbg
    have hb3 := hbg.alloc (.cells #[.pointer none, .slice none 0 0] 72)
    have hcell : (w2.alloc (.cells #[.pointer none, .slice none 0 0] 72)).cell? ⟨g, m, none⟩ = some (.int .u64 ((gt gs m : Nat) : Int)) := hb3.cell (by omega)
    have hdec : (((m + 1 : Nat) : Int) == 0) = false := by rw [beq_eq_false_iff_ne]; omega
    have hbld0 : Bld w2.heap.size w2.heap.size [] (w2.alloc (.cells #[.pointer none, .slice none 0 0] 72)) := Lib.fresh_isBuilder _ _ _
    have hbel0 : Below w2.heap.size w2 (w2.alloc (.cells #[.pointer none, .slice none 0 0] 72)) := (Below.refl _ _).alloc (Nat.le_refl _) _
    have HB0 := Lib.hid hbld0
    have HL0 := Lib.hid hbel0
    clear hbld0 hbel0 hb3 hbg hblk
    go_wp2_with fail
    have hlast : gt gs m < B19 := HD.out m (by omega)
    refine (formatUint_any (gt gs m) (by rw [B19_eq] at hlast; omega) _ (tab_gr htab2 (gr_alloc _ _ _))).mono ?_
    rintro x w3 ⟨rfl, k3, os3, rfl⟩
    have hg3 := gr_grow (w2.alloc (.cells #[.pointer none, .slice none 0 0] 72)) k3 os3 none
    have HB3 := Lib.hid (bld_kept HB0.out hg3)
    have HL3 := Lib.hid (HL0.out.trans (gr_low (B := w2.heap.size) hg3 (by simp)))
    clear HB0 HL0 hg3 hcell
    generalize hw3 : Go.Sort.grow ((w2.alloc (.cells #[.pointer none, .slice none 0 0] 72)).drewN k3) os3 = w3 at *
    clear hw3
    have hln : (decDigits (gt gs m)).length ≤ 19 := by
      rw [decDigits_length]; exact nDigits_le_of_lt 19 _ (by decide) (by rw [← show B19 = 10 ^ 19 from by decide]; exact hlast)
    have HLN := Lib.hid hln
    clear hln hlast
    go_wp2_with fail
    refine (writeString_any w2.heap.size w2.heap.size [] ⟨(decDigits (gt gs m)).toArray⟩ w3 HB3.out (by have := HLN.out; simp [ByteArray.size]; omega) HL3.out.size).mono ?_
    rintro x w4 ⟨rfl, hb4, hl4⟩
    have HB4 := Lib.hid (show Bld w2.heap.size w2.heap.size (tx gs (m + 1) 0) w4 from hb4)
    have HL4 := Lib.hid (HL3.out.trans hl4)
    clear hb4 hl4 HB3 HL3 HLN
    go_wp2
    go_loopw [6] (fun i wr => ∃ d, d < m + 1 ∧ i = .int .i64 ((m : Int) - 1 - d) ∧ Hid (Bld w2.heap.size w2.heap.size (tx gs (m + 1) d) wr) ∧ Hid (Below w2.heap.size w2 wr)) (fun i _ => (RowKit.intOf i + 1).toNat)
    case atStart => exact ⟨0, by omega, by simp, HB4, HL4⟩
    case round =>
      obtain ⟨d, hd, rfl, HB, HL⟩ := hrel
      by_cases hdm : d = m
      · subst hdm
        rw [show (d : Int) - 1 - d = -1 from by omega]
        go_wp2_with fail
        refine (Tryd.Builder_String_any w2.heap.size w2.heap.size (tx gs (d + 1) d) wr HB.out HL.out.size).mono ?_
        rintro x w5 ⟨rfl, hl5⟩
        have htx := tx_all (m := d + 1) HD.out (by have := HT.out; omega) (by omega)
        rw [HV.out, show d + 1 - 1 = d from rfl] at htx
        rw [htx]
        have hfin : w.grownBy w5 none := gr_then hgr2 (gr_below (HL.out.trans hl5) none)
        clear htx hl5
        go_wp2
        go_ret
        exact ⟨rfl, hfin⟩
      · obtain ⟨j, hj⟩ : ∃ j, m = j + 1 + d := ⟨m - 1 - d, by omega⟩
        rw [show (m : Int) - 1 - d = (j : Int) from by omega]
        have HJ := Lib.hid hj
        have hjm : j ≤ m := by omega
        have hjl : (j : Int) < (m : Int) + 1 := by omega
        have hbw := below_blk HL.out (Nat.le_refl _) HBG.out hglt
        have hcell : wr.cell? ⟨g, j, none⟩ = some (.int .u64 ((gt gs j : Nat) : Int)) := hbw.cell (by omega)
        have htabr := tab_gr htab2 (gr_below HL.out none)
        have hlast : gt gs j < B19 := HD.out j (by omega)
        have HTX := Lib.hid (show tx gs (m + 1) (d + 1) = tx gs (m + 1) d ++ (List.replicate (19 - nDigits (gt gs j)) 48 ++ decDigits (gt gs j)) from by
          rw [tx, show m + 1 - 2 - d = j from by omega])
        have HLEN := Lib.hid (show (tx gs (m + 1) d).length ≤ 5300000000000 from by
          have := tx_length HD.out d hd
          omega)
        clear hbw hj hdm
        go_wp2_with fail
        refine (formatUint_any (gt gs j) (by rw [B19_eq] at hlast; omega) _ htabr).mono ?_
        rintro x w5 ⟨rfl, k3, os3, rfl⟩
        have hg5 := gr_grow wr k3 os3 none
        have HB5 := Lib.hid (bld_kept HB.out hg5)
        have HL5 := Lib.hid (HL.out.trans (gr_low (B := w2.heap.size) hg5 HL.out.size))
        clear hg5 hcell
        generalize hw5 : Go.Sort.grow (wr.drewN k3) os3 = w5 at *
        clear hw5
        obtain ⟨t, ht⟩ : ∃ t : ByteArray, t = ⟨(decDigits (gt gs j)).toArray⟩ := ⟨_, rfl⟩
        have htl : t.data.toList = decDigits (gt gs j) := by rw [ht]
        have hts : t.size = nDigits (gt gs j) := by rw [← decDigits_length, ← htl]; rfl
        obtain ⟨c, hc⟩ : ∃ c, c + t.size = 19 := ⟨19 - t.size, by
          have := nDigits_le_of_lt 19 (gt gs j) (by decide) (by rw [← show B19 = 10 ^ 19 from by decide]; exact hlast)
          omega⟩
        have hci : ∀ z : Int, z = t.size → (19 : Int) - z = c := fun z hz => by omega
        rw [← ht]
        have HTL := Lib.hid htl
        have HTS := Lib.hid hts
        have htsz : t.size ≤ 19 := by omega
        have hc19 : c ≤ 19 := by omega
        have HC := Lib.hid hc
        clear ht htl hts hc
        go_wp2_with fail
        refine (Tryd.strings_Repeat ⟨#[48]⟩ c w5 (by omega) (by show 1 * c ≤ _; omega)).mono ?_
        rintro x w6 ⟨rfl, hl6⟩
        have HB6 := Lib.hid (bld_kept HB5.out (gr_below hl6 none))
        have HL6 := Lib.hid (HL5.out.trans (hl6.mono HL5.out.size))
        have hz : Lib.repeatL [48] c = List.replicate c 48 := by
          have := Lib.repeatL_replicate 48 1 c
          rwa [Nat.mul_one] at this
        rw [show (⟨#[48]⟩ : ByteArray).data.toList = [48] from rfl, hz]
        clear hl6 HB5 HL5
        go_wp2_with fail
        refine (writeString_any w2.heap.size w2.heap.size _ ⟨(List.replicate c 48).toArray⟩ w6 HB6.out (by have := HLEN.out; simp [ByteArray.size]; omega) HL6.out.size).mono ?_
        rintro x w7 ⟨rfl, hb7, hl7⟩
        have HB7 := Lib.hid hb7
        have HL7 := Lib.hid (HL6.out.trans hl7)
        clear hb7 hl7 HB6 HL6
        go_wp2_with fail
        refine (writeString_any w2.heap.size w2.heap.size _ t w7 HB7.out (by have := HLEN.out; simp; omega) HL7.out.size).mono ?_
        rintro x w8 ⟨rfl, hb8, hl8⟩
        have HB8 := Lib.hid (show Bld w2.heap.size w2.heap.size (tx gs (m + 1) (d + 1)) w8 from by
          rw [HTX.out, ← HTL.out]
          rw [show 19 - nDigits (gt gs j) = c from by have := HC.out; have := HTS.out; omega, ← List.append_assoc]
          exact hb8)
        have HL8 := Lib.hid (HL7.out.trans hl8)
        clear hb8 hl8 HB7 HL7
        go_wp2
        have := HJ.out
        refine ⟨⟨d + 1, by omega, by congr 1; omega, HB8, HL8⟩, ?_⟩
        show ((j : Int) - 1 + 1).toNat < ((j : Int) + 1).toNat
        omega
end Go.Proofs.YtoadjhmehgkeaaaDoor
namespace Go.Proofs.YtoadjhmehgkeaaaDoor
open Go.RowKit Mth Go.Lib

def isDig (c : UInt8) : Bool := decide (48 ≤ c.toNat) && decide (c.toNat ≤ 57)
def isTxt (l : List UInt8) : Bool := l.all isDig && (l == [48] || (!l.isEmpty && !(l.head? == some 48)))

theorem isTxt_bad {s : ByteArray} {i : Nat} (hi : i < s.size) (h : isDig s[i] = false) : isTxt s.data.toList = false := by
  have : s.data.toList.all isDig = false := by
    rw [Bool.eq_false_iff]
    intro ha
    rw [List.all_eq_true] at ha
    have hm : s[i] ∈ s.data.toList := by
      have : s[i] = s.data.toList[i]'(by simpa using hi) := rfl
      rw [this]; exact List.getElem_mem _
    rw [ha _ hm] at h
    cases h
  simp [isTxt, this]
theorem isTxt_good {s : ByteArray} (h : ∀ j (h : j < s.size), j < s.size → isDig s[j] = true) : isTxt s.data.toList = (s.data.toList == [48] || (!s.data.toList.isEmpty && !(s.data.toList.head? == some 48))) := by
  have : s.data.toList.all isDig = true := by
    rw [List.all_eq_true]
    intro x hx
    obtain ⟨j, hj, rfl⟩ := List.getElem_of_mem hx
    have hj' : j < s.size := by simpa using hj
    exact h j hj' hj'
  simp only [isTxt, this, Bool.true_and]

set_option maxHeartbeats 2000000 in
theorem isText_any (s : ByteArray) (w : World) (hs : s.size ≤ 9000000000000000000) :
    Calls Tryd.prog 46 #[.string s] w fun e w' => e = .returned (.bool (isTxt s.data.toList)) ∧ w.grownBy w' none := by
  go_enter Tryd.func46, Tryd.ntmps46
  go_wp2
  go_loopw [6] (fun v wr => ∃ i : Nat, i ≤ s.size ∧ v = .int .i64 i ∧ w.grownBy wr none ∧ Hid (∀ j (h : j < s.size), j < i → isDig s[j] = true)) (fun v _ => s.size - (RowKit.intOf v).toNat)
  case atStart => exact ⟨0, by omega, rfl, World.grownBy.refl _ _, fun j h1 h2 => by omega⟩
  case round =>
    obtain ⟨i, hi, rfl, hg, HA⟩ := hrel
    by_cases hlt : i < s.size
    · by_cases hd : isDig s[i] = true
      · have h1 : (48 : Int) ≤ (s[i].toNat : Int) := by simp only [isDig, Bool.and_eq_true, decide_eq_true_eq] at hd; omega
        have h2 : (s[i].toNat : Int) ≤ 57 := by simp only [isDig, Bool.and_eq_true, decide_eq_true_eq] at hd; omega
        have HD := Lib.hid hd
        clear hd
        go_wp2
        refine ⟨⟨i + 1, by omega, by simp, hg, fun j h1 h2 => ?_⟩, ?_⟩
        · by_cases e : j = i
          · subst e; exact HD.out
          · exact HA.out j h1 (by omega)
        · show s.size - ((i : Int) + 1).toNat < s.size - (i : Int).toNat
          omega
      · have HF := Lib.hid (isTxt_bad hlt (by simpa using hd))
        by_cases h1 : (s[i].toNat : Int) < 48
        · clear hd
          go_wp2
          go_ret
          exact ⟨by rw [HF.out]; rfl, hg⟩
        · have h2 : (57 : Int) < (s[i].toNat : Int) := by simp only [isDig, Bool.and_eq_true, decide_eq_true_eq] at hd; omega
          have h1 : (48 : Int) ≤ (s[i].toNat : Int) := by omega
          clear hd
          go_wp2
          go_ret
          exact ⟨by rw [HF.out]; rfl, hg⟩
    · have hie : i = s.size := by omega
      subst hie
      have HG := Lib.hid (isTxt_good HA.out)
      by_cases h0 : s = ⟨#[48]⟩
      · subst h0
        go_wp2
        go_ret
        exact ⟨rfl, hg⟩
      · by_cases he : s = ⟨#[]⟩
        · subst he
          go_wp2
          go_ret
          exact ⟨rfl, hg⟩
        · have hsz : 0 < s.size := by
            rcases Nat.eq_zero_or_pos s.size with h | h
            · exact absurd (by have : s.data = #[] := Array.eq_empty_of_size_eq_zero h
                               cases s; simp_all) he
            · exact h
          have hl1 : ¬ s.toList = [48] := fun e => h0 (by rw [ByteArray.toList_eq] at e; exact (toArray_eq s e.symm).symm)
          have hl2 : ¬ s.toList = [] := fun e => he (by rw [ByteArray.toList_eq] at e; exact (toArray_eq s e.symm).symm)
          go_wp2
          go_ret
          refine ⟨?_, hg⟩
          rw [HG.out, ByteArray.toList_eq]
          have hh : s.data.toList.head? = some s[0] := by
            rw [List.head?_eq_getElem?, List.getElem?_eq_getElem (by simpa using hsz)]; rfl
          rw [hh]
          have hb : ((s[0].toNat : Int) != 48) = !(some s[0] == some (48 : UInt8)) := by
            by_cases e : s[0] = 48
            · rw [e]; rfl
            · have : ¬ (s[0].toNat : Int) = 48 := fun h => e (by
                have h2 : s[0].toNat = 48 := by omega
                exact UInt8.toNat_inj.1 (by rw [h2]; rfl))
              rw [bne, beq_eq_false_iff_ne.2 this, beq_eq_false_iff_ne.2 (by simpa using e)]
          rw [← hb]; rfl

theorem parse_no (s : ByteArray) (w : World) (hs : s.size ≤ 9000000000000000000) (h : isTxt s.data.toList = false) :
    Calls Tryd.prog 27 #[.string s] w fun e w' => e = .returned (.tuple #[.string ⟨#[]⟩, .bool false]) ∧ w.grownBy w' none := by
  go_enter Tryd.func27, Tryd.ntmps27
  go_wp2_with fail
  refine (isText_any s w hs).mono ?_
  rintro e w1 ⟨rfl, hg⟩
  rw [h]
  go_wp2
  go_ret2
  exact ⟨rfl, hg⟩
end Go.Proofs.YtoadjhmehgkeaaaDoor
