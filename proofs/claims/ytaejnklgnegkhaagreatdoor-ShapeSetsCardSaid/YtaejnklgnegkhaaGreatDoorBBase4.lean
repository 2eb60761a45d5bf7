/- Contracts of the program and of the reference, part 4: Sl, Sm, Ps, Pv, Pw, Pd. -/
import Derived.Test.YtaejnklgnegkhaaGreatDoorBBase3
import Derived.RangeFuncNested
import Derived.RangeFuncBound
import Derived.RangeFuncCalls
import Derived.RangeFuncLeaves
import Derived.Shelf.Abstract
import Derived.Shelf.RegionOpen
import Derived.WalkKit
import Derived.OwnWalkIn
import Derived.TacticsInMore
import Derived.LoopNIn
import Derived.LoopIn
import Derived.BigRegionIn
import Derived.Sort.QuietIn
import Derived.Laws.CopyOwn
namespace Go.Proofs.YtaejnklgnegkhaaGreatDoor
open Go.RowKit Pt Sh

set_option maxRecDepth 100000 in
theorem ffirst_any (a b : ByteArray) (w : World) : Calls Tryz.prog 84 #[.string a, .string b] w fun e w' =>
    e = .returned (.func (.func 105) #[] #[.pointer (some ⟨w.heap.size, 0, none⟩), .pointer (some ⟨w.heap.size + 1, 0, none⟩)]) ∧
    (w.alloc (.cells #[.string a] 9)).alloc (.cells #[.string b] 9) = w' := by
  go_enter Tryz.func84, Tryz.ntmps84
  go_wp2
  go_ret
  exact ⟨rfl, rfl⟩
set_option maxRecDepth 100000 in
theorem flast_any (a b : ByteArray) (w : World) : Calls Tryz.prog 85 #[.string a, .string b] w fun e w' =>
    e = .returned (.func (.func 106) #[] #[.pointer (some ⟨w.heap.size, 0, none⟩), .pointer (some ⟨w.heap.size + 1, 0, none⟩)]) ∧
    (w.alloc (.cells #[.string a] 9)).alloc (.cells #[.string b] 9) = w' := by
  go_enter Tryz.func85, Tryz.ntmps85
  go_wp2
  go_ret
  exact ⟨rfl, rfl⟩
end Go.Proofs.YtaejnklgnegkhaaGreatDoor
namespace Go.Proofs.YtaejnklgnegkhaaGreatDoor
open Pt

namespace Sh
/-- How many pairs in front are pairs of equal bytes. -/
def eqn : List (UInt8 × UInt8) → Nat
  | [] => 0
  | p :: l => if p.1 = p.2 then eqn l + 1 else 0
theorem eqn_le : ∀ l, eqn l ≤ l.length
  | [] => Nat.le_refl _
  | p :: l => by
    unfold eqn
    split
    · have := eqn_le l; rw [List.length_cons]; omega
    · exact Nat.zero_le _
/-- All pairs of a list are equal. -/
def AllEq (l : List (UInt8 × UInt8)) : Prop := ∀ p ∈ l, p.1 = p.2
theorem eqn_all : ∀ {l : List (UInt8 × UInt8)}, AllEq l → eqn l = l.length
  | [], _ => rfl
  | p :: l, h => by
    unfold eqn
    rw [if_pos (h p (List.mem_cons_self ..)), eqn_all (fun q hq => h q (List.mem_cons_of_mem _ hq)), List.length_cons]
theorem eqn_stop : ∀ {pre : List (UInt8 × UInt8)} {p : UInt8 × UInt8} {l : List (UInt8 × UInt8)}, AllEq pre → p.1 ≠ p.2 → pre ++ [p] <+: l → eqn l = pre.length
  | [], p, l, _, hp, h => by
    obtain ⟨r, rfl⟩ := h
    show eqn (p :: r) = 0
    unfold eqn
    rw [if_neg hp]
  | q :: pre, p, l, ha, hp, h => by
    obtain ⟨r, rfl⟩ := h
    show eqn (q :: (pre ++ [p] ++ r)) = pre.length + 1
    unfold eqn
    rw [if_pos (ha q (List.mem_cons_self ..)), eqn_stop (l := pre ++ [p] ++ r) (fun x hx => ha x (List.mem_cons_of_mem _ hx)) hp ⟨r, rfl⟩]
theorem cpre_take : ∀ x y : List UInt8, cpre x y = x.take (eqn (x.zip y))
  | [], _ => by unfold cpre; simp
  | _ :: _, [] => by unfold cpre; rfl
  | x :: xs, y :: ys => by
    unfold cpre
    rw [List.zip_cons_cons]
    show _ = (x :: xs).take (eqn ((x, y) :: xs.zip ys))
    unfold eqn
    by_cases h : x = y
    · rw [if_pos h, if_pos h, List.take_succ_cons, cpre_take xs ys]
    · rw [if_neg h, if_neg h, List.take_zero]
theorem csuf_drop (x y : List UInt8) : csuf x y = x.drop (x.length - eqn (x.reverse.zip y.reverse)) := by
  unfold csuf
  rw [cpre_take, List.reverse_take, List.length_reverse, List.reverse_reverse]
theorem ba_take (s : ByteArray) (k : Nat) : s.extract 0 k = BA (s.data.toList.take k) := by
  apply ByteArray.ext
  rw [ByteArray.data_extract]
  apply Array.toList_inj.1
  simp [List.extract]
theorem ba_drop (s : ByteArray) (k : Nat) : s.extract k s.size = BA (s.data.toList.drop k) := by
  apply ByteArray.ext
  rw [ByteArray.data_extract]
  apply Array.toList_inj.1
  simp only [Array.toList_extract, List.extract]
  exact List.take_of_length_le (by rw [List.length_drop]; exact Nat.le_refl _)
/-- The pairs from the first bytes on, and from the last ones back. -/
abbrev pairsF (a b : ByteArray) : List (UInt8 × UInt8) := a.data.toList.zip b.data.toList
abbrev pairsL (a b : ByteArray) : List (UInt8 × UInt8) := a.data.toList.reverse.zip b.data.toList.reverse
theorem pairsF_len (a b : ByteArray) : (pairsF a b).length = min a.size b.size := by unfold pairsF; rw [List.length_zip]; rfl
theorem pairsL_len (a b : ByteArray) : (pairsL a b).length = min a.size b.size := by unfold pairsL; rw [List.length_zip, List.length_reverse, List.length_reverse]; rfl
theorem pairsF_at {a b : ByteArray} {j : Nat} (h1 : j < a.size) (h2 : j < b.size) : (pairsF a b)[j]? = some (a[j], b[j]) := by
  have e1 : a.data.toList[j]? = some a[j] := List.getElem?_eq_getElem (l := a.data.toList) (show j < a.data.toList.length from h1)
  have e2 : b.data.toList[j]? = some b[j] := List.getElem?_eq_getElem (l := b.data.toList) (show j < b.data.toList.length from h2)
  unfold pairsF
  rw [List.getElem?_zip_eq_some]
  exact ⟨e1, e2⟩
theorem rev_at {s : ByteArray} {j : Nat} (h : j < s.size) : s.data.toList.reverse[j]? = some (s[s.size - 1 - j]'(by omega)) := by
  have hl : s.data.toList.length = s.size := rfl
  rw [List.getElem?_reverse (by omega), hl]
  exact List.getElem?_eq_getElem (l := s.data.toList) (show s.size - 1 - j < s.data.toList.length by omega)
theorem pairsL_at {a b : ByteArray} {j : Nat} (h1 : j < a.size) (h2 : j < b.size) : (pairsL a b)[j]? = some (a[a.size - 1 - j]'(by omega), b[b.size - 1 - j]'(by omega)) := by
  unfold pairsL
  rw [List.getElem?_zip_eq_some]
  exact ⟨rev_at h1, rev_at h2⟩
theorem zip_next {l : List (UInt8 × UInt8)} {j : Nat} {p : UInt8 × UInt8} (h : l[j]? = some p) : l.take (j + 1) = l.take j ++ [p] := by
  obtain ⟨hj, rfl⟩ := List.getElem?_eq_some_iff.1 h
  exact List.take_succ_eq_append_getElem hj
theorem begin_eq (a b : ByteArray) : a.extract 0 (eqn (pairsF a b)) = BA (cpre a.data.toList b.data.toList) := by rw [ba_take, cpre_take]
theorem end_eq (a b : ByteArray) : a.extract (a.size - eqn (pairsL a b)) a.size = BA (csuf a.data.toList b.data.toList) := by rw [ba_drop, csuf_drop]; rfl
theorem eqnF_le (a b : ByteArray) : eqn (pairsF a b) ≤ a.size := by have := eqn_le (pairsF a b); rw [pairsF_len] at this; omega
theorem eqnL_le (a b : ByteArray) : eqn (pairsL a b) ≤ a.size := by have := eqn_le (pairsL a b); rw [pairsL_len] at this; omega
end Sh
end Go.Proofs.YtaejnklgnegkhaaGreatDoor
namespace Go.Proofs.YtaejnklgnegkhaaGreatDoor
namespace Pt

--BEGIN
/-- The ends before a place. -/
def endsTo (p : Pc) (s : List UInt8) (i e : Nat) : List Nat := (List.range e).filter (stp p s i)
theorem endsTo_zero {p : Pc} {s : List UInt8} {i : Nat} : endsTo p s i i = [] := by
  unfold endsTo
  rw [List.filter_eq_nil_iff]
  intro m hm h
  have := (stp_le h).1
  rw [List.mem_range] at hm
  omega
theorem endsTo_succ {p : Pc} {s : List UInt8} {i e : Nat} : endsTo p s i (e + 1) = endsTo p s i e ++ (if stp p s i e then [e] else []) := by
  unfold endsTo
  rw [List.range_succ, List.filter_append]
  congr 1
  cases h : stp p s i e <;> simp [h]
theorem endsTo_yes {p : Pc} {s : List UInt8} {i e : Nat} (h : stp p s i e = true) : endsTo p s i (e + 1) = endsTo p s i e ++ [e] := by rw [endsTo_succ, if_pos h]
theorem endsTo_no {p : Pc} {s : List UInt8} {i e : Nat} (h : stp p s i e = false) : endsTo p s i (e + 1) = endsTo p s i e := by rw [endsTo_succ, if_neg (by rw [h]; simp), List.append_nil]
theorem endsTo_done {p : Pc} {s : List UInt8} {i e : Nat} (h : ∀ j, e ≤ j → stp p s i j = false) : endsTo p s i e = endsL p s i := by
  have key : ∀ k, endsTo p s i (e + k) = endsTo p s i e := by
    intro k
    induction k with
    | zero => rfl
    | succ k ih => rw [← Nat.add_assoc, endsTo_no (h _ (by omega)), ih]
  have key2 : ∀ k, endsTo p s i (s.length + 1 + k) = endsTo p s i (s.length + 1) := by
    intro k
    induction k with
    | zero => rfl
    | succ k ih =>
      rw [← Nat.add_assoc, endsTo_no, ih]
      rw [Bool.eq_false_iff]
      intro h'
      have := (stp_le h').2
      omega
  have e1 := key (s.length + 1)
  have e2 := key2 e
  rw [show s.length + 1 + e = e + (s.length + 1) from by omega] at e2
  rw [← e1, e2]
  rfl
theorem endsTo_len {p : Pc} {s : List UInt8} {i e : Nat} : (endsTo p s i e).length ≤ e := by
  unfold endsTo
  have := List.length_filter_le (stp p s i) (List.range e)
  rwa [List.length_range] at this
/-- A run: whether an end is one. -/
theorem stp_run {p : Pc} {s : List UInt8} {i e : Nat} (hk : p.k ≠ 0) (hie : i ≤ e) (he : e ≤ s.length) (hall : allD (prt s i e) p.k = true) (hb : (e : Int) ≤ (i : Int) + p.b) : stp p s i e = decide ((i : Int) + p.a ≤ (e : Int)) := by
  unfold stp
  rw [if_neg hk, decide_eq_true hie, decide_eq_true he, hall, decide_eq_true (show ((e - i : Nat) : Int) ≤ p.b from by omega)]
  rw [Bool.true_and, Bool.true_and, Bool.and_true, Bool.and_true]
  rw [decide_eq_decide]
  omega
/-- Past the greatest length there is none. -/
theorem stp_past {p : Pc} {s : List UInt8} {i e : Nat} (hk : p.k ≠ 0) (hb : (i : Int) + p.b < (e : Int)) : stp p s i e = false := by
  rw [Bool.eq_false_iff]
  intro h
  have hl := stp_le h
  unfold stp at h
  rw [if_neg hk] at h
  simp only [Bool.and_eq_true, decide_eq_true_eq] at h
  have := h.2.1.2
  omega
theorem stp_over {p : Pc} {s : List UInt8} {i e : Nat} (he : s.length < e) : stp p s i e = false := by
  rw [Bool.eq_false_iff]
  intro h
  have hl := stp_le h
  omega
theorem prt_self {s : List UInt8} {i : Nat} : prt s i i = [] := by unfold prt; rw [Nat.sub_self, List.take_zero]
/-- A literal: it stands at the place or not. -/
theorem ends_lit {p : Pc} {s : List UInt8} {i : Nat} (hk : p.k = 0) (hi : i ≤ s.length) : endsL p s i = if (prt s i (i + p.t.size)) == p.t.data.toList then [i + p.t.size] else [] := by
  have hl : p.t.data.toList.length = p.t.size := rfl
  have key : ∀ m, stp p s i m = (decide (m = i + p.t.size) && (prt s i (i + p.t.size) == p.t.data.toList)) := by
    intro m
    rw [Bool.eq_iff_iff, Bool.and_eq_true, decide_eq_true_eq]
    constructor
    · intro h
      have h1 := stp_le h
      unfold stp at h
      rw [if_pos hk, Bool.and_eq_true] at h
      have h2 := h.2
      rw [beq_iff_eq] at h2
      have h3 := prt_len (s := s) (i := i) (j := m) h1.2
      rw [h2, hl] at h3
      have h4 : m = i + p.t.size := by omega
      subst h4
      exact ⟨rfl, by rw [h2]; simp⟩
    · rintro ⟨rfl, h⟩
      rw [beq_iff_eq] at h
      have h3 : (prt s i (i + p.t.size)).length = p.t.size := by rw [h, hl]
      unfold prt at h3
      rw [List.length_take, List.length_drop] at h3
      unfold stp
      rw [if_pos hk, h, decide_eq_true (show i ≤ i + p.t.size from by omega), decide_eq_true (show i + p.t.size ≤ s.length from by omega)]
      simp
  have e : endsL p s i = (List.range (s.length + 1)).filter (fun m => decide (m = i + p.t.size) && (prt s i (i + p.t.size) == p.t.data.toList)) := by
    unfold endsL
    exact congrArg (fun f => List.filter f _) (funext key)
  rw [e]
  cases hp : (prt s i (i + p.t.size) == p.t.data.toList) with
  | false => simp
  | true =>
    have h' := hp
    rw [beq_iff_eq] at h'
    have h3 : (prt s i (i + p.t.size)).length = p.t.size := by rw [h', hl]
    unfold prt at h3
    rw [List.length_take, List.length_drop] at h3
    simp only [Bool.and_true]
    rw [if_pos trivial]
    have hlt : i + p.t.size < s.length + 1 := by omega
    generalize i + p.t.size = m at *
    have key3 : ∀ n, m < n → (List.range n).filter (fun x => decide (x = m)) = [m] := by
      intro n
      induction n with
      | zero => intro h; omega
      | succ n ih =>
        intro h
        rw [List.range_succ, List.filter_append]
        rcases Nat.lt_or_ge m n with h5 | h5
        · rw [ih h5]
          simp [show ¬ n = m from by omega]
        · have : n = m := by omega
          subst this
          rw [show (List.range n).filter (fun x => decide (x = n)) = [] from by
            rw [List.filter_eq_nil_iff]
            intro x hx hx2
            rw [List.mem_range] at hx
            rw [decide_eq_true_eq] at hx2
            omega]
          simp
    exact key3 _ hlt
theorem gr_cons (p : Pc) (ps : List Pc) (s : List UInt8) (i : Nat) : gr (p :: ps) s i = (endsL p s i).foldl (fun acc m => max acc (gr ps s m)) (-1) := rfl
theorem gr_ge {ps : List Pc} {s : List UInt8} {i : Nat} (hi : i ≤ s.length) : -1 ≤ gr ps s i ∧ gr ps s i ≤ s.length := by
  rcases gr_spec ps s i hi with ⟨h, _⟩ | ⟨j, h, h2, _⟩
  · rw [h]; omega
  · have := (rch_le h2).2
    rw [h]; omega
--END
end Pt
end Go.Proofs.YtaejnklgnegkhaaGreatDoor
namespace Go.Proofs.YtaejnklgnegkhaaGreatDoor
open Go.RowKit Go.Shelf Pt
attribute [local go_sem] Oper.semAt_some

/-- The three variables that the closure holds: a piece, a string, a place. -/
structure E4 (W : World) (B : Nat) (p : Pc) (s : ByteArray) (i : Nat) : Prop where
  k : W.cell? ⟨B, 0, none⟩ = some (.int .i64 p.k)
  a : W.cell? ⟨B, 1, none⟩ = some (.int .i64 p.a)
  b : W.cell? ⟨B, 2, none⟩ = some (.int .i64 p.b)
  t : W.cell? ⟨B, 3, none⟩ = some (.string p.t)
  s : W.cell? ⟨B + 1, 0, none⟩ = some (.string s)
  i : W.cell? ⟨B + 1 + 1, 0, none⟩ = some (.int .i64 (i : Int))
/-- What a round must keep for the iterator. -/
def KpE (B : Nat) (W W' : World) : Prop := ∀ b, B ≤ b → b ≤ B + 2 → ∀ i v, W.cell? ⟨b, i, none⟩ = some v → W'.cell? ⟨b, i, none⟩ = some v
theorem KpE.trans {B : Nat} {W1 W2 W3 : World} (h : KpE B W1 W2) (g : KpE B W2 W3) : KpE B W1 W3 := fun b h1 h2 i v hv => g b h1 h2 i v (h b h1 h2 i v hv)
theorem KpE.of_grown {B : Nat} {W W' : World} {row : Option Nat} (hg : W.grownBy W' row) (h : ∀ b, B ≤ b → b ≤ B + 2 → row ≠ some b) : KpE B W W' :=
  fun b h1 h2 _ _ hc => hg.cell hc (fun e => h b h1 h2 e.symm)
theorem E4.kept {W W' : World} {B : Nat} {p : Pc} {s : ByteArray} {i : Nat} (h : E4 W B p s i) (hk : KpE B W W') : E4 W' B p s i :=
  ⟨hk _ (by omega) (by omega) _ _ h.k, hk _ (by omega) (by omega) _ _ h.a, hk _ (by omega) (by omega) _ _ h.b, hk _ (by omega) (by omega) _ _ h.t, hk _ (by omega) (by omega) _ _ h.s, hk _ (by omega) (by omega) _ _ h.i⟩
theorem E4.grown {W W' : World} {B : Nat} {p : Pc} {s : ByteArray} {i : Nat} (h : E4 W B p s i) (hg : W.grownBy W' none) : E4 W' B p s i :=
  h.kept (KpE.of_grown hg (fun _ _ _ => by simp))
/-- A place in a text of so many bytes. -/
abbrev Upto (L : Nat) := { m : Nat // m ≤ L }
/-- What has come is all ends, in order. -/
def SEnds (L : Nat) (p : Pc) (s : List UInt8) (i : Nat) (xs : List (Upto L)) : Prop := xs.map (·.1) = endsL p s i
def AnyL {α : Type} (_ : List α) : Prop := True
abbrev encE (L : Nat) (x : Upto L) : Array Value := #[Value.int .i64 (x.1 : Int)]

set_option maxRecDepth 100000 in
theorem endsOf_any (k a b : Int) (t s : ByteArray) (i : Int) (w : World) : Calls Tryz.prog 98 #[pcv k a b t, .string s, .int .i64 i] w fun e w' =>
    e = .returned (.func (.func 121) #[] #[.pointer (some ⟨w.heap.size, 0, none⟩), .pointer (some ⟨w.heap.size + 1, 0, none⟩), .pointer (some ⟨w.heap.size + 1 + 1, 0, none⟩)]) ∧
    ((w.alloc (.cells #[.int .i64 k, .int .i64 a, .int .i64 b, .string t] 52)).alloc (.cells #[.string s] 9)).alloc (.cells #[.int .i64 i] 3) = w' := by
  go_enter Tryz.func98, Tryz.ntmps98
  go_wp2
  go_ret
  exact ⟨rfl, rfl⟩

theorem gr_drewN (w : World) (n : Nat) (row : Option Nat) : w.grownBy (w.drewN n) row := ⟨rfl, rfl, rfl, Nat.le_refl _, fun _ _ _ => rfl⟩
theorem prefix_take (p l : List UInt8) : p.isPrefixOf l = decide (l.take p.length = p) := by
  rw [Bool.eq_iff_iff, decide_eq_true_eq, List.isPrefixOf_iff_prefix, List.prefix_iff_eq_take, eq_comm]
theorem pre_prt (s t : ByteArray) (i : Nat) : Lib.hasPrefix (s.extract i s.size).data.toList t.data.toList = (prt s.data.toList i (i + t.size) == t.data.toList) := by
  unfold Lib.hasPrefix prt
  rw [prefix_take, show i + t.size - i = t.data.toList.length from by rw [len_toList]; omega]
  have e : (s.extract i s.size).data.toList = s.data.toList.drop i := by
    rw [ByteArray.data_extract]
    simp only [Array.toList_extract, List.extract]
    exact List.take_of_length_le (by rw [List.length_drop]; show s.data.size - i ≤ s.size - i; exact Nat.le_refl _)
  rw [e]
  rw [Bool.eq_iff_iff, decide_eq_true_eq, beq_iff_eq]
set_option maxRecDepth 100000 in
set_option maxHeartbeats 2000000 in
theorem endsOf_stops (n B : Nat) (p : Pc) (s : ByteArray) (i : Nat) (w : World) (hc : E4 w B p s i) (hi : i ≤ s.size) (hs : s.size ≤ 1000000) (ha : 0 ≤ p.a) (ha1 : p.a ≤ 1000) (hb : p.b ≤ 1000) (hb0 : 0 ≤ p.b) (ht : p.t.size ≤ 1000) :
    SeqStopsK Fence.wide n Tryz.prog 121 #[.pointer (some ⟨B, 0, none⟩), .pointer (some ⟨B + 1, 0, none⟩), .pointer (some ⟨B + 1 + 1, 0, none⟩)] (encE s.size) (KpE B) (SEnds s.size p s.data.toList i) AnyL (s.size + 1) w := fun l J Jx W hbl hJ _ hY h0 => by
  have hcW : E4 W B p s i := by
    have key : ∀ b i v, w.cell? ⟨b, i, none⟩ = some v → W.cell? ⟨b, i, none⟩ = some v := fun b i v h => by
      rw [hbl.cell (p := ⟨b, i, none⟩) (World.block_lt_of_cell? w _ h)]; exact h
    exact ⟨key _ _ _ hc.k, key _ _ _ hc.a, key _ _ _ hc.b, key _ _ _ hc.t, key _ _ _ hc.s, key _ _ _ hc.i⟩
  have HE := Lib.hid hcW
  obtain ⟨e1, e2, e3, e4, e5, e6⟩ := hcW
  have HPL := Lib.hid (plit_any p.k p.a p.b p.t)
  refine callsIn_of_wp Tryz.func121 rfl trivial ?_ rfl
  simp only [Tryz.ntmps121, List.size_toArray, List.length_cons, List.length_nil, Nat.reduceAdd, Nat.reduceSub, Array.replicate_succ, Array.replicate_zero, List.push_toArray, List.append_toArray, List.nil_append, List.cons_append]
  clear hc hbl
  gi_wp2
  refine ⟨trivial, fun h => absurd h (by decide), ?_⟩
  refine (callsIn_wide.2 (HPL.out _)).mono ?_
  rintro e w1 ⟨rfl, g1⟩
  have hJ1 : J [] w1 := hJ _ _ _ _ h0 g1 (fun _ e => by cases e)
  have HE1 := Lib.hid (HE.out.grown g1)
  clear e1 e2 e3 e4 e5 e6 h0 g1 HE
  obtain ⟨e1, e2, e3, e4, e5, e6⟩ := HE1.out
  cases hk : (p.k == 0)
  case true =>
    have hk0 : p.k = 0 := by simpa using hk
    have HEL := Lib.hid (ends_lit (p := p) (s := s.data.toList) (i := i) hk0 hi)
    have HPP := Lib.hid (pre_prt s p.t i)
    have HP := Lib.hid (Tryz.strings_HasPrefix (s.extract i s.size) p.t)
    clear hk hk0
    gi_wp2
    refine wpIn_region_quiet_lit rfl (by kernel_rfl) (by kernel_rfl) ?_
    repeat (gi_big_quiet_step (fail))
    refine wpQuietIn_step (fun _ _ _ _ => trivial) (fun K hK => ?_)
    go_simp
    refine ⟨_, fun a => ⟨fun h => absurd h (by decide), CallsIn.quiet_of_same (callsIn_wide.2 (HP.out _))⟩, hK _ ?_⟩
    clear hK K
    repeat (gi_big_quiet_step (fail))
    refine wpQuietIn_nil ?_
    rintro _ ⟨nq, rfl⟩
    rw [HPP.out]
    have hJ2 : J [] (w1.drewN nq) := hJ _ _ _ _ hJ1 (gr_drewN _ _ none) (fun _ e => by cases e)
    cases hb : (prt s.data.toList i (i + p.t.size) == p.t.data.toList) with
    | false =>
      have HX := Lib.hid (show endsL p s.data.toList i = [] from by rw [HEL.out, hb]; rfl)
      clear hb
      gi_wp2
      refine bodyPost_ret (results_none rfl _ _ _) rfl ?_
      exact ⟨⟨_, rfl⟩, .inl ⟨[], HX.out.symm, hJ2⟩⟩
    | true =>
      have HX := Lib.hid (show endsL p s.data.toList i = [i + p.t.size] from by rw [HEL.out, hb]; rfl)
      have hle : i + p.t.size ≤ s.size := (stp_le (mem_endsL.1 (show i + p.t.size ∈ endsL p s.data.toList i from by rw [HX.out]; simp))).2
      obtain ⟨fn, tmps, assign, body, hy, hR⟩ := hY [] ⟨i + p.t.size, hle⟩ _ hJ2 (by simp)
      rw [show encE s.size ⟨i + p.t.size, hle⟩ = #[Value.int .i64 ((i : Int) + (p.t.size : Int))] from by simp [encE]] at hy
      clear hb
      gi_wp2
      refine ⟨fun h => absurd h (by decide), ?_⟩
      refine hR.mono ?_
      rintro e' W3 (⟨rfl, hJ3, hk3⟩ | ⟨rfl, hJx3⟩)
      · clear hy
        gi_wp2
        refine bodyPost_ret (results_none rfl _ _ _) rfl ?_
        exact ⟨⟨_, rfl⟩, .inl ⟨_, (show SEnds _ _ _ _ _ from by unfold SEnds; rw [HX.out]; rfl), hJ3⟩⟩
      · clear hy
        gi_wp2
        refine bodyPost_ret (results_none rfl _ _ _) rfl ?_
        exact ⟨⟨_, rfl⟩, .inr ⟨_, (show AnyL _ from trivial), hJx3⟩⟩
  case false =>
    have hk0 : p.k ≠ 0 := by simpa using hk
    have HK := Lib.hid hk0
    clear hk hk0
    gi_wp2
    gi_loopw [5] (fun v wr => ∃ (e : Nat) (pre : List (Upto s.size)), v = .int .i64 (e : Int) ∧ i ≤ e ∧ e ≤ s.size + 1 ∧ Hid (pre.map (·.1) = endsTo p s.data.toList i e) ∧ Hid (e = i ∨ allD (prt s.data.toList i (e - 1)) p.k = true) ∧ J pre wr ∧ Hid (E4 wr B p s i)) (fun v _ => s.size + 2 - (intOf v).toNat)
    case atStart => exact ⟨i, [], rfl, Nat.le_refl _, by omega, Lib.hid endsTo_zero.symm, Lib.hid (.inl rfl), hJ1, HE1⟩
    case round =>
      clear e1 e2 e3 e4 e5 e6
      obtain ⟨e, pre, rfl, hie, hes, HPR, HA, hJr, HEr⟩ := hrel
      obtain ⟨e1, e2, e3, e4, e5, e6⟩ := HEr.out
      have HF := Lib.hid (fun (h : ∀ j, e ≤ j → stp p s.data.toList i j = false) => show pre.map (·.1) = endsL p s.data.toList i from by rw [HPR.out]; exact endsTo_done h)
      by_cases h1 : e ≤ s.size
      · by_cases h2 : (e : Int) ≤ (i : Int) + p.b
        · by_cases hei : e = i
          · have HS := Lib.hid (show stp p s.data.toList i e = decide ((i : Int) + p.a ≤ (e : Int)) from stp_run HK.out hie h1 (by rw [hei, prt_self]; rfl) (by omega))
            have hd : decide (i < e) = false := by rw [decide_eq_false_iff_not]; omega
            have HAN := Lib.hid (show allD (prt s.data.toList i e) p.k = true from by rw [hei, prt_self]; rfl)
            have HEI := Lib.hid hei
            clear hei
            gi_wp2
            refine wpIn_region_quiet_lit rfl (by kernel_rfl) (by kernel_rfl) ?_
            repeat (gi_big_quiet_step (fail))
            refine BigFrame.wpQuietIn_skip (fun _ _ _ _ => trivial) (by rfl) ?_
            simp only [Act.put, List.setIfInBounds_toArray, List.set_cons_zero, List.set_cons_succ]
            repeat (gi_big_quiet_step (fail))
            refine wpQuietIn_nil ?_
            rintro _ ⟨nq, rfl⟩
            have hJ2 : J pre (wr.drewN nq) := hJ _ _ _ _ hJr (gr_drewN _ _ none) (fun _ e => by cases e)
            have HE2 := Lib.hid (HEr.out.grown (gr_drewN _ nq none))
            have hpl : pre.length < s.size + 1 := by
              have h5 := congrArg List.length HPR.out
              rw [List.length_map] at h5
              have h6 := endsTo_len (p := p) (s := s.data.toList) (i := i) (e := e)
              omega
            by_cases h3 : (i : Int) + p.a ≤ (e : Int)
            · have HN := Lib.hid (show endsTo p s.data.toList i (e + 1) = endsTo p s.data.toList i (e) ++ [e] from endsTo_yes (by rw [HS.out]; exact decide_eq_true (by omega)))
              obtain ⟨fn, tmps, assign, body, hy, hR⟩ := hY pre ⟨e, h1⟩ _ hJ2 hpl
              rw [show encE s.size ⟨e, h1⟩ = #[Value.int .i64 (e : Int)] from by simp [encE]] at hy
              gi_wp2
              refine ⟨fun h => absurd h (by decide), ?_⟩
              refine hR.mono ?_
              rintro e' W3 (⟨rfl, hJ3, hk3⟩ | ⟨rfl, hJx3⟩)
              · have HE3 := Lib.hid (HE2.out.kept hk3)
                clear hy hk3 e1 e2 e3 e4 e5 e6
                gi_wp2
                refine ⟨⟨e + 1, pre ++ [⟨e, h1⟩], by first | rfl | simp, by omega, by omega, Lib.hid (by rw [HN.out, List.map_append, HPR.out]; rfl), Lib.hid (.inr HAN.out), hJ3, HE3⟩, ?_⟩
                simp only [intOf]
                omega
              · clear hy
                gi_wp2
                refine bodyPost_ret (results_none rfl _ _ _) rfl ?_
                exact ⟨⟨_, rfl⟩, .inr ⟨_, (show AnyL _ from trivial), hJx3⟩⟩
            · have HN := Lib.hid (show endsTo p s.data.toList i (e + 1) = endsTo p s.data.toList i (e) from endsTo_no (by rw [HS.out]; exact decide_eq_false (by omega)))
              have h3d : decide ((i : Int) + p.a ≤ (e : Int)) = false := decide_eq_false h3
              clear h3
              gi_wp2
              refine ⟨fun _ h => (by cases h), ?_⟩
              gi_wp2
              refine ⟨⟨e + 1, pre, by first | rfl | simp, by omega, by omega, Lib.hid (by rw [HN.out, HPR.out]), Lib.hid (.inr HAN.out), hJ2, HE2⟩, ?_⟩
              simp only [intOf]
              omega
          · obtain ⟨m, hem⟩ : ∃ m, e = m + 1 := ⟨e - 1, by omega⟩
            have hem1 : (e : Int) - 1 = (m : Int) := by omega
            have HEM := Lib.hid hem
            have hd : (i : Int) < (e : Int) := by omega
            have hm1 : (m : Int) < (s.size : Int) := by omega
            have hm2 : m < s.size := by omega
            have him : i ≤ m := by omega
            have HB := Lib.hid (pbel_any s[m].toNat p.k · (by have := s[m].toNat_lt; omega))
            clear hem
            gi_wp2
            refine wpIn_region_quiet_lit rfl (by kernel_rfl) (by kernel_rfl) ?_
            repeat (gi_big_quiet_step (fail))
            refine wpQuietIn_step (fun _ _ _ _ => trivial) (fun K hK => ?_)
            go_simp
            refine ⟨_, fun a => ⟨fun h => absurd h (by decide), CallsIn.quiet_of_same (callsIn_wide.2 ((HB.out _).mono fun _ _ h => ⟨h.1, h.2.symm⟩))⟩, hK _ ?_⟩
            clear hK K
            cases hbb : belD s[m].toNat p.k
            case false =>
              have HD := Lib.hid (show pre.map (·.1) = endsL p s.data.toList i from by
                rw [HPR.out]
                exact endsTo_done (fun j hj => stp_stop HK.out (e := m) him (show m < s.data.toList.length from hm2) hbb j (by have := HEM.out; omega)))
              clear hbb
              repeat (gi_big_quiet_step (fail))
              refine wpQuietIn_nil ?_
              rintro _ ⟨nq, rfl⟩
              have hJ2 : J pre (wr.drewN nq) := hJ _ _ _ _ hJr (gr_drewN _ _ none) (fun _ e => by cases e)
              gi_wp2
              refine bodyPost_ret (results_none rfl _ _ _) rfl ?_
              exact ⟨⟨_, rfl⟩, .inl ⟨_, HD.out, hJ2⟩⟩
            case true =>
              have HAN := Lib.hid (show allD (prt s.data.toList i e) p.k = true from by
                rw [HEM.out, prt_next him (show m < s.data.toList.length from hm2), allD_snoc]
                rcases HA.out with h | h
                · omega
                · rw [HEM.out, show m + 1 - 1 = m from rfl] at h
                  rw [h]
                  exact hbb)
              have HS := Lib.hid (show stp p s.data.toList i (e) = decide ((i : Int) + p.a ≤ ((e : Nat) : Int)) from stp_run HK.out hie h1 HAN.out (by omega))
              clear hbb
              repeat (gi_big_quiet_step (fail))
              refine wpQuietIn_nil ?_
              rintro _ ⟨nq, rfl⟩
              have hJ2 : J pre (wr.drewN nq) := hJ _ _ _ _ hJr (gr_drewN _ _ none) (fun _ e => by cases e)
              have HE2 := Lib.hid (HEr.out.grown (gr_drewN _ nq none))
              have hpl : pre.length < s.size + 1 := by
                have h5 := congrArg List.length HPR.out
                rw [List.length_map] at h5
                have h6 := endsTo_len (p := p) (s := s.data.toList) (i := i) (e := e)
                omega
              by_cases h3 : (i : Int) + p.a ≤ (e : Int)
              · have HN := Lib.hid (show endsTo p s.data.toList i (e + 1) = endsTo p s.data.toList i (e) ++ [e] from endsTo_yes (by rw [HS.out]; exact decide_eq_true (by omega)))
                obtain ⟨fn, tmps, assign, body, hy, hR⟩ := hY pre ⟨e, h1⟩ _ hJ2 hpl
                rw [show encE s.size ⟨e, h1⟩ = #[Value.int .i64 (e : Int)] from by simp [encE]] at hy
                gi_wp2
                refine ⟨fun h => absurd h (by decide), ?_⟩
                refine hR.mono ?_
                rintro e' W3 (⟨rfl, hJ3, hk3⟩ | ⟨rfl, hJx3⟩)
                · have HE3 := Lib.hid (HE2.out.kept hk3)
                  clear hy hk3 e1 e2 e3 e4 e5 e6
                  gi_wp2
                  refine ⟨⟨e + 1, pre ++ [⟨e, h1⟩], by first | rfl | simp, by omega, by omega, Lib.hid (by rw [HN.out, List.map_append, HPR.out]; rfl), Lib.hid (.inr HAN.out), hJ3, HE3⟩, ?_⟩
                  simp only [intOf]
                  omega
                · clear hy
                  gi_wp2
                  refine bodyPost_ret (results_none rfl _ _ _) rfl ?_
                  exact ⟨⟨_, rfl⟩, .inr ⟨_, (show AnyL _ from trivial), hJx3⟩⟩
              · have HN := Lib.hid (show endsTo p s.data.toList i (e + 1) = endsTo p s.data.toList i (e) from endsTo_no (by rw [HS.out]; exact decide_eq_false (by omega)))
                have h3d : decide ((i : Int) + p.a ≤ (e : Int)) = false := decide_eq_false h3
                clear h3
                gi_wp2
                refine ⟨fun _ h => (by cases h), ?_⟩
                gi_wp2
                refine ⟨⟨e + 1, pre, by first | rfl | simp, by omega, by omega, Lib.hid (by rw [HN.out, HPR.out]), Lib.hid (.inr HAN.out), hJ2, HE2⟩, ?_⟩
                simp only [intOf]
                omega
        · have HD := Lib.hid (HF.out (fun j hj => stp_past HK.out (by omega)))
          gi_wp2
          go_end0
          exact ⟨⟨_, rfl⟩, .inl ⟨_, HD.out, hJr⟩⟩
      · have HD := Lib.hid (HF.out (fun j hj => stp_over (by show s.size < j; omega)))
        gi_wp2
        go_end0
        exact ⟨⟨_, rfl⟩, .inl ⟨_, HD.out, hJr⟩⟩
end Go.Proofs.YtaejnklgnegkhaaGreatDoor
namespace Go.Proofs.YtaejnklgnegkhaaGreatDoor
open Go.RowKit Go.Shelf Pt
attribute [local go_sem] Oper.semAt_some

/-- The marks that ranges over functions have left among the deferred calls. -/
def Marks (lo : Nat) (W : World) : List Deferred → Prop
  | [] => True
  | d :: ds => ∃ D, d = { target := .collected D, args := #[] } ∧ lo ≤ D ∧ W.heap[D]? = some (.deferred (some [])) ∧ (∀ d' ∈ ds, d'.target ≠ .collected D) ∧ Marks lo W ds
theorem Marks.of_blocks {lo : Nat} {W W' : World} : ∀ {ds : List Deferred}, Marks lo W ds → (∀ k, lo ≤ k → W.heap[k]? = some (.deferred (some [])) → (∃ d ∈ ds, d.target = .collected k) → W'.heap[k]? = W.heap[k]?) → Marks lo W' ds
  | [], _, _ => trivial
  | d :: ds, ⟨D, hd, hlo, hD, hne, hm⟩, hk => ⟨D, hd, hlo, (hk D hlo hD ⟨d, by simp, by rw [hd]⟩).trans hD, hne, hm.of_blocks fun k h1 h2 ⟨d', h3, h4⟩ => hk k h1 h2 ⟨d', List.mem_cons_of_mem _ h3, h4⟩⟩
theorem Marks.grown {lo : Nat} {W W' : World} {ds : List Deferred} (h : Marks lo W ds) (hg : W.grownBy W' none) : Marks lo W' ds :=
  h.of_blocks fun k _ hk _ => hg.block k (Array.getElem?_eq_some_iff.1 hk).1 (by simp)
theorem Marks.set {lo b i : Nat} {W : World} {v : Value} {cs : List Value} {t : TypeId} {ds : List Deferred} (h : Marks lo W ds) (hb : Row W b cs t) : Marks lo (W.setCell ⟨b, i, none⟩ v) ds :=
  h.of_blocks fun k _ hk _ => Below.heap_setCell _ _ _ _ (by intro e; subst e; unfold Row at hb; rw [hk] at hb; cases hb)
theorem Marks.mem {lo : Nat} {W : World} : ∀ {ds : List Deferred}, Marks lo W ds → ∀ {d : Deferred}, d ∈ ds → ∃ D, d.target = .collected D ∧ lo ≤ D ∧ W.heap[D]? = some (.deferred (some []))
  | d' :: ds, ⟨D, hd, hlo, hD, _, hm⟩, d, hmem => by
    rcases List.mem_cons.1 hmem with rfl | h
    · exact ⟨D, by rw [hd], hlo, hD⟩
    · exact hm.mem h
/-- A new mark. -/
theorem Marks.cons {lo D : Nat} {W : World} {ds : List Deferred} (h : Marks lo W ds) (hlo : lo ≤ D) (hD : W.heap[D]? = some (.deferred (some []))) (hlt : ∀ d ∈ ds, d.target ≠ .collected D) : Marks lo W ({ target := .collected D, args := #[] } :: ds) :=
  ⟨D, rfl, hlo, hD, hlt, h⟩
/-- A function leaves with its marks. -/
theorem leaves_marks {F : Fence} {n : Nat} {P : Program} {fn : Func} {tmps : Array Value} {R : Ending → World → Prop} {lo : Nat} {w : World} (hlo : w.heap.size ≤ lo) : ∀ (ds : List Deferred) (W : World), Marks lo W ds → w.grownBy W none →
    (∀ W', w.grownBy W' none → (∀ b cs t, Row W b cs t → Row W' b cs t) → LeavesIn F n P fn tmps R [] .returning W') → LeavesInM F n P fn tmps R ds .returning W
  | [], W, _, hg, h => h W hg (fun _ _ _ hr => hr)
  | d :: ds, W, ⟨D, hd, hl, hD, hne, hm⟩, hg, h => by
    refine ⟨by simp, .inl ⟨D, W.putObj D (.deferred none), by rw [hd], run_takeDeferred hD, ?_⟩⟩
    have hoth : ∀ k, k ≠ D → (W.putObj D (.deferred none)).heap[k]? = W.heap[k]? := fun k hk => by
      have := grownBy_putObj' W D (.deferred none)
      rcases Nat.lt_or_ge k W.heap.size with h1 | h1
      · exact this.block k h1 (by simpa using hk)
      · rw [Array.getElem?_eq_none h1, Array.getElem?_eq_none (by simpa [World.putObj] using h1)]
    have hgD : w.grownBy (W.putObj D (.deferred none)) none := gr_new hg (grownBy_putObj' W D (.deferred none)) (by omega)
    refine leaves_marks hlo ds _ (hm.of_blocks fun k _ _ ⟨d', h1, h2⟩ => hoth k (fun e => hne d' h1 (by rw [h2, e]))) hgD fun W' hg' hr' => h W' hg' fun b cs t hb => hr' b cs t ?_
    unfold Row at *
    rw [hoth b (by intro e; subst e; rw [hD] at hb; cases hb)]
    exact hb

/-- A table of numbers, one for each place. -/
def tabC (f : Nat → Int) (L : Nat) : List Value := (List.range (L + 1)).map fun j => Value.int .i64 (f j)
theorem tab_len {f : Nat → Int} {L : Nat} : (tabC f L).length = L + 1 := by simp [tabC]
theorem tab_get {f : Nat → Int} {L j : Nat} (h : j ≤ L) : (tabC f L)[j]? = some (.int .i64 (f j)) := by
  simp [tabC, List.getElem?_map, List.getElem?_range (show j < L + 1 by omega)]
theorem tab_congr {f g : Nat → Int} {L : Nat} (h : ∀ j, j ≤ L → f j = g j) : tabC f L = tabC g L := by
  unfold tabC
  refine List.map_congr_left fun j hj => ?_
  rw [List.mem_range] at hj
  rw [h j (by omega)]
theorem tab_set {f : Nat → Int} {L e : Nat} {z : Int} : (tabC f L).set e (.int .i64 z) = tabC (fun j => if j = e then z else f j) L := by
  apply List.ext_getElem?
  intro j
  rw [List.getElem?_set]
  rcases Nat.lt_or_ge L j with h | h
  · rw [show (tabC (fun j => if j = e then z else f j) L)[j]? = none from List.getElem?_eq_none (by rw [tab_len]; omega), show (tabC f L)[j]? = none from List.getElem?_eq_none (by rw [tab_len]; omega)]
    split
    · rw [if_neg (by rw [tab_len]; omega)]
    · rfl
  · rw [tab_get h, tab_get h]
    split
    · next h1 => subst h1; rw [if_pos (by rw [tab_len]; omega), if_pos rfl]
    · next h1 => rw [if_neg (fun h2 => h1 h2.symm)]
theorem tab_zero (L : Nat) : (madeCells (Value.int .i64 0).cells ((L + 1) * 1)).toList = tabC (fun _ => 0) L := by
  simp only [madeCells, Value.cells, tabC, Nat.mul_one]
  apply List.ext_getElem
  · simp
  · intro i h1 h2
    simp [Nat.mod_one]
/-- What 'make' of n numbers leaves. -/
theorem tab_made {e : TypeId} {w' : World} {base g L : Nat} (h : w'.ownsRow base e 1 (.slice (some ⟨g, 0, none⟩) (L + 1) (L + 1)) (L + 1) (madeCells (Value.int .i64 0).cells ((L + 1) * 1)).toList) : Row w' g (tabC (fun _ => 0) L) e := by
  obtain ⟨_, h2⟩ := h
  rcases h2 with ⟨h2, _⟩ | ⟨g', cap, cur, hv, _, hg, _, _, hsz, htk⟩
  · simp at h2
  · simp only [Value.slice.injEq, Option.some.injEq, Addr.mk.injEq, and_true, true_and] at hv
    obtain ⟨rfl, rfl⟩ := hv
    have hc : cur = (tabC (fun _ => 0) L).toArray := by
      rw [← tab_zero, ← htk, Nat.mul_one, List.take_of_length_le (by simp [hsz])]
    subst hc
    exact hg
end Go.Proofs.YtaejnklgnegkhaaGreatDoor
namespace Go.Proofs.YtaejnklgnegkhaaGreatDoor
open Go.RowKit Pt

def escL (l : List UInt8) : List UInt8 := l.flatMap fun c => if specD c.toNat then [92, c] else [c]
def letC : Nat → UInt8 | 1 => 100 | 2 => 117 | 3 => 108 | 4 => 97 | 5 => 115 | 6 => 111 | _ => 46
def cntL (a b : Nat) : List UInt8 := if a = 1 ∧ b = 1 then [] else if a = 1 ∧ b = 200 then [43] else if a = 0 ∧ b = 200 then [42] else if a = b then 123 :: (Lib.decDigits a ++ [125]) else 123 :: (Lib.decDigits a ++ 44 :: (Lib.decDigits b ++ [125]))
/-- The written form of a piece, and of pieces. -/
def wrP (p : Pc) : List UInt8 := if p.k = 0 then escL p.t.data.toList else 92 :: letC p.k.toNat :: cntL p.a.toNat p.b.toNat
def wrL (ps : List Pc) : List UInt8 := ps.flatMap wrP
theorem let_str {k : Nat} (h1 : 1 ≤ k) (h7 : k ≤ 7) : (⟨#[100, 117, 108, 97, 115, 111, 46]⟩ : ByteArray).extract (k - 1) k = ⟨#[letC k]⟩ := by
  have : ∀ d : Fin 7, (⟨#[100, 117, 108, 97, 115, 111, 46]⟩ : ByteArray).extract (d.1 + 1 - 1) (d.1 + 1) = ⟨#[letC (d.1 + 1)]⟩ := by decide
  have h := this ⟨k - 1, by omega⟩
  rw [show k - 1 + 1 = k by omega] at h
  exact h
theorem escL_snoc (l : List UInt8) (c : UInt8) : escL (l ++ [c]) = escL l ++ (if specD c.toNat then [92, c] else [c]) := by simp [escL]
theorem wrL_snoc (l : List Pc) (p : Pc) : wrL (l ++ [p]) = wrL l ++ wrP p := by simp [wrL]
theorem ext_list (s : ByteArray) (a b : Nat) : (s.extract a b).data.toList = (s.data.toList.drop a).take (b - a) := by
  simp [ByteArray.data_extract, Array.toList_extract, List.extract_eq_take_drop]
/-- A piece that is right, and short. -/
def Okp (p : Pc) : Prop := rightP p.k p.a p.b p.t = true ∧ p.t.size ≤ 1000
theorem Okp.run {p : Pc} (h : Okp p) (hk : ¬ p.k = 0) : 1 ≤ p.k ∧ p.k ≤ 7 ∧ 0 ≤ p.a ∧ p.a ≤ p.b ∧ 1 ≤ p.b ∧ p.b ≤ 200 := by
  have := h.1
  unfold rightP at this
  rw [if_neg hk, Bool.and_eq_true, decide_eq_true_eq] at this
  exact this.1
set_option maxRecDepth 100000 in
set_option maxHeartbeats 16000000 in
theorem rwritten_some (g o c : Nat) (ps : List Pc) (w : World) (hb : g < w.heap.size) (hp : PcsAt w g o ps) (hn : ps.length ≤ 60) (hok : ∀ p ∈ ps, Okp p) :
    Calls Tryz.prog 95 #[.slice (some ⟨g, o, none⟩) ps.length c] w fun e w' => e = .returned (.string ⟨(wrL ps).toArray⟩) ∧ w.grownBy w' none := by
  obtain ⟨n, hnn⟩ : ∃ n, n = ps.length := ⟨_, rfl⟩
  rw [← hnn] at hn ⊢
  have HN := Lib.hid hnn
  have HP := Lib.hid hp
  have HOK := Lib.hid hok
  clear hnn hp hok
  go_enter Tryz.func95, Tryz.ntmps95
  go_wp2_with fail
  go_loopw [3, 4] (fun u v wr => ∃ (i : Nat) (t : ByteArray), u = .string t ∧ v = .int .i64 i ∧ i ≤ n ∧ t.size ≤ i * 3000 ∧ Hid (t.data.toList = wrL (ps.take i)) ∧ w.grownBy wr none) (fun _ v _ => n - (intOf v).toNat)
  case atStart => exact ⟨0, ⟨#[]⟩, rfl, rfl, Nat.zero_le _, Nat.zero_le _, Lib.hid rfl, gr_rfl w⟩
  case round =>
    obtain ⟨i, t, rfl, rfl, hi, hts, HT, hg⟩ := hrel
    by_cases hin : i < n
    · have hip : i < ps.length := by rw [← HN.out]; exact hin
      have hc := (HP.out.kept hb hg) i hip
      have HO := Lib.hid (HOK.out ps[i] (List.getElem_mem hip))
      have HS := Lib.hid (show wrL (ps.take (i + 1)) = wrL (ps.take i) ++ wrP ps[i] by rw [List.take_succ_eq_append_getElem hip, wrL_snoc])
      obtain ⟨x, hx⟩ : ∃ x, x = ps[i] := ⟨_, rfl⟩
      rw [← hx] at hc HO HS
      clear hx
      obtain ⟨xk, xa, xb, xt⟩ := x
      dsimp only at hc
      obtain ⟨c0, c1, c2, c3⟩ := hc
      have hi60 : t.size ≤ 180000 := by
        have : i * 3000 ≤ 60 * 3000 := Nat.mul_le_mul_right _ (by omega)
        omega
      by_cases hk : xk = 0
      · subst hk
        have hx : xt.size ≤ 1000 := HO.out.2
        have HW := Lib.hid (show wrL (ps.take (i + 1)) = wrL (ps.take i) ++ escL xt.data.toList from HS.out)
        go_wp2_with fail
        go_loopw [3, 6] (fun u v wx => ∃ (j : Nat) (r : ByteArray), u = .string r ∧ v = .int .i64 j ∧ j ≤ xt.size ∧ r.size ≤ i * 3000 + 2 * j ∧ Hid (r.data.toList = wrL (ps.take i) ++ escL (xt.data.toList.take j)) ∧ wx = wr.alloc (.cells #[.int .i64 0, .int .i64 xa, .int .i64 xb, .string xt] 52)) (fun _ v _ => xt.size - (intOf v).toNat)
        case atStart => exact ⟨0, t, rfl, rfl, Nat.zero_le _, by omega, Lib.hid (by rw [HT.out]; simp [escL]), rfl⟩
        case round =>
          obtain ⟨j, r, rfl, rfl, hj, hrs, HR, rfl⟩ := hrel
          have hr6 : r.size ≤ 190000 := by
            have : i * 3000 ≤ 60 * 3000 := Nat.mul_le_mul_right _ (by omega)
            omega
          by_cases hjn : j < xt.size
          · have hex : xt.extract j (j + 1) = ⟨#[xt[j]]⟩ := by
              apply ByteArray.ext
              apply Array.toList_inj.1
              rw [ext_list, show j + 1 - j = 1 by omega, List.drop_eq_getElem_cons (by rw [len_toList]; exact hjn)]
              rfl
            have hes : escL (xt.data.toList.take (j + 1)) = escL (xt.data.toList.take j) ++ (if specD xt[j].toNat then [92, xt[j]] else [xt[j]]) := by
              rw [List.take_succ_eq_append_getElem (by rw [len_toList]; exact hjn), escL_snoc]
              rfl
            have HES := Lib.hid hes
            clear hes
            have h1 : ((j : Int) + 1).toNat = j + 1 := by omega
            have hlt := xt[j].toNat_lt
            go_wp2_with fail
            refine (rspec_any xt[j].toNat _ (by omega)).mono ?_
            rintro e w1 ⟨rfl, rfl⟩
            obtain ⟨u, hu⟩ : ∃ u, u = xt[j] := ⟨_, rfl⟩
            rw [← hu] at HES hex ⊢
            clear hu
            cases hsp : specD u.toNat with
            | true =>
              rw [hsp] at HES
              have HSP := Lib.hid hsp
              clear hsp
              go_wp2
              refine ⟨⟨j + 1, _, rfl, by go_num, by omega, by rw [ByteArray.size_append, ByteArray.size_append]; show r.size + 1 + 1 ≤ _; omega, Lib.hid (by rw [cat_list, cat_list, HR.out, HES.out]; simp), by trivial⟩, by simp only [intOf]; omega⟩
            | false =>
              rw [hsp] at HES
              have HSP := Lib.hid hsp
              clear hsp
              go_wp2
              refine ⟨⟨j + 1, _, rfl, by go_num, by omega, by rw [ByteArray.size_append]; show r.size + 1 ≤ _; omega, Lib.hid (by rw [cat_list, HR.out, HES.out]; simp), by trivial⟩, by simp only [intOf]; omega⟩
          · have HE := Lib.hid (show xt.data.toList.take j = xt.data.toList from List.take_of_length_le (by rw [len_toList]; omega))
            go_wp2
            refine ⟨⟨i + 1, r, rfl, by go_num, by omega, by omega, Lib.hid (by rw [HW.out, HR.out, HE.out]), gr_al hg⟩, by simp only [intOf]; omega⟩
      · have hrun := HO.out.run hk
        dsimp only at hrun
        obtain ⟨k, rfl⟩ : ∃ k : Nat, xk = k := ⟨xk.toNat, by omega⟩
        obtain ⟨a, rfl⟩ : ∃ a : Nat, xa = a := ⟨xa.toNat, by omega⟩
        obtain ⟨b, rfl⟩ : ∃ b : Nat, xb = b := ⟨xb.toNat, by omega⟩
        have hk1 : 1 ≤ k := by omega
        have hk7 : k ≤ 7 := by omega
        have ha : a ≤ b := by omega
        have hb1 : 1 ≤ b := by omega
        have hb2 : b ≤ 200 := by omega
        have HW := Lib.hid (show wrL (ps.take (i + 1)) = wrL (ps.take i) ++ 92 :: letC k :: cntL a b by
          rw [HS.out]; unfold wrP; rw [if_neg hk]; simp)
        have hls := let_str hk1 hk7
        have h1 : ((k : Int) - 1).toNat = k - 1 := by omega
        obtain ⟨u, hu⟩ : ∃ u, u = letC k := ⟨_, rfl⟩
        rw [← hu] at HW hls
        clear hu hrun hk
        have hk0 : ((k : Int) == 0) = false := by rw [beq_eq_false_iff_ne]; omega
        have z1 : ∀ u : UInt8, (⟨#[u]⟩ : ByteArray).size = 1 := fun _ => rfl
        have hsplit : (a = 1 ∧ b = 1) ∨ (a = 1 ∧ b = 200) ∨ (a = 0 ∧ b = 200) ∨ (a = b ∧ ¬ a = 1) ∨ (a < b ∧ ¬ (a = 1 ∧ b = 200) ∧ ¬ (a = 0 ∧ b = 200)) := by omega
        rcases hsplit with ⟨rfl, rfl⟩ | ⟨rfl, rfl⟩ | ⟨rfl, rfl⟩ | ⟨rfl, hn1⟩ | ⟨hab, hn1, hn2⟩
        · clear z1
          go_wp2
          have z1 : ∀ u : UInt8, (⟨#[u]⟩ : ByteArray).size = 1 := fun _ => rfl
          refine ⟨⟨i + 1, _, rfl, by go_num, by omega, by simp only [ByteArray.size_append, z1]; omega, Lib.hid (by rw [HW.out]; simp only [cat_list, HT.out]; rw [show cntL 1 1 = [] from rfl]; simp), gr_al hg⟩, by simp only [intOf]; omega⟩
        · clear z1
          go_wp2
          have z1 : ∀ u : UInt8, (⟨#[u]⟩ : ByteArray).size = 1 := fun _ => rfl
          refine ⟨⟨i + 1, _, rfl, by go_num, by omega, by simp only [ByteArray.size_append, z1]; omega, Lib.hid (by rw [HW.out]; simp only [cat_list, HT.out]; rw [show cntL 1 200 = [43] from rfl]; simp), gr_al hg⟩, by simp only [intOf]; omega⟩
        · clear z1
          go_wp2
          have z1 : ∀ u : UInt8, (⟨#[u]⟩ : ByteArray).size = 1 := fun _ => rfl
          refine ⟨⟨i + 1, _, rfl, by go_num, by omega, by simp only [ByteArray.size_append, z1]; omega, Lib.hid (by rw [HW.out]; simp only [cat_list, HT.out]; rw [show cntL 0 200 = [42] from rfl]; simp), gr_al hg⟩, by simp only [intOf]; omega⟩
        · clear z1
          have HC := Lib.hid (show cntL a a = 123 :: (Lib.decDigits a ++ [125]) by unfold cntL; rw [if_neg (by omega), if_neg (by omega), if_neg (by omega), if_pos rfl])
          have hl := dec_le a 3 (by decide) (by omega)
          obtain ⟨T, hT⟩ : ∃ T : ByteArray, T = ⟨(Lib.decDigits a).toArray⟩ := ⟨_, rfl⟩
          have hT3 : T.size ≤ 3 := by rw [hT]; exact hl
          have HTT := Lib.hid (show Lib.decDigits a = T.data.toList by rw [hT])
          have HD := Lib.hid (fun w => rdec_any a w (by omega))
          rw [← hT] at HD
          clear hT hl
          go_wp2_with fail
          refine (HD.out _).mono ?_
          rintro e w2 ⟨rfl, hg2⟩
          have G := Lib.hid (gr_then (gr_al hg) hg2)
          clear hg2
          go_wp2
          have z1 : ∀ u : UInt8, (⟨#[u]⟩ : ByteArray).size = 1 := fun _ => rfl
          refine ⟨⟨i + 1, _, rfl, by go_num, by omega, by simp only [ByteArray.size_append, z1]; omega, Lib.hid (by rw [HW.out, HC.out, HTT.out]; simp only [cat_list, HT.out]; simp), G.out⟩, by simp only [intOf]; omega⟩
        · rcases (show a = 1 ∨ a = 0 ∨ (¬ a = 1 ∧ ¬ a = 0) by omega) with rfl | rfl | ⟨hm1, hm0⟩
          · clear z1
            have HC := Lib.hid (show cntL 1 b = 123 :: (Lib.decDigits 1 ++ 44 :: (Lib.decDigits b ++ [125])) by unfold cntL; rw [if_neg (by omega), if_neg (by omega), if_neg (by omega), if_neg (by omega)])
            obtain ⟨TA, hTA⟩ : ∃ T : ByteArray, T = ⟨(Lib.decDigits 1).toArray⟩ := ⟨_, rfl⟩
            obtain ⟨TB, hTB⟩ : ∃ T : ByteArray, T = ⟨(Lib.decDigits b).toArray⟩ := ⟨_, rfl⟩
            have hTA3 : TA.size ≤ 3 := by rw [hTA]; exact dec_le 1 3 (by decide) (by omega)
            have hTB3 : TB.size ≤ 3 := by rw [hTB]; exact dec_le b 3 (by decide) (by omega)
            have HTA := Lib.hid (show Lib.decDigits 1 = TA.data.toList by rw [hTA])
            have HTB := Lib.hid (show Lib.decDigits b = TB.data.toList by rw [hTB])
            have hda : ∀ w, Calls Tryz.prog 117 #[.int .i64 1] w fun e w' => e = .returned (.string TA) ∧ w.grownBy w' none := fun w => by rw [hTA]; exact rdec_any 1 w (by omega)
            have hdb : ∀ w, Calls Tryz.prog 117 #[.int .i64 (b : Int)] w fun e w' => e = .returned (.string TB) ∧ w.grownBy w' none := fun w => by rw [hTB]; exact rdec_any b w (by omega)
            have HDA := Lib.hid hda
            have HDB := Lib.hid hdb
            clear hTA hTB hda hdb
            have r0 := Row.new wr [.int .i64 (k : Int), .int .i64 1, .int .i64 (b : Int), .string xt] 52
            have e1 := r0.cell 1 _ rfl
            have e2 := r0.cell 2 _ rfl
            go_wp2_with fail
            generalize hr : t ++ (⟨#[92]⟩ : ByteArray) ++ (⟨#[u]⟩ : ByteArray) = r
            have hrs : r.size ≤ 190000 := by rw [← hr, ByteArray.size_append, ByteArray.size_append]; show t.size + 1 + 1 ≤ _; omega
            have HRS := Lib.hid (show r.size ≤ i * 3000 + 2 by rw [← hr, ByteArray.size_append, ByteArray.size_append]; show t.size + 1 + 1 ≤ _; omega)
            have HRR := Lib.hid (show r.data.toList = wrL (ps.take i) ++ [92, u] by rw [← hr, cat_list, cat_list, HT.out]; simp)
            have b1 : ¬ 9223372036854775807 < r.size + 1 := by omega
            have b2 : ¬ 9223372036854775807 < r.size + 1 + TA.size := by omega
            have b3 : ¬ 9223372036854775807 < r.size + 1 + TA.size + 1 := by omega
            have b4 : ¬ 9223372036854775807 < r.size + 1 + TA.size + 1 + TB.size := by omega
            have b5 : ¬ 9223372036854775807 < r.size + 1 + TA.size + 1 + TB.size + 1 := by omega
            clear hr
            go_region_held3 (fun w' => w'.cell? ⟨wr.heap.size, 1, none⟩ = some (.int .i64 1) ∧ w'.cell? ⟨wr.heap.size, 2, none⟩ = some (.int .i64 (b : Int))) (first | exact ⟨e1, e2⟩ | go_keep)
              (first
              | (go_at_call 117; have h__ := ra; refine (HDB.out _).mono ?_; rintro e wb ⟨rfl, gb⟩; have rb := ra.kept gb; have e1 := rb.cell 1 _ rfl; have e2 := rb.cell 2 _ rfl)
              | (go_at_call 117; refine (HDA.out _).mono ?_; rintro e wa ⟨rfl, ga⟩; have ra := r0.dr.kept ga; have e1 := ra.cell 1 _ rfl; have e2 := ra.cell 2 _ rfl))
            all_goals
              go_wp2
              have z1 : ∀ u : UInt8, (⟨#[u]⟩ : ByteArray).size = 1 := fun _ => rfl
              have hsz := HRS.out
              refine ⟨⟨i + 1, _, rfl, by go_num, by omega, by simp only [ByteArray.size_append, z1]; omega, Lib.hid (by rw [HW.out, HC.out, HTA.out, HTB.out]; simp only [cat_list, HRR.out]; simp), gr_then (gr_then (gr_dr (gr_al hg)) ga) gb⟩, by simp only [intOf]; omega⟩
          · clear z1
            have HC := Lib.hid (show cntL 0 b = 123 :: (Lib.decDigits 0 ++ 44 :: (Lib.decDigits b ++ [125])) by unfold cntL; rw [if_neg (by omega), if_neg (by omega), if_neg (by omega), if_neg (by omega)])
            obtain ⟨TA, hTA⟩ : ∃ T : ByteArray, T = ⟨(Lib.decDigits 0).toArray⟩ := ⟨_, rfl⟩
            obtain ⟨TB, hTB⟩ : ∃ T : ByteArray, T = ⟨(Lib.decDigits b).toArray⟩ := ⟨_, rfl⟩
            have hTA3 : TA.size ≤ 3 := by rw [hTA]; exact dec_le 0 3 (by decide) (by omega)
            have hTB3 : TB.size ≤ 3 := by rw [hTB]; exact dec_le b 3 (by decide) (by omega)
            have HTA := Lib.hid (show Lib.decDigits 0 = TA.data.toList by rw [hTA])
            have HTB := Lib.hid (show Lib.decDigits b = TB.data.toList by rw [hTB])
            have hda : ∀ w, Calls Tryz.prog 117 #[.int .i64 0] w fun e w' => e = .returned (.string TA) ∧ w.grownBy w' none := fun w => by rw [hTA]; exact rdec_any 0 w (by omega)
            have hdb : ∀ w, Calls Tryz.prog 117 #[.int .i64 (b : Int)] w fun e w' => e = .returned (.string TB) ∧ w.grownBy w' none := fun w => by rw [hTB]; exact rdec_any b w (by omega)
            have HDA := Lib.hid hda
            have HDB := Lib.hid hdb
            clear hTA hTB hda hdb
            have r0 := Row.new wr [.int .i64 (k : Int), .int .i64 0, .int .i64 (b : Int), .string xt] 52
            have e1 := r0.cell 1 _ rfl
            have e2 := r0.cell 2 _ rfl
            go_wp2_with fail
            generalize hr : t ++ (⟨#[92]⟩ : ByteArray) ++ (⟨#[u]⟩ : ByteArray) = r
            have hrs : r.size ≤ 190000 := by rw [← hr, ByteArray.size_append, ByteArray.size_append]; show t.size + 1 + 1 ≤ _; omega
            have HRS := Lib.hid (show r.size ≤ i * 3000 + 2 by rw [← hr, ByteArray.size_append, ByteArray.size_append]; show t.size + 1 + 1 ≤ _; omega)
            have HRR := Lib.hid (show r.data.toList = wrL (ps.take i) ++ [92, u] by rw [← hr, cat_list, cat_list, HT.out]; simp)
            have b1 : ¬ 9223372036854775807 < r.size + 1 := by omega
            have b2 : ¬ 9223372036854775807 < r.size + 1 + TA.size := by omega
            have b3 : ¬ 9223372036854775807 < r.size + 1 + TA.size + 1 := by omega
            have b4 : ¬ 9223372036854775807 < r.size + 1 + TA.size + 1 + TB.size := by omega
            have b5 : ¬ 9223372036854775807 < r.size + 1 + TA.size + 1 + TB.size + 1 := by omega
            clear hr
            go_region_held3 (fun w' => w'.cell? ⟨wr.heap.size, 1, none⟩ = some (.int .i64 0) ∧ w'.cell? ⟨wr.heap.size, 2, none⟩ = some (.int .i64 (b : Int))) (first | exact ⟨e1, e2⟩ | go_keep)
              (first
              | (go_at_call 117; have h__ := ra; refine (HDB.out _).mono ?_; rintro e wb ⟨rfl, gb⟩; have rb := ra.kept gb; have e1 := rb.cell 1 _ rfl; have e2 := rb.cell 2 _ rfl)
              | (go_at_call 117; refine (HDA.out _).mono ?_; rintro e wa ⟨rfl, ga⟩; have ra := r0.dr.kept ga; have e1 := ra.cell 1 _ rfl; have e2 := ra.cell 2 _ rfl))
            all_goals
              go_wp2
              have z1 : ∀ u : UInt8, (⟨#[u]⟩ : ByteArray).size = 1 := fun _ => rfl
              have hsz := HRS.out
              refine ⟨⟨i + 1, _, rfl, by go_num, by omega, by simp only [ByteArray.size_append, z1]; omega, Lib.hid (by rw [HW.out, HC.out, HTA.out, HTB.out]; simp only [cat_list, HRR.out]; simp), gr_then (gr_then (gr_dr (gr_al hg)) ga) gb⟩, by simp only [intOf]; omega⟩
          · clear z1
            have hm1z : ¬ (a : Int) = 1 := by omega
            have hm0z : ¬ (a : Int) = 0 := by omega
            have HC := Lib.hid (show cntL a b = 123 :: (Lib.decDigits a ++ 44 :: (Lib.decDigits b ++ [125])) by unfold cntL; rw [if_neg (by omega), if_neg (by omega), if_neg (by omega), if_neg (by omega)])
            obtain ⟨TA, hTA⟩ : ∃ T : ByteArray, T = ⟨(Lib.decDigits a).toArray⟩ := ⟨_, rfl⟩
            obtain ⟨TB, hTB⟩ : ∃ T : ByteArray, T = ⟨(Lib.decDigits b).toArray⟩ := ⟨_, rfl⟩
            have hTA3 : TA.size ≤ 3 := by rw [hTA]; exact dec_le a 3 (by decide) (by omega)
            have hTB3 : TB.size ≤ 3 := by rw [hTB]; exact dec_le b 3 (by decide) (by omega)
            have HTA := Lib.hid (show Lib.decDigits a = TA.data.toList by rw [hTA])
            have HTB := Lib.hid (show Lib.decDigits b = TB.data.toList by rw [hTB])
            have hda : ∀ w, Calls Tryz.prog 117 #[.int .i64 (a : Int)] w fun e w' => e = .returned (.string TA) ∧ w.grownBy w' none := fun w => by rw [hTA]; exact rdec_any a w (by omega)
            have hdb : ∀ w, Calls Tryz.prog 117 #[.int .i64 (b : Int)] w fun e w' => e = .returned (.string TB) ∧ w.grownBy w' none := fun w => by rw [hTB]; exact rdec_any b w (by omega)
            have HDA := Lib.hid hda
            have HDB := Lib.hid hdb
            clear hTA hTB hda hdb
            have r0 := Row.new wr [.int .i64 (k : Int), .int .i64 (a : Int), .int .i64 (b : Int), .string xt] 52
            have e1 := r0.cell 1 _ rfl
            have e2 := r0.cell 2 _ rfl
            go_wp2_with fail
            generalize hr : t ++ (⟨#[92]⟩ : ByteArray) ++ (⟨#[u]⟩ : ByteArray) = r
            have hrs : r.size ≤ 190000 := by rw [← hr, ByteArray.size_append, ByteArray.size_append]; show t.size + 1 + 1 ≤ _; omega
            have HRS := Lib.hid (show r.size ≤ i * 3000 + 2 by rw [← hr, ByteArray.size_append, ByteArray.size_append]; show t.size + 1 + 1 ≤ _; omega)
            have HRR := Lib.hid (show r.data.toList = wrL (ps.take i) ++ [92, u] by rw [← hr, cat_list, cat_list, HT.out]; simp)
            have b1 : ¬ 9223372036854775807 < r.size + 1 := by omega
            have b2 : ¬ 9223372036854775807 < r.size + 1 + TA.size := by omega
            have b3 : ¬ 9223372036854775807 < r.size + 1 + TA.size + 1 := by omega
            have b4 : ¬ 9223372036854775807 < r.size + 1 + TA.size + 1 + TB.size := by omega
            have b5 : ¬ 9223372036854775807 < r.size + 1 + TA.size + 1 + TB.size + 1 := by omega
            clear hr
            go_region_held3 (fun w' => w'.cell? ⟨wr.heap.size, 1, none⟩ = some (.int .i64 (a : Int)) ∧ w'.cell? ⟨wr.heap.size, 2, none⟩ = some (.int .i64 (b : Int))) (first | exact ⟨e1, e2⟩ | go_keep)
              (first
              | (go_at_call 117; have h__ := ra; refine (HDB.out _).mono ?_; rintro e wb ⟨rfl, gb⟩; have rb := ra.kept gb; have e1 := rb.cell 1 _ rfl; have e2 := rb.cell 2 _ rfl)
              | (go_at_call 117; refine (HDA.out _).mono ?_; rintro e wa ⟨rfl, ga⟩; have ra := r0.dr.kept ga; have e1 := ra.cell 1 _ rfl; have e2 := ra.cell 2 _ rfl))
            all_goals
              go_wp2
              have z1 : ∀ u : UInt8, (⟨#[u]⟩ : ByteArray).size = 1 := fun _ => rfl
              have hsz := HRS.out
              refine ⟨⟨i + 1, _, rfl, by go_num, by omega, by simp only [ByteArray.size_append, z1]; omega, Lib.hid (by rw [HW.out, HC.out, HTA.out, HTB.out]; simp only [cat_list, HRR.out]; simp), gr_then (gr_then (gr_dr (gr_al hg)) ga) gb⟩, by simp only [intOf]; omega⟩
    · have hl : (⟨(wrL ps).toArray⟩ : ByteArray) = t := toArray_eq t (by rw [HT.out, List.take_of_length_le (by have := HN.out; omega)])
      have HL := Lib.hid hl
      clear hl
      go_wp2
      go_ret
      rw [HL.out]
      exact ⟨rfl, hg⟩
end Go.Proofs.YtaejnklgnegkhaaGreatDoor
