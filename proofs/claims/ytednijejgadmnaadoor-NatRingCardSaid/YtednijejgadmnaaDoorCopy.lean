/- A law for the builtin copy from one block of numbers into another one. -/
import Derived.Test.YtednijejgadmnaaDoorMem
namespace Go.Proofs.YtednijejgadmnaaDoor
open Go.RowKit Mth

def copied (zs xs : List Nat) (off o1 m : Nat) : List Nat := zs.take off ++ ((xs.drop o1).take m ++ zs.drop (off + m))
theorem length_copied {zs xs : List Nat} {off o1 m : Nat} (h1 : off + m ≤ zs.length) (h2 : o1 + m ≤ xs.length) : (copied zs xs off o1 m).length = zs.length := by
  simp [copied]; omega
theorem gt_copied {zs xs : List Nat} {off o1 m : Nat} (h1 : off + m ≤ zs.length) (h2 : o1 + m ≤ xs.length) (i : Nat) : gt (copied zs xs off o1 m) i = if off ≤ i ∧ i < off + m then gt xs (o1 + (i - off)) else gt zs i := by
  have hl1 : (zs.take off).length = off := by simp; omega
  have hl2 : ((xs.drop o1).take m).length = m := by simp; omega
  unfold copied
  by_cases ha : i < off
  · rw [if_neg (by omega), gt_append_left (by omega), gt_take ha]
  · rw [gt_append_right (by omega), hl1]
    by_cases hb : i < off + m
    · rw [if_pos (by omega), gt_append_left (by omega), gt_take (by omega), gt_drop]
    · rw [if_neg (by omega), gt_append_right (by omega), hl2, gt_drop]
      congr 1; omega

theorem gr_setRow (w : World) (g : Nat) (cs : Array Value) : w.grownBy (w.setRow g cs) (some g) :=
  ⟨rfl, rfl, rfl, by simp, fun k _ hne => setRow_other w g k cs (by intro e; exact hne (by rw [e]))⟩

theorem wpList_copy_blk {P : Program} {w : World} {ops : Array Oper} {rest : List Oper} {o : Oper} {a : Act} {Q : Exit → Act → World → Prop} (hgd : o.guard = none) (d s : Operand) (dT sT : TypeId)
    (ho : o.op = .call { callee := .builtin .copy, args := #[d, s], argTypes := #[dT, sT] }) (elem : TypeId) (hu : P.underlying dT = some (.slice elem)) (hsz : (P.info? elem).map (·.size) = some 1)
    (k : IntKind) (e : TypeId) (g off dLen dCap b1 o1 n1 c1 : Nat) (zs xs : List Nat) (hd : a.eval d = .slice (some ⟨g, off, none⟩) dLen dCap) (hs : a.eval s = .slice (some ⟨b1, o1, none⟩) n1 c1)
    (hz : Blk k e w g zs) (hx : Blk k e w b1 xs) (hn : o1 + n1 ≤ xs.length) (hfit : off + dLen ≤ zs.length)
    (h : ∀ w', Blk k e w' g (copied zs xs off o1 (Nat.min n1 dLen)) → w.grownBy w' (some g) → wpList P ops Q rest (a.put o.dst (goInt (Nat.min n1 dLen))) w') :
    wpList P ops Q (o :: rest) a w := by
  have hm1 : Nat.min n1 dLen ≤ n1 := Nat.min_le_left _ _
  have hm2 : Nat.min n1 dLen ≤ dLen := Nat.min_le_right _ _
  generalize hm : Nat.min n1 dLen = m at h hm1 hm2
  have hl2 : (cellsOf k ((xs.drop o1).take m)).length = m := by rw [length_cellsOf]; simp; omega
  refine wpList_copy_own hgd d s dT sT ho elem hu hsz g off dLen dCap ⟨b1, o1, none⟩ n1 c1 hd hs (cellsOf k zs).toArray e hz (cellsOf k ((xs.drop o1).take m)) (by rw [hl2, hm]) ?_ ?_ ?_ ?_
  · intro j v hv
    have hj : j < m := by have := (List.getElem?_eq_some_iff.1 hv).1; omega
    rw [Addr.add_lit, hx.cell (by omega)]
    rw [cellsOf_get k _ _ (by simp; omega), gt_take hj, gt_drop] at hv
    exact hv
  · rw [hl2]; simp [length_cellsOf]; omega
  · intro v hv
    simp only [cellsOf, List.mem_map] at hv
    obtain ⟨n, _, rfl⟩ := hv
    rfl
  · rw [hl2]
    refine h _ ?_ (gr_setRow _ _ _)
    have := setRow_heap w g _ ((cellsOf k zs).toArray.toList.take off ++ (cellsOf k ((xs.drop o1).take m) ++ (cellsOf k zs).toArray.toList.drop (off + m))).toArray e (0, 0) hz
    unfold Blk
    rw [this]
    simp [copied, cellsOf, List.map_take, List.map_drop]
end Go.Proofs.YtednijejgadmnaaDoor
