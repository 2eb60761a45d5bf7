/- The contracts of strings.Builder that nat.Text needs. -/
import Derived.Test.YtednijejgadmnaaDoorGroups
namespace Go.Proofs.YtednijejgadmnaaDoor
open Go.RowKit Go.Sort Go.Lib

abbrev Bld (B b : Nat) (l : List UInt8) (w : World) : Prop := Lib.IsBuilder 72 5 B b (Lib.byteCells l) w
theorem writeString_any (B b : Nat) (l : List UInt8) (s : ByteArray) (w : World) (h : Bld B b l w) (hlen : l.length + s.size ≤ 140737488355328) (hBw : B ≤ w.heap.size) :
    Calls Tryd.prog 50 #[.pointer (some ⟨b, 0, none⟩), .string s] w fun e w' => e = .returned (.tuple #[.int .i64 s.size, .nilIface]) ∧ Bld B b (l ++ s.data.toList) w' ∧ Below B w w' := by
  refine (Any.Builder_WriteString (P := Tryd.prog) (ρ := Tryd.lays105_ren) { Tryd.lays105 with } Tryd.Builder_Extra_105 B b (Lib.byteCells l) s w h (by rw [Lib.byteCells_length]; exact hlen) hBw).mono ?_
  rintro e w' ⟨rfl, h1, h2⟩
  refine ⟨rfl, .inr ?_, h2⟩
  rw [Lib.byteCells_append, ← Lib.strCells_eq]
  exact h1
theorem bld_kept {B b : Nat} {l : List UInt8} {w w' : World} (h : Bld B b l w) (hg : w.grownBy w' none) : Bld B b l w' := by
  have key : ∀ p, Lib.BuilderAt 72 5 B b p (Lib.byteCells l) w → Lib.BuilderAt 72 5 B b p (Lib.byteCells l) w' := by
    intro p k
    have hlt := k.lt
    obtain ⟨hB, v, hb, hown, hne⟩ := k
    refine ⟨hB, v, (hg.block b hlt (by simp)).trans hb, hown.kept hg ?_, hne⟩
    cases v.ownBlock <;> simp
  exact h.imp (key _) (key _)
theorem below_blk {B : Nat} {w w' : World} (h : Below B w w') (hB : B ≤ w.heap.size) {b : Nat} {k : IntKind} {e : TypeId} {xs : List Nat} (hb : Blk k e w b xs) (hlt : b < B) : Blk k e w' b xs := by
  unfold Blk at hb ⊢
  rw [h.block b hlt]; exact hb
theorem gr_grow (w : World) (k : Nat) (os : Array Obj) (r : Option Nat) : w.grownBy (grow (w.drewN k) os) r :=
  ⟨rfl, rfl, rfl, by simp, fun j hj _ => by rw [heap_grow_old _ _ (by simpa using hj)]; rfl⟩
/-- A world below which all stays as it was, from a world's own heap on: it has only grown. -/
theorem gr_below {w w' : World} (h : Below w.heap.size w w') (r : Option Nat) : w.grownBy w' r := ⟨h.os, h.tape, h.output, h.size, fun k hk _ => h.block k hk⟩
end Go.Proofs.YtednijejgadmnaaDoor
