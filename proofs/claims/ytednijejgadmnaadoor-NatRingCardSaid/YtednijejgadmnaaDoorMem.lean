/- Blocks of memory that hold numbers: what a block holds, kept and written. -/
import Derived.Test.YtednijejgadmnaaDoorMth
import Derived.WalkKit
import Derived.Laws.CopyOwn
import Derived.Deep.Draws
import Derived.Lib.Hide
namespace Go.Proofs.YtednijejgadmnaaDoor
open Go.RowKit Mth

/-- The cells of numbers. -/
def cellsOf (k : IntKind) (xs : List Nat) : List Value := xs.map fun n : Nat => Value.int k (n : Int)
theorem length_cellsOf (k : IntKind) (xs : List Nat) : (cellsOf k xs).length = xs.length := by simp [cellsOf]
theorem cellsOf_append (k : IntKind) (xs ys : List Nat) : cellsOf k (xs ++ ys) = cellsOf k xs ++ cellsOf k ys := by simp [cellsOf]
theorem cellsOf_set (k : IntKind) (xs : List Nat) (i v : Nat) : cellsOf k (xs.set i v) = (cellsOf k xs).set i (.int k (v : Int)) := by simp [cellsOf, List.map_set]
theorem cellsOf_get (k : IntKind) (xs : List Nat) (i : Nat) (h : i < xs.length) : (cellsOf k xs)[i]? = some (.int k ((gt xs i : Nat) : Int)) := by
  simp [cellsOf, gt_of_lt h, List.getElem?_eq_getElem h]

/-- Block b holds just the numbers xs, each in a cell of kind k; its element type is e; nothing in it is frozen. -/
def Blk (k : IntKind) (e : TypeId) (w : World) (b : Nat) (xs : List Nat) : Prop := w.heap[b]? = some (.cells (cellsOf k xs).toArray e (0, 0))

section
variable {k : IntKind} {e : TypeId} {w w' : World} {b : Nat} {xs : List Nat}
theorem Blk.lt (h : Blk k e w b xs) : b < w.heap.size := (Array.getElem?_eq_some_iff.1 h).1
theorem Blk.cell (h : Blk k e w b xs) {i : Nat} (hi : i < xs.length) : w.cell? ⟨b, i, none⟩ = some (.int k ((gt xs i : Nat) : Int)) := by
  rw [cell_of_row w b i _ e (0, 0) h, List.getElem?_toArray, cellsOf_get k xs i hi]
theorem Blk.frozen (h : Blk k e w b xs) (i : Nat) : w.frozen? ⟨b, i, none⟩ = false := by
  simp only [World.frozen?]
  rw [show w.heap[b]? = some (.cells (cellsOf k xs).toArray e (0, 0)) from h]
  simp
theorem Blk.kept (h : Blk k e w b xs) {row : Option Nat} (hg : w.grownBy w' row) (hne : some b ≠ row) : Blk k e w' b xs := by
  unfold Blk at h ⊢
  rw [hg.block b (Array.getElem?_eq_some_iff.1 h).1 hne]; exact h
theorem Blk.alloc (h : Blk k e w b xs) (o : Obj) : Blk k e (w.alloc o) b xs := h.kept (World.grownBy_alloc w o none) (by simp)
theorem Blk.drew (h : Blk k e w b xs) : Blk k e w.drew b xs := h
theorem Blk.set (h : Blk k e w b xs) (i v : Nat) : Blk k e (w.setCell ⟨b, i, none⟩ (.int k (v : Int))) b (xs.set i v) := by
  unfold Blk at h ⊢
  rw [setCell_eq_setRow w b i _ e (0, 0) _ h, setRow_heap w b _ _ e (0, 0) h]
  simp [cellsOf_set]
theorem Blk.setOther (h : Blk k e w b xs) {b' : Nat} (hne : b ≠ b') (i : Nat) (v : Value) : Blk k e (w.setCell ⟨b', i, none⟩ v) b xs := by
  unfold Blk at h ⊢
  rw [Below.heap_setCell _ _ _ _ hne]; exact h
end

theorem madeCells_one (k : IntKind) (n : Nat) : (madeCells (Value.int k 0).cells (n * 1)).toList = cellsOf k (List.replicate n 0) := by
  simp only [madeCells, Value.cells, cellsOf, Nat.mul_one]
  apply List.ext_getElem
  · simp
  · intro i h1 h2
    simp [Nat.mod_one]
/-- What 'make' of n numbers leaves. -/
theorem blk_made {k : IntKind} {e : TypeId} {w' : World} {base g n : Nat} (h : w'.ownsRow base e 1 (.slice (some ⟨g, 0, none⟩) n n) n (madeCells (Value.int k 0).cells (n * 1)).toList) : Blk k e w' g (List.replicate n 0) := by
  obtain ⟨_, h2⟩ := h
  rcases h2 with ⟨h2, _⟩ | ⟨g', cap, cur, hv, _, hg, _, _, hsz, htk⟩
  · simp at h2
  · simp only [Value.slice.injEq, Option.some.injEq, Addr.mk.injEq, and_true, true_and] at hv
    obtain ⟨rfl, rfl⟩ := hv
    have hc : cur = (cellsOf k (List.replicate n 0)).toArray := by
      rw [← madeCells_one, ← htk, Nat.mul_one, List.take_of_length_le (by simp [hsz])]
    subst hc
    exact hg
theorem blk_made' {k : IntKind} {e : TypeId} {w' : World} {base g n : Nat} (h : w'.ownsRow base e 1 (.slice (some ⟨g, 0, none⟩) n n) n (madeCells #[Value.int k 0] n).toList) : Blk k e w' g (List.replicate n 0) :=
  blk_made (base := base) (by rw [Nat.mul_one]; exact h)

section
variable {w w1 w2 : World} {row : Option Nat}
theorem gr_trans {a b c : World} {r r1 r2 : Option Nat} (h : a.grownBy b r1) (g : b.grownBy c r2) (h1 : r1 = none ∨ r1 = r) (h2 : r2 = none ∨ r2 = r ∨ ∀ k, r2 = some k → a.heap.size ≤ k) : a.grownBy c r := by
  refine ⟨g.os.trans h.os, g.tape.trans h.tape, g.output.trans h.output, Nat.le_trans h.size g.size, fun k hk hne => ?_⟩
  have hb : b.heap[k]? = a.heap[k]? := h.block k hk (by rcases h1 with rfl | rfl; simp; exact hne)
  have hs := h.size
  refine (g.block k (by omega) ?_).trans hb
  rcases h2 with rfl | rfl | h2
  · simp
  · exact hne
  · intro e; have := h2 k e.symm; omega
theorem gr_set (w : World) (b i : Nat) (v : Value) : w.grownBy (w.setCell ⟨b, i, none⟩ v) (some b) :=
  ⟨rfl, rfl, rfl, by simp [World.setCell], fun k _ hne => Below.heap_setCell _ _ _ _ (by intro e; exact hne (by rw [e]))⟩
theorem gr_new {a b c : World} {g : Nat} (h : a.grownBy b none) (k : b.grownBy c (some g)) (hg : a.heap.size ≤ g) : a.grownBy c none :=
  gr_trans h k (.inl rfl) (.inr (.inr fun j e => by cases e; exact hg))
theorem gr_then {a b c : World} {r : Option Nat} (h : a.grownBy b none) (k : b.grownBy c r) : a.grownBy c r := gr_trans h k (.inl rfl) (.inr (.inl rfl))
theorem gr_alloc (w : World) (o : Obj) (row : Option Nat) : w.grownBy (w.alloc o) row := World.grownBy_alloc w o row
theorem gr_drew (w : World) (row : Option Nat) : w.grownBy w.drew row := ⟨rfl, rfl, rfl, Nat.le_refl _, fun _ _ _ => rfl⟩
theorem gr_drewN (w : World) (n : Nat) (row : Option Nat) : w.grownBy (w.drewN n) row := ⟨rfl, rfl, rfl, Nat.le_refl _, fun _ _ _ => rfl⟩
end
end Go.Proofs.YtednijejgadmnaaDoor
