/- Contracts of the program and of the reference, part 0: Mth, Mem, App, MthW, MthR, MthB. -/
import Derived.WalkKit
import Derived.Laws.CopyOwn
import Derived.Deep.Draws
import Derived.Lib.Hide
import Derived.Lib.ItoaNum
namespace Go.Proofs.YtmlmjhlakpgagaaDoor
namespace Mth

/-- The number at a place, 0 where there is none. -/
def gt (xs : List Nat) (i : Nat) : Nat := xs.getD i 0
theorem gt_of_lt {xs : List Nat} {i : Nat} (h : i < xs.length) : gt xs i = xs[i] := by simp [gt, List.getD, List.getElem?_eq_getElem h]
theorem gt_of_ge {xs : List Nat} {i : Nat} (h : xs.length ≤ i) : gt xs i = 0 := by simp [gt, List.getD, List.getElem?_eq_none h]
theorem gt_mem {xs : List Nat} {i : Nat} (h : i < xs.length) : gt xs i ∈ xs := by rw [gt_of_lt h]; exact List.getElem_mem h
theorem gt_set {xs : List Nat} {i j v : Nat} (h : i < xs.length) : gt (xs.set i v) j = if i = j then v else gt xs j := by
  by_cases e : i = j
  · subst e; rw [if_pos rfl]; simp [gt, List.getD, h]
  · rw [if_neg e]; simp [gt, List.getD, List.getElem?_set_ne e]
theorem gt_ext {xs ys : List Nat} (hl : xs.length = ys.length) (h : ∀ i, i < xs.length → gt xs i = gt ys i) : xs = ys := by
  apply List.ext_getElem hl
  intro i h1 h2
  have := h i h1
  rwa [gt_of_lt h1, gt_of_lt h2] at this
theorem gt_drop (xs : List Nat) (a i : Nat) : gt (xs.drop a) i = gt xs (a + i) := by simp [gt, List.getD]
theorem gt_take {xs : List Nat} {n i : Nat} (h : i < n) : gt (xs.take n) i = gt xs i := by simp [gt, List.getD, h]
theorem gt_append_left {xs ys : List Nat} {i : Nat} (h : i < xs.length) : gt (xs ++ ys) i = gt xs i := by simp [gt, List.getD, List.getElem?_append_left h]
theorem gt_append_right {xs ys : List Nat} {i : Nat} (h : xs.length ≤ i) : gt (xs ++ ys) i = gt ys (i - xs.length) := by simp [gt, List.getD, List.getElem?_append_right h]

/-- The value of digits to a base, the least significant one first. -/
def val (b : Nat) : List Nat → Nat
  | [] => 0
  | d :: l => d + b * val b l

theorem val_nil (b : Nat) : val b [] = 0 := rfl
theorem val_cons (b d : Nat) (l : List Nat) : val b (d :: l) = d + b * val b l := rfl
theorem val_append (b : Nat) (l r : List Nat) : val b (l ++ r) = val b l + b ^ l.length * val b r := by
  induction l with
  | nil => simp [val]
  | cons d l ih => simp only [List.cons_append, val, ih, List.length_cons, Nat.pow_succ, Nat.mul_add]; rw [Nat.mul_comm (b ^ l.length) b, Nat.mul_assoc, Nat.add_assoc]
theorem val_snoc (b : Nat) (l : List Nat) (d : Nat) : val b (l ++ [d]) = val b l + b ^ l.length * d := by
  rw [val_append]; simp [val]
theorem val_lt (b : Nat) (l : List Nat) (h : ∀ d ∈ l, d < b) : val b l < b ^ l.length := by
  induction l with
  | nil => simp [val]
  | cons d l ih =>
    have h1 := ih (fun x hx => h x (List.mem_cons_of_mem _ hx))
    have h2 := h d List.mem_cons_self
    simp only [val, List.length_cons, Nat.pow_succ]
    have h3 : b * (val b l + 1) ≤ b * b ^ l.length := Nat.mul_le_mul_left _ h1
    rw [Nat.mul_comm (b ^ l.length) b]
    rw [Nat.mul_add] at h3
    omega
theorem val_zeros (b n : Nat) : val b (List.replicate n 0) = 0 := by
  induction n with
  | zero => rfl
  | succ n ih => simp [List.replicate_succ, val, ih]

/-- 2 to the power of 64. -/
def W64 : Nat := 18446744073709551616
theorem W64_pos : 0 < W64 := by decide
theorem W64_eq : W64 = 18446744073709551616 := rfl
/-- All numbers are less than the base. -/
def Dg (b : Nat) (xs : List Nat) : Prop := ∀ i, gt xs i < b
theorem Dg.of_mem {b : Nat} {xs : List Nat} (hb : 0 < b) (h : ∀ d ∈ xs, d < b) : Dg b xs := by
  intro i
  by_cases hi : i < xs.length
  · exact h _ (gt_mem hi)
  · rw [gt_of_ge (by omega)]; exact hb
theorem Dg.mem {b : Nat} {xs : List Nat} (h : Dg b xs) : ∀ d ∈ xs, d < b := by
  intro d hd
  obtain ⟨i, hi, rfl⟩ := List.getElem_of_mem hd
  rw [← gt_of_lt hi]; exact h i
theorem Dg.set {b : Nat} {xs : List Nat} (h : Dg b xs) {i v : Nat} (hv : v < b) : Dg b (xs.set i v) := by
  intro j
  by_cases hi : i < xs.length
  · rw [gt_set hi]; split
    · exact hv
    · exact h j
  · rw [List.set_eq_of_length_le (by omega)]; exact h j
/-- The value of n digits from a place on. -/
def vs (b : Nat) (xs : List Nat) (off : Nat) : Nat → Nat
  | 0 => 0
  | n + 1 => vs b xs off n + b ^ n * gt xs (off + n)
theorem vs_congr {b : Nat} {xs ys : List Nat} {off off' n : Nat} (h : ∀ i, i < n → gt xs (off + i) = gt ys (off' + i)) : vs b xs off n = vs b ys off' n := by
  induction n with
  | zero => rfl
  | succ n ih => simp only [vs]; rw [ih (fun i hi => h i (by omega)), h n (by omega)]
theorem vs_lt {b : Nat} {xs : List Nat} {off n : Nat} (h : Dg b xs) : vs b xs off n < b ^ n := by
  induction n with
  | zero => simp [vs]
  | succ n ih =>
    simp only [vs, Nat.pow_succ]
    have h2 := h (off + n)
    have h3 : b ^ n * (gt xs (off + n) + 1) ≤ b ^ n * b := Nat.mul_le_mul_left _ h2
    rw [Nat.mul_add] at h3
    omega
theorem vs_split (b : Nat) (xs : List Nat) (off m n : Nat) : vs b xs off (m + n) = vs b xs off m + b ^ m * vs b xs (off + m) n := by
  induction n with
  | zero => simp [vs]
  | succ n ih =>
    rw [← Nat.add_assoc]
    simp only [vs]
    rw [ih, Nat.mul_add, Nat.pow_add, Nat.mul_assoc, Nat.add_assoc off m n, Nat.add_assoc]
theorem vs_zero {b : Nat} {xs : List Nat} {off n : Nat} (h : ∀ i, i < n → gt xs (off + i) = 0) : vs b xs off n = 0 := by
  induction n with
  | zero => rfl
  | succ n ih => simp only [vs]; rw [ih (fun i hi => h i (by omega)), h n (by omega)]; simp
theorem vs_take {b : Nat} (xs : List Nat) (n : Nat) (h : n ≤ xs.length) : vs b xs 0 n = val b (xs.take n) := by
  induction n with
  | zero => simp [vs, val]
  | succ n ih =>
    rw [List.take_succ_eq_append_getElem (by omega), val_snoc, List.length_take_of_le (by omega), ← ih (by omega), ← gt_of_lt]
    simp only [vs, Nat.zero_add]
theorem vs_val {b : Nat} (xs : List Nat) : vs b xs 0 xs.length = val b xs := by
  rw [vs_take xs _ (Nat.le_refl _), List.take_length]
/-- The two halves of a sum with a carry. -/
def addLo (x y c : Nat) : Nat := (x + y + c) % W64
def addHi (x y c : Nat) : Nat := (x + y + c) / W64
theorem add_split (x y c : Nat) : addLo x y c + W64 * addHi x y c = x + y + c := Nat.mod_add_div _ _
theorem addLo_lt (x y c : Nat) : addLo x y c < W64 := Nat.mod_lt _ W64_pos
theorem addHi_le {x y c : Nat} (hx : x < W64) (hy : y < W64) (hc : c ≤ 1) : addHi x y c ≤ 1 := by
  unfold addHi; rw [W64_eq] at *; omega
/-- One step of an addition with a carry. -/
theorem add_step {P n V A X Y lo hi c : Nat} (hP : P = W64 ^ n) (h : V + P * c = A) (hs : lo + W64 * hi = X + Y + c) : (V + P * lo) + W64 ^ (n + 1) * hi = A + P * X + P * Y := by
  have e : P * lo + W64 ^ (n + 1) * hi = P * X + P * Y + P * c := by
    rw [Nat.pow_succ, ← hP, Nat.mul_assoc, ← Nat.mul_add, hs, Nat.mul_add, Nat.mul_add]
  omega

/-- The value of bytes, the most significant one first. -/
def num (l : List UInt8) : Nat := l.foldl (fun a d => 256 * a + d.toNat) 0
theorem num_nil : num [] = 0 := rfl
theorem num_snoc (l : List UInt8) (d : UInt8) : num (l ++ [d]) = 256 * num l + d.toNat := by simp [num]
theorem foldl_shift (l : List UInt8) : ∀ a : Nat, l.foldl (fun a d => 256 * a + d.toNat) a = a * 256 ^ l.length + num l := by
  induction l with
  | nil => intro a; simp [num]
  | cons d l ih =>
    intro a
    show List.foldl (fun a d => 256 * a + d.toNat) (256 * a + d.toNat) l = a * 256 ^ (l.length + 1) + List.foldl (fun a d => 256 * a + d.toNat) (256 * 0 + d.toNat) l
    rw [ih, ih, Nat.pow_succ, Nat.add_mul, Nat.mul_zero, Nat.zero_add]
    rw [show 256 * a * 256 ^ l.length = a * (256 ^ l.length * 256) from by rw [Nat.mul_comm 256 a, Nat.mul_assoc, Nat.mul_comm 256]]
    omega
theorem num_cons (d : UInt8) (l : List UInt8) : num (d :: l) = d.toNat * 256 ^ l.length + num l := by
  have h := foldl_shift l d.toNat
  show List.foldl (fun a d => 256 * a + d.toNat) (256 * 0 + d.toNat) l = _
  rw [Nat.mul_zero, Nat.zero_add, h]
theorem num_append (l r : List UInt8) : num (l ++ r) = num l * 256 ^ r.length + num r := by
  simp only [num, List.foldl_append]
  exact foldl_shift r _
theorem num_lt (l : List UInt8) : num l < 256 ^ l.length := by
  induction l with
  | nil => simp [num]
  | cons d l ih =>
    rw [num_cons, List.length_cons, Nat.pow_succ]
    have := d.toNat_lt
    have h3 : (d.toNat + 1) * 256 ^ l.length ≤ 256 * 256 ^ l.length := Nat.mul_le_mul_right _ (by omega)
    rw [Nat.add_mul] at h3
    omega

/-- Bytes without zeros in front. -/
def canon : List UInt8 → List UInt8
  | [] => []
  | d :: l => if d = 0 then canon l else d :: l
def Rt (l : List UInt8) : Prop := l.head? ≠ some 0
theorem rt_canon (l : List UInt8) : Rt (canon l) := by
  induction l with
  | nil => simp [canon, Rt]
  | cons d l ih => unfold canon; split <;> simp_all [Rt]
theorem num_canon (l : List UInt8) : num (canon l) = num l := by
  induction l with
  | nil => rfl
  | cons d l ih =>
    unfold canon; split
    · rename_i h; rw [ih, num_cons, h]; simp
    · rfl
theorem canon_of_rt {l : List UInt8} (h : Rt l) : canon l = l := by
  cases l with
  | nil => rfl
  | cons d l => unfold canon; rw [if_neg]; intro e; subst e; simp [Rt] at h
theorem canon_length_le (l : List UInt8) : (canon l).length ≤ l.length := by
  induction l with
  | nil => simp [canon]
  | cons d l ih => unfold canon; split <;> simp; omega
theorem rt_of_snoc {l : List UInt8} {d : UInt8} (h : Rt (l ++ [d])) : Rt l := by
  cases l with
  | nil => simp [Rt]
  | cons e l => simpa [Rt] using h
theorem eq_nil_of_num {l : List UInt8} (h : Rt l) (h0 : num l = 0) : l = [] := by
  cases l with
  | nil => rfl
  | cons d l =>
    rw [num_cons] at h0
    have : d.toNat * 256 ^ l.length = 0 := by omega
    rcases Nat.mul_eq_zero.1 this with h1 | h1
    · have hd : d = 0 := UInt8.toNat_inj.1 (by simpa using h1)
      subst hd; simp [Rt] at h
    · exact absurd h1 (by have : 0 < 256 ^ l.length := Nat.pow_pos (by decide); omega)

/-- The bytes of a number, none for 0. -/
def enc (n : Nat) : List UInt8 := if _h : n = 0 then [] else enc (n / 256) ++ [UInt8.ofNat (n % 256)]
termination_by n
decreasing_by omega
theorem enc_zero : enc 0 = [] := by unfold enc; simp
theorem enc_pos {n : Nat} (h : n ≠ 0) : enc n = enc (n / 256) ++ [UInt8.ofNat (n % 256)] := by rw [enc]; simp [h]
theorem num_enc (n : Nat) : num (enc n) = n := by
  induction n using Nat.strongRecOn with
  | _ n ih =>
    by_cases h : n = 0
    · subst h; simp [enc_zero, num]
    · rw [enc_pos h, num_snoc, ih _ (by omega)]
      simp
      omega
theorem rt_enc (n : Nat) : Rt (enc n) := by
  induction n using Nat.strongRecOn with
  | _ n ih =>
    by_cases h : n = 0
    · subst h; simp [enc_zero, Rt]
    · rw [enc_pos h]
      by_cases h2 : n / 256 = 0
      · rw [h2, enc_zero]
        have : n % 256 = n := by omega
        rw [this]
        simp only [Rt, List.nil_append, List.head?_cons, ne_eq, Option.some.injEq]
        intro e
        have := congrArg UInt8.toNat e
        simp at this
        omega
      · have := ih (n / 256) (by omega)
        unfold Rt at this ⊢
        have hne : enc (n / 256) ≠ [] := by
          intro e
          have := num_enc (n / 256)
          rw [e] at this
          simp [num] at this
          omega
        rw [List.head?_append]
        cases hh : (enc (n / 256)).head? with
        | none => exact absurd (List.head?_eq_none_iff.1 hh) hne
        | some x => rw [hh] at this; simpa using this
theorem num_inj : ∀ {l r : List UInt8}, Rt l → Rt r → num l = num r → l = r := by
  intro l
  induction hn : l.length generalizing l with
  | zero =>
    intro r _ hr h
    obtain rfl : l = [] := List.eq_nil_of_length_eq_zero hn
    exact (eq_nil_of_num hr (by rw [← h]; rfl)).symm
  | succ n ih =>
    intro r hl hr h
    rcases List.eq_nil_or_concat r with rfl | ⟨r', e, rfl⟩
    · exact eq_nil_of_num hl (by rw [h]; rfl)
    rcases List.eq_nil_or_concat l with rfl | ⟨l', d, rfl⟩
    · simp at hn
    simp only [List.concat_eq_append] at *
    rw [num_snoc, num_snoc] at h
    have hd := d.toNat_lt
    have he := e.toNat_lt
    have h1 : num l' = num r' := by omega
    have h2 : d = e := UInt8.toNat_inj.1 (by omega)
    rw [ih (by simpa using hn) (rt_of_snoc hl) (rt_of_snoc hr) h1, h2]
theorem enc_num {l : List UInt8} (h : Rt l) : enc (num l) = l := num_inj (rt_enc _) h (num_enc _)
theorem enc_num_canon (l : List UInt8) : enc (num l) = canon l := by
  rw [← num_canon]; exact enc_num (rt_canon l)
theorem enc_inj {a b : Nat} (h : enc a = enc b) : a = b := by rw [← num_enc a, ← num_enc b, h]

end Mth
end Go.Proofs.YtmlmjhlakpgagaaDoor
namespace Go.Proofs.YtmlmjhlakpgagaaDoor
open Go.RowKit Mth

/-- The cells of numbers. -/
def cellsOf (k : IntKind) (xs : List Nat) : List Value := xs.map fun n : Nat => Value.int k (n : Int)
theorem length_cellsOf (k : IntKind) (xs : List Nat) : (cellsOf k xs).length = xs.length := by simp [cellsOf]
theorem cellsOf_append (k : IntKind) (xs ys : List Nat) : cellsOf k (xs ++ ys) = cellsOf k xs ++ cellsOf k ys := by simp [cellsOf]
theorem cellsOf_set (k : IntKind) (xs : List Nat) (i v : Nat) : cellsOf k (xs.set i v) = (cellsOf k xs).set i (.int k (v : Int)) := by simp [cellsOf, List.map_set]
theorem cellsOf_get (k : IntKind) (xs : List Nat) (i : Nat) (h : i < xs.length) : (cellsOf k xs)[i]? = some (.int k ((gt xs i : Nat) : Int)) := by
  simp [cellsOf, gt_of_lt h, List.getElem?_eq_getElem h]

/-- Block b holds just the numbers xs, each in a cell of kind k; its element type is e; nothing in it is frozen. -/
def Blk (k : IntKind) (e : TypeId) (w : World) (b : Nat) (xs : List Nat) : Prop := w.heap[b]? = some (.cells (cellsOf k xs).toArray e (0, 0))

section
variable {k : IntKind} {e : TypeId} {w w' : World} {b : Nat} {xs : List Nat}
theorem Blk.lt (h : Blk k e w b xs) : b < w.heap.size := (Array.getElem?_eq_some_iff.1 h).1
theorem Blk.cell (h : Blk k e w b xs) {i : Nat} (hi : i < xs.length) : w.cell? ⟨b, i, none⟩ = some (.int k ((gt xs i : Nat) : Int)) := by
  rw [cell_of_row w b i _ e (0, 0) h, List.getElem?_toArray, cellsOf_get k xs i hi]
theorem Blk.frozen (h : Blk k e w b xs) (i : Nat) : w.frozen? ⟨b, i, none⟩ = false := by
  simp only [World.frozen?]
  rw [show w.heap[b]? = some (.cells (cellsOf k xs).toArray e (0, 0)) from h]
  simp
theorem Blk.kept (h : Blk k e w b xs) {row : Option Nat} (hg : w.grownBy w' row) (hne : some b ≠ row) : Blk k e w' b xs := by
  unfold Blk at h ⊢
  rw [hg.block b (Array.getElem?_eq_some_iff.1 h).1 hne]; exact h
theorem Blk.alloc (h : Blk k e w b xs) (o : Obj) : Blk k e (w.alloc o) b xs := h.kept (World.grownBy_alloc w o none) (by simp)
theorem Blk.drew (h : Blk k e w b xs) : Blk k e w.drew b xs := h
theorem Blk.set (h : Blk k e w b xs) (i v : Nat) : Blk k e (w.setCell ⟨b, i, none⟩ (.int k (v : Int))) b (xs.set i v) := by
  unfold Blk at h ⊢
  rw [setCell_eq_setRow w b i _ e (0, 0) _ h, setRow_heap w b _ _ e (0, 0) h]
  simp [cellsOf_set]
theorem Blk.setOther (h : Blk k e w b xs) {b' : Nat} (hne : b ≠ b') (i : Nat) (v : Value) : Blk k e (w.setCell ⟨b', i, none⟩ v) b xs := by
  unfold Blk at h ⊢
  rw [Below.heap_setCell _ _ _ _ hne]; exact h
end

theorem madeCells_one (k : IntKind) (n : Nat) : (madeCells (Value.int k 0).cells (n * 1)).toList = cellsOf k (List.replicate n 0) := by
  simp only [madeCells, Value.cells, cellsOf, Nat.mul_one]
  apply List.ext_getElem
  · simp
  · intro i h1 h2
    simp [Nat.mod_one]
/-- What 'make' of n numbers leaves. -/
theorem blk_made {k : IntKind} {e : TypeId} {w' : World} {base g n : Nat} (h : w'.ownsRow base e 1 (.slice (some ⟨g, 0, none⟩) n n) n (madeCells (Value.int k 0).cells (n * 1)).toList) : Blk k e w' g (List.replicate n 0) := by
  obtain ⟨_, h2⟩ := h
  rcases h2 with ⟨h2, _⟩ | ⟨g', cap, cur, hv, _, hg, _, _, hsz, htk⟩
  · simp at h2
  · simp only [Value.slice.injEq, Option.some.injEq, Addr.mk.injEq, and_true, true_and] at hv
    obtain ⟨rfl, rfl⟩ := hv
    have hc : cur = (cellsOf k (List.replicate n 0)).toArray := by
      rw [← madeCells_one, ← htk, Nat.mul_one, List.take_of_length_le (by simp [hsz])]
    subst hc
    exact hg
theorem blk_made' {k : IntKind} {e : TypeId} {w' : World} {base g n : Nat} (h : w'.ownsRow base e 1 (.slice (some ⟨g, 0, none⟩) n n) n (madeCells #[Value.int k 0] n).toList) : Blk k e w' g (List.replicate n 0) :=
  blk_made (base := base) (by rw [Nat.mul_one]; exact h)

section
variable {w w1 w2 : World} {row : Option Nat}
theorem gr_trans {a b c : World} {r r1 r2 : Option Nat} (h : a.grownBy b r1) (g : b.grownBy c r2) (h1 : r1 = none ∨ r1 = r) (h2 : r2 = none ∨ r2 = r ∨ ∀ k, r2 = some k → a.heap.size ≤ k) : a.grownBy c r := by
  refine ⟨g.os.trans h.os, g.tape.trans h.tape, g.output.trans h.output, Nat.le_trans h.size g.size, fun k hk hne => ?_⟩
  have hb : b.heap[k]? = a.heap[k]? := h.block k hk (by rcases h1 with rfl | rfl; simp; exact hne)
  have hs := h.size
  refine (g.block k (by omega) ?_).trans hb
  rcases h2 with rfl | rfl | h2
  · simp
  · exact hne
  · intro e; have := h2 k e.symm; omega
theorem gr_set (w : World) (b i : Nat) (v : Value) : w.grownBy (w.setCell ⟨b, i, none⟩ v) (some b) :=
  ⟨rfl, rfl, rfl, by simp [World.setCell], fun k _ hne => Below.heap_setCell _ _ _ _ (by intro e; exact hne (by rw [e]))⟩
theorem gr_new {a b c : World} {g : Nat} (h : a.grownBy b none) (k : b.grownBy c (some g)) (hg : a.heap.size ≤ g) : a.grownBy c none :=
  gr_trans h k (.inl rfl) (.inr (.inr fun j e => by cases e; exact hg))
theorem gr_then {a b c : World} {r : Option Nat} (h : a.grownBy b none) (k : b.grownBy c r) : a.grownBy c r := gr_trans h k (.inl rfl) (.inr (.inl rfl))
theorem gr_alloc (w : World) (o : Obj) (row : Option Nat) : w.grownBy (w.alloc o) row := World.grownBy_alloc w o row
theorem gr_drew (w : World) (row : Option Nat) : w.grownBy w.drew row := ⟨rfl, rfl, rfl, Nat.le_refl _, fun _ _ _ => rfl⟩
theorem gr_drewN (w : World) (n : Nat) (row : Option Nat) : w.grownBy (w.drewN n) row := ⟨rfl, rfl, rfl, Nat.le_refl _, fun _ _ _ => rfl⟩
end
end Go.Proofs.YtmlmjhlakpgagaaDoor
namespace Go.Proofs.YtmlmjhlakpgagaaDoor
open Go.RowKit Mth

theorem zeroCells_int (k : IntKind) (n : Nat) : (Builtin.zeroCells (Value.int k 0).cells n).toList = cellsOf k (List.replicate n 0) := by
  simp only [Builtin.zeroCells, Value.cells, cellsOf]
  apply List.ext_getElem
  · simp
  · intro i h1 h2
    simp [Nat.mod_one]

/-- A slice that the call owns: nil, or the head of a block of numbers. -/
def Own (k : IntKind) (e : TypeId) (w : World) (v : Value) (n : Nat) (zs : List Nat) : Prop :=
  (v = .slice none 0 0 ∧ n = 0 ∧ zs = []) ∨ (∃ g, v = .slice (some ⟨g, 0, none⟩) n zs.length ∧ Blk k e w g zs ∧ n ≤ zs.length ∧ zs.length ≤ maxLen)
theorem Own.nil (k : IntKind) (e : TypeId) (w : World) : Own k e w (.slice none 0 0) 0 [] := .inl ⟨rfl, rfl, rfl⟩
theorem Own.kept {k : IntKind} {e : TypeId} {w w' : World} {v : Value} {n : Nat} {zs : List Nat} {r : Option Nat} (h : Own k e w v n zs) (hg : w.grownBy w' r) (hne : v.ownBlock = none ∨ v.ownBlock ≠ r) : Own k e w' v n zs := by
  rcases h with h | ⟨g, rfl, hb, h1, h2⟩
  · exact .inl h
  · exact .inr ⟨g, rfl, hb.kept hg (by simpa [Value.ownBlock] using hne), h1, h2⟩

/-- What append leaves: the n old numbers, the m new ones. -/
structure Apped (zs us xs : List Nat) (n m off : Nat) : Prop where
  old : ∀ i, i < n → gt us i = gt zs i
  new : ∀ i, i < m → gt us (n + i) = gt xs (off + i)
  rest : ∀ i, gt us i = 0 ∨ (∃ j, gt us i = gt zs j) ∨ (∃ j, gt us i = gt xs j)

theorem apped_grow {zs xs : List Nat} {n m off r : Nat} (hn : n ≤ zs.length) (hm : off + m ≤ xs.length) : Apped zs (zs.take n ++ (xs.drop off).take m ++ List.replicate r 0) xs n m off := by
  have h1 : (zs.take n).length = n := by simp; omega
  have h2 : ((xs.drop off).take m).length = m := by simp; omega
  have h3 : (zs.take n ++ (xs.drop off).take m).length = n + m := by rw [List.length_append, h1, h2]
  refine ⟨fun i hi => ?_, fun i hi => ?_, fun i => ?_⟩
  · rw [gt_append_left (by omega), gt_append_left (by omega), gt_take hi]
  · rw [gt_append_left (by omega), gt_append_right (by omega), h1, Nat.add_sub_cancel_left, gt_take hi, gt_drop]
  · by_cases ha : i < n
    · right; left; exact ⟨i, by rw [gt_append_left (by omega), gt_append_left (by omega), gt_take ha]⟩
    · by_cases hb : i < n + m
      · right; right; exact ⟨off + (i - n), by rw [gt_append_left (by omega), gt_append_right (by omega), h1, gt_take (by omega), gt_drop]⟩
      · left; rw [gt_append_right (by omega)]; simp [gt, List.getD, List.getElem?_replicate]; split <;> rfl
theorem apped_room {zs xs : List Nat} {n m off : Nat} (hn : n + m ≤ zs.length) (hm : off + m ≤ xs.length) : Apped zs (zs.take n ++ (xs.drop off).take m ++ zs.drop (n + m)) xs n m off := by
  have h1 : (zs.take n).length = n := by simp; omega
  have h2 : ((xs.drop off).take m).length = m := by simp; omega
  have h3 : (zs.take n ++ (xs.drop off).take m).length = n + m := by rw [List.length_append, h1, h2]
  refine ⟨fun i hi => ?_, fun i hi => ?_, fun i => ?_⟩
  · rw [gt_append_left (by omega), gt_append_left (by omega), gt_take hi]
  · rw [gt_append_left (by omega), gt_append_right (by omega), h1, Nat.add_sub_cancel_left, gt_take hi, gt_drop]
  · by_cases ha : i < n
    · right; left; exact ⟨i, by rw [gt_append_left (by omega), gt_append_left (by omega), gt_take ha]⟩
    · by_cases hb : i < n + m
      · right; right; exact ⟨off + (i - n), by rw [gt_append_left (by omega), gt_append_right (by omega), h1, gt_take (by omega), gt_drop]⟩
      · right; left; exact ⟨n + m + (i - (n + m)), by rw [gt_append_right (by omega), h3, gt_drop]⟩
theorem Apped.dg {zs us xs : List Nat} {n m off b : Nat} (h : Apped zs us xs n m off) (hb : 0 < b) (h1 : Dg b zs) (h2 : Dg b xs) : Dg b us := by
  intro i
  rcases h.rest i with h | ⟨j, h⟩ | ⟨j, h⟩
  · rw [h]; exact hb
  · rw [h]; exact h1 j
  · rw [h]; exact h2 j

theorem run_append_blk {P : Program} {w : World} (k : IntKind) (e : TypeId) (t ty : TypeId) (i : TypeInfo) (bytes : Nat) (ht : P.underlying t = some (.slice e)) (hi : P.info? e = some i) (hz : i.zero = some (.int k 0)) (hsize : i.size = 1) (hby : i.bytes = bytes)
    (v : Value) (n : Nat) (zs : List Nat) (hown : Own k e w v n zs) (b off m c : Nat) (xs : List Nat) (hcell : ∀ j, j < m → w.cell? ⟨b, off + j, none⟩ = some (.int k ((gt xs (off + j) : Nat) : Int))) (hm : off + m ≤ xs.length) (hm0 : 0 < m)
    (h63 : n + m ≤ maxLen) (hbytes : (n + m) * bytes ≤ 140737488355328) :
    ∃ v' w' us, (Builtin.append_ #[t, t] ty #[v, .slice (some ⟨b, off, none⟩) m c]).run P w = .ok v' w' ∧ Own k e w' v' (n + m) us ∧ w.grownBy w' v.ownBlock ∧ Apped zs us xs n m off ∧ (v'.ownBlock = v.ownBlock ∨ ∃ g, v'.ownBlock = some g ∧ w.heap.size ≤ g) := by
  have hsmall : n + m ≤ 9223372036854775807 := by simp only [maxLen] at h63; omega
  have hnl : (cellsOf k ((xs.drop off).take m)).length = m := by rw [length_cellsOf]; simp; omega
  have hl : (cellsOf k ((xs.drop off).take m)).length = m * i.size := by rw [hsize, hnl, Nat.mul_one]
  have hnews : ∀ j u, (cellsOf k ((xs.drop off).take m))[j]? = some u → w.cell? ((⟨b, off, none⟩ : Addr).add j) = some u := by
    intro j u hu
    have hj : j < m := by have := (List.getElem?_eq_some_iff.1 hu).1; omega
    rw [Addr.add_lit, hcell j hj]
    rw [cellsOf_get k _ _ (by simp; omega), gt_take hj, gt_drop] at hu
    exact hu
  have hone : ∀ u ∈ cellsOf k ((xs.drop off).take m), u.oneCell' = true := by
    intro u hu
    simp only [cellsOf, List.mem_map] at hu
    obtain ⟨_, _, rfl⟩ := hu
    rfl
  have hzc : ∀ q, (Builtin.zeroCells (Value.int k 0).cells q) = (cellsOf k (List.replicate q 0)).toArray := fun q => by rw [← zeroCells_int, Array.toArray_toList]
  rcases hown with ⟨rfl, rfl, rfl⟩ | ⟨g, rfl, hb, hn, hmx⟩
  · have hr := run_append_nil (P := P) w t ty e i (.int k 0) ht hi hz ⟨b, off, none⟩ m c _ hl hnews hm0 (by omega) (by rw [hby]; simp only [Nat.zero_add] at hbytes; omega)
    have hge := grownCap_ge w m 0 e
    refine ⟨_, _, (xs.drop off).take m ++ List.replicate (grownCap w m 0 e - m) 0, hr, .inr ⟨w.heap.size, ?_, ?_, ?_, ?_⟩, ⟨rfl, rfl, rfl, by simp, fun k hk _ => heap_alloc_old w.drew _ hk⟩, ?_, .inr ⟨w.heap.size, rfl, Nat.le_refl _⟩⟩
    · simp; congr 1; omega
    · unfold Blk
      rw [hzc]
      refine (heap_alloc_new w.drew _).trans ?_
      simp [cellsOf]
    · simp; omega
    · have := grownCap_le_maxLen w m 0 e (by omega)
      simp; omega
    · have := apped_grow (zs := []) (xs := xs) (n := 0) (m := m) (off := off) (r := grownCap w m 0 e - m) (Nat.le_refl _) hm
      simpa using this
  · have hnz : (cellsOf k (zs.take n)).length = n * i.size := by rw [hsize, length_cellsOf]; simp; omega
    by_cases hroom : n + m ≤ zs.length
    · have hr := run_append_room (P := P) w t ty e i ht hi g n zs.length (cellsOf k zs).toArray hb ⟨b, off, none⟩ m c _ hl hnews hone hroom (by rw [hsize, hnl]; simp [length_cellsOf]; omega)
      have hcells : (((cellsOf k zs).toArray.toList.take (n * i.size) ++ cellsOf k ((xs.drop off).take m) ++ (cellsOf k zs).toArray.toList.drop (n * i.size + (cellsOf k ((xs.drop off).take m)).length)).toArray) = (cellsOf k (zs.take n ++ (xs.drop off).take m ++ zs.drop (n + m))).toArray := by
        rw [hsize, hnl, Nat.mul_one]; simp [cellsOf, List.map_take, List.map_drop]
      rw [hcells] at hr
      have hlen : (zs.take n ++ (xs.drop off).take m ++ zs.drop (n + m)).length = zs.length := by simp; omega
      refine ⟨_, _, zs.take n ++ (xs.drop off).take m ++ zs.drop (n + m), hr, .inr ⟨g, by rw [hlen], setRow_heap w g _ _ e _ hb, by rw [hlen]; exact hroom, by rw [hlen]; exact hmx⟩, ⟨rfl, rfl, rfl, by simp, fun k _ hk => setRow_other w g k _ (fun e => hk (by simp [Value.ownBlock, e]))⟩, apped_room hroom hm, .inl rfl⟩
    · have holds : ∀ j u, (cellsOf k (zs.take n))[j]? = some u → w.cell? ((⟨g, 0, none⟩ : Addr).add j) = some u := by
        intro j u hu
        have hj : j < n := by have := (List.getElem?_eq_some_iff.1 hu).1; rw [length_cellsOf] at this; simp at this; omega
        rw [Addr.add_lit, Nat.zero_add, hb.cell (by omega)]
        rw [cellsOf_get k _ _ (by simp; omega), gt_take hj] at hu
        exact hu
      have hr := run_append_grow (P := P) w t ty e i (.int k 0) ht hi hz ⟨g, 0, none⟩ n zs.length (cellsOf k (zs.take n)) hnz holds ⟨b, off, none⟩ m c _ hl hnews (by omega) (by omega) (growslice_fits (by omega) (by rw [hby]; exact hbytes))
      have hge := grownCap_ge w (n + m) zs.length e
      refine ⟨_, _, zs.take n ++ (xs.drop off).take m ++ List.replicate (grownCap w (n + m) zs.length e - (n + m)) 0, hr, .inr ⟨w.heap.size, ?_, ?_, ?_, ?_⟩, ⟨rfl, rfl, rfl, by simp, fun k hk _ => heap_alloc_old w.drew _ hk⟩, apped_grow hn hm, .inr ⟨w.heap.size, rfl, Nat.le_refl _⟩⟩
      · simp; congr 1; omega
      · unfold Blk
        rw [hzc]
        refine (heap_alloc_new w.drew _).trans ?_
        simp [cellsOf]
      · simp; omega
      · have := grownCap_le_maxLen w (n + m) zs.length e h63
        simp; omega

theorem wpList_append_blk {P : Program} {w : World} {ops : Array Oper} {rest : List Oper} {o : Oper} {a : Act} {Q : Exit → Act → World → Prop} (hgd : o.guard = none) (s x : Operand) (t : TypeId)
    (ho : o.op = .call { callee := .builtin .append, args := #[s, x], argTypes := #[t, t] })
    (k : IntKind) (e : TypeId) (i : TypeInfo) (bytes : Nat) (ht : P.underlying t = some (.slice e)) (hi : P.info? e = some i) (hz : i.zero = some (.int k 0)) (hsize : i.size = 1) (hby : i.bytes = bytes)
    (v : Value) (n : Nat) (zs : List Nat) (hs : a.eval s = v) (hown : Own k e w v n zs) (b off m c : Nat) (xs : List Nat) (hx : a.eval x = .slice (some ⟨b, off, none⟩) m c)
    (hcell : ∀ j, j < m → w.cell? ⟨b, off + j, none⟩ = some (.int k ((gt xs (off + j) : Nat) : Int))) (hm : off + m ≤ xs.length) (hm0 : 0 < m)
    (h63 : n + m ≤ maxLen) (hbytes : (n + m) * bytes ≤ 140737488355328)
    (h : ∀ v' w' us, Own k e w' v' (n + m) us → w.grownBy w' v.ownBlock → Apped zs us xs n m off → (v'.ownBlock = v.ownBlock ∨ ∃ g, v'.ownBlock = some g ∧ w.heap.size ≤ g) → wpList P ops Q rest (a.put o.dst v') w') : wpList P ops Q (o :: rest) a w := by
  refine wpList_plain hgd fun K hK => ?_
  obtain ⟨v', w', us, hr, h2, h3, h4, h5⟩ := run_append_blk (P := P) (w := w) k e t o.type i bytes ht hi hz hsize hby v n zs hown b off m c xs hcell hm hm0 h63 hbytes
  unfold Oper.wp execOp
  simp only [ho, resolve, invoke, builtin, Sem.run_bind, Sem.run_pure, Result.andThen_ok, List.map_toArray, List.map_cons, List.map_nil, hs, hx, hr]
  exact hK _ _ (h v' w' us h2 h3 h4 h5)
end Go.Proofs.YtmlmjhlakpgagaaDoor
namespace Go.Proofs.YtmlmjhlakpgagaaDoor
namespace Mth

/-- The words of a number N, n of them. -/
def wordsN (n N : Nat) : List Nat := (List.range n).map fun j => N / W64 ^ j % W64
theorem length_wordsN (n N : Nat) : (wordsN n N).length = n := by simp [wordsN]
theorem gt_wordsN {n N j : Nat} (h : j < n) : gt (wordsN n N) j = N / W64 ^ j % W64 := by
  rw [gt_of_lt (by rw [length_wordsN]; exact h)]; simp [wordsN]
theorem wordsN_zero (n : Nat) : wordsN n 0 = List.replicate n 0 := by
  apply gt_ext
  · simp [length_wordsN]
  · intro i hi
    rw [length_wordsN] at hi
    rw [gt_wordsN hi, gt_of_lt (by simpa using hi)]; simp
theorem dg_wordsN (n N : Nat) : Dg W64 (wordsN n N) := by
  intro i
  by_cases h : i < n
  · rw [gt_wordsN h]; exact Nat.mod_lt _ W64_pos
  · rw [gt_of_ge (by rw [length_wordsN]; omega)]; exact W64_pos
theorem vs_wordsN {n N m : Nat} (h : m ≤ n) : vs W64 (wordsN n N) 0 m = N % W64 ^ m := by
  induction m with
  | zero => simp [vs, Nat.mod_one]
  | succ m ih =>
    simp only [vs, Nat.zero_add]
    rw [ih (by omega), gt_wordsN (by omega), Nat.pow_succ, Nat.mod_mul]
theorem W64_pow (j : Nat) : W64 ^ j = 256 ^ (8 * j) := by
  rw [Nat.pow_mul]; congr 1
theorem pow_split {a b c : Nat} (h : a + b = c) : 256 ^ c = 256 ^ a * 256 ^ b := by rw [← h, Nat.pow_add]
theorem add_mod_small {x y m : Nat} (h : x % m + y < m) : (x + y) % m = x % m + y := by
  rw [Nat.add_mod, Nat.mod_eq_of_lt (show y < m by omega), Nat.mod_eq_of_lt h]
/-- A multiple of A, cut at A * B, leaves room for what is less than A. -/
theorem mul_mod_room {A B M y : Nat} (hy : y < A) (hB : 0 < B) : (A * M) % (A * B) + y < A * B := by
  rw [Nat.mul_mod_mul_left]
  have h1 : M % B + 1 ≤ B := Nat.mod_lt _ hB
  have h2 : A * (M % B + 1) ≤ A * B := Nat.mul_le_mul_left _ h1
  rw [Nat.mul_add] at h2
  omega
theorem wordsN_word {q r d M : Nat} (hr : r < 8) (hd : d < 256) : (256 ^ (r + 1) * M) % W64 + d * 256 ^ r = (256 ^ (r + 1) * M + d * 256 ^ r) % W64 ∧ (q = q) := by
  refine ⟨?_, rfl⟩
  have hW : W64 = 256 ^ (r + 1) * 256 ^ (7 - r) := by rw [← Nat.pow_add, show r + 1 + (7 - r) = 8 from by omega]; rfl
  have hlt : d * 256 ^ r < 256 ^ (r + 1) := by
    rw [Nat.pow_succ, Nat.mul_comm]
    exact Nat.mul_lt_mul_of_pos_left hd (Nat.pow_pos (by decide))
  rw [hW]
  exact (add_mod_small (mul_mod_room hlt (Nat.pow_pos (by decide)))).symm
theorem wordsN_step {n q r d M N : Nat} (hq : q < n) (hr : r < 8) (hd : d < 256) (hN : N = 256 ^ (8 * q + r + 1) * M) :
    (wordsN n N).set q (gt (wordsN n N) q + d * 256 ^ r) = wordsN n (N + d * 256 ^ (8 * q + r)) := by
  have hlt : d * 256 ^ r < 256 ^ (r + 1) := by
    rw [Nat.pow_succ, Nat.mul_comm]
    exact Nat.mul_lt_mul_of_pos_left hd (Nat.pow_pos (by decide))
  have hP : ∀ k, 0 < 256 ^ k := fun k => Nat.pow_pos (by decide)
  apply gt_ext
  · simp [length_wordsN]
  · intro j hj
    rw [List.length_set, length_wordsN] at hj
    rw [gt_set (by rw [length_wordsN]; exact hq), gt_wordsN (N := N + _) hj]
    by_cases e : q = j
    · subst e
      rw [if_pos rfl, gt_wordsN hq]
      have h1 : N / W64 ^ q = 256 ^ (r + 1) * M := by
        rw [hN, W64_pow, show 8 * q + r + 1 = 8 * q + (r + 1) from by omega, Nat.pow_add, Nat.mul_assoc, Nat.mul_div_cancel_left _ (hP _)]
      have h2 : (N + d * 256 ^ (8 * q + r)) / W64 ^ q = 256 ^ (r + 1) * M + d * 256 ^ r := by
        have : N + d * 256 ^ (8 * q + r) = 256 ^ (8 * q) * (256 ^ (r + 1) * M + d * 256 ^ r) := by
          rw [hN, show 8 * q + r + 1 = 8 * q + (r + 1) from by omega, Nat.pow_add 256 (8 * q) (r + 1), Nat.pow_add 256 (8 * q) r, Nat.mul_add, Nat.mul_assoc, Nat.mul_left_comm d]
        rw [this, W64_pow, Nat.mul_div_cancel_left _ (hP _)]
      rw [h1, h2]
      exact (wordsN_word (q := q) hr hd).1
    · rw [if_neg e, gt_wordsN hj]
      rcases Nat.lt_or_gt_of_ne e with h | h
      · -- a later word
        have hle : 256 ^ (8 * q + r + 1) * 256 ^ (8 * j - (8 * q + r + 1)) = W64 ^ j := by
          rw [W64_pow, ← Nat.pow_add]; congr 1; omega
        have hroom : N % W64 ^ j + d * 256 ^ (8 * q + r) < W64 ^ j := by
          rw [hN, ← hle]
          refine mul_mod_room ?_ (hP _)
          rw [Nat.pow_add 256 (8 * q), Nat.mul_left_comm, show 8 * q + r + 1 = 8 * q + (r + 1) from by omega, Nat.pow_add 256 (8 * q)]
          exact Nat.mul_lt_mul_of_pos_left hlt (hP _)
        congr 1
        have h3 := Nat.mod_add_div N (W64 ^ j)
        have h4 : (N + d * 256 ^ (8 * q + r)) / W64 ^ j = N / W64 ^ j := by
          have e2 : N + d * 256 ^ (8 * q + r) = (N % W64 ^ j + d * 256 ^ (8 * q + r)) + W64 ^ j * (N / W64 ^ j) := by omega
          rw [e2, Nat.add_mul_div_left _ _ (Nat.pow_pos W64_pos), Nat.div_eq_of_lt hroom, Nat.zero_add]
        exact h4.symm
      · -- an earlier word
        obtain ⟨m, hm⟩ : ∃ m, 8 * q + r = (8 * (j + 1)) + m := ⟨8 * q + r - 8 * (j + 1), by omega⟩
        have key : ∀ K, (W64 ^ (j + 1) * K) / W64 ^ j % W64 = 0 := by
          intro K
          rw [Nat.pow_succ, Nat.mul_assoc, Nat.mul_div_cancel_left _ (Nat.pow_pos W64_pos)]
          simp
        have e1 : N = W64 ^ (j + 1) * (256 ^ (m + 1) * M) := by
          rw [hN, W64_pow, ← Nat.mul_assoc, ← Nat.pow_add]; congr 2; omega
        have e2 : N + d * 256 ^ (8 * q + r) = W64 ^ (j + 1) * (256 ^ (m + 1) * M + d * 256 ^ m) := by
          rw [Nat.mul_add, ← e1, hm, Nat.pow_add, W64_pow, Nat.mul_left_comm]
        rw [e2, key, e1, key]
/-- The word that is or-ed with a byte that is not in it yet. -/
theorem or_byte {x r d : Nat} (hd : d < 256) (hx : 256 ^ (r + 1) ∣ x) : x ||| (d * 256 ^ r) = x + d * 256 ^ r := by
  obtain ⟨M, rfl⟩ := hx
  have h : 256 ^ (r + 1) = 2 ^ (8 * (r + 1)) := by rw [Nat.pow_mul]
  have hlt : d * 256 ^ r < 2 ^ (8 * (r + 1)) := by
    rw [← h, Nat.pow_succ, Nat.mul_comm]
    exact Nat.mul_lt_mul_of_pos_left hd (Nat.pow_pos (by decide))
  rw [h, Nat.two_pow_add_eq_or_of_lt hlt]
theorem wordsN_dvd {n q r M N : Nat} (hq : q < n) (hr : r < 8) (hN : N = 256 ^ (8 * q + r + 1) * M) : 256 ^ (r + 1) ∣ gt (wordsN n N) q := by
  have hP : ∀ k, 0 < 256 ^ k := fun k => Nat.pow_pos (by decide)
  rw [gt_wordsN hq]
  have h1 : N / W64 ^ q = 256 ^ (r + 1) * M := by
    rw [hN, W64_pow, show 8 * q + r + 1 = 8 * q + (r + 1) from by omega, Nat.pow_add, Nat.mul_assoc, Nat.mul_div_cancel_left _ (hP _)]
  have hW : W64 = 256 ^ (r + 1) * 256 ^ (7 - r) := by rw [← Nat.pow_add, show r + 1 + (7 - r) = 8 from by omega]; rfl
  rw [h1, hW, Nat.mul_mod_mul_left]
  exact Nat.dvd_mul_right _ _

/-- The first i bytes of L, at their places in a number of L.length bytes. -/
def front (L : List UInt8) (i : Nat) : Nat := num (L.take i) * 256 ^ (L.length - i)
theorem front_zero (L : List UInt8) : front L 0 = 0 := by simp [front, num]
theorem front_all (L : List UInt8) : front L L.length = num L := by simp [front]
theorem front_succ (L : List UInt8) {i : Nat} (h : i < L.length) : front L (i + 1) = front L i + L[i].toNat * 256 ^ (L.length - 1 - i) := by
  unfold front
  rw [List.take_succ_eq_append_getElem h, num_snoc, show L.length - i = (L.length - 1 - i) + 1 from by omega, show L.length - (i + 1) = L.length - 1 - i from by omega, Nat.pow_succ, Nat.add_mul]
  congr 1
  rw [Nat.mul_comm (256 ^ _) 256, ← Nat.mul_assoc, Nat.mul_comm 256]
theorem front_dvd (L : List UInt8) {i : Nat} (h : i < L.length) : front L i = 256 ^ (L.length - 1 - i + 1) * num (L.take i) := by
  unfold front
  rw [show L.length - 1 - i + 1 = L.length - i from by omega, Nat.mul_comm]
/-- One round of wordsOf. -/
theorem words_round (L : List UInt8) {n i q r d : Nat} (hi : i < L.length) (hp : L.length - 1 - i = 8 * q + r) (hr : r < 8) (hq : q < n) (hd : d = L[i].toNat) :
    (wordsN n (front L i)).set q (gt (wordsN n (front L i)) q ||| (d * 256 ^ r)) = wordsN n (front L (i + 1)) := by
  subst hd
  have hd := L[i].toNat_lt
  have hN := front_dvd L hi
  rw [hp] at hN
  rw [or_byte hd (wordsN_dvd hq hr hN), wordsN_step hq hr hd hN, front_succ L hi, hp]
/-- A right number has its greatest word not 0. -/
theorem num_ge {L : List UInt8} (h : Rt L) (hne : L ≠ []) : 256 ^ (L.length - 1) ≤ num L := by
  cases L with
  | nil => exact absurd rfl hne
  | cons d l =>
    have hd : d.toNat ≠ 0 := by
      intro e
      have : d = 0 := UInt8.toNat_inj.1 (by simpa using e)
      subst this; simp [Rt] at h
    rw [num_cons, List.length_cons, Nat.add_sub_cancel]
    have : 1 * 256 ^ l.length ≤ d.toNat * 256 ^ l.length := Nat.mul_le_mul_right _ (by omega)
    omega
/-- The words of a number, trimmed. -/
structure Words (xs : List Nat) (N : Nat) : Prop where
  dg : Dg W64 xs
  val : vs W64 xs 0 xs.length = N
  top : xs.length = 0 ∨ gt xs (xs.length - 1) ≠ 0
theorem words_of {L : List UInt8} (h : Rt L) : Words (wordsN ((L.length + 7) / 8) (num L)) (num L) := by
  have hlt := num_lt L
  have hlen : (wordsN ((L.length + 7) / 8) (num L)).length = (L.length + 7) / 8 := length_wordsN _ _
  refine ⟨dg_wordsN _ _, ?_, ?_⟩
  · rw [hlen, vs_wordsN (Nat.le_refl _)]
    apply Nat.mod_eq_of_lt
    rw [W64_pow]
    exact Nat.lt_of_lt_of_le hlt (Nat.pow_le_pow_right (by decide) (by omega))
  · rw [hlen]
    by_cases hL : L = []
    · left; simp [hL]
    · right
      have hpos : 0 < L.length := List.length_pos_iff.2 hL
      have hge := num_ge h hL
      rw [gt_wordsN (by omega)]
      have h1 : num L / W64 ^ ((L.length + 7) / 8 - 1) < W64 := by
        rw [Nat.div_lt_iff_lt_mul (Nat.pow_pos W64_pos), ← Nat.pow_succ', W64_pow]
        exact Nat.lt_of_lt_of_le hlt (Nat.pow_le_pow_right (by decide) (by omega))
      rw [Nat.mod_eq_of_lt h1]
      have h2 : W64 ^ ((L.length + 7) / 8 - 1) ≤ num L := by
        rw [W64_pow]
        exact Nat.le_trans (Nat.pow_le_pow_right (by decide) (by omega)) hge
      have := Nat.div_pos h2 (Nat.pow_pos W64_pos)
      omega
end Mth
end Go.Proofs.YtmlmjhlakpgagaaDoor
namespace Go.Proofs.YtmlmjhlakpgagaaDoor
namespace Mth

def D24 : Nat := 16777216
theorem D24_eq : D24 = 16777216 := rfl
theorem D24_pos : 0 < D24 := by decide
/-- The digits of a number, the least significant one first, none for 0. -/
def dgt (n : Nat) : List Nat := if _h : n = 0 then [] else (n % D24) :: dgt (n / D24)
termination_by n
decreasing_by rw [D24_eq]; omega
theorem dgt_zero : dgt 0 = [] := by unfold dgt; simp
theorem dgt_pos {n : Nat} (h : n ≠ 0) : dgt n = (n % D24) :: dgt (n / D24) := by rw [dgt]; simp [h]
theorem div_D24_lt {n : Nat} (h : n ≠ 0) : n / D24 < n := by rw [D24_eq]; omega
theorem val_dgt (n : Nat) : val D24 (dgt n) = n := by
  induction n using Nat.strongRecOn with
  | _ n ih =>
    by_cases h : n = 0
    · subst h; rw [dgt_zero]; rfl
    · rw [dgt_pos h, val, ih _ (div_D24_lt h)]; exact Nat.mod_add_div _ _
theorem gt_dgt (n i : Nat) : gt (dgt n) i = n / D24 ^ i % D24 := by
  induction i generalizing n with
  | zero =>
    by_cases h : n = 0
    · subst h; rw [dgt_zero]; simp [gt]
    · rw [dgt_pos h]; simp [gt]
  | succ i ih =>
    by_cases h : n = 0
    · subst h; rw [dgt_zero]; simp [gt]
    · rw [dgt_pos h, Nat.pow_succ, Nat.mul_comm, ← Nat.div_div_eq_div_mul, ← ih (n / D24)]; simp [gt]
theorem dg_dgt (n : Nat) : Dg D24 (dgt n) := fun i => by rw [gt_dgt]; exact Nat.mod_lt _ D24_pos
theorem vs_dgt (n k : Nat) : vs D24 (dgt n) 0 k = n % D24 ^ k := by
  induction k with
  | zero => simp [vs, Nat.mod_one]
  | succ k ih => simp only [vs, Nat.zero_add]; rw [ih, gt_dgt, Nat.pow_succ, Nat.mod_mul]
theorem dgt_len_le : ∀ (k n : Nat), n < D24 ^ k → (dgt n).length ≤ k
  | 0, n, h => by
    have : n = 0 := by simpa using h
    subst this; rw [dgt_zero]; simp
  | k + 1, n, h => by
    by_cases h0 : n = 0
    · subst h0; rw [dgt_zero]; simp
    · rw [dgt_pos h0, List.length_cons]
      have := dgt_len_le k (n / D24) (by rw [Nat.div_lt_iff_lt_mul D24_pos, ← Nat.pow_succ]; exact h)
      omega
theorem dgt_lt (n : Nat) : n < D24 ^ (dgt n).length := by
  have := val_lt D24 (dgt n) (dg_dgt n).mem
  rwa [val_dgt] at this
theorem dgt_top {n : Nat} (h : n ≠ 0) : D24 ^ ((dgt n).length - 1) ≤ n := by
  induction n using Nat.strongRecOn with
  | _ n ih =>
    rw [dgt_pos h, List.length_cons, Nat.add_sub_cancel]
    by_cases h1 : n / D24 = 0
    · rw [h1, dgt_zero]; simp; omega
    · have h2 := ih _ (div_D24_lt h) h1
      have h3 : 0 < (dgt (n / D24)).length := by rw [dgt_pos h1]; simp
      have h4 : D24 ^ (dgt (n / D24)).length = D24 ^ ((dgt (n / D24)).length - 1) * D24 := by rw [← Nat.pow_succ]; congr 1; omega
      rw [h4]
      have h5 : D24 ^ ((dgt (n / D24)).length - 1) * D24 ≤ n / D24 * D24 := Nat.mul_le_mul_right _ h2
      exact Nat.le_trans h5 (Nat.div_mul_le_self _ _)
theorem dgt_inj_len {a b : Nat} (h : a ≤ b) : (dgt a).length ≤ (dgt b).length := dgt_len_le _ _ (Nat.lt_of_le_of_lt h (dgt_lt b))
/-- A list of digits without zeros at its end is that of its value. -/
theorem eq_dgt {l : List Nat} (hd : Dg D24 l) (ht : l.length = 0 ∨ gt l (l.length - 1) ≠ 0) : l = dgt (val D24 l) := by
  have h1 := val_lt D24 l hd.mem
  have h2 := dgt_len_le _ _ h1
  have hlen : l.length = (dgt (val D24 l)).length := by
    rcases ht with h | h
    · omega
    · rcases Nat.eq_zero_or_pos l.length with h0 | h0
      · omega
      · have h3 : D24 ^ (l.length - 1) ≤ val D24 l := by
          rw [← vs_val]
          have e : vs D24 l 0 l.length = vs D24 l 0 (l.length - 1) + D24 ^ (l.length - 1) * gt l (l.length - 1) := by
            conv => lhs; rw [show l.length = (l.length - 1) + 1 from by omega]
            simp only [vs, Nat.zero_add]
          rw [e]
          have : D24 ^ (l.length - 1) * 1 ≤ D24 ^ (l.length - 1) * gt l (l.length - 1) := Nat.mul_le_mul_left _ (by omega)
          omega
        have h4 := dgt_lt (val D24 l)
        have h5 := Nat.lt_of_le_of_lt h3 h4
        have h6 : l.length - 1 < (dgt (val D24 l)).length := (Nat.pow_lt_pow_iff_right (by decide)).1 h5
        omega
  refine gt_ext hlen (fun i hi => ?_)
  rw [gt_dgt, ← vs_val]
  have hsplit := vs_split D24 l 0 i (l.length - i)
  rw [show i + (l.length - i) = l.length from by omega] at hsplit
  rw [hsplit, Nat.add_mul_div_left _ _ (Nat.pow_pos D24_pos), Nat.div_eq_of_lt (vs_lt hd), Nat.zero_add, Nat.zero_add]
  rw [show l.length - i = 1 + (l.length - i - 1) from by omega, vs_split]
  simp only [vs, Nat.pow_zero, Nat.one_mul, Nat.add_zero, Nat.zero_add, Nat.pow_one]
  rw [Nat.add_mul_mod_self_left, Nat.mod_eq_of_lt (hd i)]
theorem dgt_take_zeros {l : List Nat} {m : Nat} (hd : Dg D24 l) (hm : m ≤ l.length) (hz : ∀ i, m ≤ i → i < l.length → gt l i = 0) (ht : m = 0 ∨ gt l (m - 1) ≠ 0) : l.take m = dgt (val D24 l) := by
  have hl : (l.take m).length = m := by simp; omega
  have hdt : Dg D24 (l.take m) := fun i => by
    by_cases h : i < m
    · rw [gt_take h]; exact hd i
    · rw [gt_of_ge (by omega)]; exact D24_pos
  have hv : val D24 (l.take m) = val D24 l := by
    rw [← vs_take l m hm, ← vs_val l]
    have hsplit := vs_split D24 l 0 m (l.length - m)
    rw [show m + (l.length - m) = l.length from by omega] at hsplit
    rw [hsplit, vs_zero (n := l.length - m) (fun i hi => by rw [Nat.zero_add]; exact hz _ (by omega) (by omega))]; simp
  rw [← hv]
  refine eq_dgt hdt ?_
  rw [hl]
  rcases ht with h | h
  · exact .inl h
  · rcases Nat.eq_zero_or_pos m with h0 | h0
    · exact .inl h0
    · exact .inr (by rw [gt_take (by omega)]; exact h)
/-- How many digits as many bytes have. -/
theorem D24_pow (j : Nat) : D24 ^ j = 256 ^ (3 * j) := by rw [Nat.pow_mul]; congr 1
theorem eq_dgt_ge {l : List Nat} (hd : Dg D24 l) (h : l.length = 0 ∨ D24 ^ (l.length - 1) ≤ val D24 l) : l = dgt (val D24 l) := by
  refine eq_dgt hd ?_
  rcases h with h | h
  · exact .inl h
  · rcases Nat.eq_zero_or_pos l.length with h0 | h0
    · exact .inl h0
    · refine .inr fun e => ?_
      have e1 : val D24 l = vs D24 l 0 (l.length - 1) + D24 ^ (l.length - 1) * gt l (l.length - 1) := by
        rw [← vs_val]
        conv => lhs; rw [show l.length = (l.length - 1) + 1 from by omega]
        simp only [vs, Nat.zero_add]
      rw [e, Nat.mul_zero, Nat.add_zero] at e1
      have := vs_lt (b := D24) (xs := l) (off := 0) (n := l.length - 1) hd
      omega
theorem dg_snoc {l : List Nat} {d : Nat} (hd : Dg D24 l) (h : d < D24) : Dg D24 (l ++ [d]) := by
  refine Dg.of_mem D24_pos fun x hx => ?_
  rcases List.mem_append.1 hx with h1 | h1
  · exact hd.mem x h1
  · rw [List.mem_singleton.1 h1]; exact h
theorem dg_nil : Dg D24 [] := fun i => by simp [gt, D24_pos]
/-- The value of the digits from a place on. -/
theorem val_drop {l : List Nat} {k : Nat} (h : k < l.length) : val D24 (l.drop k) = gt l k + D24 * val D24 (l.drop (k + 1)) := by
  rw [List.drop_eq_getElem_cons h, val_cons, ← gt_of_lt h]
/-- Three bytes more. -/
theorem num_part (l : List UInt8) (s e : Nat) (h : s ≤ e) (he : e ≤ l.length) : num (l.drop s) = num ((l.take e).drop s) * 256 ^ (l.length - e) + num (l.drop e) := by
  have h1 : l.drop s = (l.take e).drop s ++ l.drop e := by
    conv => lhs; rw [← List.take_append_drop e l]
    rw [List.drop_append_of_le_length (by rw [List.length_take]; omega)]
  rw [h1, num_append, List.length_drop]
theorem num_part_lt (l : List UInt8) (s e : Nat) (h : e ≤ s + 3) : num ((l.take e).drop s) < D24 := by
  have h1 := num_lt ((l.take e).drop s)
  have h2 : ((l.take e).drop s).length ≤ 3 := by simp; omega
  have h3 := Nat.pow_le_pow_right (n := 256) (by decide) h2
  exact Nat.lt_of_lt_of_le h1 h3
end Mth
end Go.Proofs.YtmlmjhlakpgagaaDoor
namespace Go.Proofs.YtmlmjhlakpgagaaDoor
namespace Mth
open Go.Proofs

theorem bitLen_bounds {x : Nat} (h : x < W64) (h0 : x ≠ 0) : 1 ≤ Lib.bitLen x ∧ Lib.bitLen x ≤ 64 ∧ 2 ^ (Lib.bitLen x - 1) ≤ x ∧ x < 2 ^ Lib.bitLen x := by
  have hx : x < 2 ^ 64 := h
  obtain ⟨h1, h2, h3⟩ := Lib.bitLenAux_bounds 64 x hx h0
  exact ⟨h1, Lib.bitLen_le x 64 (Nat.le_refl _) hx, h2, h3⟩
/-- How many bytes a word has. -/
theorem byteLen {x : Nat} (h : x < W64) (h0 : x ≠ 0) : 1 ≤ (Lib.bitLen x + 7) / 8 ∧ (Lib.bitLen x + 7) / 8 ≤ 8 ∧ 256 ^ ((Lib.bitLen x + 7) / 8 - 1) ≤ x ∧ x < 256 ^ ((Lib.bitLen x + 7) / 8) := by
  obtain ⟨h1, h2, h3, h4⟩ := bitLen_bounds h h0
  refine ⟨by omega, by omega, ?_, ?_⟩
  · rw [show (256 : Nat) = 2 ^ 8 from rfl, ← Nat.pow_mul]
    exact Nat.le_trans (Nat.pow_le_pow_right (by decide) (by omega)) h3
  · rw [show (256 : Nat) = 2 ^ 8 from rfl, ← Nat.pow_mul]
    exact Nat.lt_of_lt_of_le h4 (Nat.pow_le_pow_right (by decide) (by omega))
/-- The bytes of a number N, L of them, the most significant one first. -/
def bytesN (L N : Nat) : List Nat := (List.range L).map fun i => N / 256 ^ (L - 1 - i) % 256
theorem length_bytesN (L N : Nat) : (bytesN L N).length = L := by simp [bytesN]
theorem gt_bytesN {L N i : Nat} (h : i < L) : gt (bytesN L N) i = N / 256 ^ (L - 1 - i) % 256 := by
  rw [gt_of_lt (by rw [length_bytesN]; exact h)]; simp [bytesN]
/-- The first i bytes of them are there. -/
def fillN (L N i : Nat) : List Nat := (List.range L).map fun j => if j < i then N / 256 ^ (L - 1 - j) % 256 else 0
theorem length_fillN (L N i : Nat) : (fillN L N i).length = L := by simp [fillN]
theorem fillN_zero (L N : Nat) : fillN L N 0 = List.replicate L 0 := by
  apply gt_ext
  · simp [fillN]
  · intro i hi
    rw [gt_of_lt hi, gt_of_lt (by simpa [fillN] using hi)]; simp [fillN]
theorem fillN_all (L N : Nat) : fillN L N L = bytesN L N := by
  simp only [fillN, bytesN]
  apply List.map_congr_left
  intro j hj
  rw [if_pos (List.mem_range.1 hj)]
theorem fillN_set {L N i v : Nat} (h : i < L) (hv : v = N / 256 ^ (L - 1 - i) % 256) : (fillN L N i).set i v = fillN L N (i + 1) := by
  subst hv
  apply gt_ext
  · simp [fillN]
  · intro j hj
    simp only [List.length_set, length_fillN] at hj
    rw [gt_set (by rw [length_fillN]; exact h)]
    rw [gt_of_lt (by rw [length_fillN]; exact hj), gt_of_lt (by rw [length_fillN]; exact hj)]
    simp only [fillN, List.getElem_map, List.getElem_range]
    split
    · rename_i e; subst e; rw [if_pos (by omega)]
    · by_cases h2 : j < i
      · rw [if_pos h2, if_pos (by omega)]
      · rw [if_neg h2, if_neg (by omega)]
/-- As bytes. -/
def u8s (xs : List Nat) : List UInt8 := xs.map UInt8.ofNat
theorem bytesN_succ (L N : Nat) : bytesN (L + 1) N = bytesN L (N / 256) ++ [N % 256] := by
  apply gt_ext
  · simp [length_bytesN]
  · intro i hi
    rw [length_bytesN] at hi
    rw [gt_bytesN hi]
    by_cases h : i < L
    · rw [gt_append_left (by rw [length_bytesN]; exact h), gt_bytesN h, Nat.div_div_eq_div_mul, show L + 1 - 1 - i = (L - 1 - i) + 1 from by omega, Nat.pow_succ, Nat.mul_comm]
    · obtain rfl : i = L := by omega
      rw [gt_append_right (by rw [length_bytesN]; omega), length_bytesN, Nat.sub_self]
      simp [gt]
theorem u8s_bytesN {L N : Nat} (h1 : 256 ^ (L - 1) ≤ N ∨ L = 0) (h2 : N < 256 ^ L) : u8s (bytesN L N) = enc N := by
  induction L generalizing N with
  | zero => simp at h2; subst h2; simp [bytesN, u8s, enc_zero]
  | succ L ih =>
    have h3 : 256 ^ L ≤ N := by rcases h1 with h | h; simpa using h; omega
    have hp : 0 < 256 ^ L := Nat.pow_pos (by decide)
    rw [bytesN_succ, enc_pos (by omega)]
    rw [show u8s (bytesN L (N / 256) ++ [N % 256]) = u8s (bytesN L (N / 256)) ++ [UInt8.ofNat (N % 256)] from by simp [u8s]]
    rw [ih ?_ ?_]
    · cases L with
      | zero => right; rfl
      | succ L =>
        left
        rw [Nat.pow_succ] at h3
        simp only [Nat.add_sub_cancel]
        omega
    · rw [Nat.pow_succ] at h2; omega
/-- Byte number p of a number, out of its words. -/
theorem byte_of_word {xs : List Nat} {N q r m off : Nat} (hd : Dg W64 xs) (hN : vs W64 xs off m = N) (hq : q < m) (hr : r < 8) : gt xs (off + q) / 256 ^ r % 256 = N / 256 ^ (8 * q + r) % 256 := by
  obtain ⟨k, rfl⟩ : ∃ k, m = q + 1 + k := ⟨m - (q + 1), by omega⟩
  have hN2 : N = vs W64 xs off q + W64 ^ q * (gt xs (off + q) + W64 * vs W64 xs (off + (q + 1)) k) := by
    rw [← hN, vs_split]
    simp only [vs]
    rw [Nat.mul_add, Nat.pow_succ, Nat.mul_assoc, Nat.add_assoc]
  have h1 : N / W64 ^ q = gt xs (off + q) + W64 * vs W64 xs (off + (q + 1)) k := by
    rw [hN2, Nat.add_mul_div_left _ _ (Nat.pow_pos W64_pos), Nat.div_eq_of_lt (vs_lt hd), Nat.zero_add]
  rw [Nat.pow_add, ← W64_pow, ← Nat.div_div_eq_div_mul, h1]
  have hW : W64 = 256 ^ r * (256 * 256 ^ (7 - r)) := by rw [← Nat.pow_succ', ← Nat.pow_add, show r + (7 - r).succ = 8 from by omega]; rfl
  rw [hW, Nat.mul_assoc, Nat.add_mul_div_left _ _ (Nat.pow_pos (by decide)), Nat.mul_assoc, Nat.add_mul_mod_self_left]
/-- A number whose greatest word is x at place m. -/
theorem top_bounds {xs : List Nat} {m x off : Nat} (hd : Dg W64 xs) (hx : gt xs (off + m) = x) (h0 : x ≠ 0) : 256 ^ (8 * m + (Lib.bitLen x + 7) / 8 - 1) ≤ vs W64 xs off (m + 1) ∧ vs W64 xs off (m + 1) < 256 ^ (8 * m + (Lib.bitLen x + 7) / 8) := by
  obtain ⟨h1, h2, h3, h4⟩ := byteLen (hx ▸ hd (off + m)) h0
  simp only [vs, hx]
  have hlt := vs_lt (off := off) (n := m) hd
  rw [W64_pow] at hlt ⊢
  constructor
  · rw [show 8 * m + (Lib.bitLen x + 7) / 8 - 1 = 8 * m + ((Lib.bitLen x + 7) / 8 - 1) from by omega, Nat.pow_add]
    exact Nat.le_trans (Nat.mul_le_mul_left _ h3) (Nat.le_add_left _ _)
  · rw [Nat.pow_add]
    have h5 : 256 ^ (8 * m) * (x + 1) ≤ 256 ^ (8 * m) * 256 ^ ((Lib.bitLen x + 7) / 8) := Nat.mul_le_mul_left _ h4
    rw [Nat.mul_add] at h5
    omega
end Mth
end Go.Proofs.YtmlmjhlakpgagaaDoor
