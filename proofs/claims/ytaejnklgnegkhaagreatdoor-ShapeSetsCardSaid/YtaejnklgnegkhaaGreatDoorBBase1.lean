/- Contracts of the program and of the reference, part 1: Pg, Pb, Pc, Pq, Sa, Sb, Su. -/
import Derived.Test.YtaejnklgnegkhaaGreatDoorBBase0
import Derived.Test.YtaejnklgnegkhaaGreatDoorShelf
import Derived.Laws.CopyOwn
import Derived.Deep.Draws
import Derived.Deep.RegionHeld3
import Derived.Deep.DeepCutAuto
import Derived.Deep.CutRange
import Derived.Deep.QuietTactic
import Derived.BigQuiet
import Derived.BigRegion
import Derived.Laws.Entries
namespace Go.Proofs.YtaejnklgnegkhaaGreatDoor
open Go.RowKit Pt

theorem gr_trans {a b c : World} {r r1 r2 : Option Nat} (h : a.grownBy b r1) (g : b.grownBy c r2) (h1 : r1 = none ∨ r1 = r) (h2 : r2 = none ∨ r2 = r ∨ ∀ k, r2 = some k → a.heap.size ≤ k) : a.grownBy c r := by
  refine ⟨g.os.trans h.os, g.tape.trans h.tape, g.output.trans h.output, Nat.le_trans h.size g.size, fun k hk hne => ?_⟩
  have hb : b.heap[k]? = a.heap[k]? := h.block k hk (by rcases h1 with rfl | rfl; simp; exact hne)
  have hs := h.size
  refine (g.block k (by omega) ?_).trans hb
  rcases h2 with rfl | rfl | h2
  · simp
  · exact hne
  · intro e; have := h2 k e.symm; omega
theorem gr_set (w : World) (b i : Nat) (v : Value) : w.grownBy (w.setCell ⟨b, i, none⟩ v) (some b) :=
  ⟨rfl, rfl, rfl, by simp [World.setCell], fun k _ hne => Below.heap_setCell _ _ _ _ (by intro e; exact hne (by rw [e]))⟩
theorem gr_new {a b c : World} {g : Nat} (h : a.grownBy b none) (k : b.grownBy c (some g)) (hg : a.heap.size ≤ g) : a.grownBy c none :=
  gr_trans h k (.inl rfl) (.inr (.inr fun j e => by cases e; exact hg))
theorem gr_then {a b c : World} {r : Option Nat} (h : a.grownBy b none) (k : b.grownBy c r) : a.grownBy c r := gr_trans h k (.inl rfl) (.inr (.inl rfl))
theorem gr_alloc (w : World) (o : Obj) (row : Option Nat) : w.grownBy (w.alloc o) row := World.grownBy_alloc w o row
theorem gr_rfl (w : World) : w.grownBy w none := ⟨rfl, rfl, rfl, Nat.le_refl _, fun _ _ _ => rfl⟩
theorem gr_al {W w : World} {o : Obj} (h : W.grownBy w none) : W.grownBy (w.alloc o) none := gr_then h (gr_alloc w o none)
theorem gr_dr {W w : World} (h : W.grownBy w none) : W.grownBy w.drew none := gr_then h ⟨rfl, rfl, rfl, Nat.le_refl _, fun _ _ _ => rfl⟩
theorem gr_one {a b : World} {o : Obj} (h : (a.alloc o).grownBy b none) : a.grownBy b none := gr_then (gr_alloc a o none) h
theorem gr_two {a b : World} {o p : Obj} (h : ((a.alloc o).alloc p).grownBy b none) : a.grownBy b none := gr_then (gr_then (gr_alloc a o none) (gr_alloc _ p none)) h
theorem gr_setn {a b : World} {g i : Nat} {v : Value} (h : a.grownBy b none) (hg : a.heap.size ≤ g) : a.grownBy (b.setCell ⟨g, i, none⟩ v) none := gr_new h (gr_set _ _ _ _) hg
theorem len_toList (t : ByteArray) : t.data.toList.length = t.size := rfl
theorem toArray_eq (t : ByteArray) {l : List UInt8} (h : l = t.data.toList) : (⟨l.toArray⟩ : ByteArray) = t := by
  subst h; simp
theorem cat_list (a b : ByteArray) : (a ++ b).data.toList = a.data.toList ++ b.data.toList := by simp
/-- Block b holds just these cells. -/
def Row (w : World) (b : Nat) (cs : List Value) (t : TypeId) : Prop := w.heap[b]? = some (.cells cs.toArray t (0, 0))
section
variable {w w1 : World} {b : Nat} {cs : List Value} {t : TypeId}
theorem Row.lt (h : Row w b cs t) : b < w.heap.size := (Array.getElem?_eq_some_iff.1 h).1
theorem Row.cell (h : Row w b cs t) (i : Nat) (v : Value) (hi : cs[i]? = some v) : w.cell? ⟨b, i, none⟩ = some v := by
  rw [cell_of_row w b i _ t (0, 0) h]; simpa using hi
theorem Row.fr (h : Row w b cs t) (i : Nat) : w.frozen? ⟨b, i, none⟩ = false := by
  simp only [World.frozen?]
  rw [show w.heap[b]? = some (.cells cs.toArray t (0, 0)) from h]
  simp
theorem Row.kept (h : Row w b cs t) (hg : w.grownBy w1 none) : Row w1 b cs t := by
  unfold Row at *; rw [hg.block b (Array.getElem?_eq_some_iff.1 h).1 (by simp)]; exact h
theorem Row.new (w : World) (cs : List Value) (t : TypeId) : Row (w.alloc (.cells cs.toArray t)) w.heap.size cs t := heap_alloc_new w _
theorem Row.new_at (hb : b = w.heap.size) : Row (w.alloc (.cells cs.toArray t)) b cs t := by subst hb; exact heap_alloc_new w _
theorem Row.al {o : Obj} (h : Row w b cs t) : Row (w.alloc o) b cs t := h.kept (gr_alloc w o none)
theorem Row.dr (h : Row w b cs t) : Row w.drew b cs t := h
theorem Row.set (h : Row w b cs t) (i : Nat) (v : Value) : Row (w.setCell ⟨b, i, none⟩ v) b (cs.set i v) t := by
  unfold Row at h ⊢
  rw [setCell_eq_setRow w b i _ t (0, 0) _ h, setRow_heap w b _ _ t (0, 0) h]
  simp
theorem Row.other {b' i : Nat} {v : Value} (h : Row w b cs t) (hne : b ≠ b') : Row (w.setCell ⟨b', i, none⟩ v) b cs t := by
  unfold Row at h ⊢
  rw [Below.heap_setCell _ _ _ _ hne]; exact h
end
end Go.Proofs.YtaejnklgnegkhaaGreatDoor
namespace Go.Proofs.YtaejnklgnegkhaaGreatDoor
open Go.RowKit Pt

set_option maxRecDepth 100000 in
theorem spec_index (c : Nat) (hc : c ≤ 255) : decide (0 ≤ Lib.indexByte [92, 123, 125, 43, 42] (UInt8.ofNat c)) = specD c := by
  have h : ∀ c : Fin 256, decide (0 ≤ Lib.indexByte [92, 123, 125, 43, 42] (UInt8.ofNat c.1)) = specD c.1 := by decide
  exact h ⟨c, by omega⟩
theorem pspec_any (c : Nat) (w : World) (hc : c ≤ 255) : Calls Tryz.prog 135 #[.int .u8 (c : Int)] w fun e w' => e = .returned (.bool (specD c)) ∧ w = w' := by
  go_enter Tryz.func135, Tryz.ntmps135
  go_wp2_with fail
  refine (Tryz.strings_IndexByte _ _ w).mono ?_
  rintro e w1 ⟨rfl, rfl⟩
  go_wp2
  go_ret
  refine ⟨?_, rfl⟩
  exact congrArg (fun z : Bool => Ending.returned (.bool z)) (spec_index c hc)
/-- A letter's class. -/
def letD (c : Nat) : Nat := if c = 100 then 1 else if c = 117 then 2 else if c = 108 then 3 else if c = 97 then 4 else if c = 115 then 5 else if c = 111 then 6 else if c = 46 then 7 else 0
set_option maxRecDepth 100000 in
theorem let_index (c : Nat) (hc : c ≤ 255) : Lib.indexByte [100, 117, 108, 97, 115, 111, 46] (UInt8.ofNat c) + 1 = (letD c : Int) := by
  have h : ∀ c : Fin 256, Lib.indexByte [100, 117, 108, 97, 115, 111, 46] (UInt8.ofNat c.1) + 1 = (letD c.1 : Int) := by decide
  exact h ⟨c, by omega⟩
/-- A piece, by value. -/
abbrev pcv (k a b : Int) (t : ByteArray) : Value := .agg #[.int .i64 k, .int .i64 a, .int .i64 b, .string t]
theorem plit_any (k a b : Int) (t : ByteArray) (w : World) : Calls Tryz.prog 114 #[pcv k a b t] w fun e w' => e = .returned (.bool (k == 0)) ∧ w.grownBy w' none := by
  go_enter Tryz.func114, Tryz.ntmps114
  go_wp2
  go_ret
  exact ⟨rfl, gr_al (gr_rfl w)⟩
/-- A piece is right. -/
def rightP (k a b : Int) (t : ByteArray) : Bool := if k = 0 then decide (a = 0) && decide (b = 0) && decide (0 < t.size) && allD t.data.toList 7 else decide (1 ≤ k ∧ k ≤ 7 ∧ 0 ≤ a ∧ a ≤ b ∧ 1 ≤ b ∧ b ≤ 200) && decide (t.size = 0)
theorem tl_nil (t : ByteArray) : t.toList = [] ↔ t.size = 0 := by
  rw [ByteArray.toList_eq, ← List.length_eq_zero_iff, len_toList]
theorem tl_emp (t : ByteArray) : t.toList.isEmpty = decide (t.size = 0) := by
  rw [Bool.eq_iff_iff, List.isEmpty_iff, tl_nil, decide_eq_true_eq]
theorem pos_of_ne {t : ByteArray} (h : ¬ t = ByteArray.empty) : 0 < t.size := by
  rcases Nat.eq_zero_or_pos t.size with h0 | h0
  · exact absurd (ByteArray.ext (Array.eq_empty_of_size_eq_zero (by simpa using h0))) h
  · exact h0
theorem rpiece_any (k a b : Int) (t : ByteArray) (w : World) (ht : t.size ≤ 1000000000000) : Calls Tryz.prog 94 #[pcv k a b t] w fun e w' => e = .returned (.bool (rightP k a b t)) ∧ w.grownBy w' none := by
  go_enter Tryz.func94, Tryz.ntmps94
  go_wp2_with fail
  all_goals first
    | (refine (rall_any t 7 _ ht).mono ?_
       rintro e w1 ⟨rfl, rfl⟩
       go_wp2
       go_ret
       refine ⟨?_, gr_al (gr_rfl w)⟩
       refine congrArg (fun z : Bool => Ending.returned (.bool z)) ?_
       unfold rightP
       simp_all)
    | (go_ret
       refine ⟨?_, gr_al (gr_rfl w)⟩
       refine congrArg (fun z : Bool => Ending.returned (.bool z)) ?_
       try unfold rightQ
       unfold rightP
       try simp only [tl_emp] at *
       simp_all
       try omega)
/-- A piece of the program is right: its text is short enough, too. -/
def rightQ (k a b : Int) (t : ByteArray) : Bool := rightP k a b t && (decide (k ≠ 0) || decide (t.size ≤ 60))
theorem ppiece_any (k a b : Int) (t : ByteArray) (w : World) (ht : t.size ≤ 1000000000000) : Calls Tryz.prog 118 #[pcv k a b t] w fun e w' => e = .returned (.bool (rightQ k a b t)) ∧ w.grownBy w' none := by
  go_enter Tryz.func118, Tryz.ntmps118
  go_wp2_with fail
  refine (plit_any k a b t _).mono ?_
  rintro e w1 ⟨rfl, hg⟩
  have G := Lib.hid (gr_one hg)
  have hr := (Row.new w [.int .i64 k, .int .i64 a, .int .i64 b, .string t] 52).kept hg
  have hc1 := hr.cell 1 _ rfl
  have hc2 := hr.cell 2 _ rfl
  have hc3 := hr.cell 3 _ rfl
  have hc0 := hr.cell 0 _ rfl
  clear hr hg
  go_wp2_with fail
  all_goals first
    | (refine (pall_any t 7 _ ht).mono ?_
       rintro e w1 ⟨rfl, rfl⟩
       go_wp2
       go_ret
       refine ⟨?_, G.out⟩
       refine congrArg (fun z : Bool => Ending.returned (.bool z)) ?_
       try unfold rightQ
       unfold rightP
       try simp only [tl_nil, tl_emp] at *
       simp_all
       rw [decide_eq_true (pos_of_ne (by assumption)), decide_eq_true (show t.size ≤ 60 from by omega), Bool.true_and, Bool.and_true])
    | (go_ret
       refine ⟨?_, G.out⟩
       refine congrArg (fun z : Bool => Ending.returned (.bool z)) ?_
       try unfold rightQ
       unfold rightP
       try simp only [tl_nil, tl_emp] at *
       simp_all
       try omega)
/-- The length that a piece has, where a count stands. -/
def lenD (k a : Int) (t : ByteArray) : Int := if k = 0 then t.size else a
theorem plen_any (k a b : Int) (t : ByteArray) (w : World) : Calls Tryz.prog 116 #[pcv k a b t] w fun e w' => e = .returned (.tuple #[.int .i64 (lenD k a t), .int .i64 (lenD k b t)]) ∧ w.grownBy w' none := by
  go_enter Tryz.func116, Tryz.ntmps116
  go_wp2_with fail
  refine (plit_any k a b t _).mono ?_
  rintro e w1 ⟨rfl, hg⟩
  have G := Lib.hid (gr_one hg)
  have hr := (Row.new w [.int .i64 k, .int .i64 a, .int .i64 b, .string t] 52).kept hg
  have hc1 := hr.cell 1 _ rfl
  have hc2 := hr.cell 2 _ rfl
  have hc3 := hr.cell 3 _ rfl
  have hc0 := hr.cell 0 _ rfl
  clear hr hg
  by_cases h : k = 0
  · have hk : (k == 0) = true := by simpa using h
    have hl : ∀ a, lenD k a t = t.size := fun a => by rw [lenD, if_pos h]
    have HL := Lib.hid hl
    clear hl
    go_wp2
    go_region
    go_wp2
    go_ret2
    rw [HL.out, HL.out]
    exact ⟨rfl, gr_dr G.out⟩
  · have hk : (k == 0) = false := by simpa using h
    have hl : ∀ a, lenD k a t = a := fun a => by rw [lenD, if_neg h]
    have HL := Lib.hid hl
    clear hl
    go_wp2
    go_region
    go_wp2
    go_ret2
    rw [HL.out, HL.out]
    exact ⟨rfl, gr_dr G.out⟩
/-- All that a piece can contain is in a class. -/
def staysD (k : Int) (t : ByteArray) (c : Int) : Bool := if k = 0 then allD t.data.toList c else contD k c
theorem pstays_any (k a b : Int) (t : ByteArray) (c : Int) (w : World) (ht : t.size ≤ 1000000000000) : Calls Tryz.prog 115 #[pcv k a b t, .int .i64 c] w fun e w' => e = .returned (.bool (staysD k t c)) ∧ w.grownBy w' none := by
  go_enter Tryz.func115, Tryz.ntmps115
  go_wp2_with fail
  refine (plit_any k a b t _).mono ?_
  rintro e w1 ⟨rfl, hg⟩
  have G := Lib.hid (gr_one hg)
  have hr := (Row.new w [.int .i64 k, .int .i64 a, .int .i64 b, .string t] 52).kept hg
  have hc3 := hr.cell 3 _ rfl
  have hc0 := hr.cell 0 _ rfl
  clear hr hg
  by_cases h : k = 0
  · have hk : (k == 0) = true := by simpa using h
    have HL := Lib.hid (show staysD k t c = allD t.data.toList c by rw [staysD, if_pos h])
    go_wp2_with fail
    refine (pall_any t c _ ht).mono ?_
    rintro e w2 ⟨rfl, rfl⟩
    go_wp2
    go_ret
    rw [HL.out]
    exact ⟨rfl, G.out⟩
  · have hk : (k == 0) = false := by simpa using h
    have HL := Lib.hid (show staysD k t c = contD k c by rw [staysD, if_neg h])
    go_wp2_with fail
    refine (pcont_any c k _).mono ?_
    rintro e w2 ⟨rfl, rfl⟩
    go_wp2
    go_ret
    rw [HL.out]
    exact ⟨rfl, G.out⟩
/-- A piece covers another one. -/
def covD (k a b : Int) (t : ByteArray) (k' a' b' : Int) (t' : ByteArray) : Bool :=
  if k = 0 then decide (k' = 0) && decide (t = t') else staysD k' t' k && decide (a ≤ lenD k' a' t') && decide (lenD k' b' t' ≤ b)
theorem tl_inj (t t' : ByteArray) : t.toList = t'.toList ↔ t = t' := by
  rw [ByteArray.toList_eq, ByteArray.toList_eq]
  constructor
  · intro h
    exact ByteArray.ext (by simpa using h)
  · intro h; rw [h]
theorem tl_eq (t t' : ByteArray) : (t.toList == t'.toList) = decide (t = t') := by
  rw [Bool.eq_iff_iff, beq_iff_eq, decide_eq_true_eq, ByteArray.toList_eq, ByteArray.toList_eq]
  constructor
  · intro h
    exact ByteArray.ext (by simpa using h)
  · intro h; rw [h]
theorem pcov_any (k a b : Int) (t : ByteArray) (k' a' b' : Int) (t' : ByteArray) (w : World) (ht : t'.size ≤ 1000000000000) (hz : k = 0 → k' = 0 → a = a' ∧ b = b') : Calls Tryz.prog 113 #[pcv k a b t, pcv k' a' b' t'] w fun e w' => e = .returned (.bool (covD k a b t k' a' b' t')) ∧ w.grownBy w' none := by
  go_enter Tryz.func113, Tryz.ntmps113
  go_wp2_with fail
  refine (plit_any k a b t _).mono ?_
  rintro e w1 ⟨rfl, hg⟩
  have G := Lib.hid (gr_two hg)
  have hr := ((Row.new w [.int .i64 k, .int .i64 a, .int .i64 b, .string t] 52).al (o := .cells #[.int .i64 k', .int .i64 a', .int .i64 b', .string t'] 52)).kept hg
  have hr' := (Row.new_at (w := w.alloc (.cells #[.int .i64 k, .int .i64 a, .int .i64 b, .string t] 52)) (b := w.heap.size + 1) (cs := [.int .i64 k', .int .i64 a', .int .i64 b', .string t']) (t := 52) (by simp)).kept hg
  have hc1 := hr.cell 1 _ rfl
  have hc2 := hr.cell 2 _ rfl
  have hc3 := hr.cell 3 _ rfl
  have hc0 := hr.cell 0 _ rfl
  have hd1 := hr'.cell 1 _ rfl
  have hd2 := hr'.cell 2 _ rfl
  have hd3 := hr'.cell 3 _ rfl
  have hd0 := hr'.cell 0 _ rfl
  clear hg
  by_cases h : k = 0
  · have hk : (k == 0) = true := by simpa using h
    have HL := Lib.hid (show covD k a b t k' a' b' t' = (decide (k' = 0) && decide (t = t')) by rw [covD, if_pos h])
    clear hr hr'
    have HZ := Lib.hid (And.intro h hz)
    clear h hz
    go_wp2
    all_goals
      go_ret
      refine ⟨?_, G.out⟩
      refine congrArg (fun z : Bool => Ending.returned (.bool z)) ?_
      rw [HL.out]
      have hz := HZ.out
      clear HL HZ G hc0 hc1 hc2 hc3 hd0 hd1 hd2 hd3
      try simp only [tl_inj] at *
      rw [Bool.eq_iff_iff]
      simp only [Bool.and_eq_true, decide_eq_true_eq]
      simp_all
      try (intro h; omega)
  · have hk : (k == 0) = false := by simpa using h
    have HL := Lib.hid (show covD k a b t k' a' b' t' = (staysD k' t' k && decide (a ≤ lenD k' a' t') && decide (lenD k' b' t' ≤ b)) by rw [covD, if_neg h])
    clear h hz
    have HR := Lib.hid hr
    have HR' := Lib.hid hr'
    clear hr hr'
    go_wp2_with fail
    refine (plen_any k' a' b' t' _).mono ?_
    rintro e w2 ⟨rfl, hg⟩
    have G := Lib.hid (gr_then G.out hg)
    have hr := HR.out.kept hg
    have hr' := HR'.out.kept hg
    clear HR HR' hc0 hc1 hc2 hc3 hd0 hd1 hd2 hd3 hg
    have hc0 := hr.cell 0 _ rfl
    have hd1 := hr'.cell 1 _ rfl
    have hd2 := hr'.cell 2 _ rfl
    have hd3 := hr'.cell 3 _ rfl
    have hd0 := hr'.cell 0 _ rfl
    have HR := Lib.hid hr
    clear hr hr'
    obtain ⟨x, hx⟩ : ∃ x, x = lenD k' a' t' := ⟨_, rfl⟩
    obtain ⟨y, hy⟩ : ∃ y, y = lenD k' b' t' := ⟨_, rfl⟩
    rw [← hx, ← hy] at HL ⊢
    clear hx hy
    go_wp2_with fail
    refine (pstays_any k' a' b' t' k _ ht).mono ?_
    rintro e w3 ⟨rfl, hg⟩
    have G := Lib.hid (gr_then G.out hg)
    have hr := HR.out.kept hg
    clear HR hc0 hd1 hd2 hd3 hd0 hg
    have hc1 := hr.cell 1 _ rfl
    have hc2 := hr.cell 2 _ rfl
    clear hr
    obtain ⟨z, hz⟩ : ∃ z, z = staysD k' t' k := ⟨_, rfl⟩
    rw [← hz] at HL ⊢
    clear hz
    go_wp2
    all_goals
      go_ret
      refine ⟨?_, G.out⟩
      refine congrArg (fun z : Bool => Ending.returned (.bool z)) ?_
      rw [HL.out]
      simp_all
      try omega
end Go.Proofs.YtaejnklgnegkhaaGreatDoor
namespace Go.Proofs.YtaejnklgnegkhaaGreatDoor
open Go.RowKit Pt

/-- A piece. -/
structure Pc where
  k : Int
  a : Int
  b : Int
  t : ByteArray
deriving DecidableEq
/-- Cells of pieces: they begin at an offset of a block. -/
def PcsAt (w : World) (g o : Nat) (ps : List Pc) : Prop := ∀ i (h : i < ps.length), w.cell? ⟨g, o + i * 4, none⟩ = some (.int .i64 ps[i].k) ∧ w.cell? ⟨g, o + i * 4 + 1, none⟩ = some (.int .i64 ps[i].a) ∧ w.cell? ⟨g, o + i * 4 + 2, none⟩ = some (.int .i64 ps[i].b) ∧ w.cell? ⟨g, o + i * 4 + 3, none⟩ = some (.string ps[i].t)
theorem gcell {W w1 : World} (hg : W.grownBy w1 none) : (∀ b o, b < W.heap.size → w1.cell? ⟨b, o, none⟩ = W.cell? ⟨b, o, none⟩) ∧ (∀ b o, b < W.heap.size → w1.frozen? ⟨b, o, none⟩ = W.frozen? ⟨b, o, none⟩) := by
  have hb : Below W.heap.size W w1 := ⟨hg.os, hg.tape, hg.output, hg.size, fun k hk => hg.block k hk (by simp)⟩
  exact ⟨fun b o h => hb.cell (p := ⟨b, o, none⟩) h, fun b o h => hb.frozen (p := ⟨b, o, none⟩) h⟩
theorem PcsAt.kept {w w1 : World} {g o : Nat} {ps : List Pc} (h : PcsAt w g o ps) (hb : g < w.heap.size) (hg : w.grownBy w1 none) : PcsAt w1 g o ps := by
  intro i hi
  have := (gcell hg).1
  rw [this _ _ hb, this _ _ hb, this _ _ hb, this _ _ hb]
  exact h i hi
/-- A slice that holds pieces. -/
def Pcs (w : World) (v : Value) (ps : List Pc) : Prop := (v = .slice none 0 0 ∧ ps = []) ∨ ∃ g o c, v = .slice (some ⟨g, o, none⟩) ps.length c ∧ g < w.heap.size ∧ PcsAt w g o ps
theorem Pcs.kept {w w1 : World} {v : Value} {ps : List Pc} (h : Pcs w v ps) (hg : w.grownBy w1 none) : Pcs w1 v ps := by
  rcases h with h | ⟨g, o, c, hv, hb, hp⟩
  · exact .inl h
  · exact .inr ⟨g, o, c, hv, Nat.lt_of_lt_of_le hb hg.size, hp.kept hb hg⟩
theorem Pcs.dr {w : World} {v : Value} {ps : List Pc} (h : Pcs w v ps) : Pcs w.drew v ps := h
theorem rmod_any (a m : Int) (w : World) (h0 : 1 ≤ m) (h1 : m ≤ 1000000) (_ : -9223372036854775808 ≤ a) (_ : a ≤ 9223372036854775807) :
    Calls Tryz.prog 40 #[.int .i64 a, .int .i64 m] w fun e w' => e = .returned (.int .i64 (a % m)) ∧ w = w' := by
  have h2 : (m == 0) = false := by rw [beq_eq_false_iff_ne]; omega
  have hm : ¬ m = 0 := by omega
  have l1 : -m < a.tmod m := Int.lt_tmod_of_pos a (by omega)
  have l2 : a.tmod m < m := Int.tmod_lt_of_pos a (by omega)
  have u1 : wrap64 (a.tmod m) = a.tmod m := by unfold wrap64; omega
  have u2 : wrap64 (a.tmod m + m) = a.tmod m + m := by unfold wrap64; omega
  have hr : a % m = if a.tmod m < 0 then a.tmod m + m else a.tmod m := by
    have q1 : a.tmod m = a - m * a.tdiv m := by have := Int.tmod_add_mul_tdiv a m; omega
    split
    · have e : a % m = (a.tmod m + m) % m := by rw [q1, show a - m * a.tdiv m + m = a + m * (1 - a.tdiv m) from by rw [Int.mul_sub]; omega, Int.add_mul_emod_self_left]
      rw [e, Int.emod_eq_of_lt (by omega) (by omega)]
    · have e : a % m = a.tmod m % m := by rw [q1, show a - m * a.tdiv m = a + m * (- a.tdiv m) from by rw [Int.mul_neg]; omega, Int.add_mul_emod_self_left]
      rw [e, Int.emod_eq_of_lt (by omega) (by omega)]
  rw [hr]
  clear hr
  by_cases hn : a.tmod m < 0
  · rw [if_pos hn]
    go_enter Tryz.func40, Tryz.ntmps40
    go_wp2
    go_ret
    exact ⟨rfl, rfl⟩
  · rw [if_neg hn]
    go_enter Tryz.func40, Tryz.ntmps40
    go_wp2
    go_ret
    exact ⟨rfl, rfl⟩
/-- A digit. -/
theorem dig_str {d : Nat} (h : d < 10) : (⟨#[48, 49, 50, 51, 52, 53, 54, 55, 56, 57]⟩ : ByteArray).extract d (d + 1) = ⟨#[UInt8.ofNat (48 + d)]⟩ := by
  have : ∀ d : Fin 10, (⟨#[48, 49, 50, 51, 52, 53, 54, 55, 56, 57]⟩ : ByteArray).extract d.1 (d.1 + 1) = ⟨#[UInt8.ofNat (48 + d.1)]⟩ := by decide
  exact this ⟨d, h⟩
theorem dec_one {n : Nat} (h : n < 10) : Lib.decDigits n = [UInt8.ofNat (48 + n)] := by rw [Lib.decDigits, dif_pos h]
theorem dec_big {n : Nat} (h : 10 ≤ n) : Lib.decDigits n = Lib.decDigits (n / 10) ++ [UInt8.ofNat (48 + n % 10)] := by rw [Lib.decDigits, dif_neg (by omega)]
theorem dec_le (n k : Nat) (hk : 0 < k) (h : n < 10 ^ k) : (Lib.decDigits n).length ≤ k := by
  induction k generalizing n with
  | zero => omega
  | succ k ih =>
    by_cases h1 : n < 10
    · rw [dec_one h1]; simp
    · rw [dec_big (by omega), List.length_append]
      rw [Nat.pow_succ] at h
      rcases Nat.eq_zero_or_pos k with rfl | hk0
      · simp at h; omega
      · have := ih (n / 10) hk0 (by omega)
        simp; omega
set_option maxRecDepth 100000 in
set_option maxHeartbeats 1000000 in
theorem rdec_any (n : Nat) (w : World) (hn : n ≤ 1000) :
    Calls Tryz.prog 117 #[.int .i64 (n : Int)] w fun e w' => e = .returned (.string ⟨(Lib.decDigits n).toArray⟩) ∧ w.grownBy w' none := by
  induction n using Nat.strongRecOn generalizing w with
  | ind n ih =>
    by_cases h : n < 10
    · have hs := dig_str h
      rw [dec_one h]
      clear ih
      obtain ⟨u, hu⟩ : ∃ u, u = UInt8.ofNat (48 + n) := ⟨_, rfl⟩
      rw [← hu] at hs ⊢
      clear hu
      have h1 : ((n : Int) + 1).toNat = n + 1 := by omega
      go_enter Tryz.func117, Tryz.ntmps117
      go_wp2_with fail
      go_ret
      refine ⟨?_, gr_rfl w⟩
      rfl
    · have hq : n / 10 < n := by omega
      have HI := Lib.hid (fun w => ih (n / 10) hq w (by omega))
      clear ih
      obtain ⟨q, hq⟩ : ∃ q, q = n / 10 := ⟨_, rfl⟩
      obtain ⟨d, hd⟩ : ∃ d, d = n % 10 := ⟨_, rfl⟩
      have hd9 : d < 10 := by omega
      have hs := dig_str hd9
      rw [dec_big (by omega)]
      obtain ⟨u, hu⟩ : ∃ u, u = UInt8.ofNat (48 + d) := ⟨_, rfl⟩
      rw [← hu] at hs
      rw [show UInt8.ofNat (48 + n % 10) = u by rw [hu, hd]]
      have hq100 : q ≤ 100 := by omega
      have y1 : IntKind.i64.wrap (q : Int) = q := IntWalk.i64_in _ ⟨by omega, by omega⟩
      have y2 : IntKind.i64.wrap (d : Int) = d := IntWalk.i64_in _ ⟨by omega, by omega⟩
      have y3 : IntKind.i64.wrap ((d : Int) + 1) = d + 1 := IntWalk.i64_in _ ⟨by omega, by omega⟩
      have y4 : ((d : Int) + 1).toNat = d + 1 := by omega
      have y5 : (0 : Int) ≤ (d : Int) + 1 := by omega
      have y6 : (d : Int) + 1 ≤ 10 := by omega
      rw [← hq] at HI ⊢
      have z1 : (n : Int).tdiv 10 = (q : Int) := by rw [Int.tdiv_eq_ediv_of_nonneg (by omega)]; omega
      have z2 : (n : Int).tmod 10 = (d : Int) := by rw [Int.tmod_eq_emod_of_nonneg (by omega)]; omega
      have z3 : (n : Int) / 10 = (q : Int) := by omega
      have z4 : (n : Int) % 10 = (d : Int) := by omega
      obtain ⟨T, hT⟩ : ∃ T : ByteArray, T = ⟨(Lib.decDigits q).toArray⟩ := ⟨_, rfl⟩
      have hts : T.size ≤ 4 := by
        have := dec_le q 4 (by decide) (by omega)
        rw [hT]; exact this
      rw [← hT] at HI
      have FIN := Lib.hid (show (⟨(Lib.decDigits q ++ [u]).toArray⟩ : ByteArray) = T ++ ⟨#[u]⟩ from toArray_eq _ (by rw [cat_list, hT]))
      clear hT
      have hov : ¬ 9223372036854775807 < T.size + 1 := by omega
      clear hq hd hu
      go_enter Tryz.func117, Tryz.ntmps117
      go_wp2_with fail
      go_region_with (go_at_call 117; refine (HI.out _).mono ?_; rintro e w1 ⟨rfl, hg⟩)
      all_goals
        go_wp2_with fail
        go_ret
        rw [FIN.out]
        exact ⟨rfl, gr_then (gr_dr (gr_rfl w)) hg⟩
end Go.Proofs.YtaejnklgnegkhaaGreatDoor
namespace Go.Proofs.YtaejnklgnegkhaaGreatDoor
namespace Pt

--BEGIN
/-- The part of a text between two places. -/
abbrev prt (s : List UInt8) (i j : Nat) : List UInt8 := (s.drop i).take (j - i)
/-- A piece matches the part between two places. -/
def stp (p : Pc) (s : List UInt8) (i j : Nat) : Bool := decide (i ≤ j) && decide (j ≤ s.length) && (if p.k = 0 then prt s i j == p.t.data.toList else decide (p.a ≤ ((j - i : Nat) : Int)) && decide (((j - i : Nat) : Int) ≤ p.b) && allD (prt s i j) p.k)
theorem stp_le {p : Pc} {s : List UInt8} {i j : Nat} (h : stp p s i j = true) : i ≤ j ∧ j ≤ s.length := by
  unfold stp at h
  rw [Bool.and_eq_true, Bool.and_eq_true, decide_eq_true_eq, decide_eq_true_eq] at h
  exact h.1
/-- Pieces match the part between two places. -/
def rch : List Pc → List UInt8 → Nat → Nat → Bool
  | [], s, i, j => decide (i = j) && decide (j ≤ s.length)
  | p :: ps, s, i, j => (List.range (s.length + 1)).any fun m => stp p s i m && rch ps s m j
theorem rch_cons {p : Pc} {ps : List Pc} {s : List UInt8} {i j : Nat} : rch (p :: ps) s i j = true ↔ ∃ m, stp p s i m = true ∧ rch ps s m j = true := by
  rw [show rch (p :: ps) s i j = (List.range (s.length + 1)).any (fun m => stp p s i m && rch ps s m j) from rfl, List.any_eq_true]
  constructor
  · rintro ⟨m, _, h⟩
    rw [Bool.and_eq_true] at h
    exact ⟨m, h⟩
  · rintro ⟨m, h1, h2⟩
    refine ⟨m, ?_, by rw [h1, h2]; rfl⟩
    rw [List.mem_range]
    have := (stp_le h1).2
    omega
theorem rch_nil {s : List UInt8} {i j : Nat} : rch [] s i j = true ↔ i = j ∧ j ≤ s.length := by
  unfold rch
  rw [Bool.and_eq_true, decide_eq_true_eq, decide_eq_true_eq]
theorem rch_le : ∀ {ps : List Pc} {s : List UInt8} {i j : Nat}, rch ps s i j = true → i ≤ j ∧ j ≤ s.length
  | [], s, i, j, h => by rw [rch_nil] at h; omega
  | p :: ps, s, i, j, h => by
    obtain ⟨m, h1, h2⟩ := rch_cons.1 h
    have a := stp_le h1
    have b := rch_le h2
    omega
theorem rch_append : ∀ {ps qs : List Pc} {s : List UInt8} {i j : Nat}, rch (ps ++ qs) s i j = true ↔ ∃ m, rch ps s i m = true ∧ rch qs s m j = true
  | [], qs, s, i, j => by
    rw [List.nil_append]
    constructor
    · intro h
      have := rch_le h
      exact ⟨i, rch_nil.2 ⟨rfl, by omega⟩, h⟩
    · rintro ⟨m, h1, h2⟩
      obtain ⟨rfl, _⟩ := rch_nil.1 h1
      exact h2
  | p :: ps, qs, s, i, j => by
    rw [List.cons_append, rch_cons]
    constructor
    · rintro ⟨m, h1, h2⟩
      obtain ⟨m', h3, h4⟩ := rch_append.1 h2
      exact ⟨m', rch_cons.2 ⟨m, h1, h3⟩, h4⟩
    · rintro ⟨m', h1, h4⟩
      obtain ⟨m, h2, h3⟩ := rch_cons.1 h1
      exact ⟨m, h2, rch_append.2 ⟨m', h3, h4⟩⟩
/-- What the reference's ends holds behind one more piece. -/
theorem rch_snoc {ps : List Pc} {p : Pc} {s : List UInt8} {i j : Nat} : rch (ps ++ [p]) s i j = true ↔ ∃ m, rch ps s i m = true ∧ stp p s m j = true := by
  rw [rch_append]
  constructor
  · rintro ⟨m, h1, h2⟩
    obtain ⟨m', h3, h4⟩ := rch_cons.1 h2
    obtain ⟨rfl, _⟩ := rch_nil.1 h4
    exact ⟨m, h1, h3⟩
  · rintro ⟨m, h1, h2⟩
    exact ⟨m, h1, rch_cons.2 ⟨j, h2, rch_nil.2 ⟨rfl, (stp_le h2).2⟩⟩⟩
/-- The ends of the parts that a piece matches from a place on, in order. -/
def endsL (p : Pc) (s : List UInt8) (i : Nat) : List Nat := (List.range (s.length + 1)).filter (stp p s i)
theorem mem_endsL {p : Pc} {s : List UInt8} {i m : Nat} : m ∈ endsL p s i ↔ stp p s i m = true := by
  unfold endsL
  rw [List.mem_filter, List.mem_range]
  exact ⟨fun h => h.2, fun h => ⟨by have := (stp_le h).2; omega, h⟩⟩
/-- The greatest end, -1 if there is none: what the program keeps, from the last piece on. -/
def gr : List Pc → List UInt8 → Nat → Int
  | [], _, i => i
  | p :: ps, s, i => (endsL p s i).foldl (fun acc m => max acc (gr ps s m)) (-1)
theorem fold_max (f : Nat → Int) : ∀ (l : List Nat) (a : Int), a ≤ l.foldl (fun acc m => max acc (f m)) a ∧ (∀ m ∈ l, f m ≤ l.foldl (fun acc m => max acc (f m)) a) ∧ (l.foldl (fun acc m => max acc (f m)) a = a ∨ ∃ m ∈ l, l.foldl (fun acc m => max acc (f m)) a = f m)
  | [], a => ⟨Int.le_refl _, by simp, .inl rfl⟩
  | x :: l, a => by
    obtain ⟨h1, h2, h3⟩ := fold_max f l (max a (f x))
    rw [List.foldl_cons]
    refine ⟨by omega, fun m hm => ?_, ?_⟩
    · rcases List.mem_cons.1 hm with rfl | hm
      · omega
      · exact h2 m hm
    · rcases h3 with h3 | ⟨m, hm, h3⟩
      · rcases Int.le_total a (f x) with h | h
        · exact .inr ⟨x, by simp, by rw [h3]; omega⟩
        · exact .inl (by rw [h3]; omega)
      · exact .inr ⟨m, by simp [hm], h3⟩
theorem gr_spec : ∀ (ps : List Pc) (s : List UInt8) (i : Nat), i ≤ s.length → (gr ps s i = -1 ∧ ∀ j, rch ps s i j = false) ∨ ∃ j : Nat, gr ps s i = (j : Int) ∧ rch ps s i j = true ∧ ∀ j', rch ps s i j' = true → j' ≤ j
  | [], s, i, hi => .inr ⟨i, rfl, rch_nil.2 ⟨rfl, hi⟩, fun j' h => by have := rch_nil.1 h; omega⟩
  | p :: ps, s, i, hi => by
    obtain ⟨h1, h2, h3⟩ := fold_max (gr ps s) (endsL p s i) (-1)
    have e : gr (p :: ps) s i = (endsL p s i).foldl (fun acc m => max acc (gr ps s m)) (-1) := rfl
    rw [← e] at h1 h2 h3
    rcases h3 with h3 | ⟨m, hm, h3⟩
    · refine .inl ⟨h3, fun j => ?_⟩
      rw [Bool.eq_false_iff]
      intro hr
      obtain ⟨m, h4, h5⟩ := rch_cons.1 hr
      have h6 := h2 m (mem_endsL.2 h4)
      rcases gr_spec ps s m (stp_le h4).2 with ⟨_, h7⟩ | ⟨j', h7, _⟩
      · rw [h7 j] at h5; cases h5
      · rw [h7, h3] at h6; omega
    · have hst := mem_endsL.1 hm
      rcases gr_spec ps s m (stp_le hst).2 with ⟨h4, _⟩ | ⟨j, h4, h5, h6⟩
      · refine .inl ⟨by rw [h3, h4], fun j => ?_⟩
        rw [Bool.eq_false_iff]
        intro hr
        obtain ⟨m', h7, h8⟩ := rch_cons.1 hr
        have h9 := h2 m' (mem_endsL.2 h7)
        rcases gr_spec ps s m' (stp_le h7).2 with ⟨_, h10⟩ | ⟨j', h10, _⟩
        · rw [h10 j] at h8; cases h8
        · rw [h10, h3, h4] at h9; omega
      · refine .inr ⟨j, by rw [h3, h4], rch_cons.2 ⟨m, hst, h5⟩, fun j' hr => ?_⟩
        obtain ⟨m', h7, h8⟩ := rch_cons.1 hr
        have h9 := h2 m' (mem_endsL.2 h7)
        rcases gr_spec ps s m' (stp_le h7).2 with ⟨_, h10⟩ | ⟨j2, h10, _, h11⟩
        · rw [h10 j'] at h8; cases h8
        · rw [h10, h3, h4] at h9
          have := h11 j' h8
          omega
/-- A pattern matches the whole of a text. -/
theorem gr_whole (ps : List Pc) (s : List UInt8) : (gr ps s 0 == (s.length : Int)) = rch ps s 0 s.length := by
  rw [Bool.eq_iff_iff, beq_iff_eq]
  rcases gr_spec ps s 0 (Nat.zero_le _) with ⟨h1, h2⟩ | ⟨j, h1, h2, h3⟩
  · rw [h1, h2]
    constructor
    · intro h; omega
    · intro h; cases h
  · rw [h1]
    constructor
    · intro h
      have : j = s.length := by omega
      rw [← this]; exact h2
    · intro h
      have h4 := h3 _ h
      have h5 := (rch_le h2).2
      omega
/-- All characters of a part of a part. -/
theorem allD_sub {l : List UInt8} {n : Nat} {k : Int} (h : allD l k = true) : allD (l.take n) k = true := by
  unfold allD at *
  rw [List.all_eq_true] at *
  exact fun x hx => h x (List.mem_of_mem_take hx)
theorem prt_len {s : List UInt8} {i j : Nat} (hj : j ≤ s.length) : (prt s i j).length = j - i := by
  unfold prt
  rw [List.length_take, List.length_drop]; omega
theorem prt_next {s : List UInt8} {i j : Nat} (hij : i ≤ j) (hj : j < s.length) : prt s i (j + 1) = prt s i j ++ [s[j]] := by
  unfold prt
  rw [show j + 1 - i = (j - i) + 1 from by omega, List.take_succ_eq_append_getElem (by rw [List.length_drop]; omega)]
  congr 2
  rw [List.getElem_drop]
  congr 1
  omega
theorem prt_cat {s : List UInt8} {i m j : Nat} (h1 : i ≤ m) (h2 : m ≤ j) : prt s i j = prt s i m ++ prt s m j := by
  unfold prt
  have e : (s.drop i).take (j - i) = ((s.drop i).take (m - i)) ++ ((s.drop i).drop (m - i)).take (j - m) := by
    rw [show j - i = (m - i) + (j - m) from by omega, List.take_add]
  rw [e, List.drop_drop, show i + (m - i) = m from by omega]
theorem allD_cat {l m : List UInt8} {k : Int} : allD (l ++ m) k = (allD l k && allD m k) := by simp [allD, List.all_append]
/-- A run stops where a character does not belong to its class. -/
theorem stp_stop {p : Pc} {s : List UInt8} {i e : Nat} (hk : p.k ≠ 0) (hie : i ≤ e) (he : e < s.length) (hb : belD s[e].toNat p.k = false) : ∀ j, e < j → stp p s i j = false := by
  intro j hj
  rw [Bool.eq_false_iff]
  intro h
  have hl := (stp_le h).2
  unfold stp at h
  rw [if_neg hk, Bool.and_eq_true, Bool.and_eq_true (decide (p.a ≤ _) && _)] at h
  have ha := h.2.2
  rw [prt_cat (m := e + 1) (by omega) (by omega), allD_cat, prt_next hie he, allD_cat, Bool.and_eq_true, Bool.and_eq_true] at ha
  have := ha.1.2
  unfold allD at this
  simp [hb] at this
--END
end Pt
end Go.Proofs.YtaejnklgnegkhaaGreatDoor
namespace Go.Proofs.YtaejnklgnegkhaaGreatDoor
open Pt

namespace Sh
/-- The 64 bits of an int. -/
def bt (z : Int) : BitVec 64 := BitVec.ofInt 64 z
theorem bt_wrap (v : BitVec 64) : bt (IntKind.i64.wrap v.toNat) = v := by
  unfold bt
  apply BitVec.eq_of_toInt_eq
  rw [BitVec.toInt_ofInt]
  show Int.bmod (IntKind.i64.wrap (v.toNat : Int)) (2 ^ 64) = v.toInt
  rw [BitVec.toInt_eq_toNat_bmod]
  unfold IntKind.wrap
  simp [IntKind.bits, IntKind.signed]
  have h := v.isLt
  simp only [Int.bmod]
  split <;> split <;> omega
theorem bt_and (x y : Int) : bt (bits .and .i64 x y) = bt x &&& bt y := bt_wrap _
theorem bt_or (x y : Int) : bt (bits .or .i64 x y) = bt x ||| bt y := bt_wrap _
theorem bt_andn (x y : Int) : bt (bits .andNot .i64 x y) = bt x &&& ~~~(bt y) := bt_wrap _
/-- Bit i is set. -/
def bit (z : Int) (i : Nat) : Bool := (bt z).getLsbD i
theorem bit_and (x y : Int) (i : Nat) : bit (bits .and .i64 x y) i = (bit x i && bit y i) := by unfold bit; rw [bt_and, BitVec.getLsbD_and]
theorem bit_or (x y : Int) (i : Nat) : bit (bits .or .i64 x y) i = (bit x i || bit y i) := by unfold bit; rw [bt_or, BitVec.getLsbD_or]
theorem bit_andn (x y : Int) (i : Nat) : bit (bits .andNot .i64 x y) i = (bit x i && !bit y i) := by
  unfold bit
  rw [bt_andn, BitVec.getLsbD_and, BitVec.getLsbD_not]
  by_cases h : i < 64
  · simp [h]
  · rw [BitVec.getLsbD_of_ge (bt x) i (by omega)]; simp
/-- All bits of the first number are bits of the second one. -/
def Sub (x y : Int) : Prop := ∀ i, bit x i = true → bit y i = true
theorem zero_bit (i : Nat) : bit 0 i = false := by unfold bit bt; simp
theorem wrap_zero {v : BitVec 64} (h : IntKind.i64.wrap v.toNat = 0) : v = 0#64 := by
  have := bt_wrap v
  rw [h] at this
  rw [← this]; rfl
theorem andn_zero {x y : Int} : bits .andNot .i64 x y = 0 ↔ Sub x y := by
  constructor
  · intro h i hx
    have := bit_andn x y i
    rw [h, zero_bit, hx] at this
    simpa using this.symm
  · intro h
    have hz : bt x &&& ~~~(bt y) = 0#64 := by
      apply BitVec.eq_of_getLsbD_eq
      intro i hi
      have := bit_andn x y i
      unfold bit at this
      rw [bt_andn] at this
      rw [this, BitVec.getLsbD_zero]
      have h2 := h i
      unfold bit at h2
      cases hx : (bt x).getLsbD i
      · rfl
      · rw [h2 hx]; rfl
    show IntKind.i64.wrap ((bt x &&& ~~~(bt y)).toNat : Int) = 0
    rw [hz]; rfl
/-- The class bits of a string. -/
def cbI (l : List UInt8) : Int := l.foldl (fun n c => bits .or .i64 n ((2 ^ clsD c.toNat : Nat) : Int)) 0
theorem two_bit {k i : Nat} (hk : k < 63) : bit ((2 ^ k : Nat) : Int) i = decide (i = k) := by
  unfold bit bt
  rw [BitVec.ofInt_natCast, BitVec.getLsbD_ofNat, Nat.testBit_two_pow]
  by_cases h : i = k
  · subst h; simp; omega
  · simp [h]; omega
theorem cb_fold (l : List UInt8) (i : Nat) : ∀ n : Int, bit (l.foldl (fun n c => bits .or .i64 n ((2 ^ clsD c.toNat : Nat) : Int)) n) i = (bit n i || l.any fun c => decide (i = clsD c.toNat)) := by
  induction l with
  | nil => intro n; simp
  | cons c l ih =>
    intro n
    rw [List.foldl_cons, ih, bit_or, two_bit (by have := (clsD_le c.toNat).1; omega), List.any_cons, Bool.or_assoc]
theorem cb_bit (l : List UInt8) (i : Nat) : bit (cbI l) i = l.any fun c => decide (i = clsD c.toNat) := by
  unfold cbI; rw [cb_fold, zero_bit, Bool.false_or]
theorem cb_sub {l : List UInt8} {z : Int} : Sub (cbI l) z ↔ ∀ c ∈ l, bit z (clsD c.toNat) = true := by
  constructor
  · intro h c hc
    refine h _ ?_
    rw [cb_bit, List.any_eq_true]
    exact ⟨c, hc, by simp⟩
  · intro h i hi
    rw [cb_bit, List.any_eq_true] at hi
    obtain ⟨c, hc, h2⟩ := hi
    rw [decide_eq_true_eq] at h2
    rw [h2]; exact h c hc
theorem cb_or {l m : List UInt8} {z : Int} : Sub (bits .or .i64 (cbI l) (cbI m)) z ↔ Sub (cbI l) z ∧ Sub (cbI m) z := by
  constructor
  · intro h
    exact ⟨fun i hi => h i (by rw [bit_or, hi]; rfl), fun i hi => h i (by rw [bit_or, hi, Bool.or_true])⟩
  · rintro ⟨h1, h2⟩ i hi
    rw [bit_or, Bool.or_eq_true] at hi
    rcases hi with hi | hi
    · exact h1 i hi
    · exact h2 i hi
theorem bit110 : ∀ k : Nat, k ≤ 6 → (bit 110 k = decide (k ≠ 0 ∧ k ≠ 4)) := by decide
theorem text_sub {l : List UInt8} : Sub (cbI l) 110 ↔ allD l 7 = true := by
  rw [cb_sub]
  unfold allD
  rw [List.all_eq_true]
  have key : ∀ c : UInt8, bit 110 (clsD c.toNat) = belD c.toNat 7 := by
    intro c
    have h := clsD_le c.toNat
    rw [bit110 _ h.1]
    unfold belD contD
    simp [h.2]
  constructor
  · intro h c hc; rw [← key]; exact h c hc
  · intro h c hc; rw [key]; exact h c hc
theorem isText_bits (l : List UInt8) : isTextD l = (decide (l.length ≤ 200) && decide (bits .andNot .i64 (cbI l) 110 = 0)) := by
  unfold isTextD
  congr 1
  rw [Bool.eq_iff_iff, decide_eq_true_eq, andn_zero, text_sub]
/-- A part's class bits. -/
theorem cb_part {l m : List UInt8} {z : Int} (h : ∀ c ∈ l, c ∈ m) (hs : Sub (cbI m) z) : Sub (cbI l) z := by
  rw [cb_sub] at *
  exact fun c hc => hs c (h c hc)

/-- A shape. -/
structure S5 where
  l : Int
  m : Int
  c : Int
  b : ByteArray
  e : ByteArray
def none5 : S5 := ⟨1, 0, 0, ⟨#[]⟩, ⟨#[]⟩⟩
def full5 : S5 := ⟨0, 200, 110, ⟨#[]⟩, ⟨#[]⟩⟩
/-- What a shape contains. -/
def inD (a : S5) (s : List UInt8) : Prop := isTextD s = true ∧ a.l ≤ (s.length : Int) ∧ (s.length : Int) ≤ a.m ∧ Sub (cbI s) a.c ∧ a.b.data.toList <+: s ∧ a.e.data.toList <:+ s
/-- The lengths that the ends allow. -/
def canD (a : S5) (n : Int) : Prop := if (a.b.size : Int) + (a.e.size : Int) < n then a.c ≠ 0 else a.b.data.toList.drop (n - (a.e.size : Int)).toNat <+: a.e.data.toList
def hasD (a : S5) : Prop := Sub (bits .or .i64 (cbI a.b.data.toList) (cbI a.e.data.toList)) a.c ∧ ∃ n : Int, a.l ≤ n ∧ n ≤ a.m ∧ canD a n
/-- The shape with its own lengths and bits. -/
def ownD (a : S5) : S5 := ⟨max (max a.l (a.b.size : Int)) (a.e.size : Int), min a.m 200, bits .and .i64 a.c 110, a.b, a.e⟩
open Classical in
noncomputable def canonD (a : S5) : S5 := if hasD (ownD a) then ownD a else none5
theorem in_own {a : S5} {s : List UInt8} (h : inD a s) : inD (ownD a) s := by
  obtain ⟨h1, h2, h3, h4, h5, h6⟩ := h
  obtain ⟨t1, t2⟩ : s.length ≤ 200 ∧ allD s 7 = true := by
    unfold isTextD at h1; rw [Bool.and_eq_true, decide_eq_true_eq] at h1; exact h1
  have hb : a.b.size ≤ s.length := h5.length_le
  have he : a.e.size ≤ s.length := h6.length_le
  refine ⟨h1, ?_, ?_, ?_, h5, h6⟩
  · show max (max a.l (a.b.size : Int)) (a.e.size : Int) ≤ (s.length : Int)
    omega
  · show (s.length : Int) ≤ min a.m 200
    omega
  · intro i hi
    show bit (bits .and .i64 a.c 110) i = true
    rw [bit_and, h4 i hi, text_sub.2 t2 i hi]; rfl
theorem own_in {a : S5} {s : List UInt8} (h : inD (ownD a) s) : inD a s := by
  obtain ⟨h1, h2, h3, h4, h5, h6⟩ := h
  refine ⟨h1, ?_, ?_, ?_, h5, h6⟩
  · have : max (max a.l (a.b.size : Int)) (a.e.size : Int) ≤ (s.length : Int) := h2
    omega
  · have : (s.length : Int) ≤ min a.m 200 := h3
    omega
  · intro i hi
    have : bit (bits .and .i64 a.c 110) i = true := h4 i hi
    rw [bit_and, Bool.and_eq_true] at this
    exact this.1
theorem cls_bit {c : UInt8} {s : List UInt8} {z : Int} (hc : c ∈ s) (h : Sub (cbI s) z) : z ≠ 0 := by
  intro hz
  have := cb_sub.1 h c hc
  rw [hz, zero_bit] at this
  cases this
/-- A shape that contains something has some text. -/
theorem in_has {a : S5} {s : List UInt8} (h : inD a s) : hasD a := by
  obtain ⟨h1, h2, h3, h4, h5, h6⟩ := h
  refine ⟨cb_or.2 ⟨cb_part (fun c hc => h5.subset hc) h4, cb_part (fun c hc => h6.subset hc) h4⟩, (s.length : Int), h2, h3, ?_⟩
  unfold canD
  obtain ⟨x, hx⟩ := h5
  obtain ⟨y, hy⟩ := h6
  have lx := congrArg List.length hx
  have ly := congrArg List.length hy
  rw [List.length_append] at lx ly
  have eb : a.b.data.toList.length = a.b.size := rfl
  have ee : a.e.data.toList.length = a.e.size := rfl
  split
  · next hlt =>
    have hne : s ≠ [] := by intro h0; rw [h0] at hlt; simp at hlt; omega
    obtain ⟨c, hc⟩ := List.exists_mem_of_ne_nil s hne
    exact cls_bit hc h4
  · next hge =>
    have hn : ((s.length : Int) - (a.e.size : Int)).toNat = y.length := by omega
    rw [hn]
    have e1 : s.drop y.length = a.e.data.toList := by rw [← hy, List.drop_left]
    rw [← e1, ← hx, List.drop_append_of_le_length (by omega)]
    exact List.prefix_append _ _
theorem in_canon {a : S5} {s : List UInt8} (h : inD a s) : canonD a = ownD a ∧ inD (canonD a) s := by
  have e : canonD a = ownD a := if_pos (in_has (in_own h))
  exact ⟨e, by rw [e]; exact in_own h⟩
theorem not_none {s : List UInt8} : ¬ inD none5 s := by
  rintro ⟨_, h2, h3, _⟩
  have h2' : (1 : Int) ≤ (s.length : Int) := h2
  have h3' : (s.length : Int) ≤ 0 := h3
  omega
theorem canon_in {a : S5} {s : List UInt8} : inD (canonD a) s ↔ inD a s := by
  constructor
  · intro h
    unfold canonD at h
    split at h
    · exact own_in h
    · exact absurd h not_none
  · exact fun h => (in_canon h).2
end Sh
end Go.Proofs.YtaejnklgnegkhaaGreatDoor
namespace Go.Proofs.YtaejnklgnegkhaaGreatDoor
open Pt

namespace Sh
open Classical
theorem text_iff {l : List UInt8} : isTextD l = true ↔ l.length ≤ 200 ∧ allD l 7 = true := by
  unfold isTextD; rw [Bool.and_eq_true, decide_eq_true_eq]
/-- The longest common beginning. -/
def cpre : List UInt8 → List UInt8 → List UInt8
  | x :: xs, y :: ys => if x = y then x :: cpre xs ys else []
  | _, _ => []
theorem cpre_left : ∀ (x y : List UInt8), cpre x y <+: x
  | [], _ => by unfold cpre; exact List.nil_prefix
  | _ :: _, [] => by unfold cpre; exact List.nil_prefix
  | x :: xs, y :: ys => by
    unfold cpre
    split
    · obtain ⟨r, hr⟩ := cpre_left xs ys
      exact ⟨r, by rw [List.cons_append, hr]⟩
    · exact List.nil_prefix
theorem cpre_right : ∀ (x y : List UInt8), cpre x y <+: y
  | [], _ => by unfold cpre; exact List.nil_prefix
  | _ :: _, [] => by unfold cpre; exact List.nil_prefix
  | x :: xs, y :: ys => by
    unfold cpre
    split
    · next h =>
      obtain ⟨r, hr⟩ := cpre_right xs ys
      exact ⟨r, by rw [List.cons_append, hr, h]⟩
    · exact List.nil_prefix
/-- The longest common end. -/
def csuf (x y : List UInt8) : List UInt8 := (cpre x.reverse y.reverse).reverse
theorem csuf_left (x y : List UInt8) : csuf x y <:+ x := by
  have := cpre_left x.reverse y.reverse
  rw [← List.reverse_suffix, List.reverse_reverse] at this
  exact this
theorem csuf_right (x y : List UInt8) : csuf x y <:+ y := by
  have := cpre_right x.reverse y.reverse
  rw [← List.reverse_suffix, List.reverse_reverse] at this
  exact this
abbrev BA (l : List UInt8) : ByteArray := ⟨l.toArray⟩
theorem ba_list (l : List UInt8) : (BA l).data.toList = l := rfl
theorem sub_or_left {x y z : Int} (h : Sub x y) : Sub x (bits .or .i64 y z) := fun i hi => by rw [bit_or, h i hi]; rfl
theorem sub_or_right {x y z : Int} (h : Sub x z) : Sub x (bits .or .i64 y z) := fun i hi => by rw [bit_or, h i hi, Bool.or_true]
theorem sub_and {x y z : Int} : Sub x (bits .and .i64 y z) ↔ Sub x y ∧ Sub x z := by
  constructor
  · intro h
    exact ⟨fun i hi => by have := h i hi; rw [bit_and, Bool.and_eq_true] at this; exact this.1, fun i hi => by have := h i hi; rw [bit_and, Bool.and_eq_true] at this; exact this.2⟩
  · rintro ⟨h1, h2⟩ i hi
    rw [bit_and, h1 i hi, h2 i hi]; rfl
theorem sub_trans {x y z : Int} (h : Sub x y) (g : Sub y z) : Sub x z := fun i hi => g i (h i hi)
/-- What Join gives. -/
noncomputable def joinD (a b : S5) : S5 :=
  if canonD a = none5 then (if canonD b = none5 then none5 else b) else if canonD b = none5 then a
  else ⟨min (canonD a).l (canonD b).l, max (canonD a).m (canonD b).m, bits .or .i64 (canonD a).c (canonD b).c, BA (cpre (canonD a).b.data.toList (canonD b).b.data.toList), BA (csuf (canonD a).e.data.toList (canonD b).e.data.toList)⟩
theorem in_not_none {a : S5} {s : List UInt8} (h : inD a s) : canonD a ≠ none5 := by
  intro h0
  have := (in_canon h).2
  rw [h0] at this
  exact not_none this
theorem in_join {a b : S5} {s : List UInt8} (h : inD a s ∨ inD b s) : inD (joinD a b) s := by
  unfold joinD
  by_cases ha : canonD a = none5
  · rw [if_pos ha]
    rcases h with h | h
    · exact absurd ha (in_not_none h)
    · rw [if_neg (in_not_none h)]; exact h
  · rw [if_neg ha]
    by_cases hb : canonD b = none5
    · rw [if_pos hb]
      rcases h with h | h
      · exact h
      · exact absurd hb (in_not_none h)
    · rw [if_neg hb]
      rcases h with h | h
      · obtain ⟨h1, h2, h3, h4, h5, h6⟩ := (in_canon h).2
        refine ⟨h1, ?_, ?_, sub_or_left h4, (cpre_left _ _).trans h5, (csuf_left _ _).trans h6⟩
        · show min (canonD a).l (canonD b).l ≤ _; omega
        · show _ ≤ max (canonD a).m (canonD b).m; omega
      · obtain ⟨h1, h2, h3, h4, h5, h6⟩ := (in_canon h).2
        refine ⟨h1, ?_, ?_, sub_or_right h4, (cpre_right _ _).trans h5, (csuf_right _ _).trans h6⟩
        · show min (canonD a).l (canonD b).l ≤ _; omega
        · show _ ≤ max (canonD a).m (canonD b).m; omega
/-- What Meet gives. -/
def longB (a b : ByteArray) : ByteArray := if a.size < b.size then b else a
def shortB (a b : ByteArray) : ByteArray := if a.size < b.size then a else b
noncomputable def meetD (a b : S5) : S5 :=
  if (shortB a.b b.b).data.toList <+: (longB a.b b.b).data.toList ∧ (shortB a.e b.e).data.toList <:+ (longB a.e b.e).data.toList
  then canonD ⟨max a.l b.l, min a.m b.m, bits .and .i64 a.c b.c, longB a.b b.b, longB a.e b.e⟩ else none5
theorem long_pre {a b : ByteArray} {s : List UInt8} (h : (shortB a b).data.toList <+: (longB a b).data.toList) : (longB a b).data.toList <+: s ↔ a.data.toList <+: s ∧ b.data.toList <+: s := by
  unfold shortB longB at *
  split at h
  · next hl => rw [if_pos hl]; exact ⟨fun g => ⟨h.trans g, g⟩, fun g => g.2⟩
  · next hl => rw [if_neg hl]; exact ⟨fun g => ⟨g, h.trans g⟩, fun g => g.1⟩
theorem long_suf {a b : ByteArray} {s : List UInt8} (h : (shortB a b).data.toList <:+ (longB a b).data.toList) : (longB a b).data.toList <:+ s ↔ a.data.toList <:+ s ∧ b.data.toList <:+ s := by
  unfold shortB longB at *
  split at h
  · next hl => rw [if_pos hl]; exact ⟨fun g => ⟨h.trans g, g⟩, fun g => g.2⟩
  · next hl => rw [if_neg hl]; exact ⟨fun g => ⟨g, h.trans g⟩, fun g => g.1⟩
theorem fit_pre {a b : ByteArray} {s : List UInt8} (h1 : a.data.toList <+: s) (h2 : b.data.toList <+: s) : (shortB a b).data.toList <+: (longB a b).data.toList := by
  have e1 : a.data.toList.length = a.size := rfl
  have e2 : b.data.toList.length = b.size := rfl
  unfold shortB longB
  split
  · exact List.prefix_of_prefix_length_le h1 h2 (by omega)
  · exact List.prefix_of_prefix_length_le h2 h1 (by omega)
theorem fit_suf {a b : ByteArray} {s : List UInt8} (h1 : a.data.toList <:+ s) (h2 : b.data.toList <:+ s) : (shortB a b).data.toList <:+ (longB a b).data.toList := by
  have e1 : a.data.toList.length = a.size := rfl
  have e2 : b.data.toList.length = b.size := rfl
  unfold shortB longB
  split
  · exact List.suffix_of_suffix_length_le h1 h2 (by omega)
  · exact List.suffix_of_suffix_length_le h2 h1 (by omega)
theorem in_meet {a b : S5} {s : List UInt8} : inD (meetD a b) s ↔ inD a s ∧ inD b s := by
  unfold meetD
  constructor
  · intro h
    split at h
    · next hf =>
      obtain ⟨h1, h2, h3, h4, h5, h6⟩ := canon_in.1 h
      have h2' : max a.l b.l ≤ (s.length : Int) := h2
      have h3' : (s.length : Int) ≤ min a.m b.m := h3
      obtain ⟨h4a, h4b⟩ := sub_and.1 h4
      obtain ⟨h5a, h5b⟩ := (long_pre hf.1).1 h5
      obtain ⟨h6a, h6b⟩ := (long_suf hf.2).1 h6
      exact ⟨⟨h1, by omega, by omega, h4a, h5a, h6a⟩, ⟨h1, by omega, by omega, h4b, h5b, h6b⟩⟩
    · exact absurd h not_none
  · rintro ⟨⟨h1, h2, h3, h4, h5, h6⟩, ⟨g1, g2, g3, g4, g5, g6⟩⟩
    have hf := And.intro (fit_pre h5 g5) (fit_suf h6 g6)
    rw [if_pos hf, canon_in]
    refine ⟨h1, ?_, ?_, sub_and.2 ⟨h4, g4⟩, (long_pre hf.1).2 ⟨h5, g5⟩, (long_suf hf.2).2 ⟨h6, g6⟩⟩
    · show max a.l b.l ≤ _; omega
    · show _ ≤ min a.m b.m; omega
/-- What Within says. -/
def withD (a b : S5) : Prop := canonD a = none5 ∨ ((canonD b).l ≤ (canonD a).l ∧ (canonD a).m ≤ (canonD b).m ∧ Sub (canonD a).c (canonD b).c ∧ (canonD b).b.data.toList <+: (canonD a).b.data.toList ∧ (canonD b).e.data.toList <:+ (canonD a).e.data.toList)
theorem in_within {a b : S5} {s : List UInt8} (h : withD a b) (hs : inD a s) : inD b s := by
  rcases h with h | ⟨h2, h3, h4, h5, h6⟩
  · exact absurd h (in_not_none hs)
  · obtain ⟨g1, g2, g3, g4, g5, g6⟩ := (in_canon hs).2
    exact canon_in.1 ⟨g1, by omega, by omega, sub_trans g4 h4, h5.trans g5, h6.trans g6⟩
/-- What Concat gives. -/
def fixD (a : S5) : Prop := a.l = a.m ∧ a.l = (a.b.size : Int)
noncomputable def concD (a b : S5) : S5 :=
  if canonD a = none5 ∨ canonD b = none5 ∨ 200 < (canonD a).l + (canonD b).l then none5
  else ⟨(canonD a).l + (canonD b).l, min ((canonD a).m + (canonD b).m) 200, bits .or .i64 (canonD a).c (canonD b).c, if fixD (canonD a) then (canonD a).b ++ (canonD b).b else (canonD a).b, if fixD (canonD b) then (canonD a).e ++ (canonD b).b else (canonD b).e⟩
theorem fix_is {a : S5} {s : List UInt8} (hf : fixD a) (h : inD a s) : s = a.b.data.toList := by
  obtain ⟨h1, h2, h3, h4, ⟨r, h5⟩, h6⟩ := h
  have e1 : a.b.data.toList.length = a.b.size := rfl
  have l5 := congrArg List.length h5
  rw [List.length_append] at l5
  have hr : r = [] := List.eq_nil_of_length_eq_zero (by have := hf.1; have := hf.2; omega)
  rw [← h5, hr, List.append_nil]
theorem cb_cat {l m : List UInt8} {z : Int} (h1 : Sub (cbI l) z) (h2 : Sub (cbI m) z) : Sub (cbI (l ++ m)) z := by
  rw [cb_sub] at *
  intro c hc
  rcases List.mem_append.1 hc with hc | hc
  · exact h1 c hc
  · exact h2 c hc
theorem in_conc {a b : S5} {s t : List UInt8} (h : inD a s) (g : inD b t) (hl : s.length + t.length ≤ 200) : inD (concD a b) (s ++ t) := by
  have h' := (in_canon h).2
  have g' := (in_canon g).2
  have hn := in_not_none h
  have gn := in_not_none g
  obtain ⟨h1, h2, h3, h4, h5, h6⟩ := h'
  obtain ⟨g1, g2, g3, g4, g5, g6⟩ := g'
  unfold concD
  rw [if_neg (by rintro (x | x | x); exact hn x; exact gn x; omega)]
  obtain ⟨t1, t2⟩ := text_iff.1 h1
  obtain ⟨u1, u2⟩ := text_iff.1 g1
  refine ⟨text_iff.2 ⟨by rw [List.length_append]; omega, by rw [allD_cat, t2, u2]; rfl⟩, ?_, ?_, cb_cat (sub_or_left h4) (sub_or_right g4), ?_, ?_⟩
  · show _ + _ ≤ _; rw [List.length_append]; omega
  · show _ ≤ min _ _; rw [List.length_append]; omega
  · show (if fixD (canonD a) then (canonD a).b ++ (canonD b).b else (canonD a).b).data.toList <+: s ++ t
    split
    · next hf =>
      rw [cat_bytes, ← fix_is hf (in_canon h).2]
      exact (List.prefix_append_right_inj s).2 g5
    · exact h5.trans (List.prefix_append s t)
  · show (if fixD (canonD b) then (canonD a).e ++ (canonD b).b else (canonD b).e).data.toList <:+ s ++ t
    split
    · next hf =>
      rw [cat_bytes, ← fix_is hf (in_canon g).2]
      exact suf_cat h6 t
    · exact g6.trans (List.suffix_append s t)
where
  cat_bytes {a b : ByteArray} : (a ++ b).data.toList = a.data.toList ++ b.data.toList := by simp
  suf_cat {x s : List UInt8} (h : x <:+ s) (t : List UInt8) : x ++ t <:+ s ++ t := by
    obtain ⟨r, hr⟩ := h
    exact ⟨r, by rw [← List.append_assoc, hr]⟩
/-- What Of gives. -/
noncomputable def ofD (s : ByteArray) : S5 := if isTextD s.data.toList = true then ⟨(s.size : Int), (s.size : Int), cbI s.data.toList, s, s⟩ else none5
theorem in_of {s : ByteArray} (h : isTextD s.data.toList = true) : inD (ofD s) s.data.toList := by
  unfold ofD
  rw [if_pos h]
  have e1 : s.data.toList.length = s.size := rfl
  exact ⟨h, by rw [e1]; exact Int.le_refl _, by rw [e1]; exact Int.le_refl _, fun _ hi => hi, List.prefix_refl _, List.suffix_refl _⟩
theorem of_only {s : ByteArray} {t : List UInt8} (h : inD (ofD s) t) : t = s.data.toList ∧ isTextD s.data.toList = true := by
  unfold ofD at h
  split at h
  · next ht =>
    obtain ⟨_, h2, h3, _, ⟨r, h5⟩, _⟩ := h
    have h2' : (s.size : Int) ≤ (t.length : Int) := h2
    have h3' : (t.length : Int) ≤ (s.size : Int) := h3
    have e1 : s.data.toList.length = s.size := rfl
    have l5 := congrArg List.length h5
    have e2 : (S5.mk (s.size : Int) (s.size : Int) (cbI s.data.toList) s s).b.data.toList = s.data.toList := rfl
    rw [List.length_append, e2] at l5
    have hr : r = [] := List.eq_nil_of_length_eq_zero (by omega)
    rw [hr, List.append_nil] at h5
    exact ⟨h5.symm, ht⟩
  · exact absurd h not_none
/-- Whether a shape is empty. -/
def emptyD (a : S5) : Prop := canonD a = none5
theorem has_not_none {a : S5} (h : hasD a) : a ≠ none5 := by
  rintro rfl
  obtain ⟨_, n, h1, h2, _⟩ := h
  have h1' : (1 : Int) ≤ n := h1
  have h2' : n ≤ 0 := h2
  omega
theorem empty_iff {a : S5} : emptyD a ↔ ¬ hasD (ownD a) := by
  unfold emptyD canonD
  constructor
  · intro h hh
    rw [if_pos hh] at h
    exact has_not_none hh h
  · intro h; rw [if_neg h]
theorem none_own : ¬ hasD (ownD none5) := by
  rintro ⟨_, n, h1, h2, _⟩
  have h1' : max (max (1 : Int) 0) 0 ≤ n := h1
  have h2' : n ≤ min 0 200 := h2
  omega
theorem empty_of {s : ByteArray} : emptyD (ofD s) ↔ ¬ isTextD s.data.toList = true := by
  constructor
  · intro h ht
    exact in_not_none (in_of ht) h
  · intro h
    unfold ofD
    rw [if_neg h, empty_iff]
    exact none_own
/-- What Part gives. -/
noncomputable def partD (a : S5) : S5 := if canonD a = none5 then none5 else ⟨0, (canonD a).m, (canonD a).c, ⟨#[]⟩, ⟨#[]⟩⟩
theorem in_part {a : S5} {s p : List UInt8} (h : inD a s) (hp : p <:+: s) : inD (partD a) p := by
  unfold partD
  rw [if_neg (in_not_none h)]
  obtain ⟨h1, h2, h3, h4, h5, h6⟩ := (in_canon h).2
  obtain ⟨t1, t2⟩ := text_iff.1 h1
  have hl := hp.length_le
  refine ⟨text_iff.2 ⟨by omega, ?_⟩, ?_, ?_, cb_part (fun c hc => hp.subset hc) h4, List.nil_prefix, List.nil_suffix⟩
  · unfold allD at *
    rw [List.all_eq_true] at *
    exact fun c hc => t2 c (hp.subset hc)
  · show (0 : Int) ≤ _; omega
  · show _ ≤ (canonD a).m; omega
end Sh
end Go.Proofs.YtaejnklgnegkhaaGreatDoor
namespace Go.Proofs.YtaejnklgnegkhaaGreatDoor
open Pt

namespace Sh
open Classical
/-- A bit replaced by another one, if it is set. -/
noncomputable def repD (z : Int) (f t : Nat) : Int := if bits .and .i64 z ((2 ^ f : Nat) : Int) = 0 then z else bits .or .i64 (bits .andNot .i64 z ((2 ^ f : Nat) : Int)) ((2 ^ t : Nat) : Int)
theorem and_zero {z : Int} {f : Nat} (hf : f < 63) : bits .and .i64 z ((2 ^ f : Nat) : Int) = 0 ↔ bit z f = false := by
  constructor
  · intro h
    have := bit_and z ((2 ^ f : Nat) : Int) f
    rw [h, zero_bit, two_bit hf] at this
    simpa using this.symm
  · intro h
    have hz : bt z &&& bt ((2 ^ f : Nat) : Int) = 0#64 := by
      apply BitVec.eq_of_getLsbD_eq
      intro i hi
      have h1 := bit_and z ((2 ^ f : Nat) : Int) i
      rw [two_bit hf] at h1
      unfold bit at h1 h
      rw [bt_and] at h1
      rw [h1, BitVec.getLsbD_zero]
      by_cases hif : i = f
      · rw [hif, h]; rfl
      · simp [hif]
    show IntKind.i64.wrap ((bt z &&& bt ((2 ^ f : Nat) : Int)).toNat : Int) = 0
    rw [hz]; rfl
theorem rep_bit {z : Int} {f t i : Nat} (hf : f < 63) (ht : t < 63) (hi : bit z i = true) : bit (repD z f t) (if i = f then t else i) = true := by
  unfold repD
  by_cases h : bit z f = false
  · rw [if_pos ((and_zero hf).2 h)]
    have : i ≠ f := by rintro rfl; rw [hi] at h; cases h
    rw [if_neg this]; exact hi
  · rw [if_neg (fun h2 => h ((and_zero hf).1 h2)), bit_or, bit_andn, two_bit hf, two_bit ht]
    by_cases h2 : i = f
    · rw [if_pos h2]; simp
    · rw [if_neg h2, hi]; simp [h2]
/-- A byte in the other case. -/
def upB (b : UInt8) : UInt8 := if 97 ≤ b.toNat ∧ b.toNat ≤ 122 then b - 32 else b
def loB (b : UInt8) : UInt8 := if 65 ≤ b.toNat ∧ b.toNat ≤ 90 then b + 32 else b
set_option maxRecDepth 100000 in
theorem up_cls : ∀ b : UInt8, clsD (upB b).toNat = if clsD b.toNat = 3 then 2 else clsD b.toNat := by
  have h : ∀ i : Fin 256, clsD (upB (UInt8.ofNat i.1)).toNat = if clsD (UInt8.ofNat i.1).toNat = 3 then 2 else clsD (UInt8.ofNat i.1).toNat := by decide
  intro b
  have := h ⟨b.toNat, b.toNat_lt⟩
  rwa [show UInt8.ofNat b.toNat = b from UInt8.ofNat_toNat] at this
set_option maxRecDepth 100000 in
theorem lo_cls : ∀ b : UInt8, clsD (loB b).toNat = if clsD b.toNat = 2 then 3 else clsD b.toNat := by
  have h : ∀ i : Fin 256, clsD (loB (UInt8.ofNat i.1)).toNat = if clsD (UInt8.ofNat i.1).toNat = 2 then 3 else clsD (UInt8.ofNat i.1).toNat := by decide
  intro b
  have := h ⟨b.toNat, b.toNat_lt⟩
  rwa [show UInt8.ofNat b.toNat = b from UInt8.ofNat_toNat] at this
/-- A shape in one case. -/
noncomputable def caseD (a : S5) (f t : Nat) (g : UInt8 → UInt8) : S5 := ⟨(canonD a).l, (canonD a).m, repD (canonD a).c f t, BA ((canonD a).b.data.toList.map g), BA ((canonD a).e.data.toList.map g)⟩
theorem in_case {a : S5} {s : List UInt8} {f t : Nat} {g : UInt8 → UInt8} (hf : f < 63) (ht : t < 63) (ht0 : t ≠ 0) (hg : ∀ b : UInt8, clsD (g b).toNat = if clsD b.toNat = f then t else clsD b.toNat) (h : inD a s) : inD (caseD a f t g) (s.map g) := by
  obtain ⟨h1, h2, h3, h4, h5, h6⟩ := (in_canon h).2
  obtain ⟨t1, t2⟩ := text_iff.1 h1
  refine ⟨text_iff.2 ⟨by rw [List.length_map]; exact t1, ?_⟩, by rw [List.length_map]; exact h2, by rw [List.length_map]; exact h3, ?_, h5.map g, h6.map g⟩
  · rw [← text_sub, cb_sub]
    intro c hc
    obtain ⟨b, hb, rfl⟩ := List.mem_map.1 hc
    have h7 : clsD b.toNat ≠ 0 := by
      unfold allD at t2
      rw [List.all_eq_true] at t2
      have := t2 b hb
      unfold belD at this
      rw [Bool.and_eq_true, decide_eq_true_eq] at this
      exact this.1
    rw [bit110 _ (clsD_le _).1, decide_eq_true_eq]
    refine ⟨?_, (clsD_le _).2⟩
    rw [hg]
    split
    · exact ht0
    · exact h7
  · rw [cb_sub]
    intro c hc
    obtain ⟨b, hb, rfl⟩ := List.mem_map.1 hc
    rw [hg]
    exact rep_bit hf ht (cb_sub.1 h4 b hb)
end Sh
end Go.Proofs.YtaejnklgnegkhaaGreatDoor
