/- Contracts of the program and of the reference, part 1: BuildT, Parts, PartsI, Digs, Padd, Right. -/
import Derived.Test.YtchbefaflhimcaaDoorBForm0
import Derived.Test.YtchbefaflhimcaaDoorShelf
import Derived.Test.YtchbefaflhimcaaDoorChecked
import Derived.WalkKit
import Derived.Lib.Hide
import Derived.WalkSpells
import Derived.WalkLawsBesides
import Derived.RangeFuncNested
import Derived.RangeFuncBound
import Derived.RangeFuncCalls
import Derived.RangeFuncLeaves
import Derived.Shelf.Abstract
import Derived.Shelf.RegionOpen
import Derived.OwnWalkIn
import Derived.TacticsInMore
import Derived.LoopNIn
import Derived.LoopIn
namespace Go.Proofs.YtchbefaflhimcaaDoor
open Go.RowKit Go.Shelf

def lays166_ren : Go.Shelf.Ren := ⟨fun | 166 => 55 | 240 => 62 | 276 => 65 | n => n, fun | 0 => 0 | 3 => 3 | 4 => 4 | 9 => 9 | 20 => 20 | 37 => 46 | 70 => 74 | 72 => 76 | 75 => 78 | 80 => 81 | 164 => 87 | 5 => 5 | n => n, fun | n => n⟩
theorem lays166 : Go.Proofs.Lays.n166 Tryd.prog lays166_ren := {
  mixed := by kernel_rfl
  f166 := Tryd.func55.trans (congrArg some (by kernel_rfl))
  f240 := Tryd.func62.trans (congrArg some (by kernel_rfl))
  f276 := Tryd.func65.trans (congrArg some (by kernel_rfl))
  t0 := Tryd.underlying0
  a0 := Tryd.isAgg0
  z0 := Tryd.sizeOf0
  v0 := Tryd.zeroValue0
  t3 := Tryd.underlying3
  a3 := Tryd.isAgg3
  z3 := Tryd.sizeOf3
  v3 := Tryd.zeroValue3
  t4 := Tryd.underlying4
  a4 := Tryd.isAgg4
  z4 := Tryd.sizeOf4
  v4 := Tryd.zeroValue4
  t9 := Tryd.underlying9
  a9 := Tryd.isAgg9
  z9 := Tryd.sizeOf9
  v9 := Tryd.zeroValue9
  t20 := Tryd.underlying20
  a20 := Tryd.isAgg20
  z20 := Tryd.sizeOf20
  v20 := Tryd.zeroValue20
  t37 := Tryd.underlying46
  a37 := Tryd.isAgg46
  z37 := Tryd.sizeOf46
  v37 := Tryd.zeroValue46
  t70 := Tryd.underlying74
  a70 := Tryd.isAgg74
  z70 := Tryd.sizeOf74
  v70 := Tryd.zeroValue74
  t72 := Tryd.underlying76
  a72 := Tryd.isAgg76
  z72 := Tryd.sizeOf76
  v72 := Tryd.zeroValue76
  t75 := Tryd.underlying78
  a75 := Tryd.isAgg78
  z75 := Tryd.sizeOf78
  v75 := Tryd.zeroValue78
  t164 := Tryd.underlying87
  a164 := Tryd.isAgg87
  z164 := Tryd.sizeOf87
  v164 := Tryd.zeroValue87 }
theorem extra166 : Builder.Extra Tryd.prog lays166_ren := {
  sizeBuilder := by kernel_rfl
  liesBuilder := by kernel_rfl
  t5 := Tryd.underlying5
  a5 := Tryd.isAgg5
  z5 := Tryd.sizeOf5
  v5 := Tryd.zeroValue5
  infoByte := by kernel_rfl
  cellsByte := by kernel_rfl
  sizeByte := by kernel_rfl
  neB5 := by decide }
theorem gr_alloc (w : World) (o : Obj) (row : Option Nat) : w.grownBy (w.alloc o) row := World.grownBy_alloc w o row
theorem gr_then {a b c : World} {r : Option Nat} (g : a.grownBy b none) (h : b.grownBy c r) : a.grownBy c r := by
  refine ⟨h.os.trans g.os, h.tape.trans g.tape, h.output.trans g.output, Nat.le_trans g.size h.size, fun k hk hne => ?_⟩
  exact (h.block k (Nat.lt_of_lt_of_le hk g.size) hne).trans (g.block k hk (by simp))
theorem gr_below {w w' : World} (h : Below w.heap.size w w') (r : Option Nat) : w.grownBy w' r := ⟨h.os, h.tape, h.output, h.size, fun k hk _ => h.block k hk⟩
theorem len_toList (t : ByteArray) : t.data.toList.length = t.size := rfl
theorem toArray_eq (t : ByteArray) {l : List UInt8} (h : l = t.data.toList) : (⟨l.toArray⟩ : ByteArray) = t := by
  subst h; simp
theorem ext_list (s : ByteArray) (a b : Nat) : (s.extract a b).data.toList = (s.data.toList.drop a).take (b - a) := by
  simp [ByteArray.data_extract, Array.toList_extract, List.extract_eq_take_drop]
theorem ext_head (s : ByteArray) (b : Nat) : (s.extract 0 b).data.toList = s.data.toList.take b := by rw [ext_list]; simp
theorem ext_tail (s : ByteArray) (a : Nat) : (s.extract a s.size).data.toList = s.data.toList.drop a := by
  rw [ext_list, List.take_of_length_le]
  rw [List.length_drop, len_toList]
  omega
end Go.Proofs.YtchbefaflhimcaaDoor
namespace Go.Proofs.YtchbefaflhimcaaDoor
open Go.RowKit Go.Shelf Mth

def fieldsL : List ByteArray := [⟨#[89, 89, 89, 89]⟩, ⟨#[77, 77]⟩, ⟨#[77]⟩, ⟨#[68, 68]⟩, ⟨#[68]⟩]
/-- The variable date.fields as it is laid. -/
abbrev FieldsV (w : World) : Prop := w.var? Tryd.prog "concord/date.fields" = some (fieldsL.map Value.string).toArray
theorem fields_nm : Tryd.prog.globalNamed "concord/date.fields" = some 1 := by kernel_rfl

/-- Its cells. -/
def FV (w : World) : Prop := w.cell? ⟨1, 0, none⟩ = some (.string ⟨#[89, 89, 89, 89]⟩) ∧ w.cell? ⟨1, 1, none⟩ = some (.string ⟨#[77, 77]⟩) ∧ w.cell? ⟨1, 2, none⟩ = some (.string ⟨#[77]⟩) ∧ w.cell? ⟨1, 3, none⟩ = some (.string ⟨#[68, 68]⟩) ∧ w.cell? ⟨1, 4, none⟩ = some (.string ⟨#[68]⟩)
theorem fv_of {w : World} (h : FieldsV w) : FV w :=
  ⟨World.var?_cell fields_nm h 0, World.var?_cell fields_nm h 1, World.var?_cell fields_nm h 2, World.var?_cell fields_nm h 3, World.var?_cell fields_nm h 4⟩
theorem FV.of_cells {w w' : World} (h : FV w) (hk : ∀ i v, w.cell? ⟨1, i, none⟩ = some v → w'.cell? ⟨1, i, none⟩ = some v) : FV w' :=
  ⟨hk _ _ h.1, hk _ _ h.2.1, hk _ _ h.2.2.1, hk _ _ h.2.2.2.1, hk _ _ h.2.2.2.2⟩
theorem FV.grown {w w' : World} {row : Option Nat} (h : FV w) (hg : w.grownBy w' row) (hne : row ≠ some 1) : FV w' :=
  h.of_cells fun _ _ hc => hg.cell hc (fun e => hne e.symm)
theorem FV.lt {w : World} (h : FV w) : 1 < w.heap.size := World.block_lt_of_cell? w _ h.1

/-- The first part is not one of the first k fields. -/
def fieldAt : Nat → List UInt8
  | 0 => [89, 89, 89, 89] | 1 => [77, 77] | 2 => [77] | 3 => [68, 68] | _ => [68]
theorem prefix_take (p l : List UInt8) : p.isPrefixOf l = decide (l.take p.length = p) := by
  rw [Bool.eq_iff_iff, decide_eq_true_eq, List.isPrefixOf_iff_prefix, List.prefix_iff_eq_take, eq_comm]
def none_ (k : Nat) (l : List UInt8) : Prop := ∀ i, i < k → Lib.hasPrefix l (fieldAt i) = false
theorem none_take {k : Nat} {l : List UInt8} (h : none_ k l) (i : Nat) (hi : i < k) : ¬ l.take (fieldAt i).length = fieldAt i := by
  have := h i hi
  unfold Lib.hasPrefix at this
  rw [prefix_take] at this
  simpa using this
theorem tok_at (l : List UInt8) (k : Nat) (hk : k < 5) (hn : none_ k l) (h : Lib.hasPrefix l (fieldAt k) = true) : (tokOf l).txt = fieldAt k := by
  unfold Lib.hasPrefix at h
  rw [prefix_take, decide_eq_true_eq] at h
  have h5 : k = 0 ∨ k = 1 ∨ k = 2 ∨ k = 3 ∨ k = 4 := by omega
  unfold tokOf
  rcases h5 with rfl | rfl | rfl | rfl | rfl
  · rw [if_pos (show l.take 4 = [89, 89, 89, 89] from h)]; rfl
  · rw [if_neg (show ¬ l.take 4 = [89, 89, 89, 89] from none_take hn 0 (by omega)), if_pos (show l.take 2 = [77, 77] from h)]; rfl
  · rw [if_neg (show ¬ l.take 4 = [89, 89, 89, 89] from none_take hn 0 (by omega)), if_neg (show ¬ l.take 2 = [77, 77] from none_take hn 1 (by omega)), if_pos (show l.take 1 = [77] from h)]; rfl
  · rw [if_neg (show ¬ l.take 4 = [89, 89, 89, 89] from none_take hn 0 (by omega)), if_neg (show ¬ l.take 2 = [77, 77] from none_take hn 1 (by omega)), if_neg (show ¬ l.take 1 = [77] from none_take hn 2 (by omega)), if_pos (show l.take 2 = [68, 68] from h)]; rfl
  · rw [if_neg (show ¬ l.take 4 = [89, 89, 89, 89] from none_take hn 0 (by omega)), if_neg (show ¬ l.take 2 = [77, 77] from none_take hn 1 (by omega)), if_neg (show ¬ l.take 1 = [77] from none_take hn 2 (by omega)), if_neg (show ¬ l.take 2 = [68, 68] from none_take hn 3 (by omega)), if_pos (show l.take 1 = [68] from h)]; rfl
theorem tok_ch (l : List UInt8) (h0 : l ≠ []) (hn : none_ 5 l) : (tokOf l).txt = l.take 1 := by
  unfold tokOf
  rw [if_neg (show ¬ l.take 4 = [89, 89, 89, 89] from none_take hn 0 (by omega)), if_neg (show ¬ l.take 2 = [77, 77] from none_take hn 1 (by omega)), if_neg (show ¬ l.take 1 = [77] from none_take hn 2 (by omega)), if_neg (show ¬ l.take 2 = [68, 68] from none_take hn 3 (by omega)), if_neg (show ¬ l.take 1 = [68] from none_take hn 4 (by omega))]
  cases l with
  | nil => exact absurd rfl h0
  | cons c l => rfl

theorem run_field (i : Nat) (hi : i < 5) (w : World) : Sem.run Tryd.prog (Instr.index 85 (.agg #[.string ⟨#[89, 89, 89, 89]⟩, .string ⟨#[77, 77]⟩, .string ⟨#[77]⟩, .string ⟨#[68, 68]⟩, .string ⟨#[68]⟩]) (.int .i64 (i : Nat))) w = .ok (.string ⟨(fieldAt i).toArray⟩) w := by
  have h5 : i = 0 ∨ i = 1 ∨ i = 2 ∨ i = 3 ∨ i = 4 := by omega
  rcases h5 with rfl | rfl | rfl | rfl | rfl <;> simp [Instr.index, asIntOf, part, Tryd.isAgg9, Tryd.sizeOf9, go_sem, fieldAt]
set_option maxHeartbeats 1000000 in
set_option maxRecDepth 100000 in
theorem firstPart_any (s : ByteArray) (w : World) (h0 : 0 < s.size) (hv : FV w) :
    Calls Tryd.prog 60 #[.string s] w fun e w' => e = .returned (.string ⟨(tokOf s.data.toList).txt.toArray⟩) ∧ w = w' := by
  obtain ⟨c0, c1, c2, c3, c4⟩ := hv
  have hne : s.data.toList ≠ [] := fun e => by have := len_toList s; rw [e] at this; simp at this; omega
  have HNE := Lib.hid hne
  clear hne
  go_enter Tryd.func60, Tryd.ntmps60
  go_wp2
  go_loop [6] (fun v => ∃ k : Nat, k ≤ 5 ∧ v = .int .i64 (k : Int) ∧ Hid (none_ k s.data.toList)) (fun v => (5 - intOf v).toNat)
  case atStart => exact ⟨0, by omega, by simp, fun i hi => by omega⟩
  case round =>
    obtain ⟨k, hk, rfl, hn⟩ := hrel
    have h6 : k = 0 ∨ k = 1 ∨ k = 2 ∨ k = 3 ∨ k = 4 ∨ k = 5 := by omega
    rcases h6 with rfl | rfl | rfl | rfl | rfl | rfl
    · have hx : Sem.run Tryd.prog (Instr.index 85 (.agg #[.string ⟨#[89, 89, 89, 89]⟩, .string ⟨#[77, 77]⟩, .string ⟨#[77]⟩, .string ⟨#[68, 68]⟩, .string ⟨#[68]⟩]) (.int .i64 0)) w = .ok (.string ⟨#[89, 89, 89, 89]⟩) w := run_field 0 (by decide) w
      have hp := Tryd.strings_HasPrefix s ⟨#[89, 89, 89, 89]⟩ w
      rw [show (⟨#[89, 89, 89, 89]⟩ : ByteArray).data.toList = fieldAt 0 from rfl] at hp
      have HP := Lib.hid hp
      clear hp
      cases hb : Lib.hasPrefix s.data.toList (fieldAt 0) with
      | true =>
        rw [hb] at HP
        have HB := Lib.hid hb
        clear hb
        go_wp2_with fail
        refine HP.out.mono ?_
        rintro e w' ⟨rfl, rfl⟩
        go_wp2
        go_ret
        exact ⟨by rw [tok_at _ 0 (by decide) hn.out HB.out]; rfl, rfl⟩
      | false =>
        rw [hb] at HP
        have HB := Lib.hid hb
        clear hb
        go_wp2_with fail
        refine HP.out.mono ?_
        rintro e w' ⟨rfl, rfl⟩
        go_wp2
        refine ⟨⟨1, by decide, rfl, fun i hi => ?_⟩, by decide⟩
        rcases Nat.lt_succ_iff_lt_or_eq.1 hi with h | rfl
        · exact hn.out i h
        · exact HB.out
    · have hx : Sem.run Tryd.prog (Instr.index 85 (.agg #[.string ⟨#[89, 89, 89, 89]⟩, .string ⟨#[77, 77]⟩, .string ⟨#[77]⟩, .string ⟨#[68, 68]⟩, .string ⟨#[68]⟩]) (.int .i64 1)) w = .ok (.string ⟨#[77, 77]⟩) w := run_field 1 (by decide) w
      have hp := Tryd.strings_HasPrefix s ⟨#[77, 77]⟩ w
      rw [show (⟨#[77, 77]⟩ : ByteArray).data.toList = fieldAt 1 from rfl] at hp
      have HP := Lib.hid hp
      clear hp
      cases hb : Lib.hasPrefix s.data.toList (fieldAt 1) with
      | true =>
        rw [hb] at HP
        have HB := Lib.hid hb
        clear hb
        go_wp2_with fail
        refine HP.out.mono ?_
        rintro e w' ⟨rfl, rfl⟩
        go_wp2
        go_ret
        exact ⟨by rw [tok_at _ 1 (by decide) hn.out HB.out]; rfl, rfl⟩
      | false =>
        rw [hb] at HP
        have HB := Lib.hid hb
        clear hb
        go_wp2_with fail
        refine HP.out.mono ?_
        rintro e w' ⟨rfl, rfl⟩
        go_wp2
        refine ⟨⟨2, by decide, rfl, fun i hi => ?_⟩, by decide⟩
        rcases Nat.lt_succ_iff_lt_or_eq.1 hi with h | rfl
        · exact hn.out i h
        · exact HB.out
    · have hx : Sem.run Tryd.prog (Instr.index 85 (.agg #[.string ⟨#[89, 89, 89, 89]⟩, .string ⟨#[77, 77]⟩, .string ⟨#[77]⟩, .string ⟨#[68, 68]⟩, .string ⟨#[68]⟩]) (.int .i64 2)) w = .ok (.string ⟨#[77]⟩) w := run_field 2 (by decide) w
      have hp := Tryd.strings_HasPrefix s ⟨#[77]⟩ w
      rw [show (⟨#[77]⟩ : ByteArray).data.toList = fieldAt 2 from rfl] at hp
      have HP := Lib.hid hp
      clear hp
      cases hb : Lib.hasPrefix s.data.toList (fieldAt 2) with
      | true =>
        rw [hb] at HP
        have HB := Lib.hid hb
        clear hb
        go_wp2_with fail
        refine HP.out.mono ?_
        rintro e w' ⟨rfl, rfl⟩
        go_wp2
        go_ret
        exact ⟨by rw [tok_at _ 2 (by decide) hn.out HB.out]; rfl, rfl⟩
      | false =>
        rw [hb] at HP
        have HB := Lib.hid hb
        clear hb
        go_wp2_with fail
        refine HP.out.mono ?_
        rintro e w' ⟨rfl, rfl⟩
        go_wp2
        refine ⟨⟨3, by decide, rfl, fun i hi => ?_⟩, by decide⟩
        rcases Nat.lt_succ_iff_lt_or_eq.1 hi with h | rfl
        · exact hn.out i h
        · exact HB.out
    · have hx : Sem.run Tryd.prog (Instr.index 85 (.agg #[.string ⟨#[89, 89, 89, 89]⟩, .string ⟨#[77, 77]⟩, .string ⟨#[77]⟩, .string ⟨#[68, 68]⟩, .string ⟨#[68]⟩]) (.int .i64 3)) w = .ok (.string ⟨#[68, 68]⟩) w := run_field 3 (by decide) w
      have hp := Tryd.strings_HasPrefix s ⟨#[68, 68]⟩ w
      rw [show (⟨#[68, 68]⟩ : ByteArray).data.toList = fieldAt 3 from rfl] at hp
      have HP := Lib.hid hp
      clear hp
      cases hb : Lib.hasPrefix s.data.toList (fieldAt 3) with
      | true =>
        rw [hb] at HP
        have HB := Lib.hid hb
        clear hb
        go_wp2_with fail
        refine HP.out.mono ?_
        rintro e w' ⟨rfl, rfl⟩
        go_wp2
        go_ret
        exact ⟨by rw [tok_at _ 3 (by decide) hn.out HB.out]; rfl, rfl⟩
      | false =>
        rw [hb] at HP
        have HB := Lib.hid hb
        clear hb
        go_wp2_with fail
        refine HP.out.mono ?_
        rintro e w' ⟨rfl, rfl⟩
        go_wp2
        refine ⟨⟨4, by decide, rfl, fun i hi => ?_⟩, by decide⟩
        rcases Nat.lt_succ_iff_lt_or_eq.1 hi with h | rfl
        · exact hn.out i h
        · exact HB.out
    · have hx : Sem.run Tryd.prog (Instr.index 85 (.agg #[.string ⟨#[89, 89, 89, 89]⟩, .string ⟨#[77, 77]⟩, .string ⟨#[77]⟩, .string ⟨#[68, 68]⟩, .string ⟨#[68]⟩]) (.int .i64 4)) w = .ok (.string ⟨#[68]⟩) w := run_field 4 (by decide) w
      have hp := Tryd.strings_HasPrefix s ⟨#[68]⟩ w
      rw [show (⟨#[68]⟩ : ByteArray).data.toList = fieldAt 4 from rfl] at hp
      have HP := Lib.hid hp
      clear hp
      cases hb : Lib.hasPrefix s.data.toList (fieldAt 4) with
      | true =>
        rw [hb] at HP
        have HB := Lib.hid hb
        clear hb
        go_wp2_with fail
        refine HP.out.mono ?_
        rintro e w' ⟨rfl, rfl⟩
        go_wp2
        go_ret
        exact ⟨by rw [tok_at _ 4 (by decide) hn.out HB.out]; rfl, rfl⟩
      | false =>
        rw [hb] at HP
        have HB := Lib.hid hb
        clear hb
        go_wp2_with fail
        refine HP.out.mono ?_
        rintro e w' ⟨rfl, rfl⟩
        go_wp2
        refine ⟨⟨5, by decide, rfl, fun i hi => ?_⟩, by decide⟩
        rcases Nat.lt_succ_iff_lt_or_eq.1 hi with h | rfl
        · exact hn.out i h
        · exact HB.out
    · have he : (⟨(s.data.toList.take 1).toArray⟩ : ByteArray) = s.extract 0 1 := toArray_eq _ (ext_head s 1).symm
      have HE := Lib.hid he
      clear he
      go_wp2
      go_ret
      exact ⟨by rw [tok_ch _ HNE.out hn.out, HE.out]; rfl, rfl⟩
end Go.Proofs.YtchbefaflhimcaaDoor
namespace Go.Proofs.YtchbefaflhimcaaDoor
open Go.RowKit Go.Shelf Mth
attribute [local go_sem] Oper.semAt_some

/-- What a round must keep for the iterator: its box, and the variable date.fields. -/
def KpD (Be : Nat) (W W' : World) : Prop := (∀ v, W.cell? ⟨Be, 0, none⟩ = some v → W'.cell? ⟨Be, 0, none⟩ = some v) ∧ (FV W → FV W')
theorem KpD.of_grown {Be : Nat} {W W' : World} {row : Option Nat} (hg : W.grownBy W' row) (h1 : row ≠ some Be) (h2 : row ≠ some 1) : KpD Be W W' :=
  ⟨fun _ hc => hg.cell hc (fun e => h1 e.symm), fun h => h.grown hg h2⟩
theorem KpD.trans {Be : Nat} {A B C : World} (h : KpD Be A B) (g : KpD Be B C) : KpD Be A C := ⟨fun v hv => g.1 v (h.1 v hv), fun hv => g.2 (h.2 hv)⟩
def Tok_real : Tok → Bool | .ch c => decide (c ≠ 77) && decide (c ≠ 68) | _ => true
/-- The parts that there can be. -/
abbrev RTok := { x : Tok // Tok_real x = true }
theorem tokOf_real {l : List UInt8} (h : l ≠ []) : Tok_real (tokOf l) = true := by
  unfold tokOf
  repeat' split
  all_goals (try rfl)
  cases l with
  | nil => exact absurd rfl h
  | cons c l =>
    rename_i _ _ h1 _ h2
    simp only [List.take_succ_cons, List.take_zero, List.cons.injEq, and_true] at h1 h2
    simp [Tok_real, h1, h2]
abbrev encT (x : RTok) : Array Value := #[Value.string ⟨x.1.txt.toArray⟩]

set_option maxRecDepth 100000 in
set_option maxHeartbeats 2000000 in
theorem parts_stops (n : Nat) (Be : Nat) (s : ByteArray) (w : World) (hc : w.cell? ⟨Be, 0, none⟩ = some (.string s)) (hv : FV w) (_hsz : s.size ≤ 9223372036854775807) :
    SeqStopsK Fence.wide n Tryd.prog 59 #[.pointer (some ⟨Be, 0, none⟩)] encT (KpD Be) (fun xs => xs.map (·.1) = toks s.data.toList) (fun xs => xs.map (·.1) <+: toks s.data.toList) s.size w := fun l J Jx W hb _ _ hY h0 => by
  have hcW : W.cell? ⟨Be, 0, none⟩ = some (.string s) := by
    rw [hb.cell (p := ⟨Be, 0, none⟩) (World.block_lt_of_cell? w _ hc)]; exact hc
  have hvW : FV W := hv.of_cells fun i v h => by
    rw [hb.cell (p := ⟨1, i, none⟩) (World.block_lt_of_cell? w _ h)]; exact h
  refine callsIn_of_wp Tryd.func59 rfl trivial ?_ rfl
  simp only [Tryd.ntmps59, List.size_toArray, List.length_cons, List.length_nil, Nat.reduceAdd, Nat.reduceSub, Array.replicate_succ, Array.replicate_zero, List.push_toArray, List.append_toArray, List.nil_append, List.cons_append]
  gi_wp2
  gi_loopw [3] (fun p wr => ∃ (pre : List RTok) (t : ByteArray), p = .string t ∧ Hid (toks s.data.toList = pre.map (·.1) ++ toks t.data.toList) ∧ t.size ≤ s.size ∧ pre.length + t.size ≤ s.size ∧ J pre wr ∧ wr.cell? ⟨Be, 0, none⟩ = some (.string s) ∧ FV wr) (fun p _ => match p with | .string t => t.size | _ => 0)
  case atStart => exact ⟨[], s, rfl, Lib.hid (by simp), Nat.le_refl _, by simp, h0, hcW, hvW⟩
  case round =>
    obtain ⟨pre, t, rfl, HT, hts, hln, hJ, hcr, hvr⟩ := hrel
    by_cases hz : t = ⟨#[]⟩
    · subst hz
      have HT2 := Lib.hid (show pre.map (·.1) = toks s.data.toList from by
        have := HT.out
        rw [show (⟨#[]⟩ : ByteArray).data.toList = [] from rfl, toks_nil, List.append_nil] at this
        exact this.symm)
      clear HT
      gi_wp2
      go_end0
      exact ⟨⟨_, rfl⟩, .inl ⟨_, HT2.out, hJ⟩⟩
    · have hsz0 : 0 < t.size := by
        rcases Nat.eq_zero_or_pos t.size with h | h
        · exact absurd (by have : t.data = #[] := Array.eq_empty_of_size_eq_zero h
                           cases t; simp_all) hz
        · exact h
      have hne : t.data.toList ≠ [] := fun e => by have := len_toList t; rw [e] at this; simp at this; omega
      obtain ⟨x, hx⟩ : ∃ x : RTok, x.1 = tokOf t.data.toList := ⟨⟨_, tokOf_real hne⟩, rfl⟩
      have hl1 : x.1.txt.length ≤ t.size := by have := tokOf_len hne; rwa [len_toList, ← hx] at this
      have hl0 := x.1.txt_pos
      have hpl : pre.length < s.size := by omega
      obtain ⟨fn, tmps, assign, body, hy, hR⟩ := hY pre x wr hJ hpl
      have HTT := Lib.hid (show toks s.data.toList = (pre ++ [x]).map (·.1) ++ toks (t.data.toList.drop x.1.txt.length) from by
        rw [HT.out, toks_cons hne, List.map_append, List.append_assoc, hx]; simp [hx])
      have hfp := firstPart_any t wr hsz0 hvr
      rw [← hx] at hfp
      have hll : ((⟨x.1.txt.toArray⟩ : ByteArray)).size = x.1.txt.length := by simp [ByteArray.size]
      have hFP := Lib.hid hfp
      have hl2 : ¬ t.toList = [] := fun e => hz (by rw [ByteArray.toList_eq] at e; exact (toArray_eq t e.symm).symm)
      clear hx hne hfp HT hz
      have hem : t.toList.isEmpty = false := by simpa using hl2
      clear hl2
      gi_wp2
      refine ⟨trivial, fun h => absurd h (by decide), ?_⟩
      refine (callsIn_wide.2 hFP.out).mono ?_
      rintro e' w' ⟨rfl, rfl⟩
      gi_wp2
      refine ⟨fun h => absurd h (by decide), ?_⟩
      refine hR.mono ?_
      rintro e' W3 (⟨rfl, hJ3, hk3⟩ | ⟨rfl, hJx3⟩)
      · have hc3 := hk3.1 _ hcr
        have hv3 := hk3.2 hvr
        clear hk3 hcr hvr hy
        gi_wp2
        have hsz2 : (t.extract x.1.txt.length t.size).size = t.size - x.1.txt.length := by simp [ByteArray.size_extract]
        refine ⟨⟨pre ++ [x], t.extract x.1.txt.length t.size, rfl, Lib.hid (by rw [ext_tail]; exact HTT.out), by omega, by rw [List.length_append, hsz2]; simp only [List.length_singleton]; omega, hJ3, hc3, hv3⟩, ?_⟩
        show (t.extract x.1.txt.length t.size).size < t.size
        omega
      · clear hy
        gi_wp2
        refine bodyPost_ret (results_none rfl _ _ _) rfl ?_
        exact ⟨⟨_, rfl⟩, .inr ⟨_, ⟨_, HTT.out.symm⟩, hJx3⟩⟩
end Go.Proofs.YtchbefaflhimcaaDoor
namespace Go.Proofs.YtchbefaflhimcaaDoor
open Go.RowKit Mth

theorem cat_list (a b : ByteArray) : (a ++ b).data.toList = a.data.toList ++ b.data.toList := by simp
theorem size_of {s : ByteArray} {l : List UInt8} (h : s.data.toList = l) : s.size = l.length := by rw [← h, len_toList]
theorem gr_grow (w : World) (k : Nat) (os : Array Obj) (r : Option Nat) : w.grownBy (Go.Sort.grow (w.drewN k) os) r :=
  ⟨rfl, rfl, rfl, by simp, fun j hj _ => by rw [Go.Sort.heap_grow_old _ _ (by simpa using hj)]; rfl⟩
theorem gr_drewN (w : World) (n : Nat) (row : Option Nat) : w.grownBy (w.drewN n) row := ⟨rfl, rfl, rfl, Nat.le_refl _, fun _ _ _ => rfl⟩
abbrev Tab (w : World) : Prop := Lib.TabIs Tryd.prog w "internal/strconv.uint64pow10" .u64 Lib.pow10Tab

theorem isDigit_any (c : UInt8) (w : World) :
    Calls Tryd.prog 61 #[.int .u8 (c.toNat : Int)] w fun e w' => e = .returned (.bool (isDg c)) ∧ w = w' := by
  by_cases h : (48 : Int) ≤ (c.toNat : Int)
  · rw [show isDg c = decide ((c.toNat : Int) ≤ 57) from by
      unfold isDg
      rw [decide_eq_true (show 48 ≤ c.toNat by omega), Bool.true_and]
      exact decide_eq_decide.2 (by omega)]
    go_enter Tryd.func61, Tryd.ntmps61
    go_wp2
    go_ret
    exact ⟨rfl, rfl⟩
  · rw [show isDg c = false from by unfold isDg; rw [decide_eq_false (show ¬ 48 ≤ c.toNat by omega), Bool.false_and]]
    go_enter Tryd.func61, Tryd.ntmps61
    go_wp2
    go_ret
    exact ⟨rfl, rfl⟩

theorem mayBe_any (c : UInt8) (w : World) :
    Calls Tryd.prog 54 #[.int .u8 (c.toNat : Int)] w fun e w' => e = .returned (.bool (okCh c)) ∧ w = w' := by
  by_cases h1 : (32 : Int) ≤ (c.toNat : Int)
  · by_cases h2 : (c.toNat : Int) ≤ 126
    · have e : okCh c = (!isDg c && decide (c.toNat ≠ 89)) := by
        unfold okCh
        rw [decide_eq_true (show 32 ≤ c.toNat by omega), decide_eq_true (show c.toNat ≤ 126 by omega), Bool.true_and, Bool.true_and]
      rw [e]
      cases hd : isDg c with
      | true =>
        go_enter Tryd.func54, Tryd.ntmps54
        go_wp2_with fail
        refine (isDigit_any c w).mono ?_
        rintro e w' ⟨rfl, rfl⟩
        rw [hd]
        go_wp2
        go_ret
        exact ⟨rfl, rfl⟩
      | false =>
        have e2 : (!false && decide (c.toNat ≠ 89)) = ((c.toNat : Int) != 89) := by
          rw [Bool.not_false, Bool.true_and, Bool.eq_iff_iff, decide_eq_true_eq, bne_iff_ne]
          omega
        rw [e2]
        go_enter Tryd.func54, Tryd.ntmps54
        go_wp2_with fail
        refine (isDigit_any c w).mono ?_
        rintro e w' ⟨rfl, rfl⟩
        rw [hd]
        go_wp2
        go_ret
        exact ⟨rfl, rfl⟩
    · rw [show okCh c = false from by unfold okCh; rw [decide_eq_false (show ¬ c.toNat ≤ 126 by omega)]; simp]
      go_enter Tryd.func54, Tryd.ntmps54
      go_wp2_with fail
      go_ret
      exact ⟨rfl, rfl⟩
  · rw [show okCh c = false from by unfold okCh; rw [decide_eq_false (show ¬ 32 ≤ c.toNat by omega)]; simp]
    go_enter Tryd.func54, Tryd.ntmps54
    go_wp2_with fail
    go_ret
    exact ⟨rfl, rfl⟩

/-- i digits are read. -/
structure Led (l : List UInt8) (i N : Nat) : Prop where
  dig : ∀ c ∈ l.take i, isDg c = true
  val : N = dval 0 (l.take i)
theorem Led.next {s : ByteArray} {i N : Nat} (h : Led s.data.toList i N) (hi : i < s.size) (hd : isDg s[i] = true) : Led s.data.toList (i + 1) (10 * N + (s[i].toNat - 48)) := by
  have e : s.data.toList.take (i + 1) = s.data.toList.take i ++ [s[i]] := by
    rw [List.take_add_one, List.getElem?_eq_getElem (by simpa using hi)]; rfl
  constructor
  · intro c hc
    rw [e, List.mem_append] at hc
    rcases hc with hc | hc
    · exact h.dig c hc
    · simp only [List.mem_singleton] at hc; rw [hc]; exact hd
  · rw [e, dval_snoc, ← h.val]
theorem Led.done {s : ByteArray} {i N f : Nat} (h : Led s.data.toList i N) (hi : i ≤ s.size) (hf : i ≤ f) (he : i = f ∨ i = s.size ∨ ∃ h : i < s.size, isDg s[i] = false) : lead f 0 s.data.toList = (N, s.data.toList.drop i) := by
  conv => lhs; rw [← List.take_append_drop i s.data.toList]
  have hl : (s.data.toList.take i).length = i := by rw [List.length_take, len_toList]; omega
  rw [lead_digits _ _ _ _ h.dig (by omega), h.val]
  rcases he with rfl | rfl | ⟨hlt, hd⟩
  · exact .inl hl
  · right; left
    rw [List.drop_eq_nil_of_le]
    rw [len_toList]; exact Nat.le_refl _
  · right; right
    refine ⟨s[i], s.data.toList.drop (i + 1), ?_, hd⟩
    rw [List.drop_eq_getElem_cons (by simpa using hlt)]
    rfl
theorem Led.lt {s : ByteArray} {i N : Nat} (h : Led s.data.toList i N) : N < 10 ^ i := by
  rw [h.val]
  have := dval_lt _ h.dig
  refine Nat.lt_of_lt_of_le this (Nat.pow_le_pow_right (by decide) ?_)
  rw [List.length_take]
  exact Nat.min_le_left _ _

set_option maxRecDepth 100000 in
set_option maxHeartbeats 1000000 in
theorem leading_any (s : ByteArray) (f : Nat) (hf : f ≤ 4) (w : World) (hs : s.size ≤ 9223372036854775807) :
    Calls Tryd.prog 58 #[.string s, .int .i64 (f : Nat)] w fun e w' => e = .returned (.tuple #[.int .i64 ((lead f 0 s.data.toList).1 : Nat), .string ⟨(lead f 0 s.data.toList).2.toArray⟩]) ∧ w.grownBy w' none := by
  go_enter Tryd.func58, Tryd.ntmps58
  go_wp2
  go_loop [6, 7] (fun u v => ∃ i N : Nat, i ≤ f ∧ i ≤ s.size ∧ u = .int .i64 (N : Int) ∧ v = .int .i64 (i : Int) ∧ Hid (Led s.data.toList i N)) (fun _ v => f - (intOf v).toNat)
  case atStart => exact ⟨0, 0, by omega, by omega, by simp, by simp, ⟨by simp, by simp [dval]⟩⟩
  case round =>
    obtain ⟨i, N, hif, his, rfl, rfl, HL⟩ := hrel
    have hN : N < 10000 := Nat.lt_of_lt_of_le HL.out.lt (by rw [show 10000 = 10 ^ 4 from rfl]; exact Nat.pow_le_pow_right (by decide) (by omega))
    have hdone : ∀ he : (i = f ∨ i = s.size ∨ ∃ h : i < s.size, isDg s[i] = false), (⟨(s.data.toList.drop i).toArray⟩ : ByteArray) = s.extract i s.size := fun _ => toArray_eq _ (ext_tail s i).symm
    by_cases hlt : i < f ∧ i < s.size
    · obtain ⟨h1, h2⟩ := hlt
      have hmin : (i : Int) < min (f : Int) (s.size : Int) := by omega
      cases hd : isDg s[i] with
      | true =>
        have hv1 : (48 : Int) ≤ (s[i].toNat : Int) := by simp only [isDg, Bool.and_eq_true, decide_eq_true_eq] at hd; omega
        have hv2 : (s[i].toNat : Int) ≤ 57 := by simp only [isDg, Bool.and_eq_true, decide_eq_true_eq] at hd; omega
        have HD := Lib.hid hd
        clear hdone hd
        go_wp2_with fail
        refine (isDigit_any s[i] w).mono ?_
        rintro e w' ⟨rfl, rfl⟩
        rw [HD.out]
        go_wp2
        refine ⟨⟨i + 1, 10 * N + (s[i].toNat - 48), by omega, by omega, ?_, by congr 1, HL.out.next h2 HD.out⟩, ?_⟩
        · congr 1
          omega
        · simp only [intOf]
          omega
      | false =>
        have hx := hdone (.inr (.inr ⟨h2, hd⟩))
        have HX := Lib.hid hx
        have HE := Lib.hid (HL.out.done his hif (.inr (.inr ⟨h2, hd⟩)))
        have HD := Lib.hid hd
        clear hdone hx hd
        go_wp2_with fail
        refine (isDigit_any s[i] w).mono ?_
        rintro e w' ⟨rfl, rfl⟩
        rw [HD.out]
        go_wp2
        go_region
        go_wp2
        go_ret2
        rw [HE.out, HX.out]
        exact ⟨rfl, gr_drewN w 1 none⟩
    · have hmin : ¬ (i : Int) < min (f : Int) (s.size : Int) := by omega
      have hx := hdone (by omega)
      have HX := Lib.hid hx
      have HE := Lib.hid (HL.out.done his hif (by omega))
      clear hdone hx hlt
      go_wp2
      go_region
      go_wp2
      go_ret2
      rw [HE.out, HX.out]
      exact ⟨rfl, gr_drewN w 1 none⟩
end Go.Proofs.YtchbefaflhimcaaDoor
namespace Go.Proofs.YtchbefaflhimcaaDoor
open Go.RowKit Mth

theorem itoa_any (n : Nat) (hn : n ≤ 1000000000) (w : World) (ht : Tab w) :
    Calls Tryd.prog 63 #[.int .i64 (n : Int)] w fun e w' => e = .returned (.string ⟨(Lib.decDigits n).toArray⟩) ∧ w.grownBy w' none := by
  refine (Tryd.strconv_Itoa (n : Int) (by omega) (by omega) w ht).mono ?_
  rintro e w' ⟨rfl, k, os, rfl⟩
  rw [Lib.itoa_nonneg]
  exact ⟨rfl, gr_grow _ _ _ _⟩

theorem nDigits_le (n w : Nat) (h0 : 0 < w) (h : n < 10 ^ w) : Lib.nDigits n ≤ w := by
  induction w generalizing n with
  | zero => omega
  | succ w ih =>
    by_cases h1 : n < 10
    · rw [Lib.nDigits_small h1]; omega
    · rw [Lib.nDigits_big h1]
      rw [Nat.pow_succ] at h
      rcases Nat.eq_zero_or_pos w with rfl | hw
      · simp at h; omega
      · have := ih (n / 10) hw (by omega); omega

set_option maxRecDepth 100000 in
set_option maxHeartbeats 1000000 in
theorem padded_any (n k : Nat) (hn : n ≤ 1000000000) (hk : 1 ≤ k) (hk4 : k ≤ 4) (w : World) (ht : Tab w) :
    Calls Tryd.prog 57 #[.int .i64 (n : Int), .int .i64 (k : Int)] w fun e w' => e = .returned (.string ⟨(padD n k).toArray⟩) ∧ w.grownBy w' none := by
  have hnd : Lib.nDigits n ≤ 10 := nDigits_le n 10 (by decide) (by rw [show (10 : Nat) ^ 10 = 10000000000 from by decide]; omega)
  have hpe := padD_eq n k hk
  have HPE := Lib.hid hpe
  clear hpe
  go_enter Tryd.func57, Tryd.ntmps57
  go_wp2_with fail
  refine (itoa_any n hn w ht).mono ?_
  rintro e w1 ⟨rfl, hg⟩
  have HG := Lib.hid hg
  clear hg
  go_wp2
  go_loop [5] (fun u => ∃ (j : Nat) (t : ByteArray), u = .string t ∧ t.size = j + Lib.nDigits n ∧ (j = 0 ∨ j + Lib.nDigits n ≤ k) ∧ Hid (t.data.toList = List.replicate j 48 ++ Lib.decDigits n)) (fun u => match u with | .string t => k - t.size | _ => 0)
  case atStart => exact ⟨0, _, rfl, by rw [size_of (l := Lib.decDigits n) rfl, Lib.decDigits_length]; omega, .inl rfl, Lib.hid (by simp)⟩
  case round =>
    obtain ⟨j, t, rfl, hsz, hj, HT⟩ := hrel
    by_cases hlt : t.size < k
    · go_wp2
      have hc : (⟨#[48]⟩ ++ t : ByteArray).data.toList = List.replicate (j + 1) 48 ++ Lib.decDigits n := by
        rw [cat_list, HT.out, List.replicate_succ]; rfl
      have hcs : (⟨#[48]⟩ ++ t : ByteArray).size = t.size + 1 := by
        rw [size_of hc, List.length_append, List.length_replicate, Lib.decDigits_length]; omega
      refine ⟨⟨j + 1, _, rfl, by omega, .inr (by omega), Lib.hid hc⟩, ?_⟩
      show k - (⟨#[48]⟩ ++ t : ByteArray).size < k - t.size
      omega
    · have hr : (⟨(padD n k).toArray⟩ : ByteArray) = t := toArray_eq t (by
        rw [HPE.out, HT.out]
        congr 2
        omega)
      have HR := Lib.hid hr
      clear hr
      go_wp2
      go_ret
      rw [HR.out]
      exact ⟨rfl, HG.out⟩

theorem pad_at (z u : Int) (n k : Nat) (hz : z = (n : Int)) (hu : u = (k : Int)) (hn : n ≤ 1000000000) (hk : 1 ≤ k) (hk4 : k ≤ 4) (w : World) (ht : Tab w) :
    Calls Tryd.prog 57 #[.int .i64 z, .int .i64 u] w fun e w' => e = .returned (.string ⟨(padD n k).toArray⟩) ∧ w.grownBy w' none := by
  subst hz; subst hu; exact padded_any n k hn hk hk4 w ht

theorem tab_grown {w w' : World} (h : Tab w) (hg : w.grownBy w' none) : Tab w' := by
  unfold Tab Lib.TabIs World.var? at *
  cases hq : Tryd.prog.globalNamed "internal/strconv.uint64pow10" with
  | none => simp [hq] at h
  | some g =>
    simp only [hq, Option.bind_some] at h ⊢
    have hlt : g < w.heap.size := by
      rcases Nat.lt_or_ge g w.heap.size with h' | h'
      · exact h'
      · rw [Array.getElem?_eq_none h'] at h; simp at h
    rw [hg.block g hlt (by simp)]
    exact h
theorem ch_tests {b : UInt8} (hx : Tok_real (.ch b) = true) : ((Tok.ch b).txt == [89, 89, 89, 89]) = false ∧ ((Tok.ch b).txt == [77, 77]) = false ∧ ((Tok.ch b).txt == [77]) = false ∧ ((Tok.ch b).txt == [68, 68]) = false ∧ ((Tok.ch b).txt == [68]) = false := by
  simp only [Tok_real, Bool.and_eq_true, decide_eq_true_eq] at hx
  simp [Tok.txt, hx.1, hx.2]
/-- A date's struct. -/
abbrev cval (c : Nat × Nat × Nat) : Value := .agg #[.int .i64 (c.1 : Nat), .int .i64 (c.2.1 : Nat), .int .i64 (c.2.2 : Nat)]

set_option maxRecDepth 100000 in
set_option maxHeartbeats 1000000 in
theorem written_any (c : Nat × Nat × Nat) (hc : c.1 ≤ 9999 ∧ c.2.1 ≤ 99 ∧ c.2.2 ≤ 99) (x : RTok) (w : World) (ht : Tab w) :
    Calls Tryd.prog 47 #[cval c, .string ⟨x.1.txt.toArray⟩] w fun e w' => e = .returned (.string ⟨(wrt c x.1).toArray⟩) ∧ w.grownBy w' none := by
  obtain ⟨y, m, d⟩ := c
  obtain ⟨h1, h2, h3⟩ := hc
  obtain ⟨x, hx⟩ := x
  have ht2 := tab_grown ht (gr_alloc w (.cells #[.int .i64 (y : Nat), .int .i64 (m : Nat), .int .i64 (d : Nat)] 66) none)
  have hg2 := gr_alloc w (.cells #[.int .i64 (y : Nat), .int .i64 (m : Nat), .int .i64 (d : Nat)] 66) none
  simp only at h1 h2 h3
  cases x
  case y4 =>
    go_enter Tryd.func47, Tryd.ntmps47
    go_wp2_with fail
    refine (pad_at _ _ y 4 (by omega) (by rfl) (by omega) (by omega) (by omega) _ ht2).mono ?_
    rintro e w1 ⟨rfl, hg⟩
    go_wp2
    go_ret
    exact ⟨rfl, gr_then hg2 hg⟩
  case m2 =>
    go_enter Tryd.func47, Tryd.ntmps47
    go_wp2_with fail
    refine (pad_at _ _ m 2 (by omega) (by rfl) (by omega) (by omega) (by omega) _ ht2).mono ?_
    rintro e w1 ⟨rfl, hg⟩
    go_wp2
    go_ret
    exact ⟨rfl, gr_then hg2 hg⟩
  case m1 =>
    go_enter Tryd.func47, Tryd.ntmps47
    go_wp2_with fail
    refine (pad_at _ _ m 1 (by omega) (by rfl) (by omega) (by omega) (by omega) _ ht2).mono ?_
    rintro e w1 ⟨rfl, hg⟩
    go_wp2
    go_ret
    exact ⟨rfl, gr_then hg2 hg⟩
  case d2 =>
    go_enter Tryd.func47, Tryd.ntmps47
    go_wp2_with fail
    refine (pad_at _ _ d 2 (by omega) (by rfl) (by omega) (by omega) (by omega) _ ht2).mono ?_
    rintro e w1 ⟨rfl, hg⟩
    go_wp2
    go_ret
    exact ⟨rfl, gr_then hg2 hg⟩
  case d1 =>
    go_enter Tryd.func47, Tryd.ntmps47
    go_wp2_with fail
    refine (pad_at _ _ d 1 (by omega) (by rfl) (by omega) (by omega) (by omega) _ ht2).mono ?_
    rintro e w1 ⟨rfl, hg⟩
    go_wp2
    go_ret
    exact ⟨rfl, gr_then hg2 hg⟩
  case ch b =>
    obtain ⟨f1, f2, f3, f4, f5⟩ := ch_tests hx
    go_enter Tryd.func47, Tryd.ntmps47
    go_wp2
    go_ret
    exact ⟨rfl, hg2⟩
end Go.Proofs.YtchbefaflhimcaaDoor
namespace Go.Proofs.YtchbefaflhimcaaDoor
open Go.RowKit Go.Shelf Mth

theorem partsOf_any (s : ByteArray) (w : World) :
    Calls Tryd.prog 53 #[.string s] w fun x w' => x = .returned (.func (.func 59) #[] #[.pointer (some ⟨w.heap.size, 0, none⟩)]) ∧ w.alloc (.cells #[.string s] 9) = w' := by
  go_enter Tryd.func53, Tryd.ntmps53
  go_wp2
  go_ret
  exact ⟨rfl, rfl⟩

/-- Whether all is right so far, and whether M or D came last. -/
def stA (o : Option Bool) (t : Tok) : Option Bool :=
  match o with
  | none => none
  | some a => match t with
    | .ch c => if okCh c then some false else none
    | .y4 => if a then none else some false
    | .m2 => if a then none else some false
    | .m1 => if a then none else some true
    | .d2 => if a then none else some false
    | .d1 => if a then none else some true
theorem st_none (ts : List Tok) : ts.foldl stA none = none := by
  induction ts with
  | nil => rfl
  | cons t ts ih => exact ih
theorem good_st (a : Bool) (ts : List Tok) : good a ts = (ts.foldl stA (some a)).isSome := by
  induction ts generalizing a with
  | nil => rfl
  | cons t ts ih =>
    rw [List.foldl_cons]
    cases t
    case ch c =>
      simp only [good, stA]
      cases hc : okCh c
      · simp [st_none]
      · simp [ih]
    all_goals
      simp only [good, stA]
      cases a
      · simp [ih]
      · simp [st_none]
theorem st_prefix {p ts : List Tok} (h : p <+: ts) (hn : p.foldl stA (some false) = none) : good false ts = false := by
  obtain ⟨t, rfl⟩ := h
  rw [good_st, List.foldl_append, hn, st_none]
  rfl

/-- A cell of the call's own. -/
structure Box (W : World) (b : Nat) (v : Value) : Prop where
  cell : W.cell? ⟨b, 0, none⟩ = some v
  froz : W.frozen? ⟨b, 0, none⟩ = false
theorem Box.new (W : World) (v : Value) (t : TypeId) : Box (W.alloc (.cells #[v] t)) W.heap.size v :=
  ⟨by rw [cell_of_row _ _ _ #[v] t (0, 0) (heap_alloc_new W _)]; rfl, by
    unfold World.frozen?
    rw [show (W.alloc (.cells #[v] t)).heap[(⟨W.heap.size, 0, none⟩ : Addr).block]? = some (.cells #[v] t (0, 0)) from heap_alloc_new W _]
    rfl⟩
theorem Box.lt {W : World} {b : Nat} {v : Value} (h : Box W b v) : b < W.heap.size := World.block_lt_of_cell? W _ h.cell
theorem Box.grown {W W' : World} {b : Nat} {v : Value} {row : Option Nat} (h : Box W b v) (hg : W.grownBy W' row) (hne : some b ≠ row) : Box W' b v :=
  ⟨hg.cell h.cell hne, (World.frozen?_of_block (hg.block _ h.lt hne)).trans h.froz⟩
theorem Box.own {W W' : World} {b : Nat} {v : Value} {row : Option Nat} (h : Box W b v) (hg : W.grownBy W' row) (hr : ∀ r, row = some r → ∃ o : Obj, W.heap[r]? = some o ∧ o.isCells = false) : Box W' b v :=
  ⟨cell_kept h.cell hg hr, (frozen_kept h.cell hg hr).trans h.froz⟩
theorem gr_set (w : World) (b i : Nat) (v : Value) : w.grownBy (w.setCell ⟨b, i, none⟩ v) (some b) :=
  ⟨rfl, rfl, rfl, by simp [World.setCell], fun k _ hne => Below.heap_setCell _ _ _ _ (by intro e; exact hne (by rw [e]))⟩
theorem Box.set {W : World} {b : Nat} {v : Value} (h : Box W b v) (v' : Value) : Box (W.setCell ⟨b, 0, none⟩ v') b v' :=
  ⟨World.cell?_setCell_same' _ _ _ (by rw [h.cell]; rfl), by rw [World.frozen?_setCell]; exact h.froz⟩
theorem Box.other {W : World} {b b' : Nat} {v : Value} (h : Box W b v) (hne : b ≠ b') (v' : Value) : Box (W.setCell ⟨b', 0, none⟩ v') b v :=
  h.grown (gr_set _ _ _ _) (by simpa using hne)
theorem FV.own {W W' : World} {row : Option Nat} (h : FV W) (hg : W.grownBy W' row) (hr : ∀ r, row = some r → ∃ o : Obj, W.heap[r]? = some o ∧ o.isCells = false) : FV W' :=
  h.of_cells fun _ _ hc => cell_kept hc hg hr

theorem below_set {n b i : Nat} {w W : World} {v : Value} (h : Below n w W) (hb : n ≤ b) : Below n w (W.setCell ⟨b, i, none⟩ v) := h.setCell (p := ⟨b, i, none⟩) hb v
/-- The five variables of isRight between two parts. -/
structure RB (B cy cm cd : Nat) (a : Bool) (W : World) : Prop where
  r : Box W B (.bool false)
  y : Box W (B + 1) (.int .i64 (cy : Nat))
  m : Box W (B + 1 + 1) (.int .i64 (cm : Nat))
  d : Box W (B + 1 + 1 + 1) (.int .i64 (cd : Nat))
  a : Box W (B + 1 + 1 + 1 + 1) (.bool a)
section
variable {B cy cm cd : Nat} {a : Bool} {W W' : World} {row : Option Nat}
theorem RB.own (h : RB B cy cm cd a W) (hg : W.grownBy W' row) (hr : ∀ r, row = some r → ∃ o : Obj, W.heap[r]? = some o ∧ o.isCells = false) : RB B cy cm cd a W' :=
  ⟨h.r.own hg hr, h.y.own hg hr, h.m.own hg hr, h.d.own hg hr, h.a.own hg hr⟩
theorem RB.grown (h : RB B cy cm cd a W) (hg : W.grownBy W' none) : RB B cy cm cd a W' :=
  ⟨h.r.grown hg (by simp), h.y.grown hg (by simp), h.m.grown hg (by simp), h.d.grown hg (by simp), h.a.grown hg (by simp)⟩
theorem RB.sy (h : RB B cy cm cd a W) (z : Int) (n : Nat) (hz : z = (n : Int)) : RB B n cm cd a (W.setCell ⟨B + 1, 0, none⟩ (.int .i64 z)) := by
  subst hz; exact ⟨h.r.other (by omega) _, h.y.set _, h.m.other (by omega) _, h.d.other (by omega) _, h.a.other (by omega) _⟩
theorem RB.sm (h : RB B cy cm cd a W) (z : Int) (n : Nat) (hz : z = (n : Int)) : RB B cy n cd a (W.setCell ⟨B + 1 + 1, 0, none⟩ (.int .i64 z)) := by
  subst hz; exact ⟨h.r.other (by omega) _, h.y.other (by omega) _, h.m.set _, h.d.other (by omega) _, h.a.other (by omega) _⟩
theorem RB.sd (h : RB B cy cm cd a W) (z : Int) (n : Nat) (hz : z = (n : Int)) : RB B cy cm n a (W.setCell ⟨B + 1 + 1 + 1, 0, none⟩ (.int .i64 z)) := by
  subst hz; exact ⟨h.r.other (by omega) _, h.y.other (by omega) _, h.m.other (by omega) _, h.d.set _, h.a.other (by omega) _⟩
theorem RB.sa (h : RB B cy cm cd a W) (x y : Bool) (hx : x = y) : RB B cy cm cd y (W.setCell ⟨B + 1 + 1 + 1 + 1, 0, none⟩ (.bool x)) := by
  subst hx; exact ⟨h.r.other (by omega) _, h.y.other (by omega) _, h.m.other (by omega) _, h.d.other (by omega) _, h.a.set _⟩
theorem RB.sr (h : RB B cy cm cd a W) : RB B cy cm cd a (W.setCell ⟨B, 0, none⟩ (.bool false)) :=
  ⟨h.r.set _, h.y.other (by omega) _, h.m.other (by omega) _, h.d.other (by omega) _, h.a.other (by omega) _⟩
end
def vals (l : List RTok) : List Tok := l.map (·.1)
/-- Between two parts. -/
def RI (B : Nat) (pre : List RTok) (W : World) : Prop := ∃ a, RB B ((vals pre).countP Tok.isY) ((vals pre).countP Tok.isM) ((vals pre).countP Tok.isD) a W ∧ (vals pre).foldl stA (some false) = some a
theorem RI.own {B : Nat} {pre : List RTok} {W W' : World} {row : Option Nat} (h : RI B pre W) (hg : W.grownBy W' row) (hr : ∀ r, row = some r → ∃ o : Obj, W.heap[r]? = some o ∧ o.isCells = false) : RI B pre W' := by
  obtain ⟨a, h1, h2⟩ := h; exact ⟨a, h1.own hg hr, h2⟩
def RX (c : Code) (pre : List RTok) : Prop := c = .ret ∧ (vals pre).foldl stA (some false) = none
theorem run_loadVar_box {P : Program} {ty : TypeId} {w : World} {b : Nat} {v : Value} (h : w.cell? ⟨b, 0, none⟩ = some v) (hs : ∀ w, Sem.run P (isAgg ty) w = .ok false w) : (loadVar ty ⟨b, 0, none⟩).run P w = .ok v w := by
  simp [loadVar, Sem.run_bind, hs, h, go_sem]
theorem results_box {fn : Func} {p : Tmp} {ty : TypeId} {P : Program} (h : fn.results = #[.cell p ty]) (tmps : Array Value) (w : World) (b : Nat) (v : Value) (hp : tmps.getD p undef = .pointer (some ⟨b, 0, none⟩)) (hb : w.cell? ⟨b, 0, none⟩ = some v) (hs : ∀ w, Sem.run P (isAgg ty) w = .ok false w) :
    (results fn tmps).run P w = .ok v w := by
  have hp' : tmps[p]?.getD undef = .pointer (some ⟨b, 0, none⟩) := by simpa using hp
  simp [results, h, hp', asAddr, run_loadVar_box hb hs]

attribute [local go_sem] Oper.semAt_some
set_option maxRecDepth 100000 in
set_option maxHeartbeats 2000000 in
theorem isRight_any (s : ByteArray) (w : World) (hs : s.size ≤ 9223372036854775807) (hv : FV w) :
    Calls Tryd.prog 45 #[.string s] w fun e w' => e = .returned (.bool (isRightL s.data.toList)) ∧ w.grownBy w' none := by
  by_cases hlen : s.size ≤ 40
  · refine (callsIn_wide (n := 5)).1 ?_
    refine callsIn_of_wp_marks Tryd.func45 rfl trivial ?_ rfl
    simp only [Tryd.ntmps45, List.size_toArray, List.length_cons, List.length_nil, Nat.reduceAdd, Nat.reduceSub, Array.replicate_succ, Array.replicate_zero, List.push_toArray, List.append_toArray, List.nil_append, List.cons_append]
    gi_wp2
    refine ⟨trivial, (callsIn_wide.2 (partsOf_any _ _)).mono ?_⟩
    rintro e' w' ⟨rfl, rfl⟩
    gi_wp2
    have hbox : ∃ W0, W0 = ((((((w.alloc (.cells #[.bool false] 4)).alloc (.cells #[.int .i64 0] 3)).alloc (.cells #[.int .i64 0] 3)).alloc (.cells #[.int .i64 0] 3)).alloc (.cells #[.bool false] 4)).alloc (.cells #[.string s] 9)) := ⟨_, rfl⟩
    obtain ⟨W0, hW0⟩ := hbox
    rw [← hW0]
    have hs0 : W0.heap.size = w.heap.size + 6 := by rw [hW0]; simp
    have hg0 : w.grownBy W0 none := by
      rw [hW0]
      exact gr_then (gr_then (gr_then (gr_then (gr_then (gr_alloc _ _ _) (gr_alloc _ _ _)) (gr_alloc _ _ _)) (gr_alloc _ _ _)) (gr_alloc _ _ _)) (gr_alloc _ _ _)
    have hB0 : Below w.heap.size w W0 := ⟨hg0.os, hg0.tape, hg0.output, hg0.size, fun k hk => hg0.block k hk (by simp)⟩
    obtain ⟨hR0, hl0⟩ : RI w.heap.size [] W0 ∧ W0.cell? ⟨w.heap.size + 1 + 1 + 1 + 1 + 1, 0, none⟩ = some (.string s) := by
      have b0 := Box.new w (.bool false) 4
      have b1 := Box.new (w.alloc (.cells #[.bool false] 4)) (.int .i64 0) 3
      have b2 := Box.new ((w.alloc (.cells #[.bool false] 4)).alloc (.cells #[.int .i64 0] 3)) (.int .i64 0) 3
      have b3 := Box.new (((w.alloc (.cells #[.bool false] 4)).alloc (.cells #[.int .i64 0] 3)).alloc (.cells #[.int .i64 0] 3)) (.int .i64 0) 3
      have b4 := Box.new ((((w.alloc (.cells #[.bool false] 4)).alloc (.cells #[.int .i64 0] 3)).alloc (.cells #[.int .i64 0] 3)).alloc (.cells #[.int .i64 0] 3)) (.bool false) 4
      have b5 := Box.new (((((w.alloc (.cells #[.bool false] 4)).alloc (.cells #[.int .i64 0] 3)).alloc (.cells #[.int .i64 0] 3)).alloc (.cells #[.int .i64 0] 3)).alloc (.cells #[.bool false] 4)) (.string s) 9
      simp only [World.size_alloc] at b1 b2 b3 b4 b5
      have k : ∀ {W : World} {b : Nat} {v : Value} (o : Obj), Box W b v → Box (W.alloc o) b v := fun o h => h.grown (gr_alloc _ o none) (by simp)
      rw [hW0]
      exact ⟨⟨false, ⟨k _ (k _ (k _ (k _ (k _ b0)))), k _ (k _ (k _ (k _ b1))), k _ (k _ (k _ b2)), k _ (k _ b3), k _ b4⟩, rfl⟩, b5.cell⟩
    have hv0 : FV W0 := hv.grown hg0 (by simp)
    have hvlt := hv.lt
    clear hW0
    refine wpIn_rangeFunc_ownF rfl (by omega) (gf := 59) (lb := #[.pointer (some ⟨w.heap.size + 1 + 1 + 1 + 1 + 1, 0, none⟩)]) rfl trivial (enters_of Tryd.func59 (by kernel_rfl) rfl)
      (parts_stops 4 (w.heap.size + 1 + 1 + 1 + 1 + 1) s W0 hl0 hv0 hs) (fun h k => h.trans k) (fun W l o o' _ hl ho _ => ⟨fun v hv => cell_kept hv (grownBy_putObj' W l o') (fun r e => by cases e; exact ⟨o, hl, ho⟩), fun hf => hf.own (grownBy_putObj' W l o') (fun r e => by cases e; exact ⟨o, hl, ho⟩)⟩) (Below.refl _ _) (fun _ => rfl)
      (fun pre W => RI w.heap.size pre W ∧ Below w.heap.size w W)
      (fun c pre W => RX c pre ∧ W.cell? ⟨w.heap.size, 0, none⟩ = some (.bool false) ∧ Below w.heap.size w W)
      (OwnFrom.and (Own.from (fun _ _ _ _ hs hg hr => hs.own hg hr) _) (ownFrom_below (Nat.le_refl _) (by omega)))
      (fun c => OwnFrom.and (ownFrom_pure _ (RX c)) (OwnFrom.and (Own.from (fun _ _ _ _ hs hg hr => cell_kept hs hg hr) _) (ownFrom_below (Nat.le_refl _) (by omega))))
      ⟨hR0, hB0⟩
      (fun x => { tmps := #[.string s, undef, .pointer (some ⟨w.heap.size, 0, none⟩), .pointer (some ⟨w.heap.size + 1, 0, none⟩), .pointer (some ⟨w.heap.size + 1 + 1, 0, none⟩), .pointer (some ⟨w.heap.size + 1 + 1 + 1, 0, none⟩), .pointer (some ⟨w.heap.size + 1 + 1 + 1 + 1, 0, none⟩), .string ⟨x.1.txt.toArray⟩, .string s, .int .i64 (s.size : Int), .bool (decide ((40 : Int) < (s.size : Int))), .string s, .func (.func 59) #[] #[.pointer (some ⟨w.heap.size + 1 + 1 + 1 + 1 + 1, 0, none⟩)], .string ⟨x.1.txt.toArray⟩, undef, undef, undef, undef, undef, undef, undef, undef, undef, undef, undef, undef, undef, undef, undef, undef, undef, undef, undef, undef, undef, undef, undef, undef, undef, undef, undef, undef, undef, undef, undef, undef, undef], defers := [] }) ?assign ?body ?done ?stop
    case assign =>
      intro l x W K hK
      gi_wp2
      exact hK
    case body =>
      rintro l pre ⟨x, hx⟩ W ⟨⟨a, hR, hst⟩, hB⟩ hlt
      have hpl : pre.length < s.size := hlt
      have hcy := List.countP_le_length (p := Tok.isY) (l := vals pre)
      have hcm := List.countP_le_length (p := Tok.isM) (l := vals pre)
      have hcd := List.countP_le_length (p := Tok.isD) (l := vals pre)
      have hvl : (vals pre).length = pre.length := by simp [vals]
      rw [hvl] at hcy hcm hcd
      have hV : vals (pre ++ [(⟨x, hx⟩ : RTok)]) = vals pre ++ [x] := by simp [vals]
      have hS : (vals (pre ++ [(⟨x, hx⟩ : RTok)])).foldl stA (some false) = stA (some a) x := by
        rw [hV, List.foldl_append, hst]; rfl
      have hC : ∀ p : Tok → Bool, (vals (pre ++ [(⟨x, hx⟩ : RTok)])).countP p = (vals pre).countP p + (if p x then 1 else 0) := by
        intro p
        rw [hV, List.countP_append]; simp [List.countP_cons]
      have HR := Lib.hid hR
      obtain ⟨⟨r1, r2⟩, ⟨y1, y2⟩, ⟨m1, m2⟩, ⟨d1, d2⟩, ⟨a1, a2⟩⟩ := hR
      have hI : ∀ cy cm cd a' W', RB w.heap.size cy cm cd a' W' → cy = (vals pre).countP Tok.isY + (if x.isY then 1 else 0) → cm = (vals pre).countP Tok.isM + (if x.isM then 1 else 0) → cd = (vals pre).countP Tok.isD + (if x.isD then 1 else 0) → stA (some a) x = some a' → RI w.heap.size (pre ++ [⟨x, hx⟩]) W' := by
        intro cy cm cd a' W' h1 h2 h3 h4 h5
        exact ⟨a', by rw [hC, hC, hC, ← h2, ← h3, ← h4]; exact h1, by rw [hS]; exact h5⟩
      have hX : stA (some a) x = none → RX .ret (pre ++ [⟨x, hx⟩]) := fun h => ⟨rfl, by rw [hS]; exact h⟩
      generalize (vals pre).countP Tok.isY = cy at *
      generalize (vals pre).countP Tok.isM = cm at *
      generalize (vals pre).countP Tok.isD = cd at *
      have HI := Lib.hid hI
      have HX := Lib.hid hX
      clear hS hC hV hvl hst hl0 hR0 hv0 hg0 hB0 hs0 hI hX
      cases x
      case y4 =>
        cases a
        · gi_wp2
          refine ⟨(KeepsOthers.setCell _ _ _).trans (KeepsOthers.setCell _ _ _), KpD.trans (KpD.of_grown (gr_set _ _ _ _) (by intro e; simp only [Option.some.injEq] at e; omega) (by intro e; simp only [Option.some.injEq] at e; omega)) (KpD.of_grown (gr_set _ _ _ _) (by intro e; simp only [Option.some.injEq] at e; omega) (by intro e; simp only [Option.some.injEq] at e; omega)), HI.out _ _ _ _ _ ((HR.out.sy _ (cy + 1) (by simp)).sa _ false (by decide)) (by first | rfl | simp [Tok.isY, Tok.isM, Tok.isD]) (by first | rfl | simp [Tok.isY, Tok.isM, Tok.isD]) (by first | rfl | simp [Tok.isY, Tok.isM, Tok.isD]) rfl, below_set (below_set hB (by omega)) (by omega)⟩
        · gi_wp2
          refine ⟨(KeepsOthers.setCell _ _ _).trans (KeepsOthers.setCell _ _ _), HX.out rfl, (HR.out.sy _ (cy + 1) (by simp)).sr.r.cell, below_set (below_set hB (by omega)) (by omega)⟩
      case m2 =>
        cases a
        · gi_wp2
          refine ⟨(KeepsOthers.setCell _ _ _).trans (KeepsOthers.setCell _ _ _), KpD.trans (KpD.of_grown (gr_set _ _ _ _) (by intro e; simp only [Option.some.injEq] at e; omega) (by intro e; simp only [Option.some.injEq] at e; omega)) (KpD.of_grown (gr_set _ _ _ _) (by intro e; simp only [Option.some.injEq] at e; omega) (by intro e; simp only [Option.some.injEq] at e; omega)), HI.out _ _ _ _ _ ((HR.out.sm _ (cm + 1) (by simp)).sa _ false (by decide)) (by first | rfl | simp [Tok.isY, Tok.isM, Tok.isD]) (by first | rfl | simp [Tok.isY, Tok.isM, Tok.isD]) (by first | rfl | simp [Tok.isY, Tok.isM, Tok.isD]) rfl, below_set (below_set hB (by omega)) (by omega)⟩
        · gi_wp2
          refine ⟨(KeepsOthers.setCell _ _ _).trans (KeepsOthers.setCell _ _ _), HX.out rfl, (HR.out.sm _ (cm + 1) (by simp)).sr.r.cell, below_set (below_set hB (by omega)) (by omega)⟩
      case m1 =>
        cases a
        · gi_wp2
          refine ⟨(KeepsOthers.setCell _ _ _).trans (KeepsOthers.setCell _ _ _), KpD.trans (KpD.of_grown (gr_set _ _ _ _) (by intro e; simp only [Option.some.injEq] at e; omega) (by intro e; simp only [Option.some.injEq] at e; omega)) (KpD.of_grown (gr_set _ _ _ _) (by intro e; simp only [Option.some.injEq] at e; omega) (by intro e; simp only [Option.some.injEq] at e; omega)), HI.out _ _ _ _ _ ((HR.out.sm _ (cm + 1) (by simp)).sa _ true (by decide)) (by first | rfl | simp [Tok.isY, Tok.isM, Tok.isD]) (by first | rfl | simp [Tok.isY, Tok.isM, Tok.isD]) (by first | rfl | simp [Tok.isY, Tok.isM, Tok.isD]) rfl, below_set (below_set hB (by omega)) (by omega)⟩
        · gi_wp2
          refine ⟨(KeepsOthers.setCell _ _ _).trans (KeepsOthers.setCell _ _ _), HX.out rfl, (HR.out.sm _ (cm + 1) (by simp)).sr.r.cell, below_set (below_set hB (by omega)) (by omega)⟩
      case d2 =>
        cases a
        · gi_wp2
          refine ⟨(KeepsOthers.setCell _ _ _).trans (KeepsOthers.setCell _ _ _), KpD.trans (KpD.of_grown (gr_set _ _ _ _) (by intro e; simp only [Option.some.injEq] at e; omega) (by intro e; simp only [Option.some.injEq] at e; omega)) (KpD.of_grown (gr_set _ _ _ _) (by intro e; simp only [Option.some.injEq] at e; omega) (by intro e; simp only [Option.some.injEq] at e; omega)), HI.out _ _ _ _ _ ((HR.out.sd _ (cd + 1) (by simp)).sa _ false (by decide)) (by first | rfl | simp [Tok.isY, Tok.isM, Tok.isD]) (by first | rfl | simp [Tok.isY, Tok.isM, Tok.isD]) (by first | rfl | simp [Tok.isY, Tok.isM, Tok.isD]) rfl, below_set (below_set hB (by omega)) (by omega)⟩
        · gi_wp2
          refine ⟨(KeepsOthers.setCell _ _ _).trans (KeepsOthers.setCell _ _ _), HX.out rfl, (HR.out.sd _ (cd + 1) (by simp)).sr.r.cell, below_set (below_set hB (by omega)) (by omega)⟩
      case d1 =>
        cases a
        · gi_wp2
          refine ⟨(KeepsOthers.setCell _ _ _).trans (KeepsOthers.setCell _ _ _), KpD.trans (KpD.of_grown (gr_set _ _ _ _) (by intro e; simp only [Option.some.injEq] at e; omega) (by intro e; simp only [Option.some.injEq] at e; omega)) (KpD.of_grown (gr_set _ _ _ _) (by intro e; simp only [Option.some.injEq] at e; omega) (by intro e; simp only [Option.some.injEq] at e; omega)), HI.out _ _ _ _ _ ((HR.out.sd _ (cd + 1) (by simp)).sa _ true (by decide)) (by first | rfl | simp [Tok.isY, Tok.isM, Tok.isD]) (by first | rfl | simp [Tok.isY, Tok.isM, Tok.isD]) (by first | rfl | simp [Tok.isY, Tok.isM, Tok.isD]) rfl, below_set (below_set hB (by omega)) (by omega)⟩
        · gi_wp2
          refine ⟨(KeepsOthers.setCell _ _ _).trans (KeepsOthers.setCell _ _ _), HX.out rfl, (HR.out.sd _ (cd + 1) (by simp)).sr.r.cell, below_set (below_set hB (by omega)) (by omega)⟩
      case ch c =>
        obtain ⟨f1, f2, f3, f4, f5⟩ := ch_tests hx
        have hl1 : (Tok.ch c).txt.length = 1 := rfl
        gi_wp2
        refine ⟨trivial, (CallsIn.inRound l (callsIn_wide.2 (mayBe_any c _))).mono ?_⟩
        rintro e' W1 ⟨rfl, rfl⟩
        cases hc : okCh c with
        | true =>
          gi_wp2
          refine ⟨KeepsOthers.setCell _ _ _, KpD.of_grown (gr_set _ _ _ _) (by intro e; simp only [Option.some.injEq] at e; omega) (by intro e; simp only [Option.some.injEq] at e; omega), HI.out _ _ _ _ _ (HR.out.sa _ false rfl) rfl rfl rfl (by simp [stA, hc]), below_set hB (by omega)⟩
        | false =>
          gi_wp2
          refine ⟨KeepsOthers.setCell _ _ _, HX.out (by simp [stA, hc]), HR.out.sr.r.cell, below_set hB (by omega)⟩
    case done =>
      rintro D ys W hD hys ⟨⟨a, hR, hst⟩, hB⟩ hK
      have hys' : vals ys = toks s.data.toList := hys
      have hBK := hB.trans (belowK_b (w := w) (Nat.le_refl _) W D _ (.deferred none) (by omega) hK rfl rfl)
      have hg : good false (vals ys) = true := by rw [good_st, hst]; rfl
      have hr : isRightL s.data.toList = (((((vals ys).countP Tok.isY : Nat) : Int) == 1) && ((((vals ys).countP Tok.isM : Nat) : Int) == 1) && ((((vals ys).countP Tok.isD : Nat) : Int) == 1)) := by
        have e : ∀ n : Nat, decide (n = 1) = ((n : Int) == 1) := by intro n; rw [Bool.eq_iff_iff, decide_eq_true_eq, beq_iff_eq]; omega
        unfold isRightL
        rw [decide_eq_true (show s.data.toList.length ≤ 40 from hlen), ← hys', hg, e, e, e]
        rfl
      have HR := Lib.hid hR
      obtain ⟨⟨r1, r2⟩, ⟨y1, y2⟩, ⟨m1, m2⟩, ⟨d1, d2⟩, ⟨a1, a2⟩⟩ := hR
      generalize (vals ys).countP Tok.isY = cy at *
      generalize (vals ys).countP Tok.isM = cm at *
      generalize (vals ys).countP Tok.isD = cd at *
      have HH := Lib.hid hr
      have hD2 : w.heap.size ≤ D := by omega
      clear hys hys' hg hr hst hl0 hR0 hv0 hg0 hB0 hs0
      have HBD := Lib.hid (And.intro hB hD2)
      gi_wp2
      all_goals
        refine ⟨by simp, .inl ⟨_, _, rfl, run_takeDeferred ((KeepsOthers.setCell _ _ _).same D _ hK rfl), ?_⟩⟩
        refine ⟨_, results_box rfl _ _ _ _ rfl (cell_kept (HR.out.r.set _).cell (grownBy_putObj' _ D (.deferred none)) (fun r e => by cases e; exact ⟨_, (KeepsOthers.setCell _ _ _).same D _ hK rfl, rfl⟩)) (Tryd.isAgg4), ?_⟩
        refine ⟨?_, gr_below ((below_set HBD.out.1 (Nat.le_refl _)).trans (belowK_b (w := w) (Nat.le_refl _) _ D _ (.deferred none) HBD.out.2 ((KeepsOthers.setCell _ _ _).same D _ hK rfl) rfl rfl)) none⟩
        rw [HH.out]
        simp_all
    case stop =>
      rintro D c pre W hD hpre ⟨⟨rfl, hst⟩, hc, hB⟩ hK
      have hBK := hB.trans (belowK_b (w := w) (Nat.le_refl _) W D _ (.deferred none) (by omega) hK rfl rfl)
      have hf : isRightL s.data.toList = false := by
        unfold isRightL
        rw [st_prefix (p := vals pre) hpre hst]
        simp
      have HF := Lib.hid hf
      have hcK := cell_kept hc (grownBy_putObj' W D (.deferred none)) (fun r e => by cases e; exact ⟨_, hK, rfl⟩)
      clear hst hpre hf hl0 hR0 hv0 hg0 hB0 hs0
      gi_wp2
      refine ⟨by simp, .inl ⟨_, _, rfl, run_takeDeferred hK, ?_⟩⟩
      refine ⟨_, results_box rfl _ _ _ _ rfl hcK (Tryd.isAgg4), ?_⟩
      rw [HF.out]
      exact ⟨rfl, gr_below hBK none⟩
  · have hr : isRightL s.data.toList = false := by
      unfold isRightL
      rw [decide_eq_false (show ¬ s.data.toList.length ≤ 40 from hlen)]
      simp
    rw [hr]
    go_enter Tryd.func45, Tryd.ntmps45
    go_wp2
    have hb := Box.new w (.bool false) 4
    refine bodyPost_ret (results_box rfl _ _ _ _ rfl hb.cell (Tryd.isAgg4)) rfl ?_
    exact ⟨rfl, gr_alloc _ _ _⟩
end Go.Proofs.YtchbefaflhimcaaDoor
