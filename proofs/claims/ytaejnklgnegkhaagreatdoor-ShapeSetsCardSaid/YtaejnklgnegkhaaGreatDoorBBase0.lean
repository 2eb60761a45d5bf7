/- Contracts of the program and of the reference, part 0: Pm, Pa. -/
import Derived.Test.YtaejnklgnegkhaaGreatDoorChecked
import Derived.WalkKit
import Derived.WalkSpells
import Derived.WalkLawsBesides
import Derived.Lib.Hide
import Derived.Outline
namespace Go.Proofs.YtaejnklgnegkhaaGreatDoor
namespace Pt

/-- The class of a byte. -/
def clsD (c : Nat) : Nat := if c < 32 ∨ 126 < c then 0 else if 48 ≤ c ∧ c ≤ 57 then 1 else if 65 ≤ c ∧ c ≤ 90 then 2 else if 97 ≤ c ∧ c ≤ 122 then 3 else if c = 32 then 5 else 6
/-- A class is in another one. -/
def contD (inner outer : Int) : Bool := inner == outer || outer == 7 || (outer == 4 && (inner == 2 || inner == 3))
def belD (c : Nat) (k : Int) : Bool := decide (clsD c ≠ 0) && contD (clsD c) k
def allD (l : List UInt8) (k : Int) : Bool := l.all fun c => belD c.toNat k
def isTextD (l : List UInt8) : Bool := decide (l.length ≤ 200) && allD l 7
theorem clsD_le (c : Nat) : clsD c ≤ 6 ∧ clsD c ≠ 4 := by
  unfold clsD
  repeat' split
  all_goals omega
theorem allD_snoc (l : List UInt8) (c : UInt8) (k : Int) : allD (l ++ [c]) k = (allD l k && belD c.toNat k) := by simp [allD, List.all_append]
theorem allD_take {l : List UInt8} {i : Nat} {k : Int} (h : allD (l.take i) k = false) : allD l k = false := by
  unfold allD at *
  rw [← List.take_append_drop i l, List.all_append, h]; rfl
end Pt
end Go.Proofs.YtaejnklgnegkhaaGreatDoor
namespace Go.Proofs.YtaejnklgnegkhaaGreatDoor
open Go.RowKit Pt

theorem class_any (c : Nat) (w : World) (hc : c ≤ 255) : Calls Tryz.prog 75 #[.int .u8 (c : Int)] w fun e w' => e = .returned (.int .i64 (clsD c : Nat)) ∧ w = w' := by
  go_enter Tryz.func75, Tryz.ntmps75
  go_wp2
  all_goals
    go_ret
    refine ⟨?_, rfl⟩
    refine congrArg (fun z : Int => Ending.returned (.int .i64 z)) ?_
    try simp only [beq_iff_eq, beq_eq_false_iff_ne, ne_eq] at *
    unfold clsD
    repeat' split
    all_goals first | rfl | (exfalso; omega)
theorem rclass_any (c : Nat) (w : World) (hc : c ≤ 255) : Calls Tryz.prog 72 #[.int .u8 (c : Int)] w fun e w' => e = .returned (.int .i64 (clsD c : Nat)) ∧ w = w' := by
  go_enter Tryz.func72, Tryz.ntmps72
  go_wp2
  all_goals
    go_ret
    refine ⟨?_, rfl⟩
    refine congrArg (fun z : Int => Ending.returned (.int .i64 z)) ?_
    try simp only [beq_iff_eq, beq_eq_false_iff_ne, ne_eq] at *
    unfold clsD
    repeat' split
    all_goals first | rfl | (exfalso; omega)
theorem pcont_any (outer inner : Int) (w : World) : Calls Tryz.prog 133 #[.int .i64 outer, .int .i64 inner] w fun e w' => e = .returned (.bool (contD inner outer)) ∧ w = w' := by
  go_enter Tryz.func133, Tryz.ntmps133
  go_wp2
  all_goals
    go_ret
    refine ⟨?_, rfl⟩
    refine congrArg (fun z : Bool => Ending.returned (.bool z)) ?_
    unfold contD
    rw [Bool.eq_iff_iff]
    try simp only [beq_iff_eq, beq_eq_false_iff_ne] at *
    try simp only [Bool.or_eq_true, Bool.and_eq_true, beq_iff_eq, true_iff]
    omega
theorem rcont_any (outer inner : Int) (w : World) : Calls Tryz.prog 123 #[.int .i64 inner, .int .i64 outer] w fun e w' => e = .returned (.bool (contD inner outer)) ∧ w = w' := by
  go_enter Tryz.func123, Tryz.ntmps123
  go_wp2
  all_goals
    go_ret
    refine ⟨?_, rfl⟩
    refine congrArg (fun z : Bool => Ending.returned (.bool z)) ?_
    unfold contD
    rw [Bool.eq_iff_iff]
    try simp only [Bool.or_eq_true, Bool.and_eq_true, beq_iff_eq, true_iff]
    omega
theorem pbel_any (c : Nat) (k : Int) (w : World) (hc : c ≤ 255) : Calls Tryz.prog 120 #[.int .u8 (c : Int), .int .i64 k] w fun e w' => e = .returned (.bool (belD c k)) ∧ w = w' := by
  have hb : belD c k = (decide (clsD c ≠ 0) && contD (clsD c) k) := rfl
  have HB := Lib.hid hb
  clear hb
  go_enter Tryz.func120, Tryz.ntmps120
  go_wp2_with fail
  refine (class_any c w hc).mono ?_
  rintro e w1 ⟨rfl, rfl⟩
  obtain ⟨n, hn⟩ : ∃ n, n = clsD c := ⟨_, rfl⟩
  rw [← hn] at HB ⊢
  clear hn
  go_wp2_with fail
  · go_ret
    refine ⟨?_, rfl⟩
    rw [HB.out]
    simp_all
  · refine (pcont_any k n w).mono ?_
    rintro e w1 ⟨rfl, rfl⟩
    go_wp2
    go_ret
    refine ⟨?_, rfl⟩
    rw [HB.out]
    simp_all
theorem rbel_any (c : Nat) (k : Int) (w : World) (hc : c ≤ 255) : Calls Tryz.prog 101 #[.int .u8 (c : Int), .int .i64 k] w fun e w' => e = .returned (.bool (belD c k)) ∧ w = w' := by
  have hb : belD c k = (decide (clsD c ≠ 0) && contD (clsD c) k) := rfl
  have HB := Lib.hid hb
  clear hb
  go_enter Tryz.func101, Tryz.ntmps101
  go_wp2_with fail
  refine (rclass_any c w hc).mono ?_
  rintro e w1 ⟨rfl, rfl⟩
  obtain ⟨n, hn⟩ : ∃ n, n = clsD c := ⟨_, rfl⟩
  rw [← hn] at HB ⊢
  clear hn
  go_wp2_with fail
  · refine (rcont_any k n w).mono ?_
    rintro e w1 ⟨rfl, rfl⟩
    go_wp2
    go_ret
    refine ⟨?_, rfl⟩
    rw [HB.out]
    have hn : n ≠ 0 := by omega
    simp [hn]
  · go_ret
    refine ⟨?_, rfl⟩
    rw [HB.out]
    simp_all
theorem all_false {s : ByteArray} {i : Nat} (h : i < s.size) {k : Int} (hb : belD s[i].toNat k = false) : allD s.data.toList k = false := by
  rw [allD, Bool.eq_false_iff]
  intro ha
  rw [List.all_eq_true] at ha
  have := ha s[i] (List.getElem_mem (by simpa using h))
  rw [hb] at this; exact absurd this (by simp)
theorem all_true {s : ByteArray} {k : Int} (h : ∀ j (h : j < s.size), belD s[j].toNat k = true) : allD s.data.toList k = true := by
  rw [allD, List.all_eq_true]
  intro x hx
  obtain ⟨j, hj, rfl⟩ := List.getElem_of_mem hx
  exact h j (by simpa using hj)
theorem pall_any (s : ByteArray) (k : Int) (w : World) (hs : s.size ≤ 1000000000000) : Calls Tryz.prog 97 #[.string s, .int .i64 k] w fun e w' => e = .returned (.bool (allD s.data.toList k)) ∧ w = w' := by
  go_enter Tryz.func97, Tryz.ntmps97
  go_wp2
  go_loop [8] (fun v => ∃ i : Nat, i ≤ s.size ∧ v = .int .i64 i ∧ Hid (∀ j (h : j < s.size), j < i → belD s[j].toNat k = true)) (fun v => s.size - (intOf v).toNat)
  case atStart => exact ⟨0, Nat.zero_le _, rfl, fun j h1 h2 => by omega⟩
  case round =>
    obtain ⟨i, hi, rfl, HA⟩ := hrel
    go_wp2_with fail
    · have hlt : i < s.size := by assumption
      refine (pbel_any s[i].toNat k w (by have := s[i].toNat_lt; omega)).mono ?_
      rintro e w1 ⟨rfl, rfl⟩
      cases hb : belD s[i].toNat k with
      | true =>
        go_wp2
        refine ⟨⟨i + 1, by omega, by go_num, fun j h1 h2 => ?_⟩, by simp only [intOf]; omega⟩
        by_cases e : j = i
        · subst e; exact hb
        · exact HA.out j h1 (by omega)
      | false =>
        have hf := all_false hlt hb
        go_wp2
        go_ret
        rw [hf]
        exact ⟨rfl, rfl⟩
    · have hf := all_true (s := s) (k := k) (fun j h1 => HA.out j h1 (by omega))
      go_ret
      rw [hf]
      exact ⟨rfl, rfl⟩
theorem rall_any (s : ByteArray) (k : Int) (w : World) (hs : s.size ≤ 1000000000000) : Calls Tryz.prog 78 #[.string s, .int .i64 k] w fun e w' => e = .returned (.bool (allD s.data.toList k)) ∧ w = w' := by
  go_enter Tryz.func78, Tryz.ntmps78
  go_wp2
  go_loop [5] (fun v => ∃ i : Nat, i ≤ s.size ∧ v = .int .i64 i ∧ Hid (∀ j (h : j < s.size), j < i → belD s[j].toNat k = true)) (fun v => s.size - (intOf v).toNat)
  case atStart => exact ⟨0, Nat.zero_le _, rfl, fun j h1 h2 => by omega⟩
  case round =>
    obtain ⟨i, hi, rfl, HA⟩ := hrel
    go_wp2_with fail
    · have hlt : i < s.size := by assumption
      refine (rbel_any s[i].toNat k w (by have := s[i].toNat_lt; omega)).mono ?_
      rintro e w1 ⟨rfl, rfl⟩
      cases hb : belD s[i].toNat k with
      | true =>
        go_wp2
        refine ⟨⟨i + 1, by omega, by go_num, fun j h1 h2 => ?_⟩, by simp only [intOf]; omega⟩
        by_cases e : j = i
        · subst e; exact hb
        · exact HA.out j h1 (by omega)
      | false =>
        have hf := all_false hlt hb
        go_wp2
        go_ret
        rw [hf]
        exact ⟨rfl, rfl⟩
    · have hf := all_true (s := s) (k := k) (fun j h1 => HA.out j h1 (by omega))
      go_ret
      rw [hf]
      exact ⟨rfl, rfl⟩
theorem isText_iff (s : ByteArray) : isTextD s.data.toList = (decide (s.size ≤ 200) && allD s.data.toList 7) := by
  unfold isTextD
  rw [show s.data.toList.length = s.size from by simp]
theorem ptext_any (s : ByteArray) (w : World) (hs : s.size ≤ 1000000000000) : Calls Tryz.prog 66 #[.string s] w fun e w' => e = .returned (.bool (isTextD s.data.toList)) ∧ w = w' := by
  rw [isText_iff]
  by_cases h : s.size ≤ 200
  · rw [decide_eq_true h, Bool.true_and]
    go_enter Tryz.func66, Tryz.ntmps66
    go_wp2_with fail
    refine (pall_any s 7 w hs).mono ?_
    rintro e w1 ⟨rfl, rfl⟩
    go_wp2
    go_ret
    exact ⟨rfl, rfl⟩
  · rw [decide_eq_false h, Bool.false_and]
    go_enter Tryz.func66, Tryz.ntmps66
    go_wp2_with fail
    go_ret
    exact ⟨rfl, rfl⟩
theorem rtext_any (s : ByteArray) (w : World) (hs : s.size ≤ 1000000000000) : Calls Tryz.prog 48 #[.string s] w fun e w' => e = .returned (.bool (isTextD s.data.toList)) ∧ w = w' := by
  rw [isText_iff]
  by_cases h : s.size ≤ 200
  · rw [decide_eq_true h, Bool.true_and]
    go_enter Tryz.func48, Tryz.ntmps48
    go_wp2_with fail
    refine (rall_any s 7 w hs).mono ?_
    rintro e w1 ⟨rfl, rfl⟩
    go_wp2
    go_ret
    exact ⟨rfl, rfl⟩
  · rw [decide_eq_false h, Bool.false_and]
    go_enter Tryz.func48, Tryz.ntmps48
    go_wp2_with fail
    go_ret
    exact ⟨rfl, rfl⟩
/-- A character that has a backslash in front. -/
def specD (c : Nat) : Bool := c == 92 || c == 123 || c == 125 || c == 43 || c == 42
theorem rspec_any (c : Nat) (w : World) (hc : c ≤ 255) : Calls Tryz.prog 69 #[.int .u8 (c : Int)] w fun e w' => e = .returned (.bool (specD c)) ∧ w = w' := by
  have hs : specD c = (((c : Int) == 92) || ((c : Int) == 123) || ((c : Int) == 125) || ((c : Int) == 43) || ((c : Int) == 42)) := by
    unfold specD
    rw [Bool.eq_iff_iff]
    simp only [Bool.or_eq_true, beq_iff_eq]
    omega
  have HS := Lib.hid hs
  clear hs
  go_enter Tryz.func69, Tryz.ntmps69
  go_wp2
  all_goals
    go_ret
    refine ⟨?_, rfl⟩
    rw [HS.out]
    simp_all
end Go.Proofs.YtaejnklgnegkhaaGreatDoor
