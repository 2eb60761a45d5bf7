/- The contract of nat.withoutZeros: the bytes without zeros in front; memory stays as it was. -/
import Derived.Test.YtednijejgadmnaaDoorMth
import Derived.Test.YtednijejgadmnaaDoorMem
import Derived.Test.YtednijejgadmnaaDoorChecked
import Derived.WalkKit
import Derived.WalkSpells
import Derived.WalkLawsBesides
import Derived.Lib.IndexBytes
namespace Go.Proofs.YtednijejgadmnaaDoor
open Go.RowKit Mth

theorem len_toList (t : ByteArray) : t.data.toList.length = t.size := rfl
def lenOf : Value → Nat | .slice _ n _ => n | _ => 0
def strOf : Value → ByteArray | .string t => t | _ => ByteArray.empty
theorem canon_skip (t : ByteArray) (h : 0 < t.size) (h0 : t[0] = 0) : canon (t.extract 1 t.size).data.toList = canon t.data.toList := by
  have e : t.data.toList = t[0] :: t.data.toList.drop 1 := by
    cases hl : t.data.toList with
    | nil => have : t.data.toList.length = t.size := by simp
             rw [hl] at this; simp at this; omega
    | cons d l =>
      have : t[0] = t.data.toList[0]'(by simp; omega) := rfl
      rw [this]; simp [hl]
  have e2 : (t.extract 1 t.size).data.toList = t.data.toList.drop 1 := by
    exact Lib.extract_to_end t 1
  rw [e2]
  conv => rhs; rw [e]
  rw [h0, canon, if_pos rfl]
theorem canon_stay (t : ByteArray) (h : 0 < t.size) (h0 : t[0] ≠ 0) : canon t.data.toList = t.data.toList := by
  have e : t.data.toList = t[0] :: t.data.toList.drop 1 := by
    cases hl : t.data.toList with
    | nil => have : t.data.toList.length = t.size := by simp
             rw [hl] at this; simp at this; omega
    | cons d l =>
      have : t[0] = t.data.toList[0]'(by simp; omega) := rfl
      rw [this]; simp [hl]
  conv => lhs; rw [e]
  conv => rhs; rw [e]
  rw [canon, if_neg h0]
theorem toArray_eq (t : ByteArray) {l : List UInt8} (h : l = t.data.toList) : (⟨l.toArray⟩ : ByteArray) = t := by
  subst h; simp

theorem withoutZeros_any (s : ByteArray) (w : World) :
    Calls Tryd.prog 35 #[.string s] w fun e w' => e = .returned (.string ⟨(canon s.data.toList).toArray⟩) ∧ w = w' := by
  go_enter Tryd.func35, Tryd.ntmps35
  go_wp2
  go_loop [0] (fun v => ∃ t : ByteArray, t.size ≤ s.size ∧ v = .string t ∧ canon t.data.toList = canon s.data.toList) (fun v => (strOf v).size)
  case atStart => exact ⟨s, Nat.le_refl _, rfl, rfl⟩
  case round =>
    obtain ⟨t, ht, rfl, hc⟩ := hrel
    have HC := Lib.hid hc
    clear hc
    go_wp2
    · have h1 : 0 < t.size := by assumption
      have h2 : ((t[0].toNat : Int) == 0) = true := by assumption
      have h0 : t[0] = 0 := UInt8.toNat_inj.1 (by have := beq_iff_eq.1 h2; simpa using this)
      refine ⟨⟨t.extract 1 t.size, by simp; omega, rfl, by rw [canon_skip t h1 h0]; exact HC.out⟩, ?_⟩
      simp [strOf]; omega
    · have h1 : 0 < t.size := by assumption
      have h2 : ((t[0].toNat : Int) == 0) = false := by assumption
      have h0 : t[0] ≠ 0 := by intro e; rw [e] at h2; simp at h2
      go_ret
      refine ⟨?_, rfl⟩
      rw [toArray_eq t (by rw [← HC.out]; exact canon_stay t h1 h0)]; rfl
    · have h1 : ¬ 0 < t.size := by assumption
      have hz : t.data.toList = [] := List.eq_nil_of_length_eq_zero (by have := len_toList t; omega)
      go_ret
      refine ⟨?_, rfl⟩
      rw [toArray_eq t (by rw [← HC.out, hz]; rfl)]; rfl
end Go.Proofs.YtednijejgadmnaaDoor
