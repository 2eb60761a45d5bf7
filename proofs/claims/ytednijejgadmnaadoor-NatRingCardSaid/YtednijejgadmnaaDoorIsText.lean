/- nat.isText: whether a string is the decimal numeral of a number. -/
import Derived.Test.YtednijejgadmnaaDoorText
namespace Go.Proofs.YtednijejgadmnaaDoor
open Go.RowKit Mth Go.Lib

def isDig (c : UInt8) : Bool := decide (48 ≤ c.toNat) && decide (c.toNat ≤ 57)
def isTxt (l : List UInt8) : Bool := l.all isDig && (l == [48] || (!l.isEmpty && !(l.head? == some 48)))

theorem isTxt_bad {s : ByteArray} {i : Nat} (hi : i < s.size) (h : isDig s[i] = false) : isTxt s.data.toList = false := by
  have : s.data.toList.all isDig = false := by
    rw [Bool.eq_false_iff]
    intro ha
    rw [List.all_eq_true] at ha
    have hm : s[i] ∈ s.data.toList := by
      have : s[i] = s.data.toList[i]'(by simpa using hi) := rfl
      rw [this]; exact List.getElem_mem _
    rw [ha _ hm] at h
    cases h
  simp [isTxt, this]
theorem isTxt_good {s : ByteArray} (h : ∀ j (h : j < s.size), j < s.size → isDig s[j] = true) : isTxt s.data.toList = (s.data.toList == [48] || (!s.data.toList.isEmpty && !(s.data.toList.head? == some 48))) := by
  have : s.data.toList.all isDig = true := by
    rw [List.all_eq_true]
    intro x hx
    obtain ⟨j, hj, rfl⟩ := List.getElem_of_mem hx
    have hj' : j < s.size := by simpa using hj
    exact h j hj' hj'
  simp only [isTxt, this, Bool.true_and]

set_option maxHeartbeats 2000000 in
theorem isText_any (s : ByteArray) (w : World) (hs : s.size ≤ 9000000000000000000) :
    Calls Tryd.prog 46 #[.string s] w fun e w' => e = .returned (.bool (isTxt s.data.toList)) ∧ w.grownBy w' none := by
  go_enter Tryd.func46, Tryd.ntmps46
  go_wp2
  go_loopw [6] (fun v wr => ∃ i : Nat, i ≤ s.size ∧ v = .int .i64 i ∧ w.grownBy wr none ∧ Hid (∀ j (h : j < s.size), j < i → isDig s[j] = true)) (fun v _ => s.size - (RowKit.intOf v).toNat)
  case atStart => exact ⟨0, by omega, rfl, World.grownBy.refl _ _, fun j h1 h2 => by omega⟩
  case round =>
    obtain ⟨i, hi, rfl, hg, HA⟩ := hrel
    by_cases hlt : i < s.size
    · by_cases hd : isDig s[i] = true
      · have h1 : (48 : Int) ≤ (s[i].toNat : Int) := by simp only [isDig, Bool.and_eq_true, decide_eq_true_eq] at hd; omega
        have h2 : (s[i].toNat : Int) ≤ 57 := by simp only [isDig, Bool.and_eq_true, decide_eq_true_eq] at hd; omega
        have HD := Lib.hid hd
        clear hd
        go_wp2
        refine ⟨⟨i + 1, by omega, by simp, hg, fun j h1 h2 => ?_⟩, ?_⟩
        · by_cases e : j = i
          · subst e; exact HD.out
          · exact HA.out j h1 (by omega)
        · show s.size - ((i : Int) + 1).toNat < s.size - (i : Int).toNat
          omega
      · have HF := Lib.hid (isTxt_bad hlt (by simpa using hd))
        by_cases h1 : (s[i].toNat : Int) < 48
        · clear hd
          go_wp2
          go_ret
          exact ⟨by rw [HF.out]; rfl, hg⟩
        · have h2 : (57 : Int) < (s[i].toNat : Int) := by simp only [isDig, Bool.and_eq_true, decide_eq_true_eq] at hd; omega
          have h1 : (48 : Int) ≤ (s[i].toNat : Int) := by omega
          clear hd
          go_wp2
          go_ret
          exact ⟨by rw [HF.out]; rfl, hg⟩
    · have hie : i = s.size := by omega
      subst hie
      have HG := Lib.hid (isTxt_good HA.out)
      by_cases h0 : s = ⟨#[48]⟩
      · subst h0
        go_wp2
        go_ret
        exact ⟨rfl, hg⟩
      · by_cases he : s = ⟨#[]⟩
        · subst he
          go_wp2
          go_ret
          exact ⟨rfl, hg⟩
        · have hsz : 0 < s.size := by
            rcases Nat.eq_zero_or_pos s.size with h | h
            · exact absurd (by have : s.data = #[] := Array.eq_empty_of_size_eq_zero h
                               cases s; simp_all) he
            · exact h
          have hl1 : ¬ s.toList = [48] := fun e => h0 (by rw [ByteArray.toList_eq] at e; exact (toArray_eq s e.symm).symm)
          have hl2 : ¬ s.toList = [] := fun e => he (by rw [ByteArray.toList_eq] at e; exact (toArray_eq s e.symm).symm)
          go_wp2
          go_ret
          refine ⟨?_, hg⟩
          rw [HG.out, ByteArray.toList_eq]
          have hh : s.data.toList.head? = some s[0] := by
            rw [List.head?_eq_getElem?, List.getElem?_eq_getElem (by simpa using hsz)]; rfl
          rw [hh]
          have hb : ((s[0].toNat : Int) != 48) = !(some s[0] == some (48 : UInt8)) := by
            by_cases e : s[0] = 48
            · rw [e]; rfl
            · have : ¬ (s[0].toNat : Int) = 48 := fun h => e (by
                have h2 : s[0].toNat = 48 := by omega
                exact UInt8.toNat_inj.1 (by rw [h2]; rfl))
              rw [bne, beq_eq_false_iff_ne.2 this, beq_eq_false_iff_ne.2 (by simpa using e)]
          rw [← hb]; rfl

theorem parse_no (s : ByteArray) (w : World) (hs : s.size ≤ 9000000000000000000) (h : isTxt s.data.toList = false) :
    Calls Tryd.prog 27 #[.string s] w fun e w' => e = .returned (.tuple #[.string ⟨#[]⟩, .bool false]) ∧ w.grownBy w' none := by
  go_enter Tryd.func27, Tryd.ntmps27
  go_wp2_with fail
  refine (isText_any s w hs).mono ?_
  rintro e w1 ⟨rfl, hg⟩
  rw [h]
  go_wp2
  go_ret2
  exact ⟨rfl, hg⟩
end Go.Proofs.YtednijejgadmnaaDoor
