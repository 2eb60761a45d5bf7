/- The contracts of nat.Cmp, nat.Sub, nat.Mul. -/
import Derived.Test.YtednijejgadmnaaDoorSubW
import Derived.Test.YtednijejgadmnaaDoorSum
import Derived.Test.YtednijejgadmnaaDoorProd
namespace Go.Proofs.YtednijejgadmnaaDoor
open Go.RowKit Mth

theorem bytesLess_num : ∀ (x y : List UInt8), x.length = y.length → Op.bytesLess x y = decide (num x < num y)
  | [], [], _ => by simp [Op.bytesLess, num]
  | [], _ :: _, h => by simp at h
  | _ :: _, [], h => by simp at h
  | a :: x, b :: y, h => by
    have hl : x.length = y.length := by simpa using h
    have hx := num_lt x
    have hy := num_lt y
    rw [Op.bytesLess, bytesLess_num x y hl, num_cons, num_cons, hl]
    rw [hl] at hx
    by_cases h1 : a < b
    · have h2 : a.toNat + 1 ≤ b.toNat := UInt8.lt_iff_toNat_lt.1 h1
      have h3 : (a.toNat + 1) * 256 ^ y.length ≤ b.toNat * 256 ^ y.length := Nat.mul_le_mul_right _ h2
      rw [Nat.add_mul] at h3
      rw [decide_eq_true h1, Bool.true_or]; exact (decide_eq_true (by omega)).symm
    · by_cases h2 : a = b
      · subst h2
        rw [decide_eq_false h1, show (a == a) = true from by simp, Bool.true_and, Bool.false_or]
        by_cases h3 : num x < num y
        · rw [decide_eq_true h3]; exact (decide_eq_true (by omega)).symm
        · rw [decide_eq_false h3]; exact (decide_eq_false (by omega)).symm
      · have h4 : b.toNat + 1 ≤ a.toNat := by
          have h5 : ¬ a.toNat < b.toNat := fun h => h1 (UInt8.lt_iff_toNat_lt.2 h)
          have h6 : a.toNat ≠ b.toNat := fun h => h2 (UInt8.toNat_inj.1 h)
          omega
        have h3 : (b.toNat + 1) * 256 ^ y.length ≤ a.toNat * 256 ^ y.length := Nat.mul_le_mul_right _ h4
        rw [Nat.add_mul] at h3
        rw [decide_eq_false h1, show (a == b) = false from by simp [h2], Bool.false_and, Bool.false_or]; exact (decide_eq_false (by omega)).symm

theorem num_inj_len : ∀ {x y : List UInt8}, x.length = y.length → num x = num y → x = y
  | [], [], _, _ => rfl
  | [], _ :: _, h, _ => by simp at h
  | _ :: _, [], h, _ => by simp at h
  | a :: x, b :: y, h, hn => by
    have hl : x.length = y.length := by simpa using h
    have hx := num_lt x
    have hy := num_lt y
    rw [num_cons, num_cons, hl] at hn
    rw [hl] at hx
    have hab : a.toNat = b.toNat := by
      rcases Nat.lt_trichotomy a.toNat b.toNat with h1 | h1 | h1
      · have h3 : (a.toNat + 1) * 256 ^ y.length ≤ b.toNat * 256 ^ y.length := Nat.mul_le_mul_right _ h1
        rw [Nat.add_mul] at h3; omega
      · exact h1
      · have h3 : (b.toNat + 1) * 256 ^ y.length ≤ a.toNat * 256 ^ y.length := Nat.mul_le_mul_right _ h1
        rw [Nat.add_mul] at h3; omega
    rw [hab] at hn
    rw [UInt8.toNat_inj.1 hab, num_inj_len hl (by omega)]
theorem bytesLess_asymm (x y : List UInt8) (h : x.length = y.length) : num x < num y ∨ x = y ∨ num y < num x := by
  rcases Nat.lt_trichotomy (num x) (num y) with h1 | h1 | h1
  · exact .inl h1
  · exact .inr (.inl (num_inj_len h h1))
  · exact .inr (.inr h1)

/-- -1, 0 or 1. -/
def cmpN (a b : Nat) : Int := if a < b then -1 else if b < a then 1 else 0

theorem cmpNat_any (s t : ByteArray) (w : World) (h : s.size = t.size) :
    Calls Tryd.prog 41 #[.string s, .string t] w fun e w' => e = .returned (.int .i64 (cmpN (num s.data.toList) (num t.data.toList))) ∧ w = w' := by
  have h1 := Lib.hid (bytesLess_num s.data.toList t.data.toList h)
  have h2 := Lib.hid (bytesLess_num t.data.toList s.data.toList h.symm)
  have h3 := Lib.hid (bytesLess_asymm s.data.toList t.data.toList h)
  clear h
  go_enter Tryd.func41, Tryd.ntmps41
  go_wp2
  · have hl : Op.bytesLess s.toList t.toList = true := by assumption
    rw [Lib.toList_data, Lib.toList_data, h1.out] at hl
    have hn : num s.data.toList < num t.data.toList := of_decide_eq_true hl
    go_ret
    exact ⟨by unfold cmpN; rw [if_pos hn]; rfl, rfl⟩
  · have hl : Op.bytesLess s.toList t.toList = false := by assumption
    have he : (!(s.toList == t.toList)) = true := by assumption
    rw [Lib.toList_data, Lib.toList_data, h1.out] at hl
    rw [Lib.toList_data, Lib.toList_data] at he
    have hn : ¬ num s.data.toList < num t.data.toList := of_decide_eq_false hl
    have hne : s.data.toList ≠ t.data.toList := by simpa using he
    have hlt : num t.data.toList < num s.data.toList := by rcases h3.out with h | h | h; exact absurd h hn; exact absurd h hne; exact h
    go_ret
    exact ⟨by unfold cmpN; rw [if_neg hn, if_pos hlt]; rfl, rfl⟩
  · have he : (!(s.toList == t.toList)) = false := by assumption
    rw [Lib.toList_data, Lib.toList_data] at he
    have hne : s.data.toList = t.data.toList := by simpa using he
    go_ret
    exact ⟨by unfold cmpN; rw [hne, if_neg (by omega), if_neg (by omega)]; rfl, rfl⟩

theorem num_lt_of_len {a b : ByteArray} (hb : Rt b.data.toList) (h : a.size < b.size) : num a.data.toList < num b.data.toList := by
  have h1 := num_lt a.data.toList
  have hne : b.data.toList ≠ [] := by intro e; have := len_toList b; rw [e] at this; simp at this; omega
  have h2 := num_ge hb hne
  have h3 : 256 ^ a.data.toList.length ≤ 256 ^ (b.data.toList.length - 1) := Nat.pow_le_pow_right (by decide) (by rw [len_toList, len_toList]; omega)
  omega

theorem cmp_any (s t : ByteArray) (w : World) :
    Calls Tryd.prog 24 #[.string s, .string t] w fun e w' => e = .returned (.int .i64 (cmpN (num s.data.toList) (num t.data.toList))) ∧ w = w' := by
  have hn1 : num (bytesOf s).data.toList = num s.data.toList := num_canon _
  have hn2 : num (bytesOf t).data.toList = num t.data.toList := num_canon _
  have hr1 : Rt (bytesOf s).data.toList := rt_canon _
  have hr2 : Rt (bytesOf t).data.toList := rt_canon _
  generalize h1 : (bytesOf s) = a at hn1 hr1
  generalize h2 : (bytesOf t) = b at hn2 hr2
  have H1 := Lib.hid h1
  have H2 := Lib.hid h2
  have HN1 := Lib.hid hn1
  have HN2 := Lib.hid hn2
  have HR1 := Lib.hid hr1
  have HR2 := Lib.hid hr2
  clear h1 h2 hn1 hn2 hr1 hr2
  go_enter Tryd.func24, Tryd.ntmps24
  go_wp2_with fail
  refine (withoutZeros_any s _).mono ?_
  rintro e w' ⟨rfl, rfl⟩
  rw [show (⟨(canon s.data.toList).toArray⟩ : ByteArray) = a from H1.out]
  go_wp2_with fail
  refine (withoutZeros_any t _).mono ?_
  rintro e w' ⟨rfl, rfl⟩
  rw [show (⟨(canon t.data.toList).toArray⟩ : ByteArray) = b from H2.out]
  by_cases hl : a.size = b.size
  · have HL := Lib.hid hl
    have hb : ((a.size : Int) != (b.size : Int)) = false := by rw [bne_eq_false_iff_eq, hl]
    clear hl
    go_wp2_with fail
    refine (cmpNat_any a b _ HL.out).mono ?_
    rintro e w' ⟨rfl, rfl⟩
    go_wp2
    go_ret
    exact ⟨by rw [← HN1.out, ← HN2.out]; rfl, rfl⟩
  · have hb : ((a.size : Int) != (b.size : Int)) = true := by rw [bne_iff_ne]; omega
    have hc : Lib.compareInt (a.size : Int) (b.size : Int) = cmpN (num s.data.toList) (num t.data.toList) := by
      rw [← HN1.out, ← HN2.out]
      unfold Lib.compareInt cmpN
      rcases Nat.lt_or_gt_of_ne hl with h | h
      · rw [if_pos (by omega), if_pos (num_lt_of_len HR2.out h)]
      · have h2 := num_lt_of_len HR1.out h
        have h2' : num b.data.toList < num a.data.toList := h2
        rw [if_neg (by omega), if_pos (by omega), if_neg (by omega), if_pos h2']
    have HC := Lib.hid hc
    clear hc hl
    go_wp2_with fail
    refine (Tryd.cmp_Compare_int _ _ _).mono ?_
    rintro e w' ⟨rfl, rfl⟩
    go_wp2
    go_ret
    exact ⟨by rw [← HC.out]; rfl, rfl⟩
end Go.Proofs.YtednijejgadmnaaDoor
