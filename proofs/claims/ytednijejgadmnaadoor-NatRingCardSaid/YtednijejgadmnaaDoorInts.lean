/- The contracts of nat.Of, nat.Int, nat.Right, nat.Bits and of the reference's Canon, Made. -/
import Derived.Test.YtednijejgadmnaaDoorSub
namespace Go.Proofs.YtednijejgadmnaaDoor
open Go.RowKit Mth

theorem of_neg (n : Int) (w : World) (h : n < 0) :
    Calls Tryd.prog 12 #[.int .i64 n] w fun e w' => e = .returned (.string ⟨#[]⟩) ∧ w = w' := by
  go_enter Tryd.func12, Tryd.ntmps12
  go_wp2
  go_ret
  exact ⟨rfl, rfl⟩

theorem blk_one (w : World) (k : IntKind) (e : TypeId) (n : Nat) : Blk k e (w.alloc (.cells #[.int k (n : Int)] e)) w.heap.size [n] := by
  unfold Blk
  rw [heap_alloc_new]
  simp [cellsOf]
theorem dg_one {b n : Nat} (h : n < b) : Dg b [n] := Dg.of_mem (by omega) (by simpa using h)
theorem vs_one (b n : Nat) : vs b [n] 0 1 = n := by simp [vs, gt]

theorem of_any (n : Nat) (w : World) (h : n ≤ 9223372036854775807) :
    Calls Tryd.prog 12 #[.int .i64 (n : Int)] w fun e w' => e = .returned (.string ⟨(enc n).toArray⟩) ∧ w.grownBy w' none := by
  go_enter Tryd.func12, Tryd.ntmps12
  go_wp2_with fail
  refine (natOf_any w.heap.size 0 1 1 [n] _ (blk_one w .u64 57 n) (by simp) (dg_one (by rw [W64_eq]; omega)) (Nat.le_refl _) (by decide) (by omega)).mono ?_
  rintro e w' ⟨rfl, hg⟩
  rw [vs_one]
  go_wp2
  go_ret
  exact ⟨rfl, gr_then (gr_alloc _ _ _) hg⟩

def rtB : List UInt8 → Bool | [] => true | d :: _ => d != 0
theorem rtB_of_rt {l : List UInt8} (h : Rt l) : rtB l = true := by
  cases l with
  | nil => rfl
  | cons d l => simp only [rtB, bne_iff_ne]; intro e; subst e; simp [Rt] at h
theorem nil_of_size {s : ByteArray} (h : s.size = 0) : s.data.toList = [] := List.eq_nil_of_length_eq_zero (by rw [len_toList]; exact h)
theorem cons_of_size {s : ByteArray} (h : 0 < s.size) : s.data.toList = s[0] :: s.data.toList.drop 1 := by
  cases hl : s.data.toList with
  | nil => have := len_toList s; rw [hl] at this; simp at this; omega
  | cons d l =>
    have : s[0] = s.data.toList[0]'(by rw [len_toList]; exact h) := rfl
    rw [this]; simp [hl]

theorem right_nil (s : ByteArray) (w : World) (h : s.size = 0) :
    Calls Tryd.prog 18 #[.string s] w fun e w' => e = .returned (.bool (rtB s.data.toList)) ∧ w = w' := by
  have hr : rtB s.data.toList = true := by rw [nil_of_size h]; rfl
  have HR := Lib.hid hr
  clear hr
  have hz : s = ByteArray.empty := by
    have := nil_of_size h
    cases s with | mk d => cases d with | mk l => simp at this; subst this; rfl
  subst hz
  go_enter Tryd.func18, Tryd.ntmps18
  go_wp2
  go_ret
  exact ⟨by rw [HR.out]; rfl, rfl⟩
theorem right_cons (s : ByteArray) (w : World) (h : 0 < s.size) :
    Calls Tryd.prog 18 #[.string s] w fun e w' => e = .returned (.bool (rtB s.data.toList)) ∧ w = w' := by
  have hr : rtB s.data.toList = ((s[0].toNat : Int) != 0) := by
    rw [cons_of_size h]
    simp only [rtB]
    rw [Bool.eq_iff_iff, bne_iff_ne, bne_iff_ne]
    constructor
    · intro h1 h2; exact h1 (UInt8.toNat_inj.1 (by simpa using h2))
    · intro h1 h2; rw [h2] at h1; simp at h1
  have HR := Lib.hid hr
  have hne : ((s.size : Int) == 0) = false := by simp; intro e; rw [e] at h; simp at h
  clear hr
  go_enter Tryd.func18, Tryd.ntmps18
  go_wp2
  go_ret
  exact ⟨by rw [HR.out]; rfl, rfl⟩
theorem right_any (s : ByteArray) (w : World) :
    Calls Tryd.prog 18 #[.string s] w fun e w' => e = .returned (.bool (rtB s.data.toList)) ∧ w = w' := by
  rcases Nat.eq_zero_or_pos s.size with h | h
  · exact right_nil s w h
  · exact right_cons s w h

/-- The number of binary digits. -/
def bitsN (n : Nat) : Nat := if n = 0 then 0 else Nat.log2 n + 1
theorem bitsN_of {n k : Nat} (h1 : 2 ^ k ≤ n) (h2 : n < 2 ^ (k + 1)) : bitsN n = k + 1 := by
  have hp : 0 < 2 ^ k := Nat.pow_pos (by decide)
  unfold bitsN
  rw [if_neg (by omega)]
  have h3 : n ≠ 0 := by omega
  have h4 : k ≤ Nat.log2 n := (Nat.le_log2 h3).2 h1
  have h5 : Nat.log2 n < k + 1 := (Nat.log2_lt h3).2 h2
  omega
theorem bitsN_bytes {s : ByteArray} (hr : Rt s.data.toList) (h : 0 < s.size) : bitsN (num s.data.toList) = 8 * (s.size - 1) + Lib.bitLen s[0].toNat := by
  have hd : s[0].toNat ≠ 0 := by
    intro e
    have e0 : s[0] = 0 := UInt8.toNat_inj.1 (by simpa using e)
    rw [cons_of_size h, e0] at hr; simp [Rt] at hr
  have hlt := s[0].toNat_lt
  obtain ⟨h1, h2, h3, h4⟩ := bitLen_bounds (x := s[0].toNat) (by rw [W64_eq]; omega) hd
  have hlen : (s.data.toList.drop 1).length = s.size - 1 := by rw [List.length_drop, len_toList]
  have hnl := num_lt (s.data.toList.drop 1)
  rw [hlen] at hnl
  have hn : num s.data.toList = s[0].toNat * 256 ^ (s.size - 1) + num (s.data.toList.drop 1) := by
    conv => lhs; rw [cons_of_size h]
    rw [num_cons, hlen]
  have hP : (256 : Nat) ^ (s.size - 1) = 2 ^ (8 * (s.size - 1)) := by rw [Nat.pow_mul]
  rw [hP] at hn hnl
  generalize s[0].toNat = d at *
  generalize Lib.bitLen d = B at *
  rw [show 8 * (s.size - 1) + B = 8 * (s.size - 1) + (B - 1) + 1 from by omega]
  apply bitsN_of
  · rw [hn, Nat.pow_add, Nat.mul_comm d]
    exact Nat.le_trans (Nat.mul_le_mul_left _ h3) (Nat.le_add_right _ _)
  · rw [hn, show 8 * (s.size - 1) + (B - 1) + 1 = 8 * (s.size - 1) + B from by omega, Nat.pow_add, Nat.mul_comm d]
    have h5 : 2 ^ (8 * (s.size - 1)) * (d + 1) ≤ 2 ^ (8 * (s.size - 1)) * 2 ^ B := Nat.mul_le_mul_left _ h4
    rw [Nat.mul_add] at h5
    omega

theorem bits_any (s : ByteArray) (w : World) (hs : s.size ≤ 1000000000000) :
    Calls Tryd.prog 16 #[.string s] w fun e w' => e = .returned (.int .i64 ((bitsN (num s.data.toList) : Nat) : Int)) ∧ w = w' := by
  have hls : (bytesOf s).size ≤ s.size := canon_length_le _
  have hrt : Rt (bytesOf s).data.toList := rt_canon _
  have hnum : num (bytesOf s).data.toList = num s.data.toList := num_canon _
  rw [← hnum]
  generalize ht : (bytesOf s) = t at hls hrt hnum
  have HT := Lib.hid ht
  clear ht hnum
  rcases Nat.eq_zero_or_pos t.size with h | h
  · have hb : bitsN (num t.data.toList) = 0 := by rw [nil_of_size h]; rfl
    have HB := Lib.hid hb
    have h0 : ((t.size : Int) == 0) = true := by simp [h]
    clear hb
    go_enter Tryd.func16, Tryd.ntmps16
    go_wp2_with fail
    refine (withoutZeros_any s _).mono ?_
    rintro e w' ⟨rfl, rfl⟩
    rw [show (⟨(canon s.data.toList).toArray⟩ : ByteArray) = t from HT.out]
    go_wp2
    go_ret
    exact ⟨by rw [HB.out]; rfl, rfl⟩
  · have hb := bitsN_bytes hrt h
    have HB := Lib.hid hb
    have h0 : ((t.size : Int) == 0) = false := by rw [beq_eq_false_iff_ne]; omega
    have hl8 := t[0].toNat_lt
    have hbl : Lib.bitLen t[0].toNat ≤ 8 := Lib.bitLen_le _ 8 (by omega) (by omega)
    clear hb
    go_enter Tryd.func16, Tryd.ntmps16
    go_wp2_with fail
    refine (withoutZeros_any s _).mono ?_
    rintro e w' ⟨rfl, rfl⟩
    rw [show (⟨(canon s.data.toList).toArray⟩ : ByteArray) = t from HT.out]
    go_wp2_with fail
    refine (Tryd.bits_Len8 _ _ (by omega) (by omega)).mono ?_
    rintro e w' ⟨rfl, rfl⟩
    rw [show Lib.bitLen ((t[0].toNat : Int).toNat) = Lib.bitLen t[0].toNat from rfl]
    generalize Lib.bitLen t[0].toNat = B at hbl HB
    go_wp2
    go_ret
    refine ⟨?_, rfl⟩
    rw [HB.out]
    show Ending.returned (Value.int .i64 (8 * ((t.size : Int) - 1) + (B : Int))) = _
    congr 2
    omega
end Go.Proofs.YtednijejgadmnaaDoor
