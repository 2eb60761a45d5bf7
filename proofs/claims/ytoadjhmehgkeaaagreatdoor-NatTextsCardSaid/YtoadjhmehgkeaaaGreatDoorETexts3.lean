/- Contracts of package nat and of the reference, part 3: Sub, Ints, Int, DivP, App, Div, Quo. -/
import Derived.Test.YtoadjhmehgkeaaaGreatDoorETexts2
namespace Go.Proofs.YtoadjhmehgkeaaaGreatDoor
open Go.RowKit Mth

theorem Mth.Words.lt {xs : List Nat} {N : Nat} (h : Words xs N) : N < W64 ^ xs.length := by rw [← h.val]; exact vs_lt h.dg
theorem Mth.Words.ge {xs : List Nat} {N : Nat} (h : Words xs N) (hl : 0 < xs.length) : W64 ^ (xs.length - 1) ≤ N := by
  have ht : gt xs (xs.length - 1) ≠ 0 := by rcases h.top with h0 | h0; omega; exact h0
  rw [← h.val]
  obtain ⟨m, hm⟩ : ∃ m, xs.length = m + 1 := ⟨xs.length - 1, by omega⟩
  rw [hm] at ht ⊢
  simp only [Nat.add_sub_cancel] at ht ⊢
  simp only [vs, Nat.zero_add]
  have : W64 ^ m * 1 ≤ W64 ^ m * gt xs m := Nat.mul_le_mul_left _ (by omega)
  omega
theorem Mth.Words.len_le {xs ys : List Nat} {N M : Nat} (h : Words xs N) (g : Words ys M) (hle : M ≤ N) : ys.length ≤ xs.length := by
  rcases Nat.lt_or_ge xs.length ys.length with h1 | h1
  · have h2 := h.lt
    have h3 := g.ge (by omega)
    have h4 : W64 ^ xs.length ≤ W64 ^ (ys.length - 1) := Nat.pow_le_pow_right W64_pos (by omega)
    omega
  · exact h1

theorem sub_no (s t : ByteArray) (w : World) (h : num s.data.toList < num t.data.toList) :
    Calls Tryz.prog 16 #[.string s, .string t] w fun e w' => e = .returned (.tuple #[.string ⟨#[]⟩, .bool false]) ∧ w.grownBy w' none := by
  have hc : cmpN (num s.data.toList) (num t.data.toList) = -1 := by unfold cmpN; rw [if_pos h]
  have HC := Lib.hid hc
  clear hc h
  go_enter Tryz.func16, Tryz.ntmps16
  go_wp2_with fail
  refine (cmp_any s t _).mono ?_
  rintro e w' ⟨rfl, rfl⟩
  rw [HC.out]
  go_wp2
  go_ret2
  exact ⟨rfl, World.grownBy.refl _ _⟩

theorem sub_yes (s t : ByteArray) (w : World) (h : num t.data.toList ≤ num s.data.toList) (hs : s.size ≤ 1000000000000) (ht : t.size ≤ 1000000000000) :
    Calls Tryz.prog 16 #[.string s, .string t] w fun e w' => e = .returned (.tuple #[.string ⟨(enc (num s.data.toList - num t.data.toList)).toArray⟩, .bool true]) ∧ w.grownBy w' none := by
  obtain ⟨c, hc⟩ : ∃ c, cmpN (num s.data.toList) (num t.data.toList) = c := ⟨_, rfl⟩
  have hc0 : decide (c < 0) = false := by rw [decide_eq_false_iff_not, ← hc]; unfold cmpN; split; omega; split <;> omega
  have hc1 : ¬ c < 0 := of_decide_eq_false hc0
  have HC := Lib.hid hc
  have HLE := Lib.hid h
  clear hc h
  go_enter Tryz.func16, Tryz.ntmps16
  go_wp2_with fail
  refine (cmp_any s t _).mono ?_
  rintro e w' ⟨rfl, rfl⟩
  rw [HC.out]
  go_wp2_with fail
  refine (wordsOf_any s _ (by omega)).mono ?_
  rintro e w1 ⟨b1, xs, rfl, hlt1, hb1, hg1, hw1, hsz1⟩
  go_wp2_with fail
  refine (wordsOf_any t w1 (by omega)).mono ?_
  rintro e w2 ⟨b2, ys, rfl, hlt2, hb2, hg2, hw2, hsz2⟩
  have hb12 := hb1.lt
  go_wp2_with fail
  refine (subtractFrom_any b1 0 xs.length xs.length b2 0 ys.length ys.length xs ys w2 (hb1.kept hg2 (by simp)) (by omega) hw1.dg (by unfold maxLen; omega) hb2 (by omega) hw2.dg (by omega) (hw1.len_le hw2 HLE.out) (by rw [hw1.val, hw2.val]; exact HLE.out)).mono ?_
  rintro e w3 ⟨rfl, zs, hb3, hg3, hwr, hd3, hv3⟩
  rw [hw1.val, hw2.val] at hv3
  have hl3 := hwr.len
  have HL := Lib.hid hl3
  have hle : xs.length ≤ zs.length := by omega
  have hv : vs W64 zs 0 xs.length = num s.data.toList - num t.data.toList := by omega
  have HV := Lib.hid hv
  clear hl3 hv hv3 hwr
  go_wp2_with fail
  refine (natOf_any b1 0 xs.length xs.length zs w3 hb3 (by omega) hd3 (Nat.le_refl _) (by unfold maxLen; omega) (by omega)).mono ?_
  rintro e w4 ⟨rfl, hg4⟩
  go_wp2
  go_ret2
  refine ⟨by rw [HV.out]; rfl, ?_⟩
  exact gr_then (gr_new (gr_then hg1 hg2) hg3 hlt1) hg4

end Go.Proofs.YtoadjhmehgkeaaaGreatDoor
namespace Go.Proofs.YtoadjhmehgkeaaaGreatDoor
open Go.RowKit Mth

theorem of_neg (n : Int) (w : World) (h : n < 0) :
    Calls Tryz.prog 69 #[.int .i64 n] w fun e w' => e = .returned (.string ⟨#[]⟩) ∧ w = w' := by
  go_enter Tryz.func69, Tryz.ntmps69
  go_wp2
  go_ret
  exact ⟨rfl, rfl⟩

theorem blk_one (w : World) (k : IntKind) (e : TypeId) (n : Nat) : Blk k e (w.alloc (.cells #[.int k (n : Int)] e)) w.heap.size [n] := by
  unfold Blk
  rw [heap_alloc_new]
  simp [cellsOf]
theorem dg_one {b n : Nat} (h : n < b) : Dg b [n] := Dg.of_mem (by omega) (by simpa using h)
theorem vs_one (b n : Nat) : vs b [n] 0 1 = n := by simp [vs, gt]

theorem of_any (n : Nat) (w : World) (h : n ≤ 9223372036854775807) :
    Calls Tryz.prog 69 #[.int .i64 (n : Int)] w fun e w' => e = .returned (.string ⟨(enc n).toArray⟩) ∧ w.grownBy w' none := by
  go_enter Tryz.func69, Tryz.ntmps69
  go_wp2_with fail
  refine (natOf_any w.heap.size 0 1 1 [n] _ (blk_one w .u64 96 n) (by simp) (dg_one (by rw [W64_eq]; omega)) (Nat.le_refl _) (by decide) (by omega)).mono ?_
  rintro e w' ⟨rfl, hg⟩
  rw [vs_one]
  go_wp2
  go_ret
  exact ⟨rfl, gr_then (gr_alloc _ _ _) hg⟩

def rtB : List UInt8 → Bool | [] => true | d :: _ => d != 0
theorem rtB_of_rt {l : List UInt8} (h : Rt l) : rtB l = true := by
  cases l with
  | nil => rfl
  | cons d l => simp only [rtB, bne_iff_ne]; intro e; subst e; simp [Rt] at h
theorem nil_of_size {s : ByteArray} (h : s.size = 0) : s.data.toList = [] := List.eq_nil_of_length_eq_zero (by rw [len_toList]; exact h)
theorem cons_of_size {s : ByteArray} (h : 0 < s.size) : s.data.toList = s[0] :: s.data.toList.drop 1 := by
  cases hl : s.data.toList with
  | nil => have := len_toList s; rw [hl] at this; simp at this; omega
  | cons d l =>
    have : s[0] = s.data.toList[0]'(by rw [len_toList]; exact h) := rfl
    rw [this]; simp [hl]

theorem right_nil (s : ByteArray) (w : World) (h : s.size = 0) :
    Calls Tryz.prog 22 #[.string s] w fun e w' => e = .returned (.bool (rtB s.data.toList)) ∧ w = w' := by
  have hr : rtB s.data.toList = true := by rw [nil_of_size h]; rfl
  have HR := Lib.hid hr
  clear hr
  have hz : s = ByteArray.empty := by
    have := nil_of_size h
    cases s with | mk d => cases d with | mk l => simp at this; subst this; rfl
  subst hz
  go_enter Tryz.func22, Tryz.ntmps22
  go_wp2
  go_ret
  exact ⟨by rw [HR.out]; rfl, rfl⟩
theorem right_cons (s : ByteArray) (w : World) (h : 0 < s.size) :
    Calls Tryz.prog 22 #[.string s] w fun e w' => e = .returned (.bool (rtB s.data.toList)) ∧ w = w' := by
  have hr : rtB s.data.toList = ((s[0].toNat : Int) != 0) := by
    rw [cons_of_size h]
    simp only [rtB]
    rw [Bool.eq_iff_iff, bne_iff_ne, bne_iff_ne]
    constructor
    · intro h1 h2; exact h1 (UInt8.toNat_inj.1 (by simpa using h2))
    · intro h1 h2; rw [h2] at h1; simp at h1
  have HR := Lib.hid hr
  have hne : ((s.size : Int) == 0) = false := by simp; intro e; rw [e] at h; simp at h
  clear hr
  go_enter Tryz.func22, Tryz.ntmps22
  go_wp2
  go_ret
  exact ⟨by rw [HR.out]; rfl, rfl⟩
theorem right_any (s : ByteArray) (w : World) :
    Calls Tryz.prog 22 #[.string s] w fun e w' => e = .returned (.bool (rtB s.data.toList)) ∧ w = w' := by
  rcases Nat.eq_zero_or_pos s.size with h | h
  · exact right_nil s w h
  · exact right_cons s w h

/-- The number of binary digits. -/
def bitsN (n : Nat) : Nat := if n = 0 then 0 else Nat.log2 n + 1
theorem bitsN_of {n k : Nat} (h1 : 2 ^ k ≤ n) (h2 : n < 2 ^ (k + 1)) : bitsN n = k + 1 := by
  have hp : 0 < 2 ^ k := Nat.pow_pos (by decide)
  unfold bitsN
  rw [if_neg (by omega)]
  have h3 : n ≠ 0 := by omega
  have h4 : k ≤ Nat.log2 n := (Nat.le_log2 h3).2 h1
  have h5 : Nat.log2 n < k + 1 := (Nat.log2_lt h3).2 h2
  omega
theorem bitsN_bytes {s : ByteArray} (hr : Rt s.data.toList) (h : 0 < s.size) : bitsN (num s.data.toList) = 8 * (s.size - 1) + Lib.bitLen s[0].toNat := by
  have hd : s[0].toNat ≠ 0 := by
    intro e
    have e0 : s[0] = 0 := UInt8.toNat_inj.1 (by simpa using e)
    rw [cons_of_size h, e0] at hr; simp [Rt] at hr
  have hlt := s[0].toNat_lt
  obtain ⟨h1, h2, h3, h4⟩ := bitLen_bounds (x := s[0].toNat) (by rw [W64_eq]; omega) hd
  have hlen : (s.data.toList.drop 1).length = s.size - 1 := by rw [List.length_drop, len_toList]
  have hnl := num_lt (s.data.toList.drop 1)
  rw [hlen] at hnl
  have hn : num s.data.toList = s[0].toNat * 256 ^ (s.size - 1) + num (s.data.toList.drop 1) := by
    conv => lhs; rw [cons_of_size h]
    rw [num_cons, hlen]
  have hP : (256 : Nat) ^ (s.size - 1) = 2 ^ (8 * (s.size - 1)) := by rw [Nat.pow_mul]
  rw [hP] at hn hnl
  generalize s[0].toNat = d at *
  generalize Lib.bitLen d = B at *
  rw [show 8 * (s.size - 1) + B = 8 * (s.size - 1) + (B - 1) + 1 from by omega]
  apply bitsN_of
  · rw [hn, Nat.pow_add, Nat.mul_comm d]
    exact Nat.le_trans (Nat.mul_le_mul_left _ h3) (Nat.le_add_right _ _)
  · rw [hn, show 8 * (s.size - 1) + (B - 1) + 1 = 8 * (s.size - 1) + B from by omega, Nat.pow_add, Nat.mul_comm d]
    have h5 : 2 ^ (8 * (s.size - 1)) * (d + 1) ≤ 2 ^ (8 * (s.size - 1)) * 2 ^ B := Nat.mul_le_mul_left _ h4
    rw [Nat.mul_add] at h5
    omega

theorem bits_any (s : ByteArray) (w : World) (hs : s.size ≤ 1000000000000) :
    Calls Tryz.prog 70 #[.string s] w fun e w' => e = .returned (.int .i64 ((bitsN (num s.data.toList) : Nat) : Int)) ∧ w = w' := by
  have hls : (bytesOf s).size ≤ s.size := canon_length_le _
  have hrt : Rt (bytesOf s).data.toList := rt_canon _
  have hnum : num (bytesOf s).data.toList = num s.data.toList := num_canon _
  rw [← hnum]
  generalize ht : (bytesOf s) = t at hls hrt hnum
  have HT := Lib.hid ht
  clear ht hnum
  rcases Nat.eq_zero_or_pos t.size with h | h
  · have hb : bitsN (num t.data.toList) = 0 := by rw [nil_of_size h]; rfl
    have HB := Lib.hid hb
    have h0 : ((t.size : Int) == 0) = true := by simp [h]
    clear hb
    go_enter Tryz.func70, Tryz.ntmps70
    go_wp2_with fail
    refine (withoutZeros_any s _).mono ?_
    rintro e w' ⟨rfl, rfl⟩
    rw [show (⟨(canon s.data.toList).toArray⟩ : ByteArray) = t from HT.out]
    go_wp2
    go_ret
    exact ⟨by rw [HB.out]; rfl, rfl⟩
  · have hb := bitsN_bytes hrt h
    have HB := Lib.hid hb
    have h0 : ((t.size : Int) == 0) = false := by rw [beq_eq_false_iff_ne]; omega
    have hl8 := t[0].toNat_lt
    have hbl : Lib.bitLen t[0].toNat ≤ 8 := Lib.bitLen_le _ 8 (by omega) (by omega)
    clear hb
    go_enter Tryz.func70, Tryz.ntmps70
    go_wp2_with fail
    refine (withoutZeros_any s _).mono ?_
    rintro e w' ⟨rfl, rfl⟩
    rw [show (⟨(canon s.data.toList).toArray⟩ : ByteArray) = t from HT.out]
    go_wp2_with fail
    refine (Tryz.bits_Len8 _ _ (by omega) (by omega)).mono ?_
    rintro e w' ⟨rfl, rfl⟩
    rw [show Lib.bitLen ((t[0].toNat : Int).toNat) = Lib.bitLen t[0].toNat from rfl]
    generalize Lib.bitLen t[0].toNat = B at hbl HB
    go_wp2
    go_ret
    refine ⟨?_, rfl⟩
    rw [HB.out]
    show Ending.returned (Value.int .i64 (8 * ((t.size : Int) - 1) + (B : Int))) = _
    congr 2
    omega
end Go.Proofs.YtoadjhmehgkeaaaGreatDoor
namespace Go.Proofs.YtoadjhmehgkeaaaGreatDoor
open Go.RowKit Mth

theorem words_nil {xs : List Nat} {N : Nat} (h : Words xs N) (h0 : xs.length = 0) : N = 0 := by rw [← h.val, h0]; rfl
theorem words_one {xs : List Nat} {N : Nat} (h : Words xs N) (h1 : xs.length = 1) : gt xs 0 = N ∧ N < W64 := by
  have h2 := h.val
  have h3 := h.lt
  rw [h1] at h2 h3
  exact ⟨by simpa [vs] using h2, by simpa using h3⟩
theorem words_more {xs : List Nat} {N : Nat} (h : Words xs N) (h1 : 2 ≤ xs.length) : W64 ≤ N := by
  have h2 := h.ge (by omega)
  have h3 : W64 ^ 1 ≤ W64 ^ (xs.length - 1) := Nat.pow_le_pow_right W64_pos (by omega)
  rw [Nat.pow_one] at h3
  omega

theorem int_yes (s : ByteArray) (w : World) (hs : s.size ≤ 1000000000000) (h : num s.data.toList ≤ 9223372036854775807) :
    Calls Tryz.prog 68 #[.string s] w fun e w' => e = .returned (.tuple #[.int .i64 ((num s.data.toList : Nat) : Int), .bool true]) ∧ w.grownBy w' none := by
  have HN := Lib.hid h
  clear h
  go_enter Tryz.func68, Tryz.ntmps68
  go_wp2_with fail
  refine (wordsOf_any s w (by omega)).mono ?_
  rintro e w1 ⟨b1, xs, rfl, hlt1, hb1, hg1, hw1, hsz1⟩
  have hle : xs.length ≤ 1 := by
    rcases Nat.lt_or_ge 1 xs.length with h | h
    · have := words_more hw1 h; have := HN.out; rw [W64_eq] at *; omega
    · exact h
  rcases Nat.eq_zero_or_pos xs.length with h0 | h0
  · have hv := words_nil hw1 h0
    have HV := Lib.hid hv
    have h1 : ((xs.length : Int) == 0) = true := by simp [h0]
    clear hv h0
    go_wp2
    go_ret2
    exact ⟨by rw [HV.out]; rfl, hg1⟩
  · obtain h1 : xs.length = 1 := by omega
    obtain ⟨hv, hv2⟩ := words_one hw1 h1
    have hcell : w1.cell? ⟨b1, 0, none⟩ = some (.int .u64 ((num s.data.toList : Nat) : Int)) := by rw [hb1.cell (by omega), hv]
    have hn := HN.out
    have h2 : ((xs.length : Int) == 0) = false := by rw [h1]; rfl
    obtain ⟨N, hN⟩ : ∃ N, N = num s.data.toList := ⟨_, rfl⟩
    rw [← hN] at hcell hn
    have HE := Lib.hid hN
    clear h1 hv hv2 hw1 hN
    go_wp2
    go_ret2
    exact ⟨by rw [← HE.out]; rfl, hg1⟩
theorem int_no (s : ByteArray) (w : World) (hs : s.size ≤ 1000000000000) (h : 9223372036854775807 < num s.data.toList) :
    Calls Tryz.prog 68 #[.string s] w fun e w' => e = .returned (.tuple #[.int .i64 0, .bool false]) ∧ w.grownBy w' none := by
  have HN := Lib.hid h
  clear h
  go_enter Tryz.func68, Tryz.ntmps68
  go_wp2_with fail
  refine (wordsOf_any s w (by omega)).mono ?_
  rintro e w1 ⟨b1, xs, rfl, hlt1, hb1, hg1, hw1, hsz1⟩
  have hpos : 0 < xs.length := by
    rcases Nat.eq_zero_or_pos xs.length with h | h
    · have := words_nil hw1 h; have := HN.out; omega
    · exact h
  have h2 : ((xs.length : Int) == 0) = false := by rw [beq_eq_false_iff_ne]; omega
  rcases Nat.lt_or_ge 1 xs.length with h0 | h0
  · go_wp2
    go_ret2
    exact ⟨rfl, hg1⟩
  · obtain ⟨hv, hv2⟩ := words_one hw1 (by omega)
    have hcell : w1.cell? ⟨b1, 0, none⟩ = some (.int .u64 ((num s.data.toList : Nat) : Int)) := by rw [hb1.cell (by omega), hv]
    have hn := HN.out
    generalize num s.data.toList = N at hcell hn
    clear hv hv2 hw1
    go_wp2
    go_ret2
    exact ⟨rfl, hg1⟩

theorem drop_at {s : ByteArray} {i : Nat} (h : i < s.size) : s.data.toList.drop i = s[i] :: s.data.toList.drop (i + 1) := by
  rw [List.drop_eq_getElem_cons (by rw [len_toList]; exact h)]; rfl

theorem canon_any (s : ByteArray) (w : World) (hs : s.size ≤ 1000000000000) :
    Calls Tryz.prog 35 #[.string s] w fun e w' => e = .returned (.string ⟨(canon s.data.toList).toArray⟩) ∧ w = w' := by
  go_enter Tryz.func35, Tryz.ntmps35
  go_wp2
  go_loop [3] (fun v => ∃ i : Nat, i ≤ s.size ∧ v = .int .i64 i ∧ Hid (canon (s.data.toList.drop i) = canon s.data.toList)) (fun v => s.size - (intOf v).toNat)
  case atStart => exact ⟨0, Nat.zero_le _, rfl, rfl⟩
  case round =>
    obtain ⟨i, hi, rfl, HC⟩ := hrel
    go_wp2
    · have hlt : i < s.size := by assumption
      have h0 : ((s[i].toNat : Int) == 0) = true := by assumption
      have hz : s[i] = 0 := UInt8.toNat_inj.1 (by have := beq_iff_eq.1 h0; simpa using this)
      refine ⟨⟨i + 1, by omega, by go_num, ?_⟩, by simp [intOf]; omega⟩
      show canon _ = _
      rw [← HC.out, drop_at hlt, hz, canon, if_pos rfl]
    · have hlt : i < s.size := by assumption
      have h0 : ((s[i].toNat : Int) == 0) = false := by assumption
      have hz : s[i] ≠ 0 := by intro e; rw [e] at h0; simp at h0
      have hs2 : (⟨(canon s.data.toList).toArray⟩ : ByteArray) = s.extract i s.size := by
        apply toArray_eq
        rw [Lib.extract_to_end, ← HC.out, drop_at hlt, canon, if_neg hz]
      go_ret
      exact ⟨by rw [hs2]; rfl, rfl⟩
    · have hlt : ¬ i < s.size := by assumption
      have hs2 : (⟨(canon s.data.toList).toArray⟩ : ByteArray) = s.extract i s.size := by
        apply toArray_eq
        rw [Lib.extract_to_end, ← HC.out, List.drop_eq_nil_of_le (by rw [len_toList]; omega)]; rfl
      go_ret
      exact ⟨by rw [hs2]; rfl, rfl⟩

theorem made_nil (w : World) : Calls Tryz.prog 15 #[.slice none 0 0] w fun e w' => e = .returned (.string ⟨#[]⟩) ∧ w = w' := by
  have hcv := run_convert_bytes_nil (P := Tryz.prog) w 22 5 Tryz.underlying22 Tryz.underlying5 0 0 24 Tryz.underlying24
  have hmn : min (0 : Int) 40 = 0 := by decide
  go_enter Tryz.func15, Tryz.ntmps15
  go_wp2
  go_ret
  exact ⟨rfl, rfl⟩

theorem made_any (b off n m c : Nat) (xs : List Nat) (w : World) (hb : ∀ i, i < n → w.cell? ⟨b, off + i, none⟩ = some (.int .u8 ((gt xs i : Nat) : Int))) (hn : xs.length = n) (hc : n ≤ c) (hm : c ≤ maxLen) (hmin : m = min n 40) :
    Calls Tryz.prog 15 #[.slice (some ⟨b, off, none⟩) n c] w fun e w' => e = .returned (.string ⟨(u8s (xs.take m)).toArray⟩) ∧ w = w' := by
  unfold maxLen at hm
  have hm1 : min (n : Int) 40 = (m : Int) := by omega
  have hm2 : m ≤ c := by omega
  have hl : ((xs.take m).map fun v : Nat => (v : Int)).length = m := by simp; omega
  have hcv := fun dst hd => run_convert_bytes_arg (P := Tryz.prog) w 22 5 Tryz.underlying22 Tryz.underlying5 b off m c ((xs.take m).map fun v : Nat => (v : Int)) hl (fun j hj => by
    rw [hb j (by omega)]
    have h1 : j < xs.length := by omega
    simp [gt, List.getD, h1, hj]) dst hd
  have hc2 := hcv 24 Tryz.underlying24
  rw [nums_u8s] at hc2
  generalize (⟨(u8s (xs.take m)).toArray⟩ : ByteArray) = str at hc2
  clear hb hn hcv hl hmin
  go_enter Tryz.func15, Tryz.ntmps15
  go_wp2
  go_ret
  exact ⟨rfl, rfl⟩
end Go.Proofs.YtoadjhmehgkeaaaGreatDoor
namespace Go.Proofs.YtoadjhmehgkeaaaGreatDoor
open Go.RowKit Mth

theorem vs_left (b : Nat) (xs : List Nat) (off m : Nat) : vs b xs off (m + 1) = gt xs off + b * vs b xs (off + 1) m := by
  rw [Nat.add_comm m 1, vs_split]; simp [vs]

def DipInv (xs zs : List Nat) (off n y j r : Nat) : Prop := Wrote xs zs off n ∧ Dg W64 zs ∧ r < y ∧ (∀ i, i < off + j → gt zs i = gt xs i) ∧ vs W64 xs (off + j) (n - j) = y * vs W64 zs (off + j) (n - j) + r
theorem DipInv.next {xs zs : List Nat} {off n y j r : Nat} (h : DipInv xs zs off n y (j + 1) r) (hd : Dg W64 xs) (hj : j < n) (hx : off + n ≤ xs.length) :
    DipInv xs (zs.set (off + j) ((r * W64 + gt zs (off + j)) / y)) off n y j ((r * W64 + gt zs (off + j)) % y) := by
  obtain ⟨h1, h2, h3, h4, h5⟩ := h
  have hl : off + j < zs.length := by rw [h1.len]; omega
  have hy : 0 < y := by omega
  rw [h4 (off + j) (by omega)]
  have hxj := hd (off + j)
  have hq : (r * W64 + gt xs (off + j)) / y < W64 := by
    rw [Nat.div_lt_iff_lt_mul hy]
    have h6 : (r + 1) * W64 ≤ y * W64 := Nat.mul_le_mul_right _ h3
    rw [Nat.add_mul] at h6
    rw [Nat.mul_comm W64]
    omega
  have hdm := Nat.div_add_mod (r * W64 + gt xs (off + j)) y
  have hr := Nat.mod_lt (r * W64 + gt xs (off + j)) hy
  generalize (r * W64 + gt xs (off + j)) / y = q at *
  generalize (r * W64 + gt xs (off + j)) % y = r' at *
  refine ⟨h1.step (by omega) (by omega) (by omega), h2.set hq, hr, fun i hi => ?_, ?_⟩
  · rw [gt_set hl, if_neg (by omega)]; exact h4 i (by omega)
  · rw [show n - j = (n - (j + 1)) + 1 from by omega, vs_left, vs_left, gt_set hl, if_pos rfl]
    rw [vs_congr (xs := zs.set (off + j) q) (ys := zs) (off' := off + j + 1) (fun i hi => by rw [gt_set hl, if_neg (by omega)])]
    rw [show off + j + 1 = off + (j + 1) from by omega, h5, Nat.mul_add, Nat.mul_add]
    rw [Nat.mul_left_comm y W64]
    rw [Nat.mul_comm W64 r]
    omega

/-- What divideInPlace leaves. -/
def Dived (xs zs : List Nat) (off n y r : Nat) : Prop := Wrote xs zs off n ∧ Dg W64 zs ∧ r < y ∧ vs W64 xs off n = y * vs W64 zs off n + r

theorem divideInPlace_any (b off n c y : Nat) (xs : List Nat) (w : World) (hb : Blk .u64 96 w b xs) (hn : off + n ≤ xs.length) (hd : Dg W64 xs) (hm : n ≤ 1099511627776) (hy : 0 < y) (hy2 : y < W64) :
    Calls Tryz.prog 88 #[.slice (some ⟨b, off, none⟩) n c, .int .u64 (y : Int)] w fun e w' => ∃ r zs, e = .returned (.int .u64 ((r : Nat) : Int)) ∧ Blk .u64 96 w' b zs ∧ w.grownBy w' (some b) ∧ Dived xs zs off n y r := by
  have hy0 : DipInv xs xs off n y n 0 := ⟨Wrote.refl _ _ _, hd, hy, fun _ _ => rfl, by simp [vs]⟩
  have HI0 := Lib.hid hy0
  clear hy0
  go_enter Tryz.func88, Tryz.ntmps88
  go_wp2
  go_loopw [5, 6] (fun v i wr => ∃ (j r : Nat) (zs : List Nat), j ≤ n ∧ i = .int .i64 ((j : Int) - 1) ∧ v = .int .u64 r ∧ Blk .u64 96 wr b zs ∧ w.grownBy wr (some b) ∧ Hid (DipInv xs zs off n y j r)) (fun _ i _ => (intOf i + 1).toNat)
  case atStart => exact ⟨n, 0, xs, Nat.le_refl _, rfl, rfl, hb, World.grownBy.refl _ _, HI0⟩
  case round =>
    obtain ⟨j, r, zs, hj, rfl, rfl, hbz, hg, HI⟩ := hrel
    rcases j with _ | j
    · have hi := HI.out
      go_wp2
      go_ret
      exact ⟨r, zs, rfl, hbz, hg, hi.1, hi.2.1, hi.2.2.1, hi.2.2.2.2⟩
    · rw [show (((j + 1 : Nat) : Int) - 1) = (j : Int) from by omega]
      have hlz : zs.length = xs.length := HI.out.1.len
      have hcell : wr.cell? ⟨b, off + j, none⟩ = some (.int .u64 ((gt zs (off + j) : Nat) : Int)) := hbz.cell (by omega)
      have HNX := Lib.hid (HI.out.next hd (by omega) hn)
      have hr := HI.out.2.2.1
      have hx := HI.out.2.1 (off + j)
      have HL := Lib.hid hlz
      clear HI hlz
      go_wp2_with fail
      refine (div64_any r (gt zs (off + j)) y _ hx hr hy2).mono ?_
      rintro e w' ⟨rfl, k, rfl⟩
      obtain ⟨q, hq⟩ : ∃ q, q = (r * W64 + gt zs (off + j)) / y := ⟨_, rfl⟩
      obtain ⟨r', hr'⟩ : ∃ r', r' = (r * W64 + gt zs (off + j)) % y := ⟨_, rfl⟩
      rw [show D64Val r (gt zs (off + j)) y = .tuple #[.int .u64 (q : Int), .int .u64 (r' : Int)] from by unfold D64Val; rw [hq, hr']]
      rw [← hq, ← hr'] at HNX
      clear hq hr'
      have hbz' : Blk .u64 96 (wr.drewN k) b zs := hbz
      have hg' : w.grownBy (wr.drewN k) (some b) := gr_trans hg (gr_drewN _ _ none) (.inr rfl) (.inl rfl)
      have hcell' : (wr.drewN k).cell? ⟨b, off + j, none⟩ = some (.int .u64 ((gt zs (off + j) : Nat) : Int)) := hcell
      have hfr : (wr.drewN k).frozen? ⟨b, off + j, none⟩ = false := hbz.frozen _
      generalize wr.drewN k = wk at *
      clear hcell
      go_wp2
      refine ⟨⟨j, r', _, by omega, rfl, rfl, hbz'.set _ _, gr_trans hg' (gr_set _ _ _ _) (.inr rfl) (.inr (.inl rfl)), HNX⟩, ?_⟩
      simp [intOf]

theorem cmpU64_any (x y : Nat) (w : World) :
    Calls Tryz.prog 157 #[.int .u64 (x : Int), .int .u64 (y : Int)] w fun e w' => e = .returned (.int .i64 (cmpN x y)) ∧ w = w' := by
  rcases Nat.lt_trichotomy x y with h | h | h
  · have hc : cmpN x y = -1 := by unfold cmpN; rw [if_pos h]
    have HC := Lib.hid hc
    clear hc
    go_enter Tryz.func157, Tryz.ntmps157
    go_wp2
    go_ret
    exact ⟨by rw [HC.out]; rfl, rfl⟩
  · have hc : cmpN x y = 0 := by unfold cmpN; rw [if_neg (by omega), if_neg (by omega)]
    have HC := Lib.hid hc
    subst h
    clear hc
    go_enter Tryz.func157, Tryz.ntmps157
    go_wp2
    go_ret
    exact ⟨by rw [HC.out]; rfl, rfl⟩
  · have hc : cmpN x y = 1 := by unfold cmpN; rw [if_neg (by omega), if_pos h]
    have HC := Lib.hid hc
    clear hc
    go_enter Tryz.func157, Tryz.ntmps157
    go_wp2
    go_ret
    exact ⟨by rw [HC.out]; rfl, rfl⟩

theorem cmpN_digit {x y a b P : Nat} (ha : a < P) (hb : b < P) : cmpN (a + P * x) (b + P * y) = if x = y then cmpN a b else cmpN x y := by
  unfold cmpN
  rcases Nat.lt_trichotomy x y with h | h | h
  · have h1 : P * (x + 1) ≤ P * y := Nat.mul_le_mul_left _ h
    rw [Nat.mul_add] at h1
    rw [if_neg (show ¬ x = y by omega), if_pos (by omega), if_pos h]
  · subst h; rw [if_pos rfl]
    split <;> split <;> (try split) <;> omega
  · have h1 : P * (y + 1) ≤ P * x := Nat.mul_le_mul_left _ h
    rw [Nat.mul_add] at h1
    rw [if_neg (show ¬ x = y by omega), if_neg (by omega), if_pos (by omega), if_neg (by omega), if_pos h]
/-- Numbers whose digits from j on are equal are compared by the digit below. -/
theorem cmpN_vs {xs ys : List Nat} {o1 o2 n j : Nat} (hx : Dg W64 xs) (hy : Dg W64 ys) (hj : j < n) (he : ∀ i, j < i → i < n → gt xs (o1 + i) = gt ys (o2 + i)) (hne : gt xs (o1 + j) ≠ gt ys (o2 + j)) :
    cmpN (vs W64 xs o1 n) (vs W64 ys o2 n) = cmpN (gt xs (o1 + j)) (gt ys (o2 + j)) := by
  obtain ⟨m, rfl⟩ : ∃ m, n = j + (m + 1) := ⟨n - (j + 1), by omega⟩
  rw [vs_split W64 xs o1 j (m + 1), vs_split W64 ys o2 j (m + 1), cmpN_digit (vs_lt hx) (vs_lt hy), vs_left, vs_left]
  rw [vs_congr (xs := ys) (ys := xs) (off := o2 + j + 1) (off' := o1 + j + 1) (n := m) (fun i hi => by rw [Nat.add_assoc, Nat.add_assoc, Nat.add_assoc, Nat.add_assoc]; exact (he (j + (1 + i)) (by omega) (by omega)).symm)]
  generalize vs W64 xs (o1 + j + 1) m = T
  generalize gt xs (o1 + j) = x at *
  generalize gt ys (o2 + j) = y at *
  generalize W64 * T = S
  rw [if_neg (by omega)]
  unfold cmpN
  rcases Nat.lt_or_gt_of_ne hne with h | h
  · rw [if_pos (by omega), if_pos (by omega)]
  · rw [if_neg (by omega), if_pos (by omega), if_neg (by omega), if_pos (by omega)]

theorem compare_ne (b1 o1 n1 c1 b2 o2 n2 c2 : Nat) (xs ys : List Nat) (w : World) (hd : Dg W64 xs) (hd2 : Dg W64 ys) (ht1 : n1 = 0 ∨ gt xs (o1 + (n1 - 1)) ≠ 0) (ht2 : n2 = 0 ∨ gt ys (o2 + (n2 - 1)) ≠ 0) (hne : n1 ≠ n2) :
    Calls Tryz.prog 130 #[.slice (some ⟨b1, o1, none⟩) n1 c1, .slice (some ⟨b2, o2, none⟩) n2 c2] w fun e w' => e = .returned (.int .i64 (cmpN (vs W64 xs o1 n1) (vs W64 ys o2 n2))) ∧ w = w' := by
  have hge : ∀ {zs : List Nat} {o n m : Nat}, (n = 0 ∨ gt zs (o + (n - 1)) ≠ 0) → m < n → W64 ^ m ≤ vs W64 zs o n := by
    intro zs o n m ht hm
    obtain ⟨k, rfl⟩ : ∃ k, n = k + 1 := ⟨n - 1, by omega⟩
    have h1 : gt zs (o + k) ≠ 0 := by rcases ht with h | h; omega; simpa using h
    simp only [vs]
    have h2 : W64 ^ k * 1 ≤ W64 ^ k * gt zs (o + k) := Nat.mul_le_mul_left _ (by omega)
    have h3 : W64 ^ m ≤ W64 ^ k := Nat.pow_le_pow_right W64_pos (by omega)
    omega
  have h1 := vs_lt (off := o1) (n := n1) hd
  have h2 := vs_lt (off := o2) (n := n2) hd2
  have hc : Lib.compareInt (n1 : Int) (n2 : Int) = cmpN (vs W64 xs o1 n1) (vs W64 ys o2 n2) := by
    unfold Lib.compareInt cmpN
    rcases Nat.lt_or_gt_of_ne hne with h | h
    · have h3 := hge ht2 h
      rw [if_pos (by omega), if_pos (by omega)]
    · have h3 := hge ht1 h
      rw [if_neg (by omega), if_pos (by omega), if_neg (by omega), if_pos (by omega)]
  have HC := Lib.hid hc
  have hb : ((n1 : Int) != (n2 : Int)) = true := by rw [bne_iff_ne]; omega
  clear hc hge h1 h2 hne
  go_enter Tryz.func130, Tryz.ntmps130
  go_wp2_with fail
  refine (Tryz.cmp_Compare_int _ _ _).mono ?_
  rintro e w' ⟨rfl, rfl⟩
  go_wp2
  go_ret
  exact ⟨by rw [← HC.out]; rfl, rfl⟩

theorem quiet_add_left {P : Program} {f : FuncId} {args : Array Value} {w : World} {a n : Nat} {v : Value}
    (h : Calls P f args (w.drewN (a + n)) fun e w' => e = .returned v ∧ w.drewN (a + n) = w') :
    Calls P f args (w.drewN (a + n)) fun e w'' => e = .returned v ∧ ∃ m, w'' = w.drewN (a + m) :=
  h.mono fun _ _ ⟨he, hm⟩ => ⟨he, n, hm.symm⟩
/-- wr is w, but for draws. -/
def Qt (w wr : World) : Prop := ∃ k, wr = w.drewN k
theorem Qt.refl (w : World) : Qt w w := ⟨0, rfl⟩
theorem Qt.more {w wr : World} (h : Qt w wr) (n : Nat) : Qt w (wr.drewN n) := by obtain ⟨k, rfl⟩ := h; exact ⟨k + n, World.drewN_drewN _ _ _⟩
theorem Qt.gr {w wr : World} (h : Qt w wr) (r : Option Nat) : w.grownBy wr r := by obtain ⟨k, rfl⟩ := h; exact gr_drewN _ _ _

theorem compare_eq (b1 o1 n c1 b2 o2 c2 : Nat) (xs ys : List Nat) (w : World) (hb1 : Blk .u64 96 w b1 xs) (hn1 : o1 + n ≤ xs.length) (hb2 : Blk .u64 96 w b2 ys) (hn2 : o2 + n ≤ ys.length) (hd : Dg W64 xs) (hd2 : Dg W64 ys) (hm : n ≤ 1099511627776) :
    Calls Tryz.prog 130 #[.slice (some ⟨b1, o1, none⟩) n c1, .slice (some ⟨b2, o2, none⟩) n c2] w fun e w' => e = .returned (.int .i64 (cmpN (vs W64 xs o1 n) (vs W64 ys o2 n))) ∧ Qt w w' := by
  have hb : ((n : Int) != (n : Int)) = false := by rw [bne_eq_false_iff_eq]
  go_enter Tryz.func130, Tryz.ntmps130
  go_wp2
  go_loopw [5] (fun i wr => ∃ (j : Nat), j ≤ n ∧ i = .int .i64 ((j : Int) - 1) ∧ Qt w wr ∧ Hid (∀ i, j ≤ i → i < n → gt xs (o1 + i) = gt ys (o2 + i))) (fun i _ => (intOf i + 1).toNat)
  case atStart => exact ⟨n, Nat.le_refl _, rfl, Qt.refl _, fun i h1 h2 => by omega⟩
  case round =>
    obtain ⟨j, hj, rfl, hqt, HE⟩ := hrel
    have hb1r := hb1.kept (hqt.gr none) (by simp)
    have hb2r := hb2.kept (hqt.gr none) (by simp)
    rcases j with _ | j
    · have hv : cmpN (vs W64 xs o1 n) (vs W64 ys o2 n) = 0 := by
        rw [vs_congr (ys := ys) (off' := o2) (fun i hi => HE.out i (Nat.zero_le _) hi)]
        unfold cmpN; rw [if_neg (by omega), if_neg (by omega)]
      have HV := Lib.hid hv
      clear hv
      go_wp2
      go_ret
      exact ⟨by rw [HV.out]; rfl, hqt⟩
    · rw [show (((j + 1 : Nat) : Int) - 1) = (j : Int) from by omega]
      obtain ⟨x, hx⟩ : ∃ x, x = gt xs (o1 + j) := ⟨_, rfl⟩
      obtain ⟨y, hy⟩ : ∃ y, y = gt ys (o2 + j) := ⟨_, rfl⟩
      have hcx : wr.cell? ⟨b1, o1 + j, none⟩ = some (.int .u64 (x : Int)) := by rw [hx]; exact hb1r.cell (by omega)
      have hcy : wr.cell? ⟨b2, o2 + j, none⟩ = some (.int .u64 (y : Int)) := by rw [hy]; exact hb2r.cell (by omega)
      have hjn : (j : Int) < (n : Int) := by omega
      have hj0 : (0 : Int) ≤ (j : Int) := by omega
      have HX := Lib.hid hx
      have HY := Lib.hid hy
      clear hx hy
      by_cases he : x = y
      · have hbx : ((x : Int) != (y : Int)) = false := by rw [bne_eq_false_iff_eq, he]
        have HE2 := Lib.hid he
        clear he
        go_wp2
        go_quiet (fail)
        go_wp2
        refine ⟨⟨j, by omega, rfl, hqt.more _, fun i h1 h2 => ?_⟩, by simp [intOf]⟩
        by_cases e : i = j
        · rw [e, ← HX.out, ← HY.out]; exact HE2.out
        · exact HE.out i (by omega) h2
      · have hbx : ((x : Int) != (y : Int)) = true := by rw [bne_iff_ne]; omega
        go_wp2
        go_quiet (fail)
        go_wp2
        go_quiet ((go_at_call 157; exact quiet_add_left (cmpU64_any _ _ _)))
        go_wp2
        have hv : cmpN (vs W64 xs o1 n) (vs W64 ys o2 n) = cmpN x y := by
          rw [HX.out, HY.out]
          exact cmpN_vs hd hd2 (by omega) (fun i h1 h2 => HE.out i h1 h2) (by rw [← HX.out, ← HY.out]; exact he)
        go_ret
        exact ⟨by rw [hv]; rfl, (hqt.more _).more _⟩

theorem compare_any (b1 o1 n1 c1 b2 o2 n2 c2 : Nat) (xs ys : List Nat) (w : World) (hb1 : Blk .u64 96 w b1 xs) (hn1 : o1 + n1 ≤ xs.length) (hb2 : Blk .u64 96 w b2 ys) (hn2 : o2 + n2 ≤ ys.length) (hd : Dg W64 xs) (hd2 : Dg W64 ys) (hm : n1 ≤ 1099511627776)
    (ht1 : n1 = 0 ∨ gt xs (o1 + (n1 - 1)) ≠ 0) (ht2 : n2 = 0 ∨ gt ys (o2 + (n2 - 1)) ≠ 0) :
    Calls Tryz.prog 130 #[.slice (some ⟨b1, o1, none⟩) n1 c1, .slice (some ⟨b2, o2, none⟩) n2 c2] w fun e w' => e = .returned (.int .i64 (cmpN (vs W64 xs o1 n1) (vs W64 ys o2 n2))) ∧ Qt w w' := by
  by_cases h : n1 = n2
  · subst h; exact compare_eq b1 o1 n1 c1 b2 o2 c2 xs ys w hb1 hn1 hb2 hn2 hd hd2 hm
  · exact (compare_ne b1 o1 n1 c1 b2 o2 n2 c2 xs ys w hd hd2 ht1 ht2 h).mono fun _ _ ⟨h1, h2⟩ => ⟨h1, h2 ▸ Qt.refl _⟩

theorem gcdOfWords_any (x y : Nat) (w : World) (_hx : x < W64) (_hy : y < W64) :
    Calls Tryz.prog 87 #[.int .u64 (x : Int), .int .u64 (y : Int)] w fun e w' => e = .returned (.int .u64 ((Nat.gcd x y : Nat) : Int)) ∧ Qt w w' := by
  go_enter Tryz.func87, Tryz.ntmps87
  go_wp2
  go_loopw [0, 1] (fun u v wr => ∃ (a b : Nat), u = .int .u64 a ∧ v = .int .u64 b ∧ Qt w wr ∧ Hid (Nat.gcd a b = Nat.gcd x y)) (fun _ v _ => (intOf v).toNat)
  case atStart => exact ⟨x, y, rfl, rfl, Qt.refl _, rfl⟩
  case round =>
    obtain ⟨a, b, rfl, rfl, hqt, HG⟩ := hrel
    rcases Nat.eq_zero_or_pos b with h | h
    · subst h
      go_wp2
      go_ret
      exact ⟨by rw [← HG.out, Nat.gcd_zero_right]; rfl, hqt⟩
    · have hb0 : ((b : Int) == 0) = false := by rw [beq_eq_false_iff_ne]; omega
      have hlt := Nat.mod_lt a h
      obtain ⟨r, hr⟩ : ∃ r, r = a % b := ⟨_, rfl⟩
      have hw : (a : Int) % (b : Int) = (r : Int) := by rw [hr, Int.natCast_emod]
      rw [← hr] at hlt
      have HR := Lib.hid hr
      clear hr
      go_wp2
      go_quiet (fail)
      go_wp2
      refine ⟨⟨b, r, rfl, by rw [hw], hqt.more _, ?_⟩, by rw [hw]; simp [intOf]; omega⟩
      show _ = _
      rw [← HG.out, HR.out, Nat.gcd_comm b, ← Nat.gcd_rec, Nat.gcd_comm]
end Go.Proofs.YtoadjhmehgkeaaaGreatDoor
namespace Go.Proofs.YtoadjhmehgkeaaaGreatDoor
open Go.RowKit Mth

theorem zeroCells_int (k : IntKind) (n : Nat) : (Builtin.zeroCells (Value.int k 0).cells n).toList = cellsOf k (List.replicate n 0) := by
  simp only [Builtin.zeroCells, Value.cells, cellsOf]
  apply List.ext_getElem
  · simp
  · intro i h1 h2
    simp [Nat.mod_one]

/-- A slice that the call owns: nil, or the head of a block of numbers. -/
def Own (k : IntKind) (e : TypeId) (w : World) (v : Value) (n : Nat) (zs : List Nat) : Prop :=
  (v = .slice none 0 0 ∧ n = 0 ∧ zs = []) ∨ (∃ g, v = .slice (some ⟨g, 0, none⟩) n zs.length ∧ Blk k e w g zs ∧ n ≤ zs.length ∧ zs.length ≤ maxLen)
theorem Own.nil (k : IntKind) (e : TypeId) (w : World) : Own k e w (.slice none 0 0) 0 [] := .inl ⟨rfl, rfl, rfl⟩
theorem Own.kept {k : IntKind} {e : TypeId} {w w' : World} {v : Value} {n : Nat} {zs : List Nat} {r : Option Nat} (h : Own k e w v n zs) (hg : w.grownBy w' r) (hne : v.ownBlock = none ∨ v.ownBlock ≠ r) : Own k e w' v n zs := by
  rcases h with h | ⟨g, rfl, hb, h1, h2⟩
  · exact .inl h
  · exact .inr ⟨g, rfl, hb.kept hg (by simpa [Value.ownBlock] using hne), h1, h2⟩

/-- What append leaves: the n old numbers, the m new ones. -/
structure Apped (zs us xs : List Nat) (n m off : Nat) : Prop where
  old : ∀ i, i < n → gt us i = gt zs i
  new : ∀ i, i < m → gt us (n + i) = gt xs (off + i)
  rest : ∀ i, gt us i = 0 ∨ (∃ j, gt us i = gt zs j) ∨ (∃ j, gt us i = gt xs j)

theorem apped_grow {zs xs : List Nat} {n m off r : Nat} (hn : n ≤ zs.length) (hm : off + m ≤ xs.length) : Apped zs (zs.take n ++ (xs.drop off).take m ++ List.replicate r 0) xs n m off := by
  have h1 : (zs.take n).length = n := by simp; omega
  have h2 : ((xs.drop off).take m).length = m := by simp; omega
  have h3 : (zs.take n ++ (xs.drop off).take m).length = n + m := by rw [List.length_append, h1, h2]
  refine ⟨fun i hi => ?_, fun i hi => ?_, fun i => ?_⟩
  · rw [gt_append_left (by omega), gt_append_left (by omega), gt_take hi]
  · rw [gt_append_left (by omega), gt_append_right (by omega), h1, Nat.add_sub_cancel_left, gt_take hi, gt_drop]
  · by_cases ha : i < n
    · right; left; exact ⟨i, by rw [gt_append_left (by omega), gt_append_left (by omega), gt_take ha]⟩
    · by_cases hb : i < n + m
      · right; right; exact ⟨off + (i - n), by rw [gt_append_left (by omega), gt_append_right (by omega), h1, gt_take (by omega), gt_drop]⟩
      · left; rw [gt_append_right (by omega)]; simp [gt, List.getD, List.getElem?_replicate]; split <;> rfl
theorem apped_room {zs xs : List Nat} {n m off : Nat} (hn : n + m ≤ zs.length) (hm : off + m ≤ xs.length) : Apped zs (zs.take n ++ (xs.drop off).take m ++ zs.drop (n + m)) xs n m off := by
  have h1 : (zs.take n).length = n := by simp; omega
  have h2 : ((xs.drop off).take m).length = m := by simp; omega
  have h3 : (zs.take n ++ (xs.drop off).take m).length = n + m := by rw [List.length_append, h1, h2]
  refine ⟨fun i hi => ?_, fun i hi => ?_, fun i => ?_⟩
  · rw [gt_append_left (by omega), gt_append_left (by omega), gt_take hi]
  · rw [gt_append_left (by omega), gt_append_right (by omega), h1, Nat.add_sub_cancel_left, gt_take hi, gt_drop]
  · by_cases ha : i < n
    · right; left; exact ⟨i, by rw [gt_append_left (by omega), gt_append_left (by omega), gt_take ha]⟩
    · by_cases hb : i < n + m
      · right; right; exact ⟨off + (i - n), by rw [gt_append_left (by omega), gt_append_right (by omega), h1, gt_take (by omega), gt_drop]⟩
      · right; left; exact ⟨n + m + (i - (n + m)), by rw [gt_append_right (by omega), h3, gt_drop]⟩
theorem Apped.dg {zs us xs : List Nat} {n m off b : Nat} (h : Apped zs us xs n m off) (hb : 0 < b) (h1 : Dg b zs) (h2 : Dg b xs) : Dg b us := by
  intro i
  rcases h.rest i with h | ⟨j, h⟩ | ⟨j, h⟩
  · rw [h]; exact hb
  · rw [h]; exact h1 j
  · rw [h]; exact h2 j

theorem run_append_blk {P : Program} {w : World} (k : IntKind) (e : TypeId) (t ty : TypeId) (i : TypeInfo) (bytes : Nat) (ht : P.underlying t = some (.slice e)) (hi : P.info? e = some i) (hz : i.zero = some (.int k 0)) (hsize : i.size = 1) (hby : i.bytes = bytes)
    (v : Value) (n : Nat) (zs : List Nat) (hown : Own k e w v n zs) (b off m c : Nat) (xs : List Nat) (hcell : ∀ j, j < m → w.cell? ⟨b, off + j, none⟩ = some (.int k ((gt xs (off + j) : Nat) : Int))) (hm : off + m ≤ xs.length) (hm0 : 0 < m)
    (h63 : n + m ≤ maxLen) (hbytes : (n + m) * bytes ≤ 140737488355328) :
    ∃ v' w' us, (Builtin.append_ #[t, t] ty #[v, .slice (some ⟨b, off, none⟩) m c]).run P w = .ok v' w' ∧ Own k e w' v' (n + m) us ∧ w.grownBy w' v.ownBlock ∧ Apped zs us xs n m off ∧ (v'.ownBlock = v.ownBlock ∨ ∃ g, v'.ownBlock = some g ∧ w.heap.size ≤ g) := by
  have hsmall : n + m ≤ 9223372036854775807 := by simp only [maxLen] at h63; omega
  have hnl : (cellsOf k ((xs.drop off).take m)).length = m := by rw [length_cellsOf]; simp; omega
  have hl : (cellsOf k ((xs.drop off).take m)).length = m * i.size := by rw [hsize, hnl, Nat.mul_one]
  have hnews : ∀ j u, (cellsOf k ((xs.drop off).take m))[j]? = some u → w.cell? ((⟨b, off, none⟩ : Addr).add j) = some u := by
    intro j u hu
    have hj : j < m := by have := (List.getElem?_eq_some_iff.1 hu).1; omega
    rw [Addr.add_lit, hcell j hj]
    rw [cellsOf_get k _ _ (by simp; omega), gt_take hj, gt_drop] at hu
    exact hu
  have hone : ∀ u ∈ cellsOf k ((xs.drop off).take m), u.oneCell' = true := by
    intro u hu
    simp only [cellsOf, List.mem_map] at hu
    obtain ⟨_, _, rfl⟩ := hu
    rfl
  have hzc : ∀ q, (Builtin.zeroCells (Value.int k 0).cells q) = (cellsOf k (List.replicate q 0)).toArray := fun q => by rw [← zeroCells_int, Array.toArray_toList]
  rcases hown with ⟨rfl, rfl, rfl⟩ | ⟨g, rfl, hb, hn, hmx⟩
  · have hr := run_append_nil (P := P) w t ty e i (.int k 0) ht hi hz ⟨b, off, none⟩ m c _ hl hnews hm0 (by omega) (by rw [hby]; simp only [Nat.zero_add] at hbytes; omega)
    have hge := grownCap_ge w m 0 e
    refine ⟨_, _, (xs.drop off).take m ++ List.replicate (grownCap w m 0 e - m) 0, hr, .inr ⟨w.heap.size, ?_, ?_, ?_, ?_⟩, ⟨rfl, rfl, rfl, by simp, fun k hk _ => heap_alloc_old w.drew _ hk⟩, ?_, .inr ⟨w.heap.size, rfl, Nat.le_refl _⟩⟩
    · simp; congr 1; omega
    · unfold Blk
      rw [hzc]
      refine (heap_alloc_new w.drew _).trans ?_
      simp [cellsOf]
    · simp; omega
    · have := grownCap_le_maxLen w m 0 e (by omega)
      simp; omega
    · have := apped_grow (zs := []) (xs := xs) (n := 0) (m := m) (off := off) (r := grownCap w m 0 e - m) (Nat.le_refl _) hm
      simpa using this
  · have hnz : (cellsOf k (zs.take n)).length = n * i.size := by rw [hsize, length_cellsOf]; simp; omega
    by_cases hroom : n + m ≤ zs.length
    · have hr := run_append_room (P := P) w t ty e i ht hi g n zs.length (cellsOf k zs).toArray hb ⟨b, off, none⟩ m c _ hl hnews hone hroom (by rw [hsize, hnl]; simp [length_cellsOf]; omega)
      have hcells : (((cellsOf k zs).toArray.toList.take (n * i.size) ++ cellsOf k ((xs.drop off).take m) ++ (cellsOf k zs).toArray.toList.drop (n * i.size + (cellsOf k ((xs.drop off).take m)).length)).toArray) = (cellsOf k (zs.take n ++ (xs.drop off).take m ++ zs.drop (n + m))).toArray := by
        rw [hsize, hnl, Nat.mul_one]; simp [cellsOf, List.map_take, List.map_drop]
      rw [hcells] at hr
      have hlen : (zs.take n ++ (xs.drop off).take m ++ zs.drop (n + m)).length = zs.length := by simp; omega
      refine ⟨_, _, zs.take n ++ (xs.drop off).take m ++ zs.drop (n + m), hr, .inr ⟨g, by rw [hlen], setRow_heap w g _ _ e _ hb, by rw [hlen]; exact hroom, by rw [hlen]; exact hmx⟩, ⟨rfl, rfl, rfl, by simp, fun k _ hk => setRow_other w g k _ (fun e => hk (by simp [Value.ownBlock, e]))⟩, apped_room hroom hm, .inl rfl⟩
    · have holds : ∀ j u, (cellsOf k (zs.take n))[j]? = some u → w.cell? ((⟨g, 0, none⟩ : Addr).add j) = some u := by
        intro j u hu
        have hj : j < n := by have := (List.getElem?_eq_some_iff.1 hu).1; rw [length_cellsOf] at this; simp at this; omega
        rw [Addr.add_lit, Nat.zero_add, hb.cell (by omega)]
        rw [cellsOf_get k _ _ (by simp; omega), gt_take hj] at hu
        exact hu
      have hr := run_append_grow (P := P) w t ty e i (.int k 0) ht hi hz ⟨g, 0, none⟩ n zs.length (cellsOf k (zs.take n)) hnz holds ⟨b, off, none⟩ m c _ hl hnews (by omega) (by omega) (growslice_fits (by omega) (by rw [hby]; exact hbytes))
      have hge := grownCap_ge w (n + m) zs.length e
      refine ⟨_, _, zs.take n ++ (xs.drop off).take m ++ List.replicate (grownCap w (n + m) zs.length e - (n + m)) 0, hr, .inr ⟨w.heap.size, ?_, ?_, ?_, ?_⟩, ⟨rfl, rfl, rfl, by simp, fun k hk _ => heap_alloc_old w.drew _ hk⟩, apped_grow hn hm, .inr ⟨w.heap.size, rfl, Nat.le_refl _⟩⟩
      · simp; congr 1; omega
      · unfold Blk
        rw [hzc]
        refine (heap_alloc_new w.drew _).trans ?_
        simp [cellsOf]
      · simp; omega
      · have := grownCap_le_maxLen w (n + m) zs.length e h63
        simp; omega

theorem wpList_append_blk {P : Program} {w : World} {ops : Array Oper} {rest : List Oper} {o : Oper} {a : Act} {Q : Exit → Act → World → Prop} (hgd : o.guard = none) (s x : Operand) (t : TypeId)
    (ho : o.op = .call { callee := .builtin .append, args := #[s, x], argTypes := #[t, t] })
    (k : IntKind) (e : TypeId) (i : TypeInfo) (bytes : Nat) (ht : P.underlying t = some (.slice e)) (hi : P.info? e = some i) (hz : i.zero = some (.int k 0)) (hsize : i.size = 1) (hby : i.bytes = bytes)
    (v : Value) (n : Nat) (zs : List Nat) (hs : a.eval s = v) (hown : Own k e w v n zs) (b off m c : Nat) (xs : List Nat) (hx : a.eval x = .slice (some ⟨b, off, none⟩) m c)
    (hcell : ∀ j, j < m → w.cell? ⟨b, off + j, none⟩ = some (.int k ((gt xs (off + j) : Nat) : Int))) (hm : off + m ≤ xs.length) (hm0 : 0 < m)
    (h63 : n + m ≤ maxLen) (hbytes : (n + m) * bytes ≤ 140737488355328)
    (h : ∀ v' w' us, Own k e w' v' (n + m) us → w.grownBy w' v.ownBlock → Apped zs us xs n m off → (v'.ownBlock = v.ownBlock ∨ ∃ g, v'.ownBlock = some g ∧ w.heap.size ≤ g) → wpList P ops Q rest (a.put o.dst v') w') : wpList P ops Q (o :: rest) a w := by
  refine wpList_plain hgd fun K hK => ?_
  obtain ⟨v', w', us, hr, h2, h3, h4, h5⟩ := run_append_blk (P := P) (w := w) k e t o.type i bytes ht hi hz hsize hby v n zs hown b off m c xs hcell hm hm0 h63 hbytes
  unfold Oper.wp execOp
  simp only [ho, resolve, invoke, builtin, Sem.run_bind, Sem.run_pure, Result.andThen_ok, List.map_toArray, List.map_cons, List.map_nil, hs, hx, hr]
  exact hK _ _ (h v' w' us h2 h3 h4 h5)
end Go.Proofs.YtoadjhmehgkeaaaGreatDoor
namespace Go.Proofs.YtoadjhmehgkeaaaGreatDoor
open Go.RowKit Mth

theorem clone_any (b off n c : Nat) (xs : List Nat) (w : World) (hb : Blk .u64 96 w b xs) (hn : off + n ≤ xs.length) (hm : n ≤ 1099511627776) (hn0 : 0 < n) (hd : Dg W64 xs) :
    Calls Tryz.prog 131 #[.slice (some ⟨b, off, none⟩) n c] w fun e w' => ∃ g us, e = .returned (.slice (some ⟨g, 0, none⟩) n us.length) ∧ w.heap.size ≤ g ∧ Blk .u64 96 w' g us ∧ n ≤ us.length ∧ us.length ≤ maxLen ∧ w.grownBy w' none ∧ Dg W64 us ∧ (∀ i, i < n → gt us i = gt xs (off + i)) := by
  obtain ⟨i0, hi, hz0, hz1, hz2⟩ := info_parts infoW
  have hnil := fun (w : World) (a : Addr) (n c : Nat) => Lib.run_eql_slice_nil (P := Tryz.prog) w 81 96 (some a) n c 0 0 Tryz.underlying81
  go_enter Tryz.func131, Tryz.ntmps131
  have hempty : Blk .u64 96 (w.alloc (.cells #[] 96)) w.heap.size [] := by unfold Blk; rw [heap_alloc_new]; simp [cellsOf]
  have hb1 := hb.alloc (.cells #[] 96)
  have hown0 : Own .u64 96 (w.alloc (.cells #[] 96)) (.slice (some ⟨w.heap.size, 0, none⟩) 0 0) 0 [] := .inr ⟨w.heap.size, rfl, hempty, Nat.le_refl _, by decide⟩
  have HO := Lib.hid hown0
  clear hown0 hempty
  go_wp2_with (at_builtin; refine wpList_append_blk rfl (.tmp 5) (.tmp 6) 81 rfl .u64 96 i0 8 Tryz.underlying81 hi hz0 hz1 hz2 _ 0 [] rfl HO.out b off n c xs rfl ?_ hn hn0 ?_ ?_ ?_)
  case refine_1 => intro j hj; exact hb1.cell (by omega)
  case refine_2 => unfold maxLen; omega
  case refine_3 => omega
  intro v' w1 us hown hg happ hblk
  rcases hown with ⟨_, h0, _⟩ | ⟨g, rfl, hbg, h1, h2⟩
  · omega
  have hge : w.heap.size ≤ g := by
    rcases hblk with h | ⟨g', h, h'⟩
    · simp only [Value.ownBlock, Option.some.injEq] at h; omega
    · simp only [Value.ownBlock, Option.some.injEq] at h
      have : (w.alloc (.cells #[] 96)).heap.size = w.heap.size + 1 := by simp
      omega
  have hdu : Dg W64 us := happ.dg W64_pos (fun i => by simp [gt]; exact W64_pos) hd
  have hnew := happ.new
  have HN := Lib.hid hnew
  clear hnew happ hi hz0 hz1 hz2 HO
  go_wp2
  go_ret
  refine ⟨g, us, rfl, hge, hbg, h1, h2, ?_, hdu, fun i hi => by have := HN.out i hi; rw [Nat.zero_add] at this; exact this⟩
  exact gr_new (gr_alloc w _ none) (by simpa [Value.ownBlock] using hg) (Nat.le_refl _)

/-- A slice of trimmed words with the value N. -/
structure NumAt (w : World) (g off m c : Nat) (xs : List Nat) (N : Nat) : Prop where
  blk : Blk .u64 96 w g xs
  fit : off + m ≤ xs.length
  dg : Dg W64 xs
  val : vs W64 xs off m = N
  top : m = 0 ∨ gt xs (off + (m - 1)) ≠ 0
  cap : m ≤ c
  max : c ≤ maxLen
  small : m ≤ 1099511627776
def Num (w : World) (v : Value) (N : Nat) : Prop := ∃ g off m c xs, v = .slice (some ⟨g, off, none⟩) m c ∧ NumAt w g off m c xs N
theorem NumAt.kept {w w' : World} {g off m c N : Nat} {xs : List Nat} (h : NumAt w g off m c xs N) {r : Option Nat} (hg : w.grownBy w' r) (hne : some g ≠ r) : NumAt w' g off m c xs N :=
  ⟨h.blk.kept hg hne, h.fit, h.dg, h.val, h.top, h.cap, h.max, h.small⟩
theorem Num.kept {w w' : World} {v : Value} {N : Nat} (h : Num w v N) (hg : w.grownBy w' none) : Num w' v N := by
  obtain ⟨g, off, m, c, xs, rfl, h⟩ := h
  exact ⟨g, off, m, c, xs, rfl, h.kept hg (by simp)⟩
theorem NumAt.of_words {w : World} {b : Nat} {xs : List Nat} {N : Nat} (hb : Blk .u64 96 w b xs) (hw : Words xs N) (hs : xs.length ≤ 1099511627776) : NumAt w b 0 xs.length xs.length xs N :=
  ⟨hb, by omega, hw.dg, hw.val, by rw [Nat.zero_add]; exact hw.top, Nat.le_refl _, by unfold maxLen; omega, hs⟩
theorem Num.of_words {w : World} {b : Nat} {xs : List Nat} {N : Nat} (hb : Blk .u64 96 w b xs) (hw : Words xs N) (hs : xs.length ≤ 1099511627776) : Num w (.slice (some ⟨b, 0, none⟩) xs.length xs.length) N :=
  ⟨b, 0, _, _, xs, rfl, .of_words hb hw hs⟩

theorem trimmed_num (b off n c : Nat) (xs : List Nat) (w : World) (hb : Blk .u64 96 w b xs) (hn : off + n ≤ xs.length) (hd : Dg W64 xs) (hc : n ≤ c) (hm : c ≤ maxLen) (hs : n ≤ 1099511627776) :
    Calls Tryz.prog 125 #[.slice (some ⟨b, off, none⟩) n c] w fun e w' => (∃ m, e = .returned (.slice (some ⟨b, off, none⟩) m c) ∧ NumAt w b off m c xs (vs W64 xs off n)) ∧ w = w' := by
  refine (trimmed_any b off n c xs w hb hn hc hm).mono ?_
  rintro e w' ⟨⟨m, rfl, hmn, hz, htop⟩, rfl⟩
  refine ⟨⟨m, rfl, hb, by omega, hd, ?_, htop, by omega, hm, by omega⟩, rfl⟩
  obtain ⟨k, rfl⟩ : ∃ k, n = m + k := ⟨n - m, by omega⟩
  rw [vs_split, vs_zero (n := k) (fun i hi => by rw [Nat.add_assoc]; exact hz _ (by omega) (by omega))]; simp

theorem trimmed_nil (w : World) : Calls Tryz.prog 125 #[.slice none 0 0] w fun e w' => e = .returned (.slice none 0 0) ∧ w = w' := by
  go_enter Tryz.func125, Tryz.ntmps125
  go_wp2
  go_loop [0] (fun v => v = .slice none 0 0) (fun _ => 0)
  case atStart => rfl
  case round =>
    subst hrel
    go_wp2
    go_ret
    exact ⟨rfl, rfl⟩
theorem natOf_nil (w : World) : Calls Tryz.prog 73 #[.slice none 0 0] w fun e w' => e = .returned (.string ⟨#[]⟩) ∧ w = w' := by
  go_enter Tryz.func73, Tryz.ntmps73
  go_wp2_with fail
  refine (trimmed_nil _).mono ?_
  rintro e w' ⟨rfl, rfl⟩
  go_wp2
  go_ret
  exact ⟨rfl, rfl⟩
/-- A quotient: a number, or nil for 0. -/
def NumQ (w : World) (v : Value) (N : Nat) : Prop := (v = .slice none 0 0 ∧ N = 0) ∨ Num w v N
theorem natOf_num (v : Value) (N : Nat) (w : World) (h : NumQ w v N) :
    Calls Tryz.prog 73 #[v] w fun e w' => e = .returned (.string ⟨(enc N).toArray⟩) ∧ w.grownBy w' none := by
  rcases h with ⟨rfl, rfl⟩ | ⟨g, off, m, c, xs, rfl, h⟩
  · refine (natOf_nil w).mono ?_
    rintro e w' ⟨rfl, rfl⟩
    exact ⟨by rw [enc_zero], World.grownBy.refl _ _⟩
  · have := natOf_any g off m c xs w h.blk h.fit h.dg h.cap h.max h.small
    rwa [h.val] at this

/-- What divide returns. -/
def DivOut (w w' : World) (e : Ending) (N M : Nat) : Prop := ∃ q r, e = .returned (.tuple #[q, r]) ∧ NumQ w' q (N / M) ∧ Num w' r (N % M) ∧ w.grownBy w' none

theorem divide_less (b1 o1 n1 c1 b2 o2 n2 c2 N M : Nat) (xs ys : List Nat) (w : World) (h1 : NumAt w b1 o1 n1 c1 xs N) (h2 : NumAt w b2 o2 n2 c2 ys M) (hlt : N < M) :
    Calls Tryz.prog 82 #[.slice (some ⟨b1, o1, none⟩) n1 c1, .slice (some ⟨b2, o2, none⟩) n2 c2] w fun e w' => DivOut w w' e N M := by
  have hc : cmpN (vs W64 xs o1 n1) (vs W64 ys o2 n2) = -1 := by rw [h1.val, h2.val]; unfold cmpN; rw [if_pos hlt]
  have HC := Lib.hid hc
  have H1 := Lib.hid h1
  have HLT := Lib.hid hlt
  clear hc hlt
  go_enter Tryz.func82, Tryz.ntmps82
  go_wp2_with fail
  refine (compare_any b1 o1 n1 c1 b2 o2 n2 c2 xs ys w h1.blk h1.fit h2.blk h2.fit h1.dg h2.dg h1.small h1.top h2.top).mono ?_
  rintro e w1 ⟨rfl, hq1⟩
  rw [HC.out]
  go_wp2
  go_ret2
  refine ⟨.slice none 0 0, .slice (some ⟨b1, o1, none⟩) n1 c1, rfl, .inl ⟨rfl, Nat.div_eq_of_lt HLT.out⟩, ⟨b1, o1, n1, c1, xs, rfl, ?_⟩, hq1.gr none⟩
  rw [Nat.mod_eq_of_lt HLT.out]
  exact H1.out.kept (hq1.gr none) (by simp)

/-- What divide returns for a divisor of one word. -/
theorem divide_one (b1 o1 n1 c1 b2 o2 c2 N y : Nat) (xs ys : List Nat) (w : World) (h1 : NumAt w b1 o1 n1 c1 xs N) (h2 : NumAt w b2 o2 1 c2 ys y) (hle : y ≤ N) :
    Calls Tryz.prog 82 #[.slice (some ⟨b1, o1, none⟩) n1 c1, .slice (some ⟨b2, o2, none⟩) 1 c2] w fun e w' => DivOut w w' e N y := by
  have hyv : gt ys o2 = y := by have := h2.val; simpa [vs] using this
  have hy0 : 0 < y := by have := h2.top; simp at this; omega
  have hcmp : cmpN (vs W64 xs o1 n1) (vs W64 ys o2 1) = cmpN N y := by rw [h1.val, h2.val]
  obtain ⟨cc, hcc⟩ : ∃ cc, cmpN N y = cc := ⟨_, rfl⟩
  have hc0 : decide (cc < 0) = false := by rw [decide_eq_false_iff_not, ← hcc]; unfold cmpN; rw [if_neg (by omega)]; split <;> omega
  have hc1 : ¬ cc < 0 := of_decide_eq_false hc0
  have HC := Lib.hid (hcmp.trans hcc)
  have hyW : y < W64 := hyv ▸ h2.dg o2
  have hpos : 0 < n1 := by
    rcases Nat.eq_zero_or_pos n1 with h | h
    · have := h1.val; rw [h] at this; simp [vs] at this; omega
    · exact h
  have hsm := h1.small
  have hcell2 : w.cell? ⟨b2, o2, none⟩ = some (.int .u64 (y : Int)) := by rw [h2.blk.cell (by have := h2.fit; omega), hyv]
  clear hcc hcmp hle hyv
  go_enter Tryz.func82, Tryz.ntmps82
  go_wp2_with fail
  refine (compare_any b1 o1 n1 c1 b2 o2 1 c2 xs ys w h1.blk h1.fit h2.blk h2.fit h1.dg h2.dg h1.small h1.top h2.top).mono ?_
  rintro e w1 ⟨rfl, hq1⟩
  rw [HC.out]
  have hcell2' : w1.cell? ⟨b2, o2, none⟩ = some (.int .u64 (y : Int)) := by obtain ⟨k, rfl⟩ := hq1; exact hcell2
  have hb' := h1.blk.kept (hq1.gr none) (by simp)
  go_wp2_with fail
  refine (clone_any b1 o1 n1 c1 xs w1 hb' h1.fit hsm hpos h1.dg).mono ?_
  rintro e w2 ⟨g, us, rfl, hge, hbg, hlu, hmu, hg2, hdu, heq⟩
  have hval : vs W64 us 0 n1 = N := by rw [← h1.val]; exact vs_congr (fun i hi => by rw [Nat.zero_add]; exact heq i hi)
  have HVAL := Lib.hid hval
  have hcell3 : w2.cell? ⟨b2, o2, none⟩ = some (.int .u64 (y : Int)) := hg2.cell hcell2' (by simp)
  clear heq hval
  go_wp2_with fail
  refine (divideInPlace_any g 0 n1 us.length y us w2 hbg (by omega) hdu hsm hy0 hyW).mono ?_
  rintro e w3 ⟨r, zs, rfl, hbz, hg3, hdv⟩
  obtain ⟨d1, d2, d3, d4⟩ := hdv
  rw [HVAL.out] at d4
  have hlz : zs.length = us.length := d1.len
  have hq : vs W64 zs 0 n1 = N / y := by
    have := Nat.div_mod_unique hy0 (a := N) (d := vs W64 zs 0 n1) (c := r)
    exact (this.2 ⟨by omega, d3⟩).1.symm
  have hr : r = N % y := by
    have := Nat.div_mod_unique hy0 (a := N) (d := vs W64 zs 0 n1) (c := r)
    exact (this.2 ⟨by omega, d3⟩).2.symm
  have HQ := Lib.hid hq
  have HR := Lib.hid hr
  have hfit : 0 + n1 ≤ zs.length := by omega
  have hg3b := hg3
  clear d4 hq hr hlz d1
  go_wp2_with fail
  refine (trimmed_num g 0 n1 us.length zs _ (hbz.alloc _) hfit d2 hlu hmu hsm).mono ?_
  rintro e w4 ⟨⟨m, rfl, hm4⟩, rfl⟩
  go_wp2_with fail
  refine (trimmed_num w3.heap.size 0 1 1 [r] _ (blk_one w3 .u64 96 r) (by simp) (dg_one (by omega)) (Nat.le_refl _) (by decide) (by omega)).mono ?_
  rintro e w5 ⟨⟨m', rfl, hm5⟩, rfl⟩
  rw [HQ.out] at hm4
  rw [vs_one, HR.out] at hm5
  have HM4 := Lib.hid hm4
  have HM5 := Lib.hid hm5
  clear hm4 hm5
  go_wp2
  go_ret2
  refine ⟨.slice (some ⟨g, 0, none⟩) m us.length, .slice (some ⟨w3.heap.size, 0, none⟩) m' 1, rfl, .inr ⟨g, 0, m, us.length, zs, rfl, ?_⟩, ⟨w3.heap.size, 0, m', 1, [r], rfl, ?_⟩, ?_⟩
  · rw [← HR.out] at *; exact HM4.out
  · have := HM5.out
    rw [← HR.out] at this ⊢
    exact this
  · have := (hq1.gr none)
    exact gr_then (gr_new (gr_then this hg2) hg3b (by have := (hq1.gr none).size; omega)) (gr_alloc _ _ _)
end Go.Proofs.YtoadjhmehgkeaaaGreatDoor
namespace Go.Proofs.YtoadjhmehgkeaaaGreatDoor
open Go.RowKit Mth

theorem NumAt.len_one {w : World} {g off m c N : Nat} {xs : List Nat} (h : NumAt w g off m c xs N) (h0 : 0 < N) (h1 : N < W64) : m = 1 := by
  have hm0 : m ≠ 0 := by intro e; have := h.val; rw [e] at this; simp [vs] at this; omega
  rcases Nat.lt_or_ge 1 m with h2 | h2
  · obtain ⟨k, rfl⟩ : ∃ k, m = k + 1 := ⟨m - 1, by omega⟩
    have h3 : gt xs (off + k) ≠ 0 := by rcases h.top with h | h; omega; simpa using h
    have h4 := h.val
    simp only [vs] at h4
    have h5 : W64 ^ k * 1 ≤ W64 ^ k * gt xs (off + k) := Nat.mul_le_mul_left _ (by omega)
    have h6 : W64 ^ 1 ≤ W64 ^ k := Nat.pow_le_pow_right W64_pos (by omega)
    rw [Nat.pow_one] at h6
    omega
  · omega
theorem divide_num (v1 v2 : Value) (N M : Nat) (w : World) (h1 : Num w v1 N) (h2 : Num w v2 M) (h0 : 0 < M) (hs : N < M ∨ M < W64) :
    Calls Tryz.prog 82 #[v1, v2] w fun e w' => DivOut w w' e N M := by
  obtain ⟨g1, o1, m1, c1, xs, rfl, h1⟩ := h1
  obtain ⟨g2, o2, m2, c2, ys, rfl, h2⟩ := h2
  rcases Nat.lt_or_ge N M with h | h
  · exact divide_less g1 o1 m1 c1 g2 o2 m2 c2 N M xs ys w h1 h2 h
  · have hM : M < W64 := by omega
    obtain rfl := h2.len_one h0 hM
    exact divide_one g1 o1 m1 c1 g2 o2 c2 N M xs ys w h1 h2 h

theorem quo_any (s t : ByteArray) (w : World) (hs : s.size ≤ 1000000000000) (ht : t.size ≤ 1000000000000) (h0 : 0 < num t.data.toList) (hsm : num s.data.toList < num t.data.toList ∨ num t.data.toList < W64) :
    Calls Tryz.prog 26 #[.string s, .string t] w fun e w' => e = .returned (.tuple #[.string ⟨(enc (num s.data.toList / num t.data.toList)).toArray⟩, .string ⟨(enc (num s.data.toList % num t.data.toList)).toArray⟩, .bool true]) ∧ w.grownBy w' none := by
  have H0 := Lib.hid h0
  have HS := Lib.hid hsm
  clear h0 hsm
  go_enter Tryz.func26, Tryz.ntmps26
  go_wp2_with fail
  refine (wordsOf_any t w (by omega)).mono ?_
  rintro e w1 ⟨b1, ys, rfl, hlt1, hb1, hg1, hw1, hsz1⟩
  have hpos : 0 < ys.length := by
    rcases Nat.eq_zero_or_pos ys.length with h | h
    · have := words_nil hw1 h; have := H0.out; omega
    · exact h
  have hb0 : ((ys.length : Int) == 0) = false := by rw [beq_eq_false_iff_ne]; omega
  go_wp2_with fail
  refine (wordsOf_any s w1 (by omega)).mono ?_
  rintro e w2 ⟨b2, xs, rfl, hlt2, hb2, hg2, hw2, hsz2⟩
  have hn1 := (Num.of_words hb1 hw1 (by omega)).kept hg2
  have hn2 := Num.of_words hb2 hw2 (by omega)
  have HN1 := Lib.hid hn1
  have HN2 := Lib.hid hn2
  clear hn1 hn2
  go_wp2_with fail
  refine (divide_num _ _ _ _ w2 HN2.out HN1.out H0.out HS.out).mono ?_
  rintro e w3 ⟨q, r, rfl, hq, hr, hg3⟩
  have HQ := Lib.hid hq
  have HR := Lib.hid hr
  clear hq hr
  go_wp2_with fail
  refine (natOf_num q _ w3 HQ.out).mono ?_
  rintro e w4 ⟨rfl, hg4⟩
  go_wp2_with fail
  refine (natOf_num r _ w4 (.inr (HR.out.kept hg4))).mono ?_
  rintro e w5 ⟨rfl, hg5⟩
  generalize hsq : (⟨(enc (num s.data.toList / num t.data.toList)).toArray⟩ : ByteArray) = sq
  generalize hsr : (⟨(enc (num s.data.toList % num t.data.toList)).toArray⟩ : ByteArray) = sr
  have HSQ := Lib.hid hsq
  have HSR := Lib.hid hsr
  clear hsq hsr
  go_wp2
  go_ret3
  refine ⟨?_, gr_then hg1 (gr_then hg2 (gr_then hg3 (gr_then hg4 hg5)))⟩
  rw [HSQ.out, HSR.out]; rfl
end Go.Proofs.YtoadjhmehgkeaaaGreatDoor
