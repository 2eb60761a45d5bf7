/- The contracts of nat.Int and of the reference's Canon and Made. -/
import Derived.Test.YtednijejgadmnaaDoorInts
namespace Go.Proofs.YtednijejgadmnaaDoor
open Go.RowKit Mth

theorem words_nil {xs : List Nat} {N : Nat} (h : Words xs N) (h0 : xs.length = 0) : N = 0 := by rw [← h.val, h0]; rfl
theorem words_one {xs : List Nat} {N : Nat} (h : Words xs N) (h1 : xs.length = 1) : gt xs 0 = N ∧ N < W64 := by
  have h2 := h.val
  have h3 := h.lt
  rw [h1] at h2 h3
  exact ⟨by simpa [vs] using h2, by simpa using h3⟩
theorem words_more {xs : List Nat} {N : Nat} (h : Words xs N) (h1 : 2 ≤ xs.length) : W64 ≤ N := by
  have h2 := h.ge (by omega)
  have h3 : W64 ^ 1 ≤ W64 ^ (xs.length - 1) := Nat.pow_le_pow_right W64_pos (by omega)
  rw [Nat.pow_one] at h3
  omega

theorem int_yes (s : ByteArray) (w : World) (hs : s.size ≤ 1000000000000) (h : num s.data.toList ≤ 9223372036854775807) :
    Calls Tryd.prog 13 #[.string s] w fun e w' => e = .returned (.tuple #[.int .i64 ((num s.data.toList : Nat) : Int), .bool true]) ∧ w.grownBy w' none := by
  have HN := Lib.hid h
  clear h
  go_enter Tryd.func13, Tryd.ntmps13
  go_wp2_with fail
  refine (wordsOf_any s w (by omega)).mono ?_
  rintro e w1 ⟨b1, xs, rfl, hlt1, hb1, hg1, hw1, hsz1⟩
  have hle : xs.length ≤ 1 := by
    rcases Nat.lt_or_ge 1 xs.length with h | h
    · have := words_more hw1 h; have := HN.out; rw [W64_eq] at *; omega
    · exact h
  rcases Nat.eq_zero_or_pos xs.length with h0 | h0
  · have hv := words_nil hw1 h0
    have HV := Lib.hid hv
    have h1 : ((xs.length : Int) == 0) = true := by simp [h0]
    clear hv h0
    go_wp2
    go_ret2
    exact ⟨by rw [HV.out]; rfl, hg1⟩
  · obtain h1 : xs.length = 1 := by omega
    obtain ⟨hv, hv2⟩ := words_one hw1 h1
    have hcell : w1.cell? ⟨b1, 0, none⟩ = some (.int .u64 ((num s.data.toList : Nat) : Int)) := by rw [hb1.cell (by omega), hv]
    have hn := HN.out
    have h2 : ((xs.length : Int) == 0) = false := by rw [h1]; rfl
    obtain ⟨N, hN⟩ : ∃ N, N = num s.data.toList := ⟨_, rfl⟩
    rw [← hN] at hcell hn
    have HE := Lib.hid hN
    clear h1 hv hv2 hw1 hN
    go_wp2
    go_ret2
    exact ⟨by rw [← HE.out]; rfl, hg1⟩
theorem int_no (s : ByteArray) (w : World) (hs : s.size ≤ 1000000000000) (h : 9223372036854775807 < num s.data.toList) :
    Calls Tryd.prog 13 #[.string s] w fun e w' => e = .returned (.tuple #[.int .i64 0, .bool false]) ∧ w.grownBy w' none := by
  have HN := Lib.hid h
  clear h
  go_enter Tryd.func13, Tryd.ntmps13
  go_wp2_with fail
  refine (wordsOf_any s w (by omega)).mono ?_
  rintro e w1 ⟨b1, xs, rfl, hlt1, hb1, hg1, hw1, hsz1⟩
  have hpos : 0 < xs.length := by
    rcases Nat.eq_zero_or_pos xs.length with h | h
    · have := words_nil hw1 h; have := HN.out; omega
    · exact h
  have h2 : ((xs.length : Int) == 0) = false := by rw [beq_eq_false_iff_ne]; omega
  rcases Nat.lt_or_ge 1 xs.length with h0 | h0
  · go_wp2
    go_ret2
    exact ⟨rfl, hg1⟩
  · obtain ⟨hv, hv2⟩ := words_one hw1 (by omega)
    have hcell : w1.cell? ⟨b1, 0, none⟩ = some (.int .u64 ((num s.data.toList : Nat) : Int)) := by rw [hb1.cell (by omega), hv]
    have hn := HN.out
    generalize num s.data.toList = N at hcell hn
    clear hv hv2 hw1
    go_wp2
    go_ret2
    exact ⟨rfl, hg1⟩

theorem drop_at {s : ByteArray} {i : Nat} (h : i < s.size) : s.data.toList.drop i = s[i] :: s.data.toList.drop (i + 1) := by
  rw [List.drop_eq_getElem_cons (by rw [len_toList]; exact h)]; rfl

theorem canon_any (s : ByteArray) (w : World) (hs : s.size ≤ 1000000000000) :
    Calls Tryd.prog 22 #[.string s] w fun e w' => e = .returned (.string ⟨(canon s.data.toList).toArray⟩) ∧ w = w' := by
  go_enter Tryd.func22, Tryd.ntmps22
  go_wp2
  go_loop [3] (fun v => ∃ i : Nat, i ≤ s.size ∧ v = .int .i64 i ∧ Hid (canon (s.data.toList.drop i) = canon s.data.toList)) (fun v => s.size - (intOf v).toNat)
  case atStart => exact ⟨0, Nat.zero_le _, rfl, rfl⟩
  case round =>
    obtain ⟨i, hi, rfl, HC⟩ := hrel
    go_wp2
    · have hlt : i < s.size := by assumption
      have h0 : ((s[i].toNat : Int) == 0) = true := by assumption
      have hz : s[i] = 0 := UInt8.toNat_inj.1 (by have := beq_iff_eq.1 h0; simpa using this)
      refine ⟨⟨i + 1, by omega, by go_num, ?_⟩, by simp [intOf]; omega⟩
      show canon _ = _
      rw [← HC.out, drop_at hlt, hz, canon, if_pos rfl]
    · have hlt : i < s.size := by assumption
      have h0 : ((s[i].toNat : Int) == 0) = false := by assumption
      have hz : s[i] ≠ 0 := by intro e; rw [e] at h0; simp at h0
      have hs2 : (⟨(canon s.data.toList).toArray⟩ : ByteArray) = s.extract i s.size := by
        apply toArray_eq
        rw [Lib.extract_to_end, ← HC.out, drop_at hlt, canon, if_neg hz]
      go_ret
      exact ⟨by rw [hs2]; rfl, rfl⟩
    · have hlt : ¬ i < s.size := by assumption
      have hs2 : (⟨(canon s.data.toList).toArray⟩ : ByteArray) = s.extract i s.size := by
        apply toArray_eq
        rw [Lib.extract_to_end, ← HC.out, List.drop_eq_nil_of_le (by rw [len_toList]; omega)]; rfl
      go_ret
      exact ⟨by rw [hs2]; rfl, rfl⟩

theorem made_nil (w : World) : Calls Tryd.prog 9 #[.slice none 0 0] w fun e w' => e = .returned (.string ⟨#[]⟩) ∧ w = w' := by
  have hcv := run_convert_bytes_nil (P := Tryd.prog) w 22 5 Tryd.underlying22 Tryd.underlying5 0 0 24 Tryd.underlying24
  have hmn : min (0 : Int) 40 = 0 := by decide
  go_enter Tryd.func9, Tryd.ntmps9
  go_wp2
  go_ret
  exact ⟨rfl, rfl⟩

theorem made_any (b off n m c : Nat) (xs : List Nat) (w : World) (hb : ∀ i, i < n → w.cell? ⟨b, off + i, none⟩ = some (.int .u8 ((gt xs i : Nat) : Int))) (hn : xs.length = n) (hc : n ≤ c) (hm : c ≤ maxLen) (hmin : m = min n 40) :
    Calls Tryd.prog 9 #[.slice (some ⟨b, off, none⟩) n c] w fun e w' => e = .returned (.string ⟨(u8s (xs.take m)).toArray⟩) ∧ w = w' := by
  unfold maxLen at hm
  have hm1 : min (n : Int) 40 = (m : Int) := by omega
  have hm2 : m ≤ c := by omega
  have hl : ((xs.take m).map fun v : Nat => (v : Int)).length = m := by simp; omega
  have hcv := fun dst hd => run_convert_bytes_arg (P := Tryd.prog) w 22 5 Tryd.underlying22 Tryd.underlying5 b off m c ((xs.take m).map fun v : Nat => (v : Int)) hl (fun j hj => by
    rw [hb j (by omega)]
    have h1 : j < xs.length := by omega
    simp [gt, List.getD, h1, hj]) dst hd
  have hc2 := hcv 24 Tryd.underlying24
  rw [nums_u8s] at hc2
  generalize (⟨(u8s (xs.take m)).toArray⟩ : ByteArray) = str at hc2
  clear hb hn hcv hl hmin
  go_enter Tryd.func9, Tryd.ntmps9
  go_wp2
  go_ret
  exact ⟨rfl, rfl⟩
end Go.Proofs.YtednijejgadmnaaDoor
