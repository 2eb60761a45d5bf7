/- The contract of nat.Sub. -/
import Derived.Test.YtednijejgadmnaaDoorCmp
namespace Go.Proofs.YtednijejgadmnaaDoor
open Go.RowKit Mth

theorem Mth.Words.lt {xs : List Nat} {N : Nat} (h : Words xs N) : N < W64 ^ xs.length := by rw [← h.val]; exact vs_lt h.dg
theorem Mth.Words.ge {xs : List Nat} {N : Nat} (h : Words xs N) (hl : 0 < xs.length) : W64 ^ (xs.length - 1) ≤ N := by
  have ht : gt xs (xs.length - 1) ≠ 0 := by rcases h.top with h0 | h0; omega; exact h0
  rw [← h.val]
  obtain ⟨m, hm⟩ : ∃ m, xs.length = m + 1 := ⟨xs.length - 1, by omega⟩
  rw [hm] at ht ⊢
  simp only [Nat.add_sub_cancel] at ht ⊢
  simp only [vs, Nat.zero_add]
  have : W64 ^ m * 1 ≤ W64 ^ m * gt xs m := Nat.mul_le_mul_left _ (by omega)
  omega
theorem Mth.Words.len_le {xs ys : List Nat} {N M : Nat} (h : Words xs N) (g : Words ys M) (hle : M ≤ N) : ys.length ≤ xs.length := by
  rcases Nat.lt_or_ge xs.length ys.length with h1 | h1
  · have h2 := h.lt
    have h3 := g.ge (by omega)
    have h4 : W64 ^ xs.length ≤ W64 ^ (ys.length - 1) := Nat.pow_le_pow_right W64_pos (by omega)
    omega
  · exact h1

theorem sub_no (s t : ByteArray) (w : World) (h : num s.data.toList < num t.data.toList) :
    Calls Tryd.prog 20 #[.string s, .string t] w fun e w' => e = .returned (.tuple #[.string ⟨#[]⟩, .bool false]) ∧ w.grownBy w' none := by
  have hc : cmpN (num s.data.toList) (num t.data.toList) = -1 := by unfold cmpN; rw [if_pos h]
  have HC := Lib.hid hc
  clear hc h
  go_enter Tryd.func20, Tryd.ntmps20
  go_wp2_with fail
  refine (cmp_any s t _).mono ?_
  rintro e w' ⟨rfl, rfl⟩
  rw [HC.out]
  go_wp2
  go_ret2
  exact ⟨rfl, World.grownBy.refl _ _⟩

theorem sub_yes (s t : ByteArray) (w : World) (h : num t.data.toList ≤ num s.data.toList) (hs : s.size ≤ 1000000000000) (ht : t.size ≤ 1000000000000) :
    Calls Tryd.prog 20 #[.string s, .string t] w fun e w' => e = .returned (.tuple #[.string ⟨(enc (num s.data.toList - num t.data.toList)).toArray⟩, .bool true]) ∧ w.grownBy w' none := by
  obtain ⟨c, hc⟩ : ∃ c, cmpN (num s.data.toList) (num t.data.toList) = c := ⟨_, rfl⟩
  have hc0 : decide (c < 0) = false := by rw [decide_eq_false_iff_not, ← hc]; unfold cmpN; split; omega; split <;> omega
  have hc1 : ¬ c < 0 := of_decide_eq_false hc0
  have HC := Lib.hid hc
  have HLE := Lib.hid h
  clear hc h
  go_enter Tryd.func20, Tryd.ntmps20
  go_wp2_with fail
  refine (cmp_any s t _).mono ?_
  rintro e w' ⟨rfl, rfl⟩
  rw [HC.out]
  go_wp2_with fail
  refine (wordsOf_any s _ (by omega)).mono ?_
  rintro e w1 ⟨b1, xs, rfl, hlt1, hb1, hg1, hw1, hsz1⟩
  go_wp2_with fail
  refine (wordsOf_any t w1 (by omega)).mono ?_
  rintro e w2 ⟨b2, ys, rfl, hlt2, hb2, hg2, hw2, hsz2⟩
  have hb12 := hb1.lt
  go_wp2_with fail
  refine (subtractFrom_any b1 0 xs.length xs.length b2 0 ys.length ys.length xs ys w2 (hb1.kept hg2 (by simp)) (by omega) hw1.dg (by unfold maxLen; omega) hb2 (by omega) hw2.dg (by omega) (hw1.len_le hw2 HLE.out) (by rw [hw1.val, hw2.val]; exact HLE.out)).mono ?_
  rintro e w3 ⟨rfl, zs, hb3, hg3, hwr, hd3, hv3⟩
  rw [hw1.val, hw2.val] at hv3
  have hl3 := hwr.len
  have HL := Lib.hid hl3
  have hle : xs.length ≤ zs.length := by omega
  have hv : vs W64 zs 0 xs.length = num s.data.toList - num t.data.toList := by omega
  have HV := Lib.hid hv
  clear hl3 hv hv3 hwr
  go_wp2_with fail
  refine (natOf_any b1 0 xs.length xs.length zs w3 hb3 (by omega) hd3 (Nat.le_refl _) (by unfold maxLen; omega) (by omega)).mono ?_
  rintro e w4 ⟨rfl, hg4⟩
  go_wp2
  go_ret2
  refine ⟨by rw [HV.out]; rfl, ?_⟩
  exact gr_then (gr_new (gr_then hg1 hg2) hg3 hlt1) hg4

end Go.Proofs.YtednijejgadmnaaDoor
