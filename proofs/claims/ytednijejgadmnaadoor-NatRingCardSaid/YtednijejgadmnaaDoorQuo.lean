/- The contracts of nat.divide and nat.Quo for a divisor that is greater or has one word; nat.Gcd of numbers of one word. -/
import Derived.Test.YtednijejgadmnaaDoorDiv
namespace Go.Proofs.YtednijejgadmnaaDoor
open Go.RowKit Mth

theorem NumAt.len_one {w : World} {g off m c N : Nat} {xs : List Nat} (h : NumAt w g off m c xs N) (h0 : 0 < N) (h1 : N < W64) : m = 1 := by
  have hm0 : m ≠ 0 := by intro e; have := h.val; rw [e] at this; simp [vs] at this; omega
  rcases Nat.lt_or_ge 1 m with h2 | h2
  · obtain ⟨k, rfl⟩ : ∃ k, m = k + 1 := ⟨m - 1, by omega⟩
    have h3 : gt xs (off + k) ≠ 0 := by rcases h.top with h | h; omega; simpa using h
    have h4 := h.val
    simp only [vs] at h4
    have h5 : W64 ^ k * 1 ≤ W64 ^ k * gt xs (off + k) := Nat.mul_le_mul_left _ (by omega)
    have h6 : W64 ^ 1 ≤ W64 ^ k := Nat.pow_le_pow_right W64_pos (by omega)
    rw [Nat.pow_one] at h6
    omega
  · omega
theorem divide_num (v1 v2 : Value) (N M : Nat) (w : World) (h1 : Num w v1 N) (h2 : Num w v2 M) (h0 : 0 < M) (hs : N < M ∨ M < W64) :
    Calls Tryd.prog 39 #[v1, v2] w fun e w' => DivOut w w' e N M := by
  obtain ⟨g1, o1, m1, c1, xs, rfl, h1⟩ := h1
  obtain ⟨g2, o2, m2, c2, ys, rfl, h2⟩ := h2
  rcases Nat.lt_or_ge N M with h | h
  · exact divide_less g1 o1 m1 c1 g2 o2 m2 c2 N M xs ys w h1 h2 h
  · have hM : M < W64 := by omega
    obtain rfl := h2.len_one h0 hM
    exact divide_one g1 o1 m1 c1 g2 o2 c2 N M xs ys w h1 h2 h

theorem quo_any (s t : ByteArray) (w : World) (hs : s.size ≤ 1000000000000) (ht : t.size ≤ 1000000000000) (h0 : 0 < num t.data.toList) (hsm : num s.data.toList < num t.data.toList ∨ num t.data.toList < W64) :
    Calls Tryd.prog 23 #[.string s, .string t] w fun e w' => e = .returned (.tuple #[.string ⟨(enc (num s.data.toList / num t.data.toList)).toArray⟩, .string ⟨(enc (num s.data.toList % num t.data.toList)).toArray⟩, .bool true]) ∧ w.grownBy w' none := by
  have H0 := Lib.hid h0
  have HS := Lib.hid hsm
  clear h0 hsm
  go_enter Tryd.func23, Tryd.ntmps23
  go_wp2_with fail
  refine (wordsOf_any t w (by omega)).mono ?_
  rintro e w1 ⟨b1, ys, rfl, hlt1, hb1, hg1, hw1, hsz1⟩
  have hpos : 0 < ys.length := by
    rcases Nat.eq_zero_or_pos ys.length with h | h
    · have := words_nil hw1 h; have := H0.out; omega
    · exact h
  have hb0 : ((ys.length : Int) == 0) = false := by rw [beq_eq_false_iff_ne]; omega
  go_wp2_with fail
  refine (wordsOf_any s w1 (by omega)).mono ?_
  rintro e w2 ⟨b2, xs, rfl, hlt2, hb2, hg2, hw2, hsz2⟩
  have hn1 := (Num.of_words hb1 hw1 (by omega)).kept hg2
  have hn2 := Num.of_words hb2 hw2 (by omega)
  have HN1 := Lib.hid hn1
  have HN2 := Lib.hid hn2
  clear hn1 hn2
  go_wp2_with fail
  refine (divide_num _ _ _ _ w2 HN2.out HN1.out H0.out HS.out).mono ?_
  rintro e w3 ⟨q, r, rfl, hq, hr, hg3⟩
  have HQ := Lib.hid hq
  have HR := Lib.hid hr
  clear hq hr
  go_wp2_with fail
  refine (natOf_num q _ w3 HQ.out).mono ?_
  rintro e w4 ⟨rfl, hg4⟩
  go_wp2_with fail
  refine (natOf_num r _ w4 (.inr (HR.out.kept hg4))).mono ?_
  rintro e w5 ⟨rfl, hg5⟩
  generalize hsq : (⟨(enc (num s.data.toList / num t.data.toList)).toArray⟩ : ByteArray) = sq
  generalize hsr : (⟨(enc (num s.data.toList % num t.data.toList)).toArray⟩ : ByteArray) = sr
  have HSQ := Lib.hid hsq
  have HSR := Lib.hid hsr
  clear hsq hsr
  go_wp2
  go_ret3
  refine ⟨?_, gr_then hg1 (gr_then hg2 (gr_then hg3 (gr_then hg4 hg5)))⟩
  rw [HSQ.out, HSR.out]; rfl
end Go.Proofs.YtednijejgadmnaaDoor
