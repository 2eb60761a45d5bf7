/- Plain lemmas: the bytes of a number as nat.natOf writes them. -/
import Derived.Test.YtednijejgadmnaaDoorMthW
import Derived.Lib.ItoaNum
namespace Go.Proofs.YtednijejgadmnaaDoor
namespace Mth
open Go.Proofs

theorem bitLen_bounds {x : Nat} (h : x < W64) (h0 : x ≠ 0) : 1 ≤ Lib.bitLen x ∧ Lib.bitLen x ≤ 64 ∧ 2 ^ (Lib.bitLen x - 1) ≤ x ∧ x < 2 ^ Lib.bitLen x := by
  have hx : x < 2 ^ 64 := h
  obtain ⟨h1, h2, h3⟩ := Lib.bitLenAux_bounds 64 x hx h0
  exact ⟨h1, Lib.bitLen_le x 64 (Nat.le_refl _) hx, h2, h3⟩
/-- How many bytes a word has. -/
theorem byteLen {x : Nat} (h : x < W64) (h0 : x ≠ 0) : 1 ≤ (Lib.bitLen x + 7) / 8 ∧ (Lib.bitLen x + 7) / 8 ≤ 8 ∧ 256 ^ ((Lib.bitLen x + 7) / 8 - 1) ≤ x ∧ x < 256 ^ ((Lib.bitLen x + 7) / 8) := by
  obtain ⟨h1, h2, h3, h4⟩ := bitLen_bounds h h0
  refine ⟨by omega, by omega, ?_, ?_⟩
  · rw [show (256 : Nat) = 2 ^ 8 from rfl, ← Nat.pow_mul]
    exact Nat.le_trans (Nat.pow_le_pow_right (by decide) (by omega)) h3
  · rw [show (256 : Nat) = 2 ^ 8 from rfl, ← Nat.pow_mul]
    exact Nat.lt_of_lt_of_le h4 (Nat.pow_le_pow_right (by decide) (by omega))
/-- The bytes of a number N, L of them, the most significant one first. -/
def bytesN (L N : Nat) : List Nat := (List.range L).map fun i => N / 256 ^ (L - 1 - i) % 256
theorem length_bytesN (L N : Nat) : (bytesN L N).length = L := by simp [bytesN]
theorem gt_bytesN {L N i : Nat} (h : i < L) : gt (bytesN L N) i = N / 256 ^ (L - 1 - i) % 256 := by
  rw [gt_of_lt (by rw [length_bytesN]; exact h)]; simp [bytesN]
/-- The first i bytes of them are there. -/
def fillN (L N i : Nat) : List Nat := (List.range L).map fun j => if j < i then N / 256 ^ (L - 1 - j) % 256 else 0
theorem length_fillN (L N i : Nat) : (fillN L N i).length = L := by simp [fillN]
theorem fillN_zero (L N : Nat) : fillN L N 0 = List.replicate L 0 := by
  apply gt_ext
  · simp [fillN]
  · intro i hi
    rw [gt_of_lt hi, gt_of_lt (by simpa [fillN] using hi)]; simp [fillN]
theorem fillN_all (L N : Nat) : fillN L N L = bytesN L N := by
  simp only [fillN, bytesN]
  apply List.map_congr_left
  intro j hj
  rw [if_pos (List.mem_range.1 hj)]
theorem fillN_set {L N i v : Nat} (h : i < L) (hv : v = N / 256 ^ (L - 1 - i) % 256) : (fillN L N i).set i v = fillN L N (i + 1) := by
  subst hv
  apply gt_ext
  · simp [fillN]
  · intro j hj
    simp only [List.length_set, length_fillN] at hj
    rw [gt_set (by rw [length_fillN]; exact h)]
    rw [gt_of_lt (by rw [length_fillN]; exact hj), gt_of_lt (by rw [length_fillN]; exact hj)]
    simp only [fillN, List.getElem_map, List.getElem_range]
    split
    · rename_i e; subst e; rw [if_pos (by omega)]
    · by_cases h2 : j < i
      · rw [if_pos h2, if_pos (by omega)]
      · rw [if_neg h2, if_neg (by omega)]
/-- As bytes. -/
def u8s (xs : List Nat) : List UInt8 := xs.map UInt8.ofNat
theorem bytesN_succ (L N : Nat) : bytesN (L + 1) N = bytesN L (N / 256) ++ [N % 256] := by
  apply gt_ext
  · simp [length_bytesN]
  · intro i hi
    rw [length_bytesN] at hi
    rw [gt_bytesN hi]
    by_cases h : i < L
    · rw [gt_append_left (by rw [length_bytesN]; exact h), gt_bytesN h, Nat.div_div_eq_div_mul, show L + 1 - 1 - i = (L - 1 - i) + 1 from by omega, Nat.pow_succ, Nat.mul_comm]
    · obtain rfl : i = L := by omega
      rw [gt_append_right (by rw [length_bytesN]; omega), length_bytesN, Nat.sub_self]
      simp [gt]
theorem u8s_bytesN {L N : Nat} (h1 : 256 ^ (L - 1) ≤ N ∨ L = 0) (h2 : N < 256 ^ L) : u8s (bytesN L N) = enc N := by
  induction L generalizing N with
  | zero => simp at h2; subst h2; simp [bytesN, u8s, enc_zero]
  | succ L ih =>
    have h3 : 256 ^ L ≤ N := by rcases h1 with h | h; simpa using h; omega
    have hp : 0 < 256 ^ L := Nat.pow_pos (by decide)
    rw [bytesN_succ, enc_pos (by omega)]
    rw [show u8s (bytesN L (N / 256) ++ [N % 256]) = u8s (bytesN L (N / 256)) ++ [UInt8.ofNat (N % 256)] from by simp [u8s]]
    rw [ih ?_ ?_]
    · cases L with
      | zero => right; rfl
      | succ L =>
        left
        rw [Nat.pow_succ] at h3
        simp only [Nat.add_sub_cancel]
        omega
    · rw [Nat.pow_succ] at h2; omega
/-- Byte number p of a number, out of its words. -/
theorem byte_of_word {xs : List Nat} {N q r m off : Nat} (hd : Dg W64 xs) (hN : vs W64 xs off m = N) (hq : q < m) (hr : r < 8) : gt xs (off + q) / 256 ^ r % 256 = N / 256 ^ (8 * q + r) % 256 := by
  obtain ⟨k, rfl⟩ : ∃ k, m = q + 1 + k := ⟨m - (q + 1), by omega⟩
  have hN2 : N = vs W64 xs off q + W64 ^ q * (gt xs (off + q) + W64 * vs W64 xs (off + (q + 1)) k) := by
    rw [← hN, vs_split]
    simp only [vs]
    rw [Nat.mul_add, Nat.pow_succ, Nat.mul_assoc, Nat.add_assoc]
  have h1 : N / W64 ^ q = gt xs (off + q) + W64 * vs W64 xs (off + (q + 1)) k := by
    rw [hN2, Nat.add_mul_div_left _ _ (Nat.pow_pos W64_pos), Nat.div_eq_of_lt (vs_lt hd), Nat.zero_add]
  rw [Nat.pow_add, ← W64_pow, ← Nat.div_div_eq_div_mul, h1]
  have hW : W64 = 256 ^ r * (256 * 256 ^ (7 - r)) := by rw [← Nat.pow_succ', ← Nat.pow_add, show r + (7 - r).succ = 8 from by omega]; rfl
  rw [hW, Nat.mul_assoc, Nat.add_mul_div_left _ _ (Nat.pow_pos (by decide)), Nat.mul_assoc, Nat.add_mul_mod_self_left]
/-- A number whose greatest word is x at place m. -/
theorem top_bounds {xs : List Nat} {m x off : Nat} (hd : Dg W64 xs) (hx : gt xs (off + m) = x) (h0 : x ≠ 0) : 256 ^ (8 * m + (Lib.bitLen x + 7) / 8 - 1) ≤ vs W64 xs off (m + 1) ∧ vs W64 xs off (m + 1) < 256 ^ (8 * m + (Lib.bitLen x + 7) / 8) := by
  obtain ⟨h1, h2, h3, h4⟩ := byteLen (hx ▸ hd (off + m)) h0
  simp only [vs, hx]
  have hlt := vs_lt (off := off) (n := m) hd
  rw [W64_pow] at hlt ⊢
  constructor
  · rw [show 8 * m + (Lib.bitLen x + 7) / 8 - 1 = 8 * m + ((Lib.bitLen x + 7) / 8 - 1) from by omega, Nat.pow_add]
    exact Nat.le_trans (Nat.mul_le_mul_left _ h3) (Nat.le_add_left _ _)
  · rw [Nat.pow_add]
    have h5 : 256 ^ (8 * m) * (x + 1) ≤ 256 ^ (8 * m) * 256 ^ ((Lib.bitLen x + 7) / 8) := Nat.mul_le_mul_left _ h4
    rw [Nat.mul_add] at h5
    omega
end Mth
end Go.Proofs.YtednijejgadmnaaDoor
