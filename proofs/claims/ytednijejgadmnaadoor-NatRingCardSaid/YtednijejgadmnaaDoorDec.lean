/- Plain lemmas: decimal numerals, group for group. -/
import Derived.Test.YtednijejgadmnaaDoorBuild
import Derived.Lib.Repeat
namespace Go.Proofs.YtednijejgadmnaaDoor
open Mth Go.Lib

/-- The last k decimal digits. -/
def pad : Nat → Nat → List UInt8
  | 0, _ => []
  | k + 1, r => pad k (r / 10) ++ [UInt8.ofNat (48 + r % 10)]
theorem decDigits_pad {q : Nat} (hq : 1 ≤ q) : ∀ (k r : Nat), r < 10 ^ k → decDigits (r + 10 ^ k * q) = decDigits q ++ pad k r
  | 0, r, h => by
    have : r = 0 := by simpa using h
    subst this; simp [pad]
  | k + 1, r, h => by
    have hp : 1 ≤ 10 ^ k := Nat.one_le_pow _ _ (by decide)
    rw [Nat.pow_succ] at h ⊢
    have hmul : 10 ^ k * 10 * q = 10 * (10 ^ k * q) := by rw [Nat.mul_comm (10 ^ k) 10, Nat.mul_assoc]
    have hk : 1 ≤ 10 ^ k * q := Nat.mul_pos hp hq
    rw [decDigits, dif_neg (by omega), hmul]
    rw [show (r + 10 * (10 ^ k * q)) / 10 = r / 10 + 10 ^ k * q from by omega, show (r + 10 * (10 ^ k * q)) % 10 = r % 10 from by omega]
    rw [decDigits_pad hq k (r / 10) (by omega), pad, List.append_assoc]
theorem pad_zero : ∀ k, pad k 0 = List.replicate k 48
  | 0 => rfl
  | k + 1 => by rw [pad, Nat.zero_div, pad_zero k, List.replicate_succ']; rfl
theorem pad_dec : ∀ (k r : Nat), 1 ≤ k → r < 10 ^ k → pad k r = List.replicate (k - nDigits r) 48 ++ decDigits r
  | 0, r, h1, h => by omega
  | k + 1, r, h1, h => by
    by_cases hr : r < 10
    · rw [pad, show r / 10 = 0 from by omega, pad_zero, decDigits_one hr, nDigits_small hr, show r % 10 = r from by omega]; rfl
    · have hk : 1 ≤ k := by
        rcases k with _ | k
        · simp at h; omega
        · omega
      rw [Nat.pow_succ] at h
      have hu : decDigits r = decDigits (r / 10) ++ [UInt8.ofNat (48 + r % 10)] := by rw [decDigits, dif_neg hr]
      rw [pad, pad_dec k (r / 10) hk (by omega), nDigits_big hr, hu, show k + 1 - (nDigits (r / 10) + 1) = k - nDigits (r / 10) from by omega, List.append_assoc]
theorem nDigits_le_of_lt : ∀ (k r : Nat), 1 ≤ k → r < 10 ^ k → nDigits r ≤ k
  | 0, r, h1, h => by omega
  | k + 1, r, h1, h => by
    by_cases hr : r < 10
    · rw [nDigits_small hr]; omega
    · have hk : 1 ≤ k := by
        rcases k with _ | k
        · simp at h; omega
        · omega
      rw [Nat.pow_succ] at h
      rw [nDigits_big hr]
      have := nDigits_le_of_lt k (r / 10) hk (by omega)
      omega
/-- The text of the d + 1 highest of m groups. -/
def tx (gs : List Nat) (m : Nat) : Nat → List UInt8
  | 0 => decDigits (gt gs (m - 1))
  | d + 1 => tx gs m d ++ (List.replicate (19 - nDigits (gt gs (m - 2 - d))) 48 ++ decDigits (gt gs (m - 2 - d)))
theorem tx_eq (gs : List Nat) (m : Nat) (hd : ∀ i, i < m → gt gs i < B19) (ht : gt gs (m - 1) ≠ 0) (hm : 0 < m) : ∀ d, d < m → tx gs m d = decDigits (vs B19 gs (m - 1 - d) (d + 1)) ∧ 0 < vs B19 gs (m - 1 - d) (d + 1)
  | 0, h => by
    have : vs B19 gs (m - 1 - 0) (0 + 1) = gt gs (m - 1) := by simp [vs]
    rw [this]
    exact ⟨rfl, by omega⟩
  | d + 1, h => by
    obtain ⟨h1, h2⟩ := tx_eq gs m hd ht hm d (by omega)
    have hi := hd (m - 2 - d) (by omega)
    have hv := vs_left B19 gs (m - 2 - d) (d + 1)
    rw [show m - 2 - d + 1 = m - 1 - d from by omega] at hv
    rw [tx, h1, show m - 1 - (d + 1) = m - 2 - d from by omega, hv]
    rw [show B19 = 10 ^ 19 from by decide] at *
    rw [decDigits_pad h2 19 _ hi, pad_dec 19 _ (by decide) hi]
    refine ⟨rfl, ?_⟩
    have := Nat.mul_pos (show 0 < 10 ^ 19 from by decide) h2
    omega
theorem tx_all {gs : List Nat} {m : Nat} (hd : ∀ i, i < m → gt gs i < B19) (ht : gt gs (m - 1) ≠ 0) (hm : 0 < m) : tx gs m (m - 1) = decDigits (vs B19 gs 0 m) := by
  have := (tx_eq gs m hd ht hm (m - 1) (by omega)).1
  rw [show m - 1 - (m - 1) = 0 from by omega, show m - 1 + 1 = m from by omega] at this
  exact this
theorem tx_length {gs : List Nat} {m : Nat} (hd : ∀ i, i < m → gt gs i < B19) : ∀ d, d < m → (tx gs m d).length ≤ 19 * (d + 1)
  | 0, h => by
    rw [tx, decDigits_length]
    have := nDigits_le_of_lt 19 _ (by decide) (by rw [← show B19 = 10 ^ 19 from by decide]; exact hd (m - 1) (by omega))
    omega
  | d + 1, h => by
    have h1 := tx_length hd d (by omega)
    have := nDigits_le_of_lt 19 _ (by decide) (by rw [← show B19 = 10 ^ 19 from by decide]; exact hd (m - 2 - d) (by omega))
    simp only [tx, List.length_append, List.length_replicate, decDigits_length]
    omega
end Go.Proofs.YtednijejgadmnaaDoor
