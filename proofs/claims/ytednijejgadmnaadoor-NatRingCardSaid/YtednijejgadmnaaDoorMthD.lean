/- Plain lemmas: one digit of a long division by an estimate that is put right. -/
import Derived.Test.YtednijejgadmnaaDoorMthB
namespace Go.Proofs.YtednijejgadmnaaDoor
namespace Mth

/-- 2 to the power of 32. -/
def H32 : Nat := 4294967296
theorem H32_eq : H32 = 4294967296 := rfl
/-- What a division by Y = N1 * H32 + N0 of U * H32 + u comes to, where U < Y. -/
structure DigIn (Y N1 N0 U u : Nat) : Prop where
  y : Y = N1 * H32 + N0
  n0 : N0 < H32
  lo : 2147483648 ≤ N1
  hi : N1 < H32
  lt : U < Y
  u : u < H32
/-- The estimate q with its rest r. -/
structure DigInv (Y N1 U u q r : Nat) : Prop where
  eq : q * N1 + r = U
  ge : (U * H32 + u) / Y ≤ q
theorem DigIn.q_lt {Y N1 N0 U u : Nat} (h : DigIn Y N1 N0 U u) : (U * H32 + u) / Y < H32 := by
  have hY : 0 < Y := Nat.lt_of_le_of_lt (Nat.zero_le _) h.lt
  rw [Nat.div_lt_iff_lt_mul hY]
  have h1 : H32 * (U + 1) ≤ H32 * Y := Nat.mul_le_mul_left _ h.lt
  have := h.u
  rw [Nat.mul_add] at h1
  rw [Nat.mul_comm U]
  omega
theorem DigIn.init {Y N1 N0 U u : Nat} (h : DigIn Y N1 N0 U u) : DigInv Y N1 U u (U / N1) (U % N1) := by
  have hN : 0 < N1 := by have := h.lo; omega
  have hY : 0 < Y := Nat.lt_of_le_of_lt (Nat.zero_le _) h.lt
  refine ⟨by rw [Nat.mul_comm]; exact Nat.div_add_mod _ _, ?_⟩
  rw [Nat.le_div_iff_mul_le hN]
  have h1 : (U * H32 + u) / Y * Y ≤ U * H32 + u := Nat.div_mul_le_self _ _
  generalize (U * H32 + u) / Y = q at *
  have h2 : q * N1 * H32 ≤ q * Y := by rw [h.y, Nat.mul_add, ← Nat.mul_assoc]; omega
  have h3 : q * N1 * H32 < (U + 1) * H32 := by have := h.u; rw [Nat.add_mul]; omega
  exact Nat.le_of_lt_succ (Nat.lt_of_mul_lt_mul_right h3)
theorem DigIn.init_le {Y N1 N0 U u : Nat} (h : DigIn Y N1 N0 U u) : U / N1 ≤ 4294967297 := by
  have hN : 0 < N1 := by have := h.lo; omega
  apply Nat.le_of_lt_succ
  rw [Nat.div_lt_iff_lt_mul hN]
  have h1 := h.lt
  have h2 := h.y
  have h3 := h.n0
  have h4 := h.lo
  rw [H32_eq] at *
  omega
theorem DigInv.pos {Y N1 N0 U u q r : Nat} (h : DigIn Y N1 N0 U u) (g : DigInv Y N1 U u q r) (hg : H32 ≤ q ∨ H32 * r + u < q * N0) : (U * H32 + u) / Y + 1 ≤ q := by
  have hY : 0 < Y := Nat.lt_of_le_of_lt (Nat.zero_le _) h.lt
  rcases hg with h1 | h1
  · have := h.q_lt; omega
  · apply Nat.succ_le_of_lt
    rw [Nat.div_lt_iff_lt_mul hY, h.y, Nat.mul_add, ← Nat.mul_assoc]
    have h2 : (q * N1 + r) * H32 = U * H32 := by rw [g.eq]
    rw [Nat.add_mul, Nat.mul_comm r] at h2
    omega
theorem DigInv.next {Y N1 N0 U u q r : Nat} (h : DigIn Y N1 N0 U u) (g : DigInv Y N1 U u q r) (hg : H32 ≤ q ∨ H32 * r + u < q * N0) : DigInv Y N1 U u (q - 1) (r + N1) := by
  have h1 := g.pos h hg
  refine ⟨?_, Nat.le_sub_of_add_le h1⟩
  have hq1 : 1 ≤ q := Nat.le_trans (Nat.le_add_left _ _) h1
  obtain ⟨k, rfl⟩ : ∃ k, q = k + 1 := ⟨q - 1, by omega⟩
  have h2 := g.eq
  rw [Nat.add_mul] at h2
  rw [Nat.add_sub_cancel]
  omega
theorem DigInv.done {Y N1 N0 U u q r : Nat} (h : DigIn Y N1 N0 U u) (g : DigInv Y N1 U u q r) (hg : q * N0 ≤ H32 * r + u) : q = (U * H32 + u) / Y := by
  have hY : 0 < Y := Nat.lt_of_le_of_lt (Nat.zero_le _) h.lt
  refine Nat.le_antisymm ?_ g.ge
  rw [Nat.le_div_iff_mul_le hY, h.y, Nat.mul_add, ← Nat.mul_assoc]
  have h2 : (q * N1 + r) * H32 = U * H32 := by rw [g.eq]
  rw [Nat.add_mul, Nat.mul_comm r] at h2
  omega
theorem DigInv.left {Y N1 N0 U u q r : Nat} (h : DigIn Y N1 N0 U u) (g : DigInv Y N1 U u q r) (hq : q ≤ H32) (hr : H32 ≤ r) : q = (U * H32 + u) / Y := by
  refine g.done h ?_
  have h1 : q * N0 ≤ H32 * H32 := Nat.mul_le_mul hq (Nat.le_of_lt h.n0)
  have h2 : H32 * H32 ≤ H32 * r := Nat.mul_le_mul_left _ hr
  omega
/-- The whole of Div64. -/
theorem div_whole {Y U U1 U0 y s hi lo : Nat} (hY : Y = y * 2 ^ s) (hy : 0 < y) (hall : (hi * W64 + lo) * 2 ^ s = (U * H32 + U1) * H32 + U0) :
    (U * H32 + U1) / Y * H32 + ((U * H32 + U1) % Y * H32 + U0) / Y = (hi * W64 + lo) / y ∧ ((U * H32 + U1) % Y * H32 + U0) % Y / 2 ^ s = (hi * W64 + lo) % y := by
  have hp : 0 < 2 ^ s := Nat.pow_pos (by decide)
  have hY0 : 0 < Y := by rw [hY]; exact Nat.mul_pos hy hp
  have h1 := Nat.div_add_mod (U * H32 + U1) Y
  generalize (U * H32 + U1) / Y = q1 at *
  generalize (U * H32 + U1) % Y = r1 at *
  have h2 := Nat.div_add_mod (r1 * H32 + U0) Y
  have h3 := Nat.mod_lt (r1 * H32 + U0) hY0
  generalize (r1 * H32 + U0) / Y = q0 at *
  generalize (r1 * H32 + U0) % Y = r0 at *
  have h4 : (hi * W64 + lo) * 2 ^ s = Y * (q1 * H32 + q0) + r0 := by
    rw [hall, ← h1, Nat.add_mul, Nat.mul_add, Nat.mul_assoc]
    omega
  have h5 : (hi * W64 + lo) * 2 ^ s / Y = q1 * H32 + q0 := by
    rw [h4, Nat.mul_add_div hY0, Nat.div_eq_of_lt h3]; omega
  have h6 : (hi * W64 + lo) * 2 ^ s % Y = r0 := by
    rw [h4, Nat.mul_add_mod, Nat.mod_eq_of_lt h3]
  rw [hY, Nat.mul_div_mul_right _ _ hp] at h5
  rw [hY, Nat.mul_mod_mul_right] at h6
  exact ⟨h5.symm, by rw [← h6, Nat.mul_div_cancel _ hp]⟩
end Mth
end Go.Proofs.YtednijejgadmnaaDoor
