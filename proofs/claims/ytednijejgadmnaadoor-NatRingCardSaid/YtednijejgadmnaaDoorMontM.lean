/- Plain lemmas for Montgomery's product. -/
import Derived.Test.YtednijejgadmnaaDoorPadded
import Derived.Test.YtednijejgadmnaaDoorSubW
namespace Go.Proofs.YtednijejgadmnaaDoor
open Go.RowKit Mth

theorem vs_three (xs : List Nat) (i n r : Nat) : vs W64 xs 0 (i + n + r) = vs W64 xs 0 i + W64 ^ i * (vs W64 xs i n + W64 ^ n * vs W64 xs (i + n) r) := by
  rw [vs_split, vs_split, Nat.zero_add, Nat.zero_add, Nat.pow_add, Nat.mul_add, Nat.mul_assoc]
  omega
/-- Words added at place i, the carry behind them. -/
theorem add_at {zs us vs' : List Nat} {i n r c y L : Nat} (hL : L = i + n + r) (h1 : AddedM zs us i n c y) (h2 : AddedW us vs' (i + n) r c) (hb : vs W64 zs 0 L + W64 ^ i * y < W64 ^ L) :
    Dg W64 vs' ∧ vs'.length = zs.length ∧ (∀ j, j < i → gt vs' j = gt zs j) ∧ vs W64 vs' 0 L = vs W64 zs 0 L + W64 ^ i * y := by
  obtain ⟨a1, a2, a3, a4⟩ := h1
  obtain ⟨b1, b2, k, b3⟩ := h2
  have hlow : ∀ j, j < i → gt vs' j = gt zs j := fun j hj => (b1.out j (by omega)).trans (a1.out j (by omega))
  refine ⟨b2, b1.len.trans a1.len, hlow, ?_⟩
  subst hL
  rw [vs_three] at hb ⊢
  rw [vs_three zs]
  have e1 : vs W64 vs' 0 i = vs W64 zs 0 i := vs_congr (fun j hj => by rw [Nat.zero_add]; exact hlow j hj)
  have e2 : vs W64 vs' i n = vs W64 us i n := vs_congr (fun j hj => b1.out _ (by omega))
  have e3 : vs W64 us (i + n) r = vs W64 zs (i + n) r := vs_congr (fun j hj => a1.out _ (by omega))
  rw [e1, e2]
  rw [e3] at b3
  generalize vs W64 zs 0 i = l at *
  generalize vs W64 us i n = p at *
  generalize vs W64 zs i n = q at *
  generalize vs W64 zs (i + n) r = s at *
  generalize vs W64 vs' (i + n) r = t at *
  rw [Nat.pow_add, Nat.pow_add] at hb
  generalize W64 ^ i = X at *
  generalize W64 ^ n = Y at *
  generalize W64 ^ r = Z at *
  have hX : X * (p + Y * t) + X * (Y * (Z * k)) = X * (q + Y * s) + X * y := by
    rw [← Nat.mul_add, ← Nat.mul_add]
    congr 1
    rw [Nat.add_assoc, ← Nat.mul_add, b3, Nat.mul_add]
    omega
  have hk : k = 0 := by
    rcases Nat.eq_zero_or_pos k with h | h
    · exact h
    · have h3 : X * (Y * Z) ≤ X * (Y * (Z * k)) := Nat.mul_le_mul_left _ (Nat.mul_le_mul_left _ (Nat.le_mul_of_pos_right _ h))
      rw [Nat.mul_assoc] at hb
      omega
  subst hk
  simp at hX
  omega

/-- The loop of the product: i rounds are over. -/
structure MontInv (A M : Nat) (ys zs : List Nat) (n o2 i : Nat) : Prop where
  len : zs.length = 2 * n + 1
  dg : Dg W64 zs
  low : ∀ j, j < i → gt zs j = 0
  val : ∃ Q, Q < W64 ^ i ∧ vs W64 zs 0 (2 * n + 1) = A * vs W64 ys o2 i + M * Q

theorem mont_bound {A M n i Q V y : Nat} (hA : A < M) (hM : M < W64 ^ n) (hi : i < n) (hQ : Q < W64 ^ i) (hV : V < W64 ^ i) (hy : y < W64) : A * V + M * Q + W64 ^ i * (A * y) < W64 ^ (2 * n + 1) ∧ A * V + M * Q + W64 ^ i * (A * y) + W64 ^ i * (M * (W64 - 1)) < W64 ^ (2 * n + 1) := by
  have h1 : A * V ≤ M * W64 ^ i := Nat.mul_le_mul (by omega) (by omega)
  have h2 : M * Q ≤ M * W64 ^ i := Nat.mul_le_mul_left _ (by omega)
  have h3 : W64 ^ i * (A * y) ≤ W64 ^ i * (M * (W64 - 1)) := Nat.mul_le_mul_left _ (Nat.mul_le_mul (by omega) (by omega))
  have h4 : W64 ^ i * (M * (W64 - 1)) = M * W64 ^ i * (W64 - 1) := by rw [← Nat.mul_assoc, Nat.mul_comm (W64 ^ i)]
  have h5 : M * W64 ^ i * (2 * W64) ≤ W64 ^ n * W64 ^ (n - 1) * (2 * W64) := Nat.mul_le_mul_right _ (Nat.mul_le_mul (by omega) (Nat.pow_le_pow_right W64_pos (by omega)))
  have h6 : W64 ^ n * W64 ^ (n - 1) * (2 * W64) ≤ W64 ^ (2 * n + 1) := by
    rw [show 2 * n + 1 = n + (n - 1) + 2 from by omega, Nat.pow_add, Nat.pow_add]
    exact Nat.mul_le_mul_left _ (by decide)
  have h7 : M * W64 ^ i * (2 * W64) = 2 * (M * W64 ^ i * (W64 - 1)) + 2 * (M * W64 ^ i) := by
    rw [show 2 * W64 = 2 * (W64 - 1) + 2 from by decide, Nat.mul_add]
    rw [Nat.mul_left_comm, Nat.mul_comm _ 2]
  have h8 : 0 < M * W64 ^ i := Nat.mul_pos (by omega) (Nat.pow_pos W64_pos)
  have h9 : A * V < M * W64 ^ i := by
    have : A * V ≤ A * W64 ^ i := Nat.mul_le_mul_left _ (by omega)
    have : A * W64 ^ i < M * W64 ^ i := Nat.mul_lt_mul_of_pos_right hA (Nat.pow_pos W64_pos)
    omega
  constructor
  · omega
  · omega

/-- One round: a's multiple, then the modulus's. -/
theorem MontInv.next {A M n i o2 y q inv : Nat} {ys zs us us' vs' ws : List Nat} {c c' : Nat} (h : MontInv A M ys zs n o2 i) (hA : A < M) (hM : M < W64 ^ n) (hi : i < n) (hdy : Dg W64 ys) (hy : y = gt ys (o2 + i))
    (hinv : (M * inv + 1) % W64 = 0)
    (h1 : AddedM zs us i n c (A * y)) (h2 : AddedW us us' (i + n) (n + 1 - i) c)
    (hq : q = gt us' i * inv % W64)
    (h3 : AddedM us' vs' i n c' (M * q)) (h4 : AddedW vs' ws (i + n) (n + 1 - i) c') : MontInv A M ys ws n o2 (i + 1) := by
  obtain ⟨Q, hQ, hval⟩ := h.val
  have hV : vs W64 ys o2 i < W64 ^ i := vs_lt hdy
  have hyW : y < W64 := by rw [hy]; exact hdy _
  have hqW : q < W64 := by rw [hq]; exact Nat.mod_lt _ W64_pos
  have hL : 2 * n + 1 = i + n + (n + 1 - i) := by omega
  obtain ⟨b1, b2⟩ := mont_bound hA hM hi hQ hV hyW
  have s1 := add_at hL h1 h2 (by rw [hval]; exact b1)
  obtain ⟨d1, l1, w1, v1⟩ := s1
  have hle : W64 ^ i * (M * q) ≤ W64 ^ i * (M * (W64 - 1)) := Nat.mul_le_mul_left _ (Nat.mul_le_mul_left _ (by omega))
  obtain ⟨d2, l2, w2, v2⟩ := add_at hL h3 h4 (by rw [v1, hval]; omega)
  have htot : vs W64 ws 0 (2 * n + 1) = A * vs W64 ys o2 (i + 1) + M * (Q + W64 ^ i * q) := by
    rw [v2, v1, hval]
    have : vs W64 ys o2 (i + 1) = vs W64 ys o2 i + W64 ^ i * y := by simp only [vs]; rw [hy]
    rw [this, Nat.mul_add, Nat.mul_add, Nat.mul_left_comm A, Nat.mul_left_comm M]
    omega
  refine ⟨by rw [l2, l1, h.len], d2, ?_, Q + W64 ^ i * q, ?_, htot⟩
  · intro j hj
    by_cases e : j = i
    · subst e
      have hlow : vs W64 us' 0 j = 0 := vs_zero (fun k hk => by rw [Nat.zero_add, w1 k hk]; exact h.low k hk)
      have hloww : vs W64 ws 0 j = 0 := vs_zero (fun k hk => by rw [Nat.zero_add, w2 k hk, w1 k hk]; exact h.low k hk)
      have e1 : 2 * n + 1 = j + 1 + (2 * n - j) := by omega
      rw [e1, vs_split W64 ws, vs_split W64 us'] at v2
      simp only [vs] at v2
      rw [hlow, hloww] at v2
      simp only [Nat.zero_add] at v2
      rw [Nat.pow_succ] at v2
      have hX : 0 < W64 ^ j := Nat.pow_pos W64_pos
      have v3 : gt ws j + W64 * vs W64 ws (j + 1) (2 * n - j) = gt us' j + W64 * vs W64 us' (j + 1) (2 * n - j) + M * q := by
        refine Nat.eq_of_mul_eq_mul_left hX ?_
        rw [Nat.mul_add, Nat.mul_add, Nat.mul_add, ← Nat.mul_assoc, ← Nat.mul_assoc]
        exact v2
      have v4 : gt ws j % W64 = (gt us' j + M * q) % W64 := by
        have := congrArg (· % W64) v3
        simp only [Nat.add_mul_mod_self_left] at this
        rw [this, Nat.add_right_comm, Nat.add_mul_mod_self_left]
      rw [Nat.mod_eq_of_lt (d2 j)] at v4
      rw [v4, hq]
      have : (gt us' j + M * (gt us' j * inv % W64)) % W64 = (gt us' j * (M * inv + 1)) % W64 := by
        rw [Nat.add_mod, Nat.mul_mod M, Nat.mod_mod, ← Nat.mul_mod, ← Nat.add_mod]
        congr 1
        rw [Nat.mul_add, Nat.mul_one, Nat.mul_left_comm]
        omega
      rw [this, Nat.mul_mod, hinv]; simp
    · rw [w2 j (by omega), w1 j (by omega)]; exact h.low j (by omega)
  · rw [Nat.pow_succ]
    have : W64 ^ i * q ≤ W64 ^ i * (W64 - 1) := Nat.mul_le_mul_left _ (by omega)
    have h5 : W64 ^ i * W64 = W64 ^ i * (W64 - 1) + W64 ^ i := by
      rw [← Nat.mul_succ]; congr 1
    omega
/-- What is left in the end, ahead of the last subtraction. -/
theorem MontInv.done {A M n o2 : Nat} {ys zs : List Nat} (h : MontInv A M ys zs n o2 n) (hA : A < M) (hdy : Dg W64 ys) : vs W64 zs n (n + 1) < 2 * M ∧ ∃ Q, vs W64 zs n (n + 1) * W64 ^ n = A * vs W64 ys o2 n + M * Q := by
  obtain ⟨Q, hQ, hval⟩ := h.val
  have hV : vs W64 ys o2 n < W64 ^ n := vs_lt hdy
  rw [show 2 * n + 1 = n + (n + 1) from by omega, vs_split, vs_zero (n := n) (fun k hk => by rw [Nat.zero_add]; exact h.low k hk), Nat.zero_add, Nat.zero_add] at hval
  refine ⟨?_, Q, by rw [Nat.mul_comm]; exact hval⟩
  have h1 : A * vs W64 ys o2 n ≤ M * W64 ^ n := Nat.mul_le_mul (by omega) (by omega)
  have h2 : M * Q < M * W64 ^ n := Nat.mul_lt_mul_of_pos_left hQ (by omega)
  refine Nat.lt_of_mul_lt_mul_left (a := W64 ^ n) ?_
  rw [hval, Nat.mul_comm (W64 ^ n), Nat.mul_assoc]
  omega
end Go.Proofs.YtednijejgadmnaaDoor
