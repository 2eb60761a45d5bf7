/- Plain lemmas on the words of a number. -/
import Derived.Test.YtednijejgadmnaaDoorMth
namespace Go.Proofs.YtednijejgadmnaaDoor
namespace Mth

/-- The words of a number N, n of them. -/
def wordsN (n N : Nat) : List Nat := (List.range n).map fun j => N / W64 ^ j % W64
theorem length_wordsN (n N : Nat) : (wordsN n N).length = n := by simp [wordsN]
theorem gt_wordsN {n N j : Nat} (h : j < n) : gt (wordsN n N) j = N / W64 ^ j % W64 := by
  rw [gt_of_lt (by rw [length_wordsN]; exact h)]; simp [wordsN]
theorem wordsN_zero (n : Nat) : wordsN n 0 = List.replicate n 0 := by
  apply gt_ext
  · simp [length_wordsN]
  · intro i hi
    rw [length_wordsN] at hi
    rw [gt_wordsN hi, gt_of_lt (by simpa using hi)]; simp
theorem dg_wordsN (n N : Nat) : Dg W64 (wordsN n N) := by
  intro i
  by_cases h : i < n
  · rw [gt_wordsN h]; exact Nat.mod_lt _ W64_pos
  · rw [gt_of_ge (by rw [length_wordsN]; omega)]; exact W64_pos
theorem vs_wordsN {n N m : Nat} (h : m ≤ n) : vs W64 (wordsN n N) 0 m = N % W64 ^ m := by
  induction m with
  | zero => simp [vs, Nat.mod_one]
  | succ m ih =>
    simp only [vs, Nat.zero_add]
    rw [ih (by omega), gt_wordsN (by omega), Nat.pow_succ, Nat.mod_mul]
theorem W64_pow (j : Nat) : W64 ^ j = 256 ^ (8 * j) := by
  rw [Nat.pow_mul]; congr 1
theorem pow_split {a b c : Nat} (h : a + b = c) : 256 ^ c = 256 ^ a * 256 ^ b := by rw [← h, Nat.pow_add]
theorem add_mod_small {x y m : Nat} (h : x % m + y < m) : (x + y) % m = x % m + y := by
  rw [Nat.add_mod, Nat.mod_eq_of_lt (show y < m by omega), Nat.mod_eq_of_lt h]
/-- A multiple of A, cut at A * B, leaves room for what is less than A. -/
theorem mul_mod_room {A B M y : Nat} (hy : y < A) (hB : 0 < B) : (A * M) % (A * B) + y < A * B := by
  rw [Nat.mul_mod_mul_left]
  have h1 : M % B + 1 ≤ B := Nat.mod_lt _ hB
  have h2 : A * (M % B + 1) ≤ A * B := Nat.mul_le_mul_left _ h1
  rw [Nat.mul_add] at h2
  omega
theorem wordsN_word {q r d M : Nat} (hr : r < 8) (hd : d < 256) : (256 ^ (r + 1) * M) % W64 + d * 256 ^ r = (256 ^ (r + 1) * M + d * 256 ^ r) % W64 ∧ (q = q) := by
  refine ⟨?_, rfl⟩
  have hW : W64 = 256 ^ (r + 1) * 256 ^ (7 - r) := by rw [← Nat.pow_add, show r + 1 + (7 - r) = 8 from by omega]; rfl
  have hlt : d * 256 ^ r < 256 ^ (r + 1) := by
    rw [Nat.pow_succ, Nat.mul_comm]
    exact Nat.mul_lt_mul_of_pos_left hd (Nat.pow_pos (by decide))
  rw [hW]
  exact (add_mod_small (mul_mod_room hlt (Nat.pow_pos (by decide)))).symm
theorem wordsN_step {n q r d M N : Nat} (hq : q < n) (hr : r < 8) (hd : d < 256) (hN : N = 256 ^ (8 * q + r + 1) * M) :
    (wordsN n N).set q (gt (wordsN n N) q + d * 256 ^ r) = wordsN n (N + d * 256 ^ (8 * q + r)) := by
  have hlt : d * 256 ^ r < 256 ^ (r + 1) := by
    rw [Nat.pow_succ, Nat.mul_comm]
    exact Nat.mul_lt_mul_of_pos_left hd (Nat.pow_pos (by decide))
  have hP : ∀ k, 0 < 256 ^ k := fun k => Nat.pow_pos (by decide)
  apply gt_ext
  · simp [length_wordsN]
  · intro j hj
    rw [List.length_set, length_wordsN] at hj
    rw [gt_set (by rw [length_wordsN]; exact hq), gt_wordsN (N := N + _) hj]
    by_cases e : q = j
    · subst e
      rw [if_pos rfl, gt_wordsN hq]
      have h1 : N / W64 ^ q = 256 ^ (r + 1) * M := by
        rw [hN, W64_pow, show 8 * q + r + 1 = 8 * q + (r + 1) from by omega, Nat.pow_add, Nat.mul_assoc, Nat.mul_div_cancel_left _ (hP _)]
      have h2 : (N + d * 256 ^ (8 * q + r)) / W64 ^ q = 256 ^ (r + 1) * M + d * 256 ^ r := by
        have : N + d * 256 ^ (8 * q + r) = 256 ^ (8 * q) * (256 ^ (r + 1) * M + d * 256 ^ r) := by
          rw [hN, show 8 * q + r + 1 = 8 * q + (r + 1) from by omega, Nat.pow_add 256 (8 * q) (r + 1), Nat.pow_add 256 (8 * q) r, Nat.mul_add, Nat.mul_assoc, Nat.mul_left_comm d]
        rw [this, W64_pow, Nat.mul_div_cancel_left _ (hP _)]
      rw [h1, h2]
      exact (wordsN_word (q := q) hr hd).1
    · rw [if_neg e, gt_wordsN hj]
      rcases Nat.lt_or_gt_of_ne e with h | h
      · -- a later word
        have hle : 256 ^ (8 * q + r + 1) * 256 ^ (8 * j - (8 * q + r + 1)) = W64 ^ j := by
          rw [W64_pow, ← Nat.pow_add]; congr 1; omega
        have hroom : N % W64 ^ j + d * 256 ^ (8 * q + r) < W64 ^ j := by
          rw [hN, ← hle]
          refine mul_mod_room ?_ (hP _)
          rw [Nat.pow_add 256 (8 * q), Nat.mul_left_comm, show 8 * q + r + 1 = 8 * q + (r + 1) from by omega, Nat.pow_add 256 (8 * q)]
          exact Nat.mul_lt_mul_of_pos_left hlt (hP _)
        congr 1
        have h3 := Nat.mod_add_div N (W64 ^ j)
        have h4 : (N + d * 256 ^ (8 * q + r)) / W64 ^ j = N / W64 ^ j := by
          have e2 : N + d * 256 ^ (8 * q + r) = (N % W64 ^ j + d * 256 ^ (8 * q + r)) + W64 ^ j * (N / W64 ^ j) := by omega
          rw [e2, Nat.add_mul_div_left _ _ (Nat.pow_pos W64_pos), Nat.div_eq_of_lt hroom, Nat.zero_add]
        exact h4.symm
      · -- an earlier word
        obtain ⟨m, hm⟩ : ∃ m, 8 * q + r = (8 * (j + 1)) + m := ⟨8 * q + r - 8 * (j + 1), by omega⟩
        have key : ∀ K, (W64 ^ (j + 1) * K) / W64 ^ j % W64 = 0 := by
          intro K
          rw [Nat.pow_succ, Nat.mul_assoc, Nat.mul_div_cancel_left _ (Nat.pow_pos W64_pos)]
          simp
        have e1 : N = W64 ^ (j + 1) * (256 ^ (m + 1) * M) := by
          rw [hN, W64_pow, ← Nat.mul_assoc, ← Nat.pow_add]; congr 2; omega
        have e2 : N + d * 256 ^ (8 * q + r) = W64 ^ (j + 1) * (256 ^ (m + 1) * M + d * 256 ^ m) := by
          rw [Nat.mul_add, ← e1, hm, Nat.pow_add, W64_pow, Nat.mul_left_comm]
        rw [e2, key, e1, key]
/-- The word that is or-ed with a byte that is not in it yet. -/
theorem or_byte {x r d : Nat} (hd : d < 256) (hx : 256 ^ (r + 1) ∣ x) : x ||| (d * 256 ^ r) = x + d * 256 ^ r := by
  obtain ⟨M, rfl⟩ := hx
  have h : 256 ^ (r + 1) = 2 ^ (8 * (r + 1)) := by rw [Nat.pow_mul]
  have hlt : d * 256 ^ r < 2 ^ (8 * (r + 1)) := by
    rw [← h, Nat.pow_succ, Nat.mul_comm]
    exact Nat.mul_lt_mul_of_pos_left hd (Nat.pow_pos (by decide))
  rw [h, Nat.two_pow_add_eq_or_of_lt hlt]
theorem wordsN_dvd {n q r M N : Nat} (hq : q < n) (hr : r < 8) (hN : N = 256 ^ (8 * q + r + 1) * M) : 256 ^ (r + 1) ∣ gt (wordsN n N) q := by
  have hP : ∀ k, 0 < 256 ^ k := fun k => Nat.pow_pos (by decide)
  rw [gt_wordsN hq]
  have h1 : N / W64 ^ q = 256 ^ (r + 1) * M := by
    rw [hN, W64_pow, show 8 * q + r + 1 = 8 * q + (r + 1) from by omega, Nat.pow_add, Nat.mul_assoc, Nat.mul_div_cancel_left _ (hP _)]
  have hW : W64 = 256 ^ (r + 1) * 256 ^ (7 - r) := by rw [← Nat.pow_add, show r + 1 + (7 - r) = 8 from by omega]; rfl
  rw [h1, hW, Nat.mul_mod_mul_left]
  exact Nat.dvd_mul_right _ _

/-- The first i bytes of L, at their places in a number of L.length bytes. -/
def front (L : List UInt8) (i : Nat) : Nat := num (L.take i) * 256 ^ (L.length - i)
theorem front_zero (L : List UInt8) : front L 0 = 0 := by simp [front, num]
theorem front_all (L : List UInt8) : front L L.length = num L := by simp [front]
theorem front_succ (L : List UInt8) {i : Nat} (h : i < L.length) : front L (i + 1) = front L i + L[i].toNat * 256 ^ (L.length - 1 - i) := by
  unfold front
  rw [List.take_succ_eq_append_getElem h, num_snoc, show L.length - i = (L.length - 1 - i) + 1 from by omega, show L.length - (i + 1) = L.length - 1 - i from by omega, Nat.pow_succ, Nat.add_mul]
  congr 1
  rw [Nat.mul_comm (256 ^ _) 256, ← Nat.mul_assoc, Nat.mul_comm 256]
theorem front_dvd (L : List UInt8) {i : Nat} (h : i < L.length) : front L i = 256 ^ (L.length - 1 - i + 1) * num (L.take i) := by
  unfold front
  rw [show L.length - 1 - i + 1 = L.length - i from by omega, Nat.mul_comm]
/-- One round of wordsOf. -/
theorem words_round (L : List UInt8) {n i q r d : Nat} (hi : i < L.length) (hp : L.length - 1 - i = 8 * q + r) (hr : r < 8) (hq : q < n) (hd : d = L[i].toNat) :
    (wordsN n (front L i)).set q (gt (wordsN n (front L i)) q ||| (d * 256 ^ r)) = wordsN n (front L (i + 1)) := by
  subst hd
  have hd := L[i].toNat_lt
  have hN := front_dvd L hi
  rw [hp] at hN
  rw [or_byte hd (wordsN_dvd hq hr hN), wordsN_step hq hr hd hN, front_succ L hi, hp]
/-- A right number has its greatest word not 0. -/
theorem num_ge {L : List UInt8} (h : Rt L) (hne : L ≠ []) : 256 ^ (L.length - 1) ≤ num L := by
  cases L with
  | nil => exact absurd rfl hne
  | cons d l =>
    have hd : d.toNat ≠ 0 := by
      intro e
      have : d = 0 := UInt8.toNat_inj.1 (by simpa using e)
      subst this; simp [Rt] at h
    rw [num_cons, List.length_cons, Nat.add_sub_cancel]
    have : 1 * 256 ^ l.length ≤ d.toNat * 256 ^ l.length := Nat.mul_le_mul_right _ (by omega)
    omega
/-- The words of a number, trimmed. -/
structure Words (xs : List Nat) (N : Nat) : Prop where
  dg : Dg W64 xs
  val : vs W64 xs 0 xs.length = N
  top : xs.length = 0 ∨ gt xs (xs.length - 1) ≠ 0
theorem words_of {L : List UInt8} (h : Rt L) : Words (wordsN ((L.length + 7) / 8) (num L)) (num L) := by
  have hlt := num_lt L
  have hlen : (wordsN ((L.length + 7) / 8) (num L)).length = (L.length + 7) / 8 := length_wordsN _ _
  refine ⟨dg_wordsN _ _, ?_, ?_⟩
  · rw [hlen, vs_wordsN (Nat.le_refl _)]
    apply Nat.mod_eq_of_lt
    rw [W64_pow]
    exact Nat.lt_of_lt_of_le hlt (Nat.pow_le_pow_right (by decide) (by omega))
  · rw [hlen]
    by_cases hL : L = []
    · left; simp [hL]
    · right
      have hpos : 0 < L.length := List.length_pos_iff.2 hL
      have hge := num_ge h hL
      rw [gt_wordsN (by omega)]
      have h1 : num L / W64 ^ ((L.length + 7) / 8 - 1) < W64 := by
        rw [Nat.div_lt_iff_lt_mul (Nat.pow_pos W64_pos), ← Nat.pow_succ', W64_pow]
        exact Nat.lt_of_lt_of_le hlt (Nat.pow_le_pow_right (by decide) (by omega))
      rw [Nat.mod_eq_of_lt h1]
      have h2 : W64 ^ ((L.length + 7) / 8 - 1) ≤ num L := by
        rw [W64_pow]
        exact Nat.le_trans (Nat.pow_le_pow_right (by decide) (by omega)) hge
      have := Nat.div_pos h2 (Nat.pow_pos W64_pos)
      omega
end Mth
end Go.Proofs.YtednijejgadmnaaDoor
