/- Contracts of package nat and of the reference, part 0: Mth, MthW, Arith. -/
import Derived.WalkKit
import Derived.Laws.Bits64b
namespace Go.Proofs.YtoadjhmehgkeaaaGreatDoor
namespace Mth

/-- The number at a place, 0 where there is none. -/
def gt (xs : List Nat) (i : Nat) : Nat := xs.getD i 0
theorem gt_of_lt {xs : List Nat} {i : Nat} (h : i < xs.length) : gt xs i = xs[i] := by simp [gt, List.getD, List.getElem?_eq_getElem h]
theorem gt_of_ge {xs : List Nat} {i : Nat} (h : xs.length ≤ i) : gt xs i = 0 := by simp [gt, List.getD, List.getElem?_eq_none h]
theorem gt_mem {xs : List Nat} {i : Nat} (h : i < xs.length) : gt xs i ∈ xs := by rw [gt_of_lt h]; exact List.getElem_mem h
theorem gt_set {xs : List Nat} {i j v : Nat} (h : i < xs.length) : gt (xs.set i v) j = if i = j then v else gt xs j := by
  by_cases e : i = j
  · subst e; rw [if_pos rfl]; simp [gt, List.getD, h]
  · rw [if_neg e]; simp [gt, List.getD, List.getElem?_set_ne e]
theorem gt_ext {xs ys : List Nat} (hl : xs.length = ys.length) (h : ∀ i, i < xs.length → gt xs i = gt ys i) : xs = ys := by
  apply List.ext_getElem hl
  intro i h1 h2
  have := h i h1
  rwa [gt_of_lt h1, gt_of_lt h2] at this
theorem gt_drop (xs : List Nat) (a i : Nat) : gt (xs.drop a) i = gt xs (a + i) := by simp [gt, List.getD]
theorem gt_take {xs : List Nat} {n i : Nat} (h : i < n) : gt (xs.take n) i = gt xs i := by simp [gt, List.getD, h]
theorem gt_append_left {xs ys : List Nat} {i : Nat} (h : i < xs.length) : gt (xs ++ ys) i = gt xs i := by simp [gt, List.getD, List.getElem?_append_left h]
theorem gt_append_right {xs ys : List Nat} {i : Nat} (h : xs.length ≤ i) : gt (xs ++ ys) i = gt ys (i - xs.length) := by simp [gt, List.getD, List.getElem?_append_right h]

/-- The value of digits to a base, the least significant one first. -/
def val (b : Nat) : List Nat → Nat
  | [] => 0
  | d :: l => d + b * val b l

theorem val_nil (b : Nat) : val b [] = 0 := rfl
theorem val_cons (b d : Nat) (l : List Nat) : val b (d :: l) = d + b * val b l := rfl
theorem val_append (b : Nat) (l r : List Nat) : val b (l ++ r) = val b l + b ^ l.length * val b r := by
  induction l with
  | nil => simp [val]
  | cons d l ih => simp only [List.cons_append, val, ih, List.length_cons, Nat.pow_succ, Nat.mul_add]; rw [Nat.mul_comm (b ^ l.length) b, Nat.mul_assoc, Nat.add_assoc]
theorem val_snoc (b : Nat) (l : List Nat) (d : Nat) : val b (l ++ [d]) = val b l + b ^ l.length * d := by
  rw [val_append]; simp [val]
theorem val_lt (b : Nat) (l : List Nat) (h : ∀ d ∈ l, d < b) : val b l < b ^ l.length := by
  induction l with
  | nil => simp [val]
  | cons d l ih =>
    have h1 := ih (fun x hx => h x (List.mem_cons_of_mem _ hx))
    have h2 := h d List.mem_cons_self
    simp only [val, List.length_cons, Nat.pow_succ]
    have h3 : b * (val b l + 1) ≤ b * b ^ l.length := Nat.mul_le_mul_left _ h1
    rw [Nat.mul_comm (b ^ l.length) b]
    rw [Nat.mul_add] at h3
    omega
theorem val_zeros (b n : Nat) : val b (List.replicate n 0) = 0 := by
  induction n with
  | zero => rfl
  | succ n ih => simp [List.replicate_succ, val, ih]

/-- 2 to the power of 64. -/
def W64 : Nat := 18446744073709551616
theorem W64_pos : 0 < W64 := by decide
theorem W64_eq : W64 = 18446744073709551616 := rfl
/-- All numbers are less than the base. -/
def Dg (b : Nat) (xs : List Nat) : Prop := ∀ i, gt xs i < b
theorem Dg.of_mem {b : Nat} {xs : List Nat} (hb : 0 < b) (h : ∀ d ∈ xs, d < b) : Dg b xs := by
  intro i
  by_cases hi : i < xs.length
  · exact h _ (gt_mem hi)
  · rw [gt_of_ge (by omega)]; exact hb
theorem Dg.mem {b : Nat} {xs : List Nat} (h : Dg b xs) : ∀ d ∈ xs, d < b := by
  intro d hd
  obtain ⟨i, hi, rfl⟩ := List.getElem_of_mem hd
  rw [← gt_of_lt hi]; exact h i
theorem Dg.set {b : Nat} {xs : List Nat} (h : Dg b xs) {i v : Nat} (hv : v < b) : Dg b (xs.set i v) := by
  intro j
  by_cases hi : i < xs.length
  · rw [gt_set hi]; split
    · exact hv
    · exact h j
  · rw [List.set_eq_of_length_le (by omega)]; exact h j
/-- The value of n digits from a place on. -/
def vs (b : Nat) (xs : List Nat) (off : Nat) : Nat → Nat
  | 0 => 0
  | n + 1 => vs b xs off n + b ^ n * gt xs (off + n)
theorem vs_congr {b : Nat} {xs ys : List Nat} {off off' n : Nat} (h : ∀ i, i < n → gt xs (off + i) = gt ys (off' + i)) : vs b xs off n = vs b ys off' n := by
  induction n with
  | zero => rfl
  | succ n ih => simp only [vs]; rw [ih (fun i hi => h i (by omega)), h n (by omega)]
theorem vs_lt {b : Nat} {xs : List Nat} {off n : Nat} (h : Dg b xs) : vs b xs off n < b ^ n := by
  induction n with
  | zero => simp [vs]
  | succ n ih =>
    simp only [vs, Nat.pow_succ]
    have h2 := h (off + n)
    have h3 : b ^ n * (gt xs (off + n) + 1) ≤ b ^ n * b := Nat.mul_le_mul_left _ h2
    rw [Nat.mul_add] at h3
    omega
theorem vs_split (b : Nat) (xs : List Nat) (off m n : Nat) : vs b xs off (m + n) = vs b xs off m + b ^ m * vs b xs (off + m) n := by
  induction n with
  | zero => simp [vs]
  | succ n ih =>
    rw [← Nat.add_assoc]
    simp only [vs]
    rw [ih, Nat.mul_add, Nat.pow_add, Nat.mul_assoc, Nat.add_assoc off m n, Nat.add_assoc]
theorem vs_zero {b : Nat} {xs : List Nat} {off n : Nat} (h : ∀ i, i < n → gt xs (off + i) = 0) : vs b xs off n = 0 := by
  induction n with
  | zero => rfl
  | succ n ih => simp only [vs]; rw [ih (fun i hi => h i (by omega)), h n (by omega)]; simp
theorem vs_take {b : Nat} (xs : List Nat) (n : Nat) (h : n ≤ xs.length) : vs b xs 0 n = val b (xs.take n) := by
  induction n with
  | zero => simp [vs, val]
  | succ n ih =>
    rw [List.take_succ_eq_append_getElem (by omega), val_snoc, List.length_take_of_le (by omega), ← ih (by omega), ← gt_of_lt]
    simp only [vs, Nat.zero_add]
theorem vs_val {b : Nat} (xs : List Nat) : vs b xs 0 xs.length = val b xs := by
  rw [vs_take xs _ (Nat.le_refl _), List.take_length]
/-- The two halves of a sum with a carry. -/
def addLo (x y c : Nat) : Nat := (x + y + c) % W64
def addHi (x y c : Nat) : Nat := (x + y + c) / W64
theorem add_split (x y c : Nat) : addLo x y c + W64 * addHi x y c = x + y + c := Nat.mod_add_div _ _
theorem addLo_lt (x y c : Nat) : addLo x y c < W64 := Nat.mod_lt _ W64_pos
theorem addHi_le {x y c : Nat} (hx : x < W64) (hy : y < W64) (hc : c ≤ 1) : addHi x y c ≤ 1 := by
  unfold addHi; rw [W64_eq] at *; omega
/-- One step of an addition with a carry. -/
theorem add_step {P n V A X Y lo hi c : Nat} (hP : P = W64 ^ n) (h : V + P * c = A) (hs : lo + W64 * hi = X + Y + c) : (V + P * lo) + W64 ^ (n + 1) * hi = A + P * X + P * Y := by
  have e : P * lo + W64 ^ (n + 1) * hi = P * X + P * Y + P * c := by
    rw [Nat.pow_succ, ← hP, Nat.mul_assoc, ← Nat.mul_add, hs, Nat.mul_add, Nat.mul_add]
  omega

/-- The value of bytes, the most significant one first. -/
def num (l : List UInt8) : Nat := l.foldl (fun a d => 256 * a + d.toNat) 0
theorem num_nil : num [] = 0 := rfl
theorem num_snoc (l : List UInt8) (d : UInt8) : num (l ++ [d]) = 256 * num l + d.toNat := by simp [num]
theorem foldl_shift (l : List UInt8) : ∀ a : Nat, l.foldl (fun a d => 256 * a + d.toNat) a = a * 256 ^ l.length + num l := by
  induction l with
  | nil => intro a; simp [num]
  | cons d l ih =>
    intro a
    show List.foldl (fun a d => 256 * a + d.toNat) (256 * a + d.toNat) l = a * 256 ^ (l.length + 1) + List.foldl (fun a d => 256 * a + d.toNat) (256 * 0 + d.toNat) l
    rw [ih, ih, Nat.pow_succ, Nat.add_mul, Nat.mul_zero, Nat.zero_add]
    rw [show 256 * a * 256 ^ l.length = a * (256 ^ l.length * 256) from by rw [Nat.mul_comm 256 a, Nat.mul_assoc, Nat.mul_comm 256]]
    omega
theorem num_cons (d : UInt8) (l : List UInt8) : num (d :: l) = d.toNat * 256 ^ l.length + num l := by
  have h := foldl_shift l d.toNat
  show List.foldl (fun a d => 256 * a + d.toNat) (256 * 0 + d.toNat) l = _
  rw [Nat.mul_zero, Nat.zero_add, h]
theorem num_append (l r : List UInt8) : num (l ++ r) = num l * 256 ^ r.length + num r := by
  simp only [num, List.foldl_append]
  exact foldl_shift r _
theorem num_lt (l : List UInt8) : num l < 256 ^ l.length := by
  induction l with
  | nil => simp [num]
  | cons d l ih =>
    rw [num_cons, List.length_cons, Nat.pow_succ]
    have := d.toNat_lt
    have h3 : (d.toNat + 1) * 256 ^ l.length ≤ 256 * 256 ^ l.length := Nat.mul_le_mul_right _ (by omega)
    rw [Nat.add_mul] at h3
    omega

/-- Bytes without zeros in front. -/
def canon : List UInt8 → List UInt8
  | [] => []
  | d :: l => if d = 0 then canon l else d :: l
def Rt (l : List UInt8) : Prop := l.head? ≠ some 0
theorem rt_canon (l : List UInt8) : Rt (canon l) := by
  induction l with
  | nil => simp [canon, Rt]
  | cons d l ih => unfold canon; split <;> simp_all [Rt]
theorem num_canon (l : List UInt8) : num (canon l) = num l := by
  induction l with
  | nil => rfl
  | cons d l ih =>
    unfold canon; split
    · rename_i h; rw [ih, num_cons, h]; simp
    · rfl
theorem canon_of_rt {l : List UInt8} (h : Rt l) : canon l = l := by
  cases l with
  | nil => rfl
  | cons d l => unfold canon; rw [if_neg]; intro e; subst e; simp [Rt] at h
theorem canon_length_le (l : List UInt8) : (canon l).length ≤ l.length := by
  induction l with
  | nil => simp [canon]
  | cons d l ih => unfold canon; split <;> simp; omega
theorem rt_of_snoc {l : List UInt8} {d : UInt8} (h : Rt (l ++ [d])) : Rt l := by
  cases l with
  | nil => simp [Rt]
  | cons e l => simpa [Rt] using h
theorem eq_nil_of_num {l : List UInt8} (h : Rt l) (h0 : num l = 0) : l = [] := by
  cases l with
  | nil => rfl
  | cons d l =>
    rw [num_cons] at h0
    have : d.toNat * 256 ^ l.length = 0 := by omega
    rcases Nat.mul_eq_zero.1 this with h1 | h1
    · have hd : d = 0 := UInt8.toNat_inj.1 (by simpa using h1)
      subst hd; simp [Rt] at h
    · exact absurd h1 (by have : 0 < 256 ^ l.length := Nat.pow_pos (by decide); omega)

/-- The bytes of a number, none for 0. -/
def enc (n : Nat) : List UInt8 := if _h : n = 0 then [] else enc (n / 256) ++ [UInt8.ofNat (n % 256)]
termination_by n
decreasing_by omega
theorem enc_zero : enc 0 = [] := by unfold enc; simp
theorem enc_pos {n : Nat} (h : n ≠ 0) : enc n = enc (n / 256) ++ [UInt8.ofNat (n % 256)] := by rw [enc]; simp [h]
theorem num_enc (n : Nat) : num (enc n) = n := by
  induction n using Nat.strongRecOn with
  | _ n ih =>
    by_cases h : n = 0
    · subst h; simp [enc_zero, num]
    · rw [enc_pos h, num_snoc, ih _ (by omega)]
      simp
      omega
theorem rt_enc (n : Nat) : Rt (enc n) := by
  induction n using Nat.strongRecOn with
  | _ n ih =>
    by_cases h : n = 0
    · subst h; simp [enc_zero, Rt]
    · rw [enc_pos h]
      by_cases h2 : n / 256 = 0
      · rw [h2, enc_zero]
        have : n % 256 = n := by omega
        rw [this]
        simp only [Rt, List.nil_append, List.head?_cons, ne_eq, Option.some.injEq]
        intro e
        have := congrArg UInt8.toNat e
        simp at this
        omega
      · have := ih (n / 256) (by omega)
        unfold Rt at this ⊢
        have hne : enc (n / 256) ≠ [] := by
          intro e
          have := num_enc (n / 256)
          rw [e] at this
          simp [num] at this
          omega
        rw [List.head?_append]
        cases hh : (enc (n / 256)).head? with
        | none => exact absurd (List.head?_eq_none_iff.1 hh) hne
        | some x => rw [hh] at this; simpa using this
theorem num_inj : ∀ {l r : List UInt8}, Rt l → Rt r → num l = num r → l = r := by
  intro l
  induction hn : l.length generalizing l with
  | zero =>
    intro r _ hr h
    obtain rfl : l = [] := List.eq_nil_of_length_eq_zero hn
    exact (eq_nil_of_num hr (by rw [← h]; rfl)).symm
  | succ n ih =>
    intro r hl hr h
    rcases List.eq_nil_or_concat r with rfl | ⟨r', e, rfl⟩
    · exact eq_nil_of_num hl (by rw [h]; rfl)
    rcases List.eq_nil_or_concat l with rfl | ⟨l', d, rfl⟩
    · simp at hn
    simp only [List.concat_eq_append] at *
    rw [num_snoc, num_snoc] at h
    have hd := d.toNat_lt
    have he := e.toNat_lt
    have h1 : num l' = num r' := by omega
    have h2 : d = e := UInt8.toNat_inj.1 (by omega)
    rw [ih (by simpa using hn) (rt_of_snoc hl) (rt_of_snoc hr) h1, h2]
theorem enc_num {l : List UInt8} (h : Rt l) : enc (num l) = l := num_inj (rt_enc _) h (num_enc _)
theorem enc_num_canon (l : List UInt8) : enc (num l) = canon l := by
  rw [← num_canon]; exact enc_num (rt_canon l)
theorem enc_inj {a b : Nat} (h : enc a = enc b) : a = b := by rw [← num_enc a, ← num_enc b, h]

end Mth
end Go.Proofs.YtoadjhmehgkeaaaGreatDoor
namespace Go.Proofs.YtoadjhmehgkeaaaGreatDoor
namespace Mth

/-- The words of a number N, n of them. -/
def wordsN (n N : Nat) : List Nat := (List.range n).map fun j => N / W64 ^ j % W64
theorem length_wordsN (n N : Nat) : (wordsN n N).length = n := by simp [wordsN]
theorem gt_wordsN {n N j : Nat} (h : j < n) : gt (wordsN n N) j = N / W64 ^ j % W64 := by
  rw [gt_of_lt (by rw [length_wordsN]; exact h)]; simp [wordsN]
theorem wordsN_zero (n : Nat) : wordsN n 0 = List.replicate n 0 := by
  apply gt_ext
  · simp [length_wordsN]
  · intro i hi
    rw [length_wordsN] at hi
    rw [gt_wordsN hi, gt_of_lt (by simpa using hi)]; simp
theorem dg_wordsN (n N : Nat) : Dg W64 (wordsN n N) := by
  intro i
  by_cases h : i < n
  · rw [gt_wordsN h]; exact Nat.mod_lt _ W64_pos
  · rw [gt_of_ge (by rw [length_wordsN]; omega)]; exact W64_pos
theorem vs_wordsN {n N m : Nat} (h : m ≤ n) : vs W64 (wordsN n N) 0 m = N % W64 ^ m := by
  induction m with
  | zero => simp [vs, Nat.mod_one]
  | succ m ih =>
    simp only [vs, Nat.zero_add]
    rw [ih (by omega), gt_wordsN (by omega), Nat.pow_succ, Nat.mod_mul]
theorem W64_pow (j : Nat) : W64 ^ j = 256 ^ (8 * j) := by
  rw [Nat.pow_mul]; congr 1
theorem pow_split {a b c : Nat} (h : a + b = c) : 256 ^ c = 256 ^ a * 256 ^ b := by rw [← h, Nat.pow_add]
theorem add_mod_small {x y m : Nat} (h : x % m + y < m) : (x + y) % m = x % m + y := by
  rw [Nat.add_mod, Nat.mod_eq_of_lt (show y < m by omega), Nat.mod_eq_of_lt h]
/-- A multiple of A, cut at A * B, leaves room for what is less than A. -/
theorem mul_mod_room {A B M y : Nat} (hy : y < A) (hB : 0 < B) : (A * M) % (A * B) + y < A * B := by
  rw [Nat.mul_mod_mul_left]
  have h1 : M % B + 1 ≤ B := Nat.mod_lt _ hB
  have h2 : A * (M % B + 1) ≤ A * B := Nat.mul_le_mul_left _ h1
  rw [Nat.mul_add] at h2
  omega
theorem wordsN_word {q r d M : Nat} (hr : r < 8) (hd : d < 256) : (256 ^ (r + 1) * M) % W64 + d * 256 ^ r = (256 ^ (r + 1) * M + d * 256 ^ r) % W64 ∧ (q = q) := by
  refine ⟨?_, rfl⟩
  have hW : W64 = 256 ^ (r + 1) * 256 ^ (7 - r) := by rw [← Nat.pow_add, show r + 1 + (7 - r) = 8 from by omega]; rfl
  have hlt : d * 256 ^ r < 256 ^ (r + 1) := by
    rw [Nat.pow_succ, Nat.mul_comm]
    exact Nat.mul_lt_mul_of_pos_left hd (Nat.pow_pos (by decide))
  rw [hW]
  exact (add_mod_small (mul_mod_room hlt (Nat.pow_pos (by decide)))).symm
theorem wordsN_step {n q r d M N : Nat} (hq : q < n) (hr : r < 8) (hd : d < 256) (hN : N = 256 ^ (8 * q + r + 1) * M) :
    (wordsN n N).set q (gt (wordsN n N) q + d * 256 ^ r) = wordsN n (N + d * 256 ^ (8 * q + r)) := by
  have hlt : d * 256 ^ r < 256 ^ (r + 1) := by
    rw [Nat.pow_succ, Nat.mul_comm]
    exact Nat.mul_lt_mul_of_pos_left hd (Nat.pow_pos (by decide))
  have hP : ∀ k, 0 < 256 ^ k := fun k => Nat.pow_pos (by decide)
  apply gt_ext
  · simp [length_wordsN]
  · intro j hj
    rw [List.length_set, length_wordsN] at hj
    rw [gt_set (by rw [length_wordsN]; exact hq), gt_wordsN (N := N + _) hj]
    by_cases e : q = j
    · subst e
      rw [if_pos rfl, gt_wordsN hq]
      have h1 : N / W64 ^ q = 256 ^ (r + 1) * M := by
        rw [hN, W64_pow, show 8 * q + r + 1 = 8 * q + (r + 1) from by omega, Nat.pow_add, Nat.mul_assoc, Nat.mul_div_cancel_left _ (hP _)]
      have h2 : (N + d * 256 ^ (8 * q + r)) / W64 ^ q = 256 ^ (r + 1) * M + d * 256 ^ r := by
        have : N + d * 256 ^ (8 * q + r) = 256 ^ (8 * q) * (256 ^ (r + 1) * M + d * 256 ^ r) := by
          rw [hN, show 8 * q + r + 1 = 8 * q + (r + 1) from by omega, Nat.pow_add 256 (8 * q) (r + 1), Nat.pow_add 256 (8 * q) r, Nat.mul_add, Nat.mul_assoc, Nat.mul_left_comm d]
        rw [this, W64_pow, Nat.mul_div_cancel_left _ (hP _)]
      rw [h1, h2]
      exact (wordsN_word (q := q) hr hd).1
    · rw [if_neg e, gt_wordsN hj]
      rcases Nat.lt_or_gt_of_ne e with h | h
      · -- a later word
        have hle : 256 ^ (8 * q + r + 1) * 256 ^ (8 * j - (8 * q + r + 1)) = W64 ^ j := by
          rw [W64_pow, ← Nat.pow_add]; congr 1; omega
        have hroom : N % W64 ^ j + d * 256 ^ (8 * q + r) < W64 ^ j := by
          rw [hN, ← hle]
          refine mul_mod_room ?_ (hP _)
          rw [Nat.pow_add 256 (8 * q), Nat.mul_left_comm, show 8 * q + r + 1 = 8 * q + (r + 1) from by omega, Nat.pow_add 256 (8 * q)]
          exact Nat.mul_lt_mul_of_pos_left hlt (hP _)
        congr 1
        have h3 := Nat.mod_add_div N (W64 ^ j)
        have h4 : (N + d * 256 ^ (8 * q + r)) / W64 ^ j = N / W64 ^ j := by
          have e2 : N + d * 256 ^ (8 * q + r) = (N % W64 ^ j + d * 256 ^ (8 * q + r)) + W64 ^ j * (N / W64 ^ j) := by omega
          rw [e2, Nat.add_mul_div_left _ _ (Nat.pow_pos W64_pos), Nat.div_eq_of_lt hroom, Nat.zero_add]
        exact h4.symm
      · -- an earlier word
        obtain ⟨m, hm⟩ : ∃ m, 8 * q + r = (8 * (j + 1)) + m := ⟨8 * q + r - 8 * (j + 1), by omega⟩
        have key : ∀ K, (W64 ^ (j + 1) * K) / W64 ^ j % W64 = 0 := by
          intro K
          rw [Nat.pow_succ, Nat.mul_assoc, Nat.mul_div_cancel_left _ (Nat.pow_pos W64_pos)]
          simp
        have e1 : N = W64 ^ (j + 1) * (256 ^ (m + 1) * M) := by
          rw [hN, W64_pow, ← Nat.mul_assoc, ← Nat.pow_add]; congr 2; omega
        have e2 : N + d * 256 ^ (8 * q + r) = W64 ^ (j + 1) * (256 ^ (m + 1) * M + d * 256 ^ m) := by
          rw [Nat.mul_add, ← e1, hm, Nat.pow_add, W64_pow, Nat.mul_left_comm]
        rw [e2, key, e1, key]
/-- The word that is or-ed with a byte that is not in it yet. -/
theorem or_byte {x r d : Nat} (hd : d < 256) (hx : 256 ^ (r + 1) ∣ x) : x ||| (d * 256 ^ r) = x + d * 256 ^ r := by
  obtain ⟨M, rfl⟩ := hx
  have h : 256 ^ (r + 1) = 2 ^ (8 * (r + 1)) := by rw [Nat.pow_mul]
  have hlt : d * 256 ^ r < 2 ^ (8 * (r + 1)) := by
    rw [← h, Nat.pow_succ, Nat.mul_comm]
    exact Nat.mul_lt_mul_of_pos_left hd (Nat.pow_pos (by decide))
  rw [h, Nat.two_pow_add_eq_or_of_lt hlt]
theorem wordsN_dvd {n q r M N : Nat} (hq : q < n) (hr : r < 8) (hN : N = 256 ^ (8 * q + r + 1) * M) : 256 ^ (r + 1) ∣ gt (wordsN n N) q := by
  have hP : ∀ k, 0 < 256 ^ k := fun k => Nat.pow_pos (by decide)
  rw [gt_wordsN hq]
  have h1 : N / W64 ^ q = 256 ^ (r + 1) * M := by
    rw [hN, W64_pow, show 8 * q + r + 1 = 8 * q + (r + 1) from by omega, Nat.pow_add, Nat.mul_assoc, Nat.mul_div_cancel_left _ (hP _)]
  have hW : W64 = 256 ^ (r + 1) * 256 ^ (7 - r) := by rw [← Nat.pow_add, show r + 1 + (7 - r) = 8 from by omega]; rfl
  rw [h1, hW, Nat.mul_mod_mul_left]
  exact Nat.dvd_mul_right _ _

/-- The first i bytes of L, at their places in a number of L.length bytes. -/
def front (L : List UInt8) (i : Nat) : Nat := num (L.take i) * 256 ^ (L.length - i)
theorem front_zero (L : List UInt8) : front L 0 = 0 := by simp [front, num]
theorem front_all (L : List UInt8) : front L L.length = num L := by simp [front]
theorem front_succ (L : List UInt8) {i : Nat} (h : i < L.length) : front L (i + 1) = front L i + L[i].toNat * 256 ^ (L.length - 1 - i) := by
  unfold front
  rw [List.take_succ_eq_append_getElem h, num_snoc, show L.length - i = (L.length - 1 - i) + 1 from by omega, show L.length - (i + 1) = L.length - 1 - i from by omega, Nat.pow_succ, Nat.add_mul]
  congr 1
  rw [Nat.mul_comm (256 ^ _) 256, ← Nat.mul_assoc, Nat.mul_comm 256]
theorem front_dvd (L : List UInt8) {i : Nat} (h : i < L.length) : front L i = 256 ^ (L.length - 1 - i + 1) * num (L.take i) := by
  unfold front
  rw [show L.length - 1 - i + 1 = L.length - i from by omega, Nat.mul_comm]
/-- One round of wordsOf. -/
theorem words_round (L : List UInt8) {n i q r d : Nat} (hi : i < L.length) (hp : L.length - 1 - i = 8 * q + r) (hr : r < 8) (hq : q < n) (hd : d = L[i].toNat) :
    (wordsN n (front L i)).set q (gt (wordsN n (front L i)) q ||| (d * 256 ^ r)) = wordsN n (front L (i + 1)) := by
  subst hd
  have hd := L[i].toNat_lt
  have hN := front_dvd L hi
  rw [hp] at hN
  rw [or_byte hd (wordsN_dvd hq hr hN), wordsN_step hq hr hd hN, front_succ L hi, hp]
/-- A right number has its greatest word not 0. -/
theorem num_ge {L : List UInt8} (h : Rt L) (hne : L ≠ []) : 256 ^ (L.length - 1) ≤ num L := by
  cases L with
  | nil => exact absurd rfl hne
  | cons d l =>
    have hd : d.toNat ≠ 0 := by
      intro e
      have : d = 0 := UInt8.toNat_inj.1 (by simpa using e)
      subst this; simp [Rt] at h
    rw [num_cons, List.length_cons, Nat.add_sub_cancel]
    have : 1 * 256 ^ l.length ≤ d.toNat * 256 ^ l.length := Nat.mul_le_mul_right _ (by omega)
    omega
/-- The words of a number, trimmed. -/
structure Words (xs : List Nat) (N : Nat) : Prop where
  dg : Dg W64 xs
  val : vs W64 xs 0 xs.length = N
  top : xs.length = 0 ∨ gt xs (xs.length - 1) ≠ 0
theorem words_of {L : List UInt8} (h : Rt L) : Words (wordsN ((L.length + 7) / 8) (num L)) (num L) := by
  have hlt := num_lt L
  have hlen : (wordsN ((L.length + 7) / 8) (num L)).length = (L.length + 7) / 8 := length_wordsN _ _
  refine ⟨dg_wordsN _ _, ?_, ?_⟩
  · rw [hlen, vs_wordsN (Nat.le_refl _)]
    apply Nat.mod_eq_of_lt
    rw [W64_pow]
    exact Nat.lt_of_lt_of_le hlt (Nat.pow_le_pow_right (by decide) (by omega))
  · rw [hlen]
    by_cases hL : L = []
    · left; simp [hL]
    · right
      have hpos : 0 < L.length := List.length_pos_iff.2 hL
      have hge := num_ge h hL
      rw [gt_wordsN (by omega)]
      have h1 : num L / W64 ^ ((L.length + 7) / 8 - 1) < W64 := by
        rw [Nat.div_lt_iff_lt_mul (Nat.pow_pos W64_pos), ← Nat.pow_succ', W64_pow]
        exact Nat.lt_of_lt_of_le hlt (Nat.pow_le_pow_right (by decide) (by omega))
      rw [Nat.mod_eq_of_lt h1]
      have h2 : W64 ^ ((L.length + 7) / 8 - 1) ≤ num L := by
        rw [W64_pow]
        exact Nat.le_trans (Nat.pow_le_pow_right (by decide) (by omega)) hge
      have := Nat.div_pos h2 (Nat.pow_pos W64_pos)
      omega
end Mth
end Go.Proofs.YtoadjhmehgkeaaaGreatDoor
namespace Go.Proofs.YtoadjhmehgkeaaaGreatDoor
open Go.RowKit Mth

theorem wrap_u64 (n : Nat) (h : n < W64) : IntKind.u64.wrap (n : Int) = (n : Int) := IntWalk.u64_in _ ⟨by omega, by rw [W64_eq] at h; omega⟩
theorem pow_cast (r : Nat) : (2 : Int) ^ (8 * r) = ((256 ^ r : Nat) : Int) := by
  rw [show (256 : Nat) = 2 ^ 8 from rfl, ← Nat.pow_mul]
  simp
theorem or_word (x d r : Nat) (hx : x < W64) (hd : d < 256) (hr : r < 8) :
    bits BinOp.or IntKind.u64 (x : Int) (IntKind.u64.wrap (IntKind.u64.wrap (d : Int) * (2 : Int) ^ (8 * r))) = ((x ||| d * 256 ^ r : Nat) : Int) := by
  have h1 : d * 256 ^ r < W64 := by
    have h2 : 256 ^ r ≤ 256 ^ 7 := Nat.pow_le_pow_right (by decide) (by omega)
    have h3 : d * 256 ^ r ≤ 255 * 256 ^ 7 := Nat.mul_le_mul (by omega) h2
    rw [W64_eq]; omega
  rw [wrap_u64 d (by rw [W64_eq]; omega), pow_cast, ← Int.natCast_mul, wrap_u64 _ h1]
  exact bits_or_u64_nat _ _ (by rw [W64_eq] at hx; exact hx) (by rw [W64_eq] at h1; exact h1)
theorem byte_word (g r : Nat) : ((g : Int) / (2 : Int) ^ (8 * r) % 256) = ((g / 256 ^ r % 256 : Nat) : Int) := by
  rw [pow_cast]; simp
end Go.Proofs.YtoadjhmehgkeaaaGreatDoor
