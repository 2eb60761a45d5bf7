/- Contracts of package nat and of the reference, part 0: Mth, MthW, MthB, MthD, MthK, Mem, Str. -/
import Derived.Lib.ItoaNum
import Derived.WalkKit
import Derived.Laws.CopyOwn
import Derived.Deep.Draws
import Derived.Lib.Hide
import Derived.Test.YtoadjhmehgkeaaaDoorChecked
import Derived.WalkSpells
import Derived.WalkLawsBesides
import Derived.Lib.IndexBytes
namespace Go.Proofs.YtoadjhmehgkeaaaDoor
namespace Mth

/-- The number at a place, 0 where there is none. -/
def gt (xs : List Nat) (i : Nat) : Nat := xs.getD i 0
theorem gt_of_lt {xs : List Nat} {i : Nat} (h : i < xs.length) : gt xs i = xs[i] := by simp [gt, List.getD, List.getElem?_eq_getElem h]
theorem gt_of_ge {xs : List Nat} {i : Nat} (h : xs.length ≤ i) : gt xs i = 0 := by simp [gt, List.getD, List.getElem?_eq_none h]
theorem gt_mem {xs : List Nat} {i : Nat} (h : i < xs.length) : gt xs i ∈ xs := by rw [gt_of_lt h]; exact List.getElem_mem h
theorem gt_set {xs : List Nat} {i j v : Nat} (h : i < xs.length) : gt (xs.set i v) j = if i = j then v else gt xs j := by
  by_cases e : i = j
  · subst e; rw [if_pos rfl]; simp [gt, List.getD, h]
  · rw [if_neg e]; simp [gt, List.getD, List.getElem?_set_ne e]
theorem gt_ext {xs ys : List Nat} (hl : xs.length = ys.length) (h : ∀ i, i < xs.length → gt xs i = gt ys i) : xs = ys := by
  apply List.ext_getElem hl
  intro i h1 h2
  have := h i h1
  rwa [gt_of_lt h1, gt_of_lt h2] at this
theorem gt_drop (xs : List Nat) (a i : Nat) : gt (xs.drop a) i = gt xs (a + i) := by simp [gt, List.getD]
theorem gt_take {xs : List Nat} {n i : Nat} (h : i < n) : gt (xs.take n) i = gt xs i := by simp [gt, List.getD, h]
theorem gt_append_left {xs ys : List Nat} {i : Nat} (h : i < xs.length) : gt (xs ++ ys) i = gt xs i := by simp [gt, List.getD, List.getElem?_append_left h]
theorem gt_append_right {xs ys : List Nat} {i : Nat} (h : xs.length ≤ i) : gt (xs ++ ys) i = gt ys (i - xs.length) := by simp [gt, List.getD, List.getElem?_append_right h]

/-- The value of digits to a base, the least significant one first. -/
def val (b : Nat) : List Nat → Nat
  | [] => 0
  | d :: l => d + b * val b l

theorem val_nil (b : Nat) : val b [] = 0 := rfl
theorem val_cons (b d : Nat) (l : List Nat) : val b (d :: l) = d + b * val b l := rfl
theorem val_append (b : Nat) (l r : List Nat) : val b (l ++ r) = val b l + b ^ l.length * val b r := by
  induction l with
  | nil => simp [val]
  | cons d l ih => simp only [List.cons_append, val, ih, List.length_cons, Nat.pow_succ, Nat.mul_add]; rw [Nat.mul_comm (b ^ l.length) b, Nat.mul_assoc, Nat.add_assoc]
theorem val_snoc (b : Nat) (l : List Nat) (d : Nat) : val b (l ++ [d]) = val b l + b ^ l.length * d := by
  rw [val_append]; simp [val]
theorem val_lt (b : Nat) (l : List Nat) (h : ∀ d ∈ l, d < b) : val b l < b ^ l.length := by
  induction l with
  | nil => simp [val]
  | cons d l ih =>
    have h1 := ih (fun x hx => h x (List.mem_cons_of_mem _ hx))
    have h2 := h d List.mem_cons_self
    simp only [val, List.length_cons, Nat.pow_succ]
    have h3 : b * (val b l + 1) ≤ b * b ^ l.length := Nat.mul_le_mul_left _ h1
    rw [Nat.mul_comm (b ^ l.length) b]
    rw [Nat.mul_add] at h3
    omega
theorem val_zeros (b n : Nat) : val b (List.replicate n 0) = 0 := by
  induction n with
  | zero => rfl
  | succ n ih => simp [List.replicate_succ, val, ih]

/-- 2 to the power of 64. -/
def W64 : Nat := 18446744073709551616
theorem W64_pos : 0 < W64 := by decide
theorem W64_eq : W64 = 18446744073709551616 := rfl
/-- All numbers are less than the base. -/
def Dg (b : Nat) (xs : List Nat) : Prop := ∀ i, gt xs i < b
theorem Dg.of_mem {b : Nat} {xs : List Nat} (hb : 0 < b) (h : ∀ d ∈ xs, d < b) : Dg b xs := by
  intro i
  by_cases hi : i < xs.length
  · exact h _ (gt_mem hi)
  · rw [gt_of_ge (by omega)]; exact hb
theorem Dg.mem {b : Nat} {xs : List Nat} (h : Dg b xs) : ∀ d ∈ xs, d < b := by
  intro d hd
  obtain ⟨i, hi, rfl⟩ := List.getElem_of_mem hd
  rw [← gt_of_lt hi]; exact h i
theorem Dg.set {b : Nat} {xs : List Nat} (h : Dg b xs) {i v : Nat} (hv : v < b) : Dg b (xs.set i v) := by
  intro j
  by_cases hi : i < xs.length
  · rw [gt_set hi]; split
    · exact hv
    · exact h j
  · rw [List.set_eq_of_length_le (by omega)]; exact h j
/-- The value of n digits from a place on. -/
def vs (b : Nat) (xs : List Nat) (off : Nat) : Nat → Nat
  | 0 => 0
  | n + 1 => vs b xs off n + b ^ n * gt xs (off + n)
theorem vs_congr {b : Nat} {xs ys : List Nat} {off off' n : Nat} (h : ∀ i, i < n → gt xs (off + i) = gt ys (off' + i)) : vs b xs off n = vs b ys off' n := by
  induction n with
  | zero => rfl
  | succ n ih => simp only [vs]; rw [ih (fun i hi => h i (by omega)), h n (by omega)]
theorem vs_lt {b : Nat} {xs : List Nat} {off n : Nat} (h : Dg b xs) : vs b xs off n < b ^ n := by
  induction n with
  | zero => simp [vs]
  | succ n ih =>
    simp only [vs, Nat.pow_succ]
    have h2 := h (off + n)
    have h3 : b ^ n * (gt xs (off + n) + 1) ≤ b ^ n * b := Nat.mul_le_mul_left _ h2
    rw [Nat.mul_add] at h3
    omega
theorem vs_split (b : Nat) (xs : List Nat) (off m n : Nat) : vs b xs off (m + n) = vs b xs off m + b ^ m * vs b xs (off + m) n := by
  induction n with
  | zero => simp [vs]
  | succ n ih =>
    rw [← Nat.add_assoc]
    simp only [vs]
    rw [ih, Nat.mul_add, Nat.pow_add, Nat.mul_assoc, Nat.add_assoc off m n, Nat.add_assoc]
theorem vs_zero {b : Nat} {xs : List Nat} {off n : Nat} (h : ∀ i, i < n → gt xs (off + i) = 0) : vs b xs off n = 0 := by
  induction n with
  | zero => rfl
  | succ n ih => simp only [vs]; rw [ih (fun i hi => h i (by omega)), h n (by omega)]; simp
theorem vs_take {b : Nat} (xs : List Nat) (n : Nat) (h : n ≤ xs.length) : vs b xs 0 n = val b (xs.take n) := by
  induction n with
  | zero => simp [vs, val]
  | succ n ih =>
    rw [List.take_succ_eq_append_getElem (by omega), val_snoc, List.length_take_of_le (by omega), ← ih (by omega), ← gt_of_lt]
    simp only [vs, Nat.zero_add]
theorem vs_val {b : Nat} (xs : List Nat) : vs b xs 0 xs.length = val b xs := by
  rw [vs_take xs _ (Nat.le_refl _), List.take_length]
/-- The two halves of a sum with a carry. -/
def addLo (x y c : Nat) : Nat := (x + y + c) % W64
def addHi (x y c : Nat) : Nat := (x + y + c) / W64
theorem add_split (x y c : Nat) : addLo x y c + W64 * addHi x y c = x + y + c := Nat.mod_add_div _ _
theorem addLo_lt (x y c : Nat) : addLo x y c < W64 := Nat.mod_lt _ W64_pos
theorem addHi_le {x y c : Nat} (hx : x < W64) (hy : y < W64) (hc : c ≤ 1) : addHi x y c ≤ 1 := by
  unfold addHi; rw [W64_eq] at *; omega
/-- One step of an addition with a carry. -/
theorem add_step {P n V A X Y lo hi c : Nat} (hP : P = W64 ^ n) (h : V + P * c = A) (hs : lo + W64 * hi = X + Y + c) : (V + P * lo) + W64 ^ (n + 1) * hi = A + P * X + P * Y := by
  have e : P * lo + W64 ^ (n + 1) * hi = P * X + P * Y + P * c := by
    rw [Nat.pow_succ, ← hP, Nat.mul_assoc, ← Nat.mul_add, hs, Nat.mul_add, Nat.mul_add]
  omega

/-- The value of bytes, the most significant one first. -/
def num (l : List UInt8) : Nat := l.foldl (fun a d => 256 * a + d.toNat) 0
theorem num_nil : num [] = 0 := rfl
theorem num_snoc (l : List UInt8) (d : UInt8) : num (l ++ [d]) = 256 * num l + d.toNat := by simp [num]
theorem foldl_shift (l : List UInt8) : ∀ a : Nat, l.foldl (fun a d => 256 * a + d.toNat) a = a * 256 ^ l.length + num l := by
  induction l with
  | nil => intro a; simp [num]
  | cons d l ih =>
    intro a
    show List.foldl (fun a d => 256 * a + d.toNat) (256 * a + d.toNat) l = a * 256 ^ (l.length + 1) + List.foldl (fun a d => 256 * a + d.toNat) (256 * 0 + d.toNat) l
    rw [ih, ih, Nat.pow_succ, Nat.add_mul, Nat.mul_zero, Nat.zero_add]
    rw [show 256 * a * 256 ^ l.length = a * (256 ^ l.length * 256) from by rw [Nat.mul_comm 256 a, Nat.mul_assoc, Nat.mul_comm 256]]
    omega
theorem num_cons (d : UInt8) (l : List UInt8) : num (d :: l) = d.toNat * 256 ^ l.length + num l := by
  have h := foldl_shift l d.toNat
  show List.foldl (fun a d => 256 * a + d.toNat) (256 * 0 + d.toNat) l = _
  rw [Nat.mul_zero, Nat.zero_add, h]
theorem num_append (l r : List UInt8) : num (l ++ r) = num l * 256 ^ r.length + num r := by
  simp only [num, List.foldl_append]
  exact foldl_shift r _
theorem num_lt (l : List UInt8) : num l < 256 ^ l.length := by
  induction l with
  | nil => simp [num]
  | cons d l ih =>
    rw [num_cons, List.length_cons, Nat.pow_succ]
    have := d.toNat_lt
    have h3 : (d.toNat + 1) * 256 ^ l.length ≤ 256 * 256 ^ l.length := Nat.mul_le_mul_right _ (by omega)
    rw [Nat.add_mul] at h3
    omega

/-- Bytes without zeros in front. -/
def canon : List UInt8 → List UInt8
  | [] => []
  | d :: l => if d = 0 then canon l else d :: l
def Rt (l : List UInt8) : Prop := l.head? ≠ some 0
theorem rt_canon (l : List UInt8) : Rt (canon l) := by
  induction l with
  | nil => simp [canon, Rt]
  | cons d l ih => unfold canon; split <;> simp_all [Rt]
theorem num_canon (l : List UInt8) : num (canon l) = num l := by
  induction l with
  | nil => rfl
  | cons d l ih =>
    unfold canon; split
    · rename_i h; rw [ih, num_cons, h]; simp
    · rfl
theorem canon_of_rt {l : List UInt8} (h : Rt l) : canon l = l := by
  cases l with
  | nil => rfl
  | cons d l => unfold canon; rw [if_neg]; intro e; subst e; simp [Rt] at h
theorem canon_length_le (l : List UInt8) : (canon l).length ≤ l.length := by
  induction l with
  | nil => simp [canon]
  | cons d l ih => unfold canon; split <;> simp; omega
theorem rt_of_snoc {l : List UInt8} {d : UInt8} (h : Rt (l ++ [d])) : Rt l := by
  cases l with
  | nil => simp [Rt]
  | cons e l => simpa [Rt] using h
theorem eq_nil_of_num {l : List UInt8} (h : Rt l) (h0 : num l = 0) : l = [] := by
  cases l with
  | nil => rfl
  | cons d l =>
    rw [num_cons] at h0
    have : d.toNat * 256 ^ l.length = 0 := by omega
    rcases Nat.mul_eq_zero.1 this with h1 | h1
    · have hd : d = 0 := UInt8.toNat_inj.1 (by simpa using h1)
      subst hd; simp [Rt] at h
    · exact absurd h1 (by have : 0 < 256 ^ l.length := Nat.pow_pos (by decide); omega)

/-- The bytes of a number, none for 0. -/
def enc (n : Nat) : List UInt8 := if _h : n = 0 then [] else enc (n / 256) ++ [UInt8.ofNat (n % 256)]
termination_by n
decreasing_by omega
theorem enc_zero : enc 0 = [] := by unfold enc; simp
theorem enc_pos {n : Nat} (h : n ≠ 0) : enc n = enc (n / 256) ++ [UInt8.ofNat (n % 256)] := by rw [enc]; simp [h]
theorem num_enc (n : Nat) : num (enc n) = n := by
  induction n using Nat.strongRecOn with
  | _ n ih =>
    by_cases h : n = 0
    · subst h; simp [enc_zero, num]
    · rw [enc_pos h, num_snoc, ih _ (by omega)]
      simp
      omega
theorem rt_enc (n : Nat) : Rt (enc n) := by
  induction n using Nat.strongRecOn with
  | _ n ih =>
    by_cases h : n = 0
    · subst h; simp [enc_zero, Rt]
    · rw [enc_pos h]
      by_cases h2 : n / 256 = 0
      · rw [h2, enc_zero]
        have : n % 256 = n := by omega
        rw [this]
        simp only [Rt, List.nil_append, List.head?_cons, ne_eq, Option.some.injEq]
        intro e
        have := congrArg UInt8.toNat e
        simp at this
        omega
      · have := ih (n / 256) (by omega)
        unfold Rt at this ⊢
        have hne : enc (n / 256) ≠ [] := by
          intro e
          have := num_enc (n / 256)
          rw [e] at this
          simp [num] at this
          omega
        rw [List.head?_append]
        cases hh : (enc (n / 256)).head? with
        | none => exact absurd (List.head?_eq_none_iff.1 hh) hne
        | some x => rw [hh] at this; simpa using this
theorem num_inj : ∀ {l r : List UInt8}, Rt l → Rt r → num l = num r → l = r := by
  intro l
  induction hn : l.length generalizing l with
  | zero =>
    intro r _ hr h
    obtain rfl : l = [] := List.eq_nil_of_length_eq_zero hn
    exact (eq_nil_of_num hr (by rw [← h]; rfl)).symm
  | succ n ih =>
    intro r hl hr h
    rcases List.eq_nil_or_concat r with rfl | ⟨r', e, rfl⟩
    · exact eq_nil_of_num hl (by rw [h]; rfl)
    rcases List.eq_nil_or_concat l with rfl | ⟨l', d, rfl⟩
    · simp at hn
    simp only [List.concat_eq_append] at *
    rw [num_snoc, num_snoc] at h
    have hd := d.toNat_lt
    have he := e.toNat_lt
    have h1 : num l' = num r' := by omega
    have h2 : d = e := UInt8.toNat_inj.1 (by omega)
    rw [ih (by simpa using hn) (rt_of_snoc hl) (rt_of_snoc hr) h1, h2]
theorem enc_num {l : List UInt8} (h : Rt l) : enc (num l) = l := num_inj (rt_enc _) h (num_enc _)
theorem enc_num_canon (l : List UInt8) : enc (num l) = canon l := by
  rw [← num_canon]; exact enc_num (rt_canon l)
theorem enc_inj {a b : Nat} (h : enc a = enc b) : a = b := by rw [← num_enc a, ← num_enc b, h]

end Mth
end Go.Proofs.YtoadjhmehgkeaaaDoor
namespace Go.Proofs.YtoadjhmehgkeaaaDoor
namespace Mth

/-- The words of a number N, n of them. -/
def wordsN (n N : Nat) : List Nat := (List.range n).map fun j => N / W64 ^ j % W64
theorem length_wordsN (n N : Nat) : (wordsN n N).length = n := by simp [wordsN]
theorem gt_wordsN {n N j : Nat} (h : j < n) : gt (wordsN n N) j = N / W64 ^ j % W64 := by
  rw [gt_of_lt (by rw [length_wordsN]; exact h)]; simp [wordsN]
theorem wordsN_zero (n : Nat) : wordsN n 0 = List.replicate n 0 := by
  apply gt_ext
  · simp [length_wordsN]
  · intro i hi
    rw [length_wordsN] at hi
    rw [gt_wordsN hi, gt_of_lt (by simpa using hi)]; simp
theorem dg_wordsN (n N : Nat) : Dg W64 (wordsN n N) := by
  intro i
  by_cases h : i < n
  · rw [gt_wordsN h]; exact Nat.mod_lt _ W64_pos
  · rw [gt_of_ge (by rw [length_wordsN]; omega)]; exact W64_pos
theorem vs_wordsN {n N m : Nat} (h : m ≤ n) : vs W64 (wordsN n N) 0 m = N % W64 ^ m := by
  induction m with
  | zero => simp [vs, Nat.mod_one]
  | succ m ih =>
    simp only [vs, Nat.zero_add]
    rw [ih (by omega), gt_wordsN (by omega), Nat.pow_succ, Nat.mod_mul]
theorem W64_pow (j : Nat) : W64 ^ j = 256 ^ (8 * j) := by
  rw [Nat.pow_mul]; congr 1
theorem pow_split {a b c : Nat} (h : a + b = c) : 256 ^ c = 256 ^ a * 256 ^ b := by rw [← h, Nat.pow_add]
theorem add_mod_small {x y m : Nat} (h : x % m + y < m) : (x + y) % m = x % m + y := by
  rw [Nat.add_mod, Nat.mod_eq_of_lt (show y < m by omega), Nat.mod_eq_of_lt h]
/-- A multiple of A, cut at A * B, leaves room for what is less than A. -/
theorem mul_mod_room {A B M y : Nat} (hy : y < A) (hB : 0 < B) : (A * M) % (A * B) + y < A * B := by
  rw [Nat.mul_mod_mul_left]
  have h1 : M % B + 1 ≤ B := Nat.mod_lt _ hB
  have h2 : A * (M % B + 1) ≤ A * B := Nat.mul_le_mul_left _ h1
  rw [Nat.mul_add] at h2
  omega
theorem wordsN_word {q r d M : Nat} (hr : r < 8) (hd : d < 256) : (256 ^ (r + 1) * M) % W64 + d * 256 ^ r = (256 ^ (r + 1) * M + d * 256 ^ r) % W64 ∧ (q = q) := by
  refine ⟨?_, rfl⟩
  have hW : W64 = 256 ^ (r + 1) * 256 ^ (7 - r) := by rw [← Nat.pow_add, show r + 1 + (7 - r) = 8 from by omega]; rfl
  have hlt : d * 256 ^ r < 256 ^ (r + 1) := by
    rw [Nat.pow_succ, Nat.mul_comm]
    exact Nat.mul_lt_mul_of_pos_left hd (Nat.pow_pos (by decide))
  rw [hW]
  exact (add_mod_small (mul_mod_room hlt (Nat.pow_pos (by decide)))).symm
theorem wordsN_step {n q r d M N : Nat} (hq : q < n) (hr : r < 8) (hd : d < 256) (hN : N = 256 ^ (8 * q + r + 1) * M) :
    (wordsN n N).set q (gt (wordsN n N) q + d * 256 ^ r) = wordsN n (N + d * 256 ^ (8 * q + r)) := by
  have hlt : d * 256 ^ r < 256 ^ (r + 1) := by
    rw [Nat.pow_succ, Nat.mul_comm]
    exact Nat.mul_lt_mul_of_pos_left hd (Nat.pow_pos (by decide))
  have hP : ∀ k, 0 < 256 ^ k := fun k => Nat.pow_pos (by decide)
  apply gt_ext
  · simp [length_wordsN]
  · intro j hj
    rw [List.length_set, length_wordsN] at hj
    rw [gt_set (by rw [length_wordsN]; exact hq), gt_wordsN (N := N + _) hj]
    by_cases e : q = j
    · subst e
      rw [if_pos rfl, gt_wordsN hq]
      have h1 : N / W64 ^ q = 256 ^ (r + 1) * M := by
        rw [hN, W64_pow, show 8 * q + r + 1 = 8 * q + (r + 1) from by omega, Nat.pow_add, Nat.mul_assoc, Nat.mul_div_cancel_left _ (hP _)]
      have h2 : (N + d * 256 ^ (8 * q + r)) / W64 ^ q = 256 ^ (r + 1) * M + d * 256 ^ r := by
        have : N + d * 256 ^ (8 * q + r) = 256 ^ (8 * q) * (256 ^ (r + 1) * M + d * 256 ^ r) := by
          rw [hN, show 8 * q + r + 1 = 8 * q + (r + 1) from by omega, Nat.pow_add 256 (8 * q) (r + 1), Nat.pow_add 256 (8 * q) r, Nat.mul_add, Nat.mul_assoc, Nat.mul_left_comm d]
        rw [this, W64_pow, Nat.mul_div_cancel_left _ (hP _)]
      rw [h1, h2]
      exact (wordsN_word (q := q) hr hd).1
    · rw [if_neg e, gt_wordsN hj]
      rcases Nat.lt_or_gt_of_ne e with h | h
      · -- a later word
        have hle : 256 ^ (8 * q + r + 1) * 256 ^ (8 * j - (8 * q + r + 1)) = W64 ^ j := by
          rw [W64_pow, ← Nat.pow_add]; congr 1; omega
        have hroom : N % W64 ^ j + d * 256 ^ (8 * q + r) < W64 ^ j := by
          rw [hN, ← hle]
          refine mul_mod_room ?_ (hP _)
          rw [Nat.pow_add 256 (8 * q), Nat.mul_left_comm, show 8 * q + r + 1 = 8 * q + (r + 1) from by omega, Nat.pow_add 256 (8 * q)]
          exact Nat.mul_lt_mul_of_pos_left hlt (hP _)
        congr 1
        have h3 := Nat.mod_add_div N (W64 ^ j)
        have h4 : (N + d * 256 ^ (8 * q + r)) / W64 ^ j = N / W64 ^ j := by
          have e2 : N + d * 256 ^ (8 * q + r) = (N % W64 ^ j + d * 256 ^ (8 * q + r)) + W64 ^ j * (N / W64 ^ j) := by omega
          rw [e2, Nat.add_mul_div_left _ _ (Nat.pow_pos W64_pos), Nat.div_eq_of_lt hroom, Nat.zero_add]
        exact h4.symm
      · -- an earlier word
        obtain ⟨m, hm⟩ : ∃ m, 8 * q + r = (8 * (j + 1)) + m := ⟨8 * q + r - 8 * (j + 1), by omega⟩
        have key : ∀ K, (W64 ^ (j + 1) * K) / W64 ^ j % W64 = 0 := by
          intro K
          rw [Nat.pow_succ, Nat.mul_assoc, Nat.mul_div_cancel_left _ (Nat.pow_pos W64_pos)]
          simp
        have e1 : N = W64 ^ (j + 1) * (256 ^ (m + 1) * M) := by
          rw [hN, W64_pow, ← Nat.mul_assoc, ← Nat.pow_add]; congr 2; omega
        have e2 : N + d * 256 ^ (8 * q + r) = W64 ^ (j + 1) * (256 ^ (m + 1) * M + d * 256 ^ m) := by
          rw [Nat.mul_add, ← e1, hm, Nat.pow_add, W64_pow, Nat.mul_left_comm]
        rw [e2, key, e1, key]
/-- The word that is or-ed with a byte that is not in it yet. -/
theorem or_byte {x r d : Nat} (hd : d < 256) (hx : 256 ^ (r + 1) ∣ x) : x ||| (d * 256 ^ r) = x + d * 256 ^ r := by
  obtain ⟨M, rfl⟩ := hx
  have h : 256 ^ (r + 1) = 2 ^ (8 * (r + 1)) := by rw [Nat.pow_mul]
  have hlt : d * 256 ^ r < 2 ^ (8 * (r + 1)) := by
    rw [← h, Nat.pow_succ, Nat.mul_comm]
    exact Nat.mul_lt_mul_of_pos_left hd (Nat.pow_pos (by decide))
  rw [h, Nat.two_pow_add_eq_or_of_lt hlt]
theorem wordsN_dvd {n q r M N : Nat} (hq : q < n) (hr : r < 8) (hN : N = 256 ^ (8 * q + r + 1) * M) : 256 ^ (r + 1) ∣ gt (wordsN n N) q := by
  have hP : ∀ k, 0 < 256 ^ k := fun k => Nat.pow_pos (by decide)
  rw [gt_wordsN hq]
  have h1 : N / W64 ^ q = 256 ^ (r + 1) * M := by
    rw [hN, W64_pow, show 8 * q + r + 1 = 8 * q + (r + 1) from by omega, Nat.pow_add, Nat.mul_assoc, Nat.mul_div_cancel_left _ (hP _)]
  have hW : W64 = 256 ^ (r + 1) * 256 ^ (7 - r) := by rw [← Nat.pow_add, show r + 1 + (7 - r) = 8 from by omega]; rfl
  rw [h1, hW, Nat.mul_mod_mul_left]
  exact Nat.dvd_mul_right _ _

/-- The first i bytes of L, at their places in a number of L.length bytes. -/
def front (L : List UInt8) (i : Nat) : Nat := num (L.take i) * 256 ^ (L.length - i)
theorem front_zero (L : List UInt8) : front L 0 = 0 := by simp [front, num]
theorem front_all (L : List UInt8) : front L L.length = num L := by simp [front]
theorem front_succ (L : List UInt8) {i : Nat} (h : i < L.length) : front L (i + 1) = front L i + L[i].toNat * 256 ^ (L.length - 1 - i) := by
  unfold front
  rw [List.take_succ_eq_append_getElem h, num_snoc, show L.length - i = (L.length - 1 - i) + 1 from by omega, show L.length - (i + 1) = L.length - 1 - i from by omega, Nat.pow_succ, Nat.add_mul]
  congr 1
  rw [Nat.mul_comm (256 ^ _) 256, ← Nat.mul_assoc, Nat.mul_comm 256]
theorem front_dvd (L : List UInt8) {i : Nat} (h : i < L.length) : front L i = 256 ^ (L.length - 1 - i + 1) * num (L.take i) := by
  unfold front
  rw [show L.length - 1 - i + 1 = L.length - i from by omega, Nat.mul_comm]
/-- One round of wordsOf. -/
theorem words_round (L : List UInt8) {n i q r d : Nat} (hi : i < L.length) (hp : L.length - 1 - i = 8 * q + r) (hr : r < 8) (hq : q < n) (hd : d = L[i].toNat) :
    (wordsN n (front L i)).set q (gt (wordsN n (front L i)) q ||| (d * 256 ^ r)) = wordsN n (front L (i + 1)) := by
  subst hd
  have hd := L[i].toNat_lt
  have hN := front_dvd L hi
  rw [hp] at hN
  rw [or_byte hd (wordsN_dvd hq hr hN), wordsN_step hq hr hd hN, front_succ L hi, hp]
/-- A right number has its greatest word not 0. -/
theorem num_ge {L : List UInt8} (h : Rt L) (hne : L ≠ []) : 256 ^ (L.length - 1) ≤ num L := by
  cases L with
  | nil => exact absurd rfl hne
  | cons d l =>
    have hd : d.toNat ≠ 0 := by
      intro e
      have : d = 0 := UInt8.toNat_inj.1 (by simpa using e)
      subst this; simp [Rt] at h
    rw [num_cons, List.length_cons, Nat.add_sub_cancel]
    have : 1 * 256 ^ l.length ≤ d.toNat * 256 ^ l.length := Nat.mul_le_mul_right _ (by omega)
    omega
/-- The words of a number, trimmed. -/
structure Words (xs : List Nat) (N : Nat) : Prop where
  dg : Dg W64 xs
  val : vs W64 xs 0 xs.length = N
  top : xs.length = 0 ∨ gt xs (xs.length - 1) ≠ 0
theorem words_of {L : List UInt8} (h : Rt L) : Words (wordsN ((L.length + 7) / 8) (num L)) (num L) := by
  have hlt := num_lt L
  have hlen : (wordsN ((L.length + 7) / 8) (num L)).length = (L.length + 7) / 8 := length_wordsN _ _
  refine ⟨dg_wordsN _ _, ?_, ?_⟩
  · rw [hlen, vs_wordsN (Nat.le_refl _)]
    apply Nat.mod_eq_of_lt
    rw [W64_pow]
    exact Nat.lt_of_lt_of_le hlt (Nat.pow_le_pow_right (by decide) (by omega))
  · rw [hlen]
    by_cases hL : L = []
    · left; simp [hL]
    · right
      have hpos : 0 < L.length := List.length_pos_iff.2 hL
      have hge := num_ge h hL
      rw [gt_wordsN (by omega)]
      have h1 : num L / W64 ^ ((L.length + 7) / 8 - 1) < W64 := by
        rw [Nat.div_lt_iff_lt_mul (Nat.pow_pos W64_pos), ← Nat.pow_succ', W64_pow]
        exact Nat.lt_of_lt_of_le hlt (Nat.pow_le_pow_right (by decide) (by omega))
      rw [Nat.mod_eq_of_lt h1]
      have h2 : W64 ^ ((L.length + 7) / 8 - 1) ≤ num L := by
        rw [W64_pow]
        exact Nat.le_trans (Nat.pow_le_pow_right (by decide) (by omega)) hge
      have := Nat.div_pos h2 (Nat.pow_pos W64_pos)
      omega
end Mth
end Go.Proofs.YtoadjhmehgkeaaaDoor
namespace Go.Proofs.YtoadjhmehgkeaaaDoor
namespace Mth
open Go.Proofs

theorem bitLen_bounds {x : Nat} (h : x < W64) (h0 : x ≠ 0) : 1 ≤ Lib.bitLen x ∧ Lib.bitLen x ≤ 64 ∧ 2 ^ (Lib.bitLen x - 1) ≤ x ∧ x < 2 ^ Lib.bitLen x := by
  have hx : x < 2 ^ 64 := h
  obtain ⟨h1, h2, h3⟩ := Lib.bitLenAux_bounds 64 x hx h0
  exact ⟨h1, Lib.bitLen_le x 64 (Nat.le_refl _) hx, h2, h3⟩
/-- How many bytes a word has. -/
theorem byteLen {x : Nat} (h : x < W64) (h0 : x ≠ 0) : 1 ≤ (Lib.bitLen x + 7) / 8 ∧ (Lib.bitLen x + 7) / 8 ≤ 8 ∧ 256 ^ ((Lib.bitLen x + 7) / 8 - 1) ≤ x ∧ x < 256 ^ ((Lib.bitLen x + 7) / 8) := by
  obtain ⟨h1, h2, h3, h4⟩ := bitLen_bounds h h0
  refine ⟨by omega, by omega, ?_, ?_⟩
  · rw [show (256 : Nat) = 2 ^ 8 from rfl, ← Nat.pow_mul]
    exact Nat.le_trans (Nat.pow_le_pow_right (by decide) (by omega)) h3
  · rw [show (256 : Nat) = 2 ^ 8 from rfl, ← Nat.pow_mul]
    exact Nat.lt_of_lt_of_le h4 (Nat.pow_le_pow_right (by decide) (by omega))
/-- The bytes of a number N, L of them, the most significant one first. -/
def bytesN (L N : Nat) : List Nat := (List.range L).map fun i => N / 256 ^ (L - 1 - i) % 256
theorem length_bytesN (L N : Nat) : (bytesN L N).length = L := by simp [bytesN]
theorem gt_bytesN {L N i : Nat} (h : i < L) : gt (bytesN L N) i = N / 256 ^ (L - 1 - i) % 256 := by
  rw [gt_of_lt (by rw [length_bytesN]; exact h)]; simp [bytesN]
/-- The first i bytes of them are there. -/
def fillN (L N i : Nat) : List Nat := (List.range L).map fun j => if j < i then N / 256 ^ (L - 1 - j) % 256 else 0
theorem length_fillN (L N i : Nat) : (fillN L N i).length = L := by simp [fillN]
theorem fillN_zero (L N : Nat) : fillN L N 0 = List.replicate L 0 := by
  apply gt_ext
  · simp [fillN]
  · intro i hi
    rw [gt_of_lt hi, gt_of_lt (by simpa [fillN] using hi)]; simp [fillN]
theorem fillN_all (L N : Nat) : fillN L N L = bytesN L N := by
  simp only [fillN, bytesN]
  apply List.map_congr_left
  intro j hj
  rw [if_pos (List.mem_range.1 hj)]
theorem fillN_set {L N i v : Nat} (h : i < L) (hv : v = N / 256 ^ (L - 1 - i) % 256) : (fillN L N i).set i v = fillN L N (i + 1) := by
  subst hv
  apply gt_ext
  · simp [fillN]
  · intro j hj
    simp only [List.length_set, length_fillN] at hj
    rw [gt_set (by rw [length_fillN]; exact h)]
    rw [gt_of_lt (by rw [length_fillN]; exact hj), gt_of_lt (by rw [length_fillN]; exact hj)]
    simp only [fillN, List.getElem_map, List.getElem_range]
    split
    · rename_i e; subst e; rw [if_pos (by omega)]
    · by_cases h2 : j < i
      · rw [if_pos h2, if_pos (by omega)]
      · rw [if_neg h2, if_neg (by omega)]
/-- As bytes. -/
def u8s (xs : List Nat) : List UInt8 := xs.map UInt8.ofNat
theorem bytesN_succ (L N : Nat) : bytesN (L + 1) N = bytesN L (N / 256) ++ [N % 256] := by
  apply gt_ext
  · simp [length_bytesN]
  · intro i hi
    rw [length_bytesN] at hi
    rw [gt_bytesN hi]
    by_cases h : i < L
    · rw [gt_append_left (by rw [length_bytesN]; exact h), gt_bytesN h, Nat.div_div_eq_div_mul, show L + 1 - 1 - i = (L - 1 - i) + 1 from by omega, Nat.pow_succ, Nat.mul_comm]
    · obtain rfl : i = L := by omega
      rw [gt_append_right (by rw [length_bytesN]; omega), length_bytesN, Nat.sub_self]
      simp [gt]
theorem u8s_bytesN {L N : Nat} (h1 : 256 ^ (L - 1) ≤ N ∨ L = 0) (h2 : N < 256 ^ L) : u8s (bytesN L N) = enc N := by
  induction L generalizing N with
  | zero => simp at h2; subst h2; simp [bytesN, u8s, enc_zero]
  | succ L ih =>
    have h3 : 256 ^ L ≤ N := by rcases h1 with h | h; simpa using h; omega
    have hp : 0 < 256 ^ L := Nat.pow_pos (by decide)
    rw [bytesN_succ, enc_pos (by omega)]
    rw [show u8s (bytesN L (N / 256) ++ [N % 256]) = u8s (bytesN L (N / 256)) ++ [UInt8.ofNat (N % 256)] from by simp [u8s]]
    rw [ih ?_ ?_]
    · cases L with
      | zero => right; rfl
      | succ L =>
        left
        rw [Nat.pow_succ] at h3
        simp only [Nat.add_sub_cancel]
        omega
    · rw [Nat.pow_succ] at h2; omega
/-- Byte number p of a number, out of its words. -/
theorem byte_of_word {xs : List Nat} {N q r m off : Nat} (hd : Dg W64 xs) (hN : vs W64 xs off m = N) (hq : q < m) (hr : r < 8) : gt xs (off + q) / 256 ^ r % 256 = N / 256 ^ (8 * q + r) % 256 := by
  obtain ⟨k, rfl⟩ : ∃ k, m = q + 1 + k := ⟨m - (q + 1), by omega⟩
  have hN2 : N = vs W64 xs off q + W64 ^ q * (gt xs (off + q) + W64 * vs W64 xs (off + (q + 1)) k) := by
    rw [← hN, vs_split]
    simp only [vs]
    rw [Nat.mul_add, Nat.pow_succ, Nat.mul_assoc, Nat.add_assoc]
  have h1 : N / W64 ^ q = gt xs (off + q) + W64 * vs W64 xs (off + (q + 1)) k := by
    rw [hN2, Nat.add_mul_div_left _ _ (Nat.pow_pos W64_pos), Nat.div_eq_of_lt (vs_lt hd), Nat.zero_add]
  rw [Nat.pow_add, ← W64_pow, ← Nat.div_div_eq_div_mul, h1]
  have hW : W64 = 256 ^ r * (256 * 256 ^ (7 - r)) := by rw [← Nat.pow_succ', ← Nat.pow_add, show r + (7 - r).succ = 8 from by omega]; rfl
  rw [hW, Nat.mul_assoc, Nat.add_mul_div_left _ _ (Nat.pow_pos (by decide)), Nat.mul_assoc, Nat.add_mul_mod_self_left]
/-- A number whose greatest word is x at place m. -/
theorem top_bounds {xs : List Nat} {m x off : Nat} (hd : Dg W64 xs) (hx : gt xs (off + m) = x) (h0 : x ≠ 0) : 256 ^ (8 * m + (Lib.bitLen x + 7) / 8 - 1) ≤ vs W64 xs off (m + 1) ∧ vs W64 xs off (m + 1) < 256 ^ (8 * m + (Lib.bitLen x + 7) / 8) := by
  obtain ⟨h1, h2, h3, h4⟩ := byteLen (hx ▸ hd (off + m)) h0
  simp only [vs, hx]
  have hlt := vs_lt (off := off) (n := m) hd
  rw [W64_pow] at hlt ⊢
  constructor
  · rw [show 8 * m + (Lib.bitLen x + 7) / 8 - 1 = 8 * m + ((Lib.bitLen x + 7) / 8 - 1) from by omega, Nat.pow_add]
    exact Nat.le_trans (Nat.mul_le_mul_left _ h3) (Nat.le_add_left _ _)
  · rw [Nat.pow_add]
    have h5 : 256 ^ (8 * m) * (x + 1) ≤ 256 ^ (8 * m) * 256 ^ ((Lib.bitLen x + 7) / 8) := Nat.mul_le_mul_left _ h4
    rw [Nat.mul_add] at h5
    omega
end Mth
end Go.Proofs.YtoadjhmehgkeaaaDoor
namespace Go.Proofs.YtoadjhmehgkeaaaDoor
namespace Mth

/-- 2 to the power of 32. -/
def H32 : Nat := 4294967296
theorem H32_eq : H32 = 4294967296 := rfl
/-- What a division by Y = N1 * H32 + N0 of U * H32 + u comes to, where U < Y. -/
structure DigIn (Y N1 N0 U u : Nat) : Prop where
  y : Y = N1 * H32 + N0
  n0 : N0 < H32
  lo : 2147483648 ≤ N1
  hi : N1 < H32
  lt : U < Y
  u : u < H32
/-- The estimate q with its rest r. -/
structure DigInv (Y N1 U u q r : Nat) : Prop where
  eq : q * N1 + r = U
  ge : (U * H32 + u) / Y ≤ q
theorem DigIn.q_lt {Y N1 N0 U u : Nat} (h : DigIn Y N1 N0 U u) : (U * H32 + u) / Y < H32 := by
  have hY : 0 < Y := Nat.lt_of_le_of_lt (Nat.zero_le _) h.lt
  rw [Nat.div_lt_iff_lt_mul hY]
  have h1 : H32 * (U + 1) ≤ H32 * Y := Nat.mul_le_mul_left _ h.lt
  have := h.u
  rw [Nat.mul_add] at h1
  rw [Nat.mul_comm U]
  omega
theorem DigIn.init {Y N1 N0 U u : Nat} (h : DigIn Y N1 N0 U u) : DigInv Y N1 U u (U / N1) (U % N1) := by
  have hN : 0 < N1 := by have := h.lo; omega
  have hY : 0 < Y := Nat.lt_of_le_of_lt (Nat.zero_le _) h.lt
  refine ⟨by rw [Nat.mul_comm]; exact Nat.div_add_mod _ _, ?_⟩
  rw [Nat.le_div_iff_mul_le hN]
  have h1 : (U * H32 + u) / Y * Y ≤ U * H32 + u := Nat.div_mul_le_self _ _
  generalize (U * H32 + u) / Y = q at *
  have h2 : q * N1 * H32 ≤ q * Y := by rw [h.y, Nat.mul_add, ← Nat.mul_assoc]; omega
  have h3 : q * N1 * H32 < (U + 1) * H32 := by have := h.u; rw [Nat.add_mul]; omega
  exact Nat.le_of_lt_succ (Nat.lt_of_mul_lt_mul_right h3)
theorem DigIn.init_le {Y N1 N0 U u : Nat} (h : DigIn Y N1 N0 U u) : U / N1 ≤ 4294967297 := by
  have hN : 0 < N1 := by have := h.lo; omega
  apply Nat.le_of_lt_succ
  rw [Nat.div_lt_iff_lt_mul hN]
  have h1 := h.lt
  have h2 := h.y
  have h3 := h.n0
  have h4 := h.lo
  rw [H32_eq] at *
  omega
theorem DigInv.pos {Y N1 N0 U u q r : Nat} (h : DigIn Y N1 N0 U u) (g : DigInv Y N1 U u q r) (hg : H32 ≤ q ∨ H32 * r + u < q * N0) : (U * H32 + u) / Y + 1 ≤ q := by
  have hY : 0 < Y := Nat.lt_of_le_of_lt (Nat.zero_le _) h.lt
  rcases hg with h1 | h1
  · have := h.q_lt; omega
  · apply Nat.succ_le_of_lt
    rw [Nat.div_lt_iff_lt_mul hY, h.y, Nat.mul_add, ← Nat.mul_assoc]
    have h2 : (q * N1 + r) * H32 = U * H32 := by rw [g.eq]
    rw [Nat.add_mul, Nat.mul_comm r] at h2
    omega
theorem DigInv.next {Y N1 N0 U u q r : Nat} (h : DigIn Y N1 N0 U u) (g : DigInv Y N1 U u q r) (hg : H32 ≤ q ∨ H32 * r + u < q * N0) : DigInv Y N1 U u (q - 1) (r + N1) := by
  have h1 := g.pos h hg
  refine ⟨?_, Nat.le_sub_of_add_le h1⟩
  have hq1 : 1 ≤ q := Nat.le_trans (Nat.le_add_left _ _) h1
  obtain ⟨k, rfl⟩ : ∃ k, q = k + 1 := ⟨q - 1, by omega⟩
  have h2 := g.eq
  rw [Nat.add_mul] at h2
  rw [Nat.add_sub_cancel]
  omega
theorem DigInv.done {Y N1 N0 U u q r : Nat} (h : DigIn Y N1 N0 U u) (g : DigInv Y N1 U u q r) (hg : q * N0 ≤ H32 * r + u) : q = (U * H32 + u) / Y := by
  have hY : 0 < Y := Nat.lt_of_le_of_lt (Nat.zero_le _) h.lt
  refine Nat.le_antisymm ?_ g.ge
  rw [Nat.le_div_iff_mul_le hY, h.y, Nat.mul_add, ← Nat.mul_assoc]
  have h2 : (q * N1 + r) * H32 = U * H32 := by rw [g.eq]
  rw [Nat.add_mul, Nat.mul_comm r] at h2
  omega
theorem DigInv.left {Y N1 N0 U u q r : Nat} (h : DigIn Y N1 N0 U u) (g : DigInv Y N1 U u q r) (hq : q ≤ H32) (hr : H32 ≤ r) : q = (U * H32 + u) / Y := by
  refine g.done h ?_
  have h1 : q * N0 ≤ H32 * H32 := Nat.mul_le_mul hq (Nat.le_of_lt h.n0)
  have h2 : H32 * H32 ≤ H32 * r := Nat.mul_le_mul_left _ hr
  omega
/-- The whole of Div64. -/
theorem div_whole {Y U U1 U0 y s hi lo : Nat} (hY : Y = y * 2 ^ s) (hy : 0 < y) (hall : (hi * W64 + lo) * 2 ^ s = (U * H32 + U1) * H32 + U0) :
    (U * H32 + U1) / Y * H32 + ((U * H32 + U1) % Y * H32 + U0) / Y = (hi * W64 + lo) / y ∧ ((U * H32 + U1) % Y * H32 + U0) % Y / 2 ^ s = (hi * W64 + lo) % y := by
  have hp : 0 < 2 ^ s := Nat.pow_pos (by decide)
  have hY0 : 0 < Y := by rw [hY]; exact Nat.mul_pos hy hp
  have h1 := Nat.div_add_mod (U * H32 + U1) Y
  generalize (U * H32 + U1) / Y = q1 at *
  generalize (U * H32 + U1) % Y = r1 at *
  have h2 := Nat.div_add_mod (r1 * H32 + U0) Y
  have h3 := Nat.mod_lt (r1 * H32 + U0) hY0
  generalize (r1 * H32 + U0) / Y = q0 at *
  generalize (r1 * H32 + U0) % Y = r0 at *
  have h4 : (hi * W64 + lo) * 2 ^ s = Y * (q1 * H32 + q0) + r0 := by
    rw [hall, ← h1, Nat.add_mul, Nat.mul_add, Nat.mul_assoc]
    omega
  have h5 : (hi * W64 + lo) * 2 ^ s / Y = q1 * H32 + q0 := by
    rw [h4, Nat.mul_add_div hY0, Nat.div_eq_of_lt h3]; omega
  have h6 : (hi * W64 + lo) * 2 ^ s % Y = r0 := by
    rw [h4, Nat.mul_add_mod, Nat.mod_eq_of_lt h3]
  rw [hY, Nat.mul_div_mul_right _ _ hp] at h5
  rw [hY, Nat.mul_mod_mul_right] at h6
  exact ⟨h5.symm, by rw [← h6, Nat.mul_div_cancel _ hp]⟩
end Mth
end Go.Proofs.YtoadjhmehgkeaaaDoor
namespace Go.Proofs.YtoadjhmehgkeaaaDoor
namespace Mth

/-- The first words of the two numbers of which a digit is estimated. -/
structure Est (P U V u u1 u2 v1 v2 : Nat) : Prop where
  hu : ∃ ur, U = ((u * W64 + u1) * W64 + u2) * P + ur ∧ ur < P
  hv : ∃ vr, V = (v1 * W64 + v2) * P + vr ∧ vr < P
  pos : 0 < v1
  lt : U < W64 * V
  lu1 : u1 < W64
  lu2 : u2 < W64
  lv2 : v2 < W64
section
variable {P U V u u1 u2 v1 v2 d r : Nat}
theorem Est.vpos (h : Est P U V u u1 u2 v1 v2) : 0 < V := by
  rcases Nat.eq_zero_or_pos V with e | e
  · have := h.lt; rw [e] at this; omega
  · exact e
theorem Est.v_lt (h : Est P U V u u1 u2 v1 v2) : V < (v1 + 1) * W64 * P := by
  obtain ⟨vr, hv, hr⟩ := h.hv
  have h1 : (v1 * W64 + v2 + 1) * P ≤ ((v1 + 1) * W64) * P := Nat.mul_le_mul_right _ (by rw [Nat.add_mul]; have := h.lv2; omega)
  rw [Nat.add_mul (v1 * W64 + v2) 1] at h1
  omega
theorem Est.u_le (h : Est P U V u u1 u2 v1 v2) : u ≤ v1 := by
  obtain ⟨ur, hu, _⟩ := h.hu
  apply Nat.le_of_lt_succ
  have h1 := h.lt
  have h2 : W64 * V ≤ W64 * ((v1 + 1) * W64 * P) := Nat.mul_le_mul_left _ (Nat.le_of_lt h.v_lt)
  have h3 : u * (W64 * W64 * P) ≤ U := by
    rw [hu, show u * (W64 * W64 * P) = u * W64 * W64 * P from by grind, Nat.add_mul, Nat.add_mul, Nat.add_mul]
    omega
  have h4 : u * (W64 * W64 * P) < (v1 + 1) * (W64 * W64 * P) := by
    rw [show (v1 + 1) * (W64 * W64 * P) = W64 * ((v1 + 1) * W64 * P) from by grind]
    omega
  exact Nat.lt_of_mul_lt_mul_right h4
/-- The estimate d, with what it leaves of the first two words. -/
structure EInv (U V u u1 v1 d r : Nat) : Prop where
  eq : d * v1 + r = u * W64 + u1
  ge : U / V ≤ d
  lt : d < W64
theorem Est.init_lt (h : Est P U V u u1 u2 v1 v2) (hlt : u < v1) : EInv U V u u1 v1 ((u * W64 + u1) / v1) ((u * W64 + u1) % v1) := by
  refine ⟨by rw [Nat.mul_comm]; exact Nat.div_add_mod _ _, ?_, ?_⟩
  · rw [Nat.le_div_iff_mul_le h.pos]
    obtain ⟨ur, hu, hur⟩ := h.hu
    obtain ⟨vr, hv, _⟩ := h.hv
    have h1 : U / V * V ≤ U := Nat.div_mul_le_self _ _
    generalize U / V = q at *
    have h2 : q * v1 * (W64 * P) ≤ q * V := by
      rw [hv, Nat.mul_assoc]
      refine Nat.mul_le_mul_left _ ?_
      rw [Nat.add_mul, Nat.mul_assoc]; omega
    have hP : 0 < P := by omega
    have h3 : U < (u * W64 + u1 + 1) * (W64 * P) := by
      rw [hu]
      have h4 : ((u * W64 + u1) * W64 + u2 + 1) * P ≤ ((u * W64 + u1 + 1) * W64) * P := Nat.mul_le_mul_right _ (by rw [Nat.add_mul (u * W64 + u1) 1]; have := h.lu2; omega)
      rw [Nat.add_mul ((u * W64 + u1) * W64 + u2) 1] at h4
      rw [← Nat.mul_assoc]
      omega
    have h5 : q * v1 * (W64 * P) < (u * W64 + u1 + 1) * (W64 * P) := by omega
    exact Nat.le_of_lt_succ (Nat.lt_of_mul_lt_mul_right h5)
  · rw [Nat.div_lt_iff_lt_mul h.pos]
    have h1 : (u + 1) * W64 ≤ v1 * W64 := Nat.mul_le_mul_right _ hlt
    rw [Nat.add_mul] at h1
    have := h.lu1
    rw [Nat.mul_comm W64]
    omega
theorem Est.init_eq (h : Est P U V u u1 u2 v1 v2) (he : u = v1) : EInv U V u u1 v1 (W64 - 1) (u1 + v1) := by
  refine ⟨?_, ?_, by have := W64_pos; omega⟩
  · subst he
    rw [Nat.sub_mul, Nat.mul_comm u]
    have : u ≤ W64 * u := Nat.le_mul_of_pos_left _ W64_pos
    omega
  · have := (Nat.div_lt_iff_lt_mul h.vpos).2 h.lt
    omega
theorem EInv.next (g : EInv U V u u1 v1 d r) (h : Est P U V u u1 u2 v1 v2) (hg : r * W64 + u2 < d * v2) : 0 < d ∧ EInv U V u u1 v1 (d - 1) (r + v1) := by
  obtain ⟨ur, hu, hur⟩ := h.hu
  obtain ⟨vr, hv, _⟩ := h.hv
  have h0 : (d * v1 + r) * W64 = (u * W64 + u1) * W64 := by rw [g.eq]
  have h1 : (u * W64 + u1) * W64 + u2 + 1 ≤ d * (v1 * W64 + v2) := by
    rw [Nat.mul_add, ← Nat.mul_assoc]
    rw [Nat.add_mul] at h0
    omega
  have h2 : U < d * V := by
    have h3 : ((u * W64 + u1) * W64 + u2 + 1) * P ≤ d * (v1 * W64 + v2) * P := Nat.mul_le_mul_right _ h1
    rw [Nat.add_mul ((u * W64 + u1) * W64 + u2) 1] at h3
    rw [hv, Nat.mul_add, ← Nat.mul_assoc]
    omega
  have h4 := (Nat.div_lt_iff_lt_mul h.vpos).2 h2
  have hd : 0 < d := Nat.lt_of_le_of_lt (Nat.zero_le _) h4
  refine ⟨hd, ?_, Nat.le_sub_one_of_lt h4, by have := g.lt; omega⟩
  obtain ⟨k, rfl⟩ : ∃ k, d = k + 1 := ⟨d - 1, by omega⟩
  have := g.eq
  rw [Nat.add_mul] at this
  rw [Nat.add_sub_cancel]
  omega
theorem EInv.done (g : EInv U V u u1 v1 d r) (h : Est P U V u u1 u2 v1 v2) (hg : d * v2 ≤ r * W64 + u2) : d ≤ U / V + 1 := by
  obtain ⟨ur, hu, hur⟩ := h.hu
  obtain ⟨vr, hv, hvr⟩ := h.hv
  have h0 : (d * v1 + r) * W64 = (u * W64 + u1) * W64 := by rw [g.eq]
  have h1 : d * (v1 * W64 + v2) ≤ (u * W64 + u1) * W64 + u2 := by
    rw [Nat.mul_add, ← Nat.mul_assoc]
    rw [Nat.add_mul] at h0
    omega
  have hq : U < (U / V + 1) * V := by
    have := Nat.lt_succ_self (U / V)
    exact (Nat.div_lt_iff_lt_mul h.vpos).1 this
  generalize U / V = q at *
  rcases Nat.lt_or_ge (q + 1) d with hlt | hge
  · exfalso
    obtain ⟨e, rfl⟩ : ∃ e, d = e + 1 := ⟨d - 1, by omega⟩
    have h2 : (q + 1) * V ≤ e * V := Nat.mul_le_mul_right _ (by omega)
    have h3 : (e + 1) * (v1 * W64 + v2) * P ≤ ((u * W64 + u1) * W64 + u2) * P := Nat.mul_le_mul_right _ h1
    have h4 : e * V ≤ e * ((v1 * W64 + v2 + 1) * P) := Nat.mul_le_mul_left _ (by rw [hv, Nat.add_mul (v1 * W64 + v2) 1]; omega)
    have h5 : (e + 1) * (v1 * W64 + v2) * P < e * (v1 * W64 + v2 + 1) * P := by rw [Nat.mul_assoc e]; omega
    have h6 := Nat.lt_of_mul_lt_mul_right h5
    have h7 := g.lt
    have h8 : 1 * W64 ≤ v1 * W64 := Nat.mul_le_mul_right _ h.pos
    have h9 : v1 * W64 ≤ v1 * W64 + v2 := Nat.le_add_right _ _
    clear h3 h4 h5 h1 h2
    generalize v1 * W64 + v2 = D at *
    rw [Nat.add_mul, Nat.mul_add] at h6
    omega
  · exact hge
theorem EInv.over (g : EInv U V u u1 v1 d r) (h : Est P U V u u1 u2 v1 v2) (hr : W64 ≤ r) : d * v2 ≤ r * W64 + u2 := by
  have h1 : d * v2 ≤ W64 * W64 := Nat.mul_le_mul (Nat.le_of_lt g.lt) (Nat.le_of_lt h.lv2)
  have h2 : W64 * W64 ≤ r * W64 := Nat.mul_le_mul_right _ hr
  omega
end

/-- One digit: what is left after the estimate was subtracted, and put right. -/
theorem step_zero {U V d Z : Nat} (hV : 0 < V) (h1 : U / V ≤ d) (h2 : d ≤ U / V + 1) (h : Z + V * d = U) : d = U / V ∧ Z = U % V := by
  have h3 := Nat.div_add_mod U V
  have h4 := Nat.mod_lt U hV
  generalize U / V = q at *
  generalize U % V = r at *
  rcases Nat.lt_or_ge q d with hlt | hge
  · obtain rfl : d = q + 1 := by omega
    rw [Nat.mul_add] at h
    omega
  · obtain rfl : d = q := by omega
    exact ⟨rfl, by omega⟩
theorem step_one {U V d Z Z' N k : Nat} (hV : 0 < V) (hVN : V ≤ N) (h1 : U / V ≤ d) (h2 : d ≤ U / V + 1) (hZ : Z < N) (hZ' : Z' < N) (h : Z + V * d = U + N) (g : Z' + N * k = Z + V) : 0 < d ∧ d - 1 = U / V ∧ Z' = U % V := by
  have h3 := Nat.div_add_mod U V
  have h4 := Nat.mod_lt U hV
  generalize U / V = q at *
  generalize U % V = r at *
  rcases Nat.lt_or_ge q d with hlt | hge
  · obtain rfl : d = q + 1 := by omega
    rw [Nat.mul_add] at h
    refine ⟨by omega, by omega, ?_⟩
    have e : Z' + N * k = N + r := by omega
    have hk : k = 1 := by
      rcases k with _ | _ | k
      · omega
      · rfl
      · rw [Nat.mul_add, Nat.mul_add] at e; omega
    subst hk
    omega
  · obtain rfl : d = q := by omega
    omega

/-- The loop of divideLong: the places from i on are over. -/
structure LongInv (R0 V : Nat) (zs qs : List Nat) (n m i : Nat) : Prop where
  len : zs.length = m + n
  qlen : qs.length = m
  dg : Dg W64 zs
  qdg : Dg W64 qs
  small : vs W64 zs i n < V
  zero : ∀ j, i + n ≤ j → gt zs j = 0
  val : R0 = W64 ^ i * vs W64 qs i (m - i) * V + vs W64 zs 0 (i + n)
theorem LongInv.u_lt {R0 V n m i : Nat} {zs qs : List Nat} (h : LongInv R0 V zs qs n m (i + 1)) : vs W64 zs i (n + 1) < W64 * V := by
  have h1 := h.small
  have h2 := h.dg i
  rw [show n + 1 = 1 + n from by omega, vs_split]
  simp only [vs, Nat.pow_zero, Nat.pow_one, Nat.one_mul, Nat.add_zero, Nat.zero_add]
  have h3 : W64 * (vs W64 zs (i + 1) n + 1) ≤ W64 * V := Nat.mul_le_mul_left _ h1
  rw [Nat.mul_add] at h3
  omega
theorem LongInv.next {R0 V n m i d : Nat} {zs us qs : List Nat} (h : LongInv R0 V zs qs n m (i + 1)) (hi : i < m) (hVn : V ≤ W64 ^ n) (hV : 0 < V) (hlen : us.length = zs.length) (hout : ∀ j, (j < i ∨ i + (n + 1) ≤ j) → gt us j = gt zs j) (hdu : Dg W64 us)
    (hd : d = vs W64 zs i (n + 1) / V) (hdW : d < W64) (hr : vs W64 us i (n + 1) = vs W64 zs i (n + 1) % V) : LongInv R0 V us (qs.set i d) n m i := by
  have hmod := Nat.mod_lt (vs W64 zs i (n + 1)) hV
  have hdm := Nat.div_add_mod (vs W64 zs i (n + 1)) V
  rw [← hd, ← hr] at hdm
  rw [← hr] at hmod
  have htop : gt us (i + n) = 0 := by
    simp only [vs] at hmod
    rcases Nat.eq_zero_or_pos (gt us (i + n)) with e | e
    · exact e
    · have : W64 ^ n * 1 ≤ W64 ^ n * gt us (i + n) := Nat.mul_le_mul_left _ e
      omega
  have hvs : vs W64 us i n = vs W64 us i (n + 1) := by simp only [vs]; rw [htop]; simp
  have hql : i < qs.length := by rw [h.qlen]; exact hi
  refine ⟨hlen.trans h.len, by rw [List.length_set]; exact h.qlen, hdu, h.qdg.set hdW, by rw [hvs]; exact hmod, fun j hj => ?_, ?_⟩
  · rcases Nat.eq_or_lt_of_le hj with e | e
    · rw [← e]; exact htop
    · rw [hout j (by omega)]; exact h.zero j (by omega)
  · have hv := h.val
    rw [show m - i = 1 + (m - (i + 1)) from by omega, vs_split W64 (qs.set i d)]
    simp only [vs, Nat.pow_zero, Nat.pow_one, Nat.one_mul, Nat.add_zero, Nat.zero_add]
    rw [gt_set hql, if_pos rfl, vs_congr (xs := qs.set i d) (ys := qs) (off' := i + 1) (fun j hj => by rw [gt_set hql, if_neg (by omega)])]
    rw [show i + 1 + n = i + (n + 1) from by omega, vs_split W64 zs, Nat.zero_add, ← hdm] at hv
    rw [vs_split W64 us, Nat.zero_add, hvs, vs_congr (xs := us) (ys := zs) (off := 0) (off' := 0) (n := i) (fun j hj => hout _ (by omega))]
    rw [hv, Nat.pow_succ]
    generalize vs W64 qs (i + 1) (m - (i + 1)) = Q
    generalize vs W64 us i (n + 1) = R
    generalize vs W64 zs 0 i = L
    generalize W64 ^ i = X
    grind
theorem LongInv.done {R0 V n m : Nat} {zs qs : List Nat} (h : LongInv R0 V zs qs n m 0) (hV : 0 < V) : vs W64 qs 0 m = R0 / V ∧ vs W64 zs 0 (m + n) = R0 % V := by
  have hv := h.val
  simp only [Nat.pow_zero, Nat.one_mul, Nat.sub_zero, Nat.zero_add] at hv
  have hz : vs W64 zs 0 (m + n) = vs W64 zs 0 n := by
    rw [show m + n = n + m from by omega, vs_split, Nat.zero_add, vs_zero (n := m) (fun j _ => h.zero _ (by omega))]
    simp
  rw [hz]
  have := Nat.div_mod_unique hV (a := R0) (d := vs W64 qs 0 m) (c := vs W64 zs 0 n)
  have h2 := this.2 ⟨by rw [hv, Nat.mul_comm V, Nat.add_comm], h.small⟩
  exact ⟨h2.1.symm, h2.2.symm⟩

theorem pow_parts {s : Nat} (hs : s ≤ 64) : W64 = 2 ^ (64 - s) * 2 ^ s := by
  rw [← Nat.pow_add, show 64 - s + s = 64 from by omega]; rfl
theorem or_low {a x E : Nat} {s : Nat} (hE : E = 2 ^ s) (ha : a < E) (hx : E ∣ x) : a ||| x = a + x := by
  obtain ⟨M, rfl⟩ := hx
  subst hE
  rw [Nat.or_comm, ← Nat.two_pow_add_eq_or_of_lt ha]; omega
/-- The two halves of a word that is moved. -/
theorem shl_parts {x s : Nat} (hs : s ≤ 64) : x * 2 ^ s % W64 + W64 * (x / 2 ^ (64 - s)) = x * 2 ^ s := by
  have h : x / 2 ^ (64 - s) = x * 2 ^ s / W64 := by rw [pow_parts hs, Nat.mul_div_mul_right _ _ (Nat.pow_pos (by decide))]
  rw [h]; exact Nat.mod_add_div _ _
theorem shl_dvd {x s : Nat} (hs : s ≤ 64) : 2 ^ s ∣ x * 2 ^ s % W64 := by
  rw [Nat.dvd_mod_iff (by rw [pow_parts hs]; exact Nat.dvd_mul_left _ _)]
  exact Nat.dvd_mul_left _ _
theorem room_dvd {a y E F : Nat} (ha : a < E) (hy : y < E * F) (hd : E ∣ y) : a + y < E * F := by
  obtain ⟨k, rfl⟩ := hd
  have hk : k < F := Nat.lt_of_mul_lt_mul_left hy
  have : E * (k + 1) ≤ E * F := Nat.mul_le_mul_left _ hk
  rw [Nat.mul_add] at this
  omega
/-- The loop of shiftedLeft. -/
structure ShlInv (xs zs : List Nat) (o n s i : Nat) : Prop where
  len : zs.length = n + 1
  dg : Dg W64 zs
  zero : ∀ j, i < j → gt zs j = 0
  low : gt zs i < 2 ^ s
  val : vs W64 zs 0 (i + 1) = vs W64 xs o i * 2 ^ s
theorem shl_word {a x s : Nat} (hs : s ≤ 64) (ha : a < 2 ^ s) : a ||| (x * 2 ^ s % W64) = a + x * 2 ^ s % W64 ∧ a + x * 2 ^ s % W64 < W64 := by
  refine ⟨or_low rfl ha (shl_dvd hs), ?_⟩
  have h := pow_parts hs
  rw [Nat.mul_comm] at h
  have h2 : x * 2 ^ s % W64 < 2 ^ s * 2 ^ (64 - s) := by rw [← h]; exact Nat.mod_lt _ W64_pos
  have := room_dvd ha h2 (shl_dvd hs)
  rwa [← h] at this
theorem ShlInv.next {xs zs : List Nat} {o n s i : Nat} (h : ShlInv xs zs o n s i) (hs : s ≤ 63) (hi : i < n) (hx : gt xs (o + i) < W64) :
    ShlInv xs ((zs.set i (gt zs i ||| (gt xs (o + i) * 2 ^ s % W64))).set (i + 1) (gt xs (o + i) / 2 ^ (64 - s))) o n s (i + 1) := by
  obtain ⟨h1, h2⟩ := shl_word (x := gt xs (o + i)) (by omega : s ≤ 64) h.low
  have h3 := shl_parts (x := gt xs (o + i)) (by omega : s ≤ 64)
  have h4 : gt xs (o + i) / 2 ^ (64 - s) < 2 ^ s := by
    rw [Nat.div_lt_iff_lt_mul (Nat.pow_pos (by decide)), Nat.mul_comm, ← pow_parts (by omega)]; exact hx
  have h5 : 2 ^ s ≤ W64 := by rw [pow_parts (by omega : s ≤ 64)]; exact Nat.le_mul_of_pos_left _ (Nat.pow_pos (by decide))
  rw [h1]
  generalize gt xs (o + i) * 2 ^ s % W64 = lo at *
  generalize hhi : gt xs (o + i) / 2 ^ (64 - s) = hi' at *
  have l1 : i < zs.length := by rw [h.len]; omega
  have l2 : i + 1 < (zs.set i (gt zs i + lo)).length := by rw [List.length_set, h.len]; omega
  refine ⟨by simp [h.len], (h.dg.set h2).set (by omega), fun j hj => ?_, by rw [gt_set l2, if_pos rfl]; exact h4, ?_⟩
  · rw [gt_set l2, if_neg (by omega), gt_set l1, if_neg (by omega)]; exact h.zero j (by omega)
  · have hv := h.val
    simp only [vs, Nat.zero_add] at hv ⊢
    rw [gt_set (j := i + 1) l2, if_pos rfl, gt_set (j := i) l2, if_neg (by omega), gt_set (j := i) l1, if_pos rfl]
    rw [vs_congr (xs := (zs.set i (gt zs i + lo)).set (i + 1) hi') (ys := zs) (off := 0) (off' := 0) (n := i) (fun j hj => by rw [gt_set l2, if_neg (by omega), gt_set l1, if_neg (by omega)])]
    rw [Nat.add_mul, ← hv, Nat.mul_assoc, ← h3, Nat.pow_succ]
    grind
/-- The loop of shiftRight. -/
structure ShrInv (X : Nat) (xs zs : List Nat) (s i : Nat) : Prop where
  len : zs.length = xs.length
  dg : Dg W64 zs
  done : ∀ j, j < i → gt zs j = X / 2 ^ s / W64 ^ j % W64
  rest : ∀ j, i ≤ j → gt zs j = gt xs j
theorem shr_word {a x s : Nat} (hs : s ≤ 64) (ha : a < W64) : (a / 2 ^ s) ||| (x * 2 ^ (64 - s) % W64) = a / 2 ^ s + x * 2 ^ (64 - s) % W64 ∧ a / 2 ^ s + x * 2 ^ (64 - s) % W64 < W64 := by
  have h1 : a / 2 ^ s < 2 ^ (64 - s) := by
    rw [Nat.div_lt_iff_lt_mul (Nat.pow_pos (by decide)), ← pow_parts hs]; exact ha
  exact shl_word (by omega) h1
theorem shr_value {X a x t s : Nat} (hs : s ≤ 64) (ha : a < W64) (hX : X = a + W64 * (x + W64 * t)) : X / 2 ^ s % W64 = a / 2 ^ s + x * 2 ^ (64 - s) % W64 := by
  have h1 := (shr_word (x := x) hs ha).2
  have hp : 0 < 2 ^ s := Nat.pow_pos (by decide)
  have e : X = a + 2 ^ s * (2 ^ (64 - s) * (x + W64 * t)) := by
    rw [hX, ← Nat.mul_assoc (2 ^ s), Nat.mul_comm (2 ^ s), ← pow_parts hs]
  rw [e, Nat.add_mul_div_left _ _ hp, Nat.mul_add, ← Nat.mul_assoc, Nat.mul_right_comm, Nat.mul_comm (2 ^ (64 - s) * t), ← Nat.add_assoc, Nat.add_mul_mod_self_left]
  rw [Nat.mul_comm (2 ^ (64 - s)) x, Nat.add_comm, add_mod_small (by omega)]
  omega
theorem vs_at {xs : List Nat} {n i : Nat} (hd : Dg W64 xs) (hi : i < n) : vs W64 xs 0 n / W64 ^ i = gt xs i + W64 * vs W64 xs (i + 1) (n - (i + 1)) := by
  obtain ⟨k, rfl⟩ : ∃ k, n = i + (1 + k) := ⟨n - (i + 1), by omega⟩
  rw [vs_split, Nat.add_mul_div_left _ _ (Nat.pow_pos W64_pos), Nat.div_eq_of_lt (vs_lt hd), vs_split W64 xs (0 + i) 1 k, show i + (1 + k) - (i + 1) = k from by omega]
  simp [vs]
theorem ShrInv.next {X : Nat} {xs zs : List Nat} {s i x : Nat} (h : ShrInv X xs zs s i) (hs : s ≤ 64) (hX : X = vs W64 xs 0 xs.length) (hdx : Dg W64 xs) (hi : i < xs.length) (hx : x = gt xs (i + 1)) :
    gt zs i = gt xs i ∧ ShrInv X xs (zs.set i (gt zs i / 2 ^ s + x * 2 ^ (64 - s) % W64)) s (i + 1) := by
  have e := h.rest i (Nat.le_refl _)
  have l1 : i < zs.length := by rw [h.len]; exact hi
  have hlt := (shr_word (x := x) hs (h.dg i)).2
  refine ⟨e, by rw [List.length_set]; exact h.len, h.dg.set hlt, fun j hj => ?_, fun j hj => by rw [gt_set l1, if_neg (by omega)]; exact h.rest j (by omega)⟩
  rw [gt_set l1]
  split
  · rename_i hij
    subst hij
    have h1 := vs_at hdx hi
    rw [← hX] at h1
    have h2 : vs W64 xs (i + 1) (xs.length - (i + 1)) = x + W64 * vs W64 xs (i + 2) (xs.length - (i + 2)) := by
      rcases Nat.lt_or_ge (i + 1) xs.length with hl | hl
      · rw [show xs.length - (i + 1) = 1 + (xs.length - (i + 2)) from by omega, vs_split]
        simp [vs, hx]
      · rw [show xs.length - (i + 1) = 0 from by omega, show xs.length - (i + 2) = 0 from by omega, hx, gt_of_ge hl]
        simp [vs]
    rw [h2] at h1
    rw [Nat.div_div_eq_div_mul, Nat.mul_comm (2 ^ s), ← Nat.div_div_eq_div_mul, shr_value hs (hdx i) h1, e]
  · exact h.done j (by omega)
theorem ShrInv.all {X : Nat} {xs zs : List Nat} {s : Nat} (h : ShrInv X xs zs s xs.length) (hX : X = vs W64 xs 0 xs.length) (hdx : Dg W64 xs) : vs W64 zs 0 xs.length = X / 2 ^ s := by
  have e : ∀ m, m ≤ xs.length → vs W64 zs 0 m = X / 2 ^ s % W64 ^ m := by
    intro m
    induction m with
    | zero => intro _; simp [vs, Nat.mod_one]
    | succ m ih => intro hm; simp only [vs, Nat.zero_add]; rw [ih (by omega), h.done m (by omega), Nat.pow_succ, Nat.mod_mul]
  rw [e _ (Nat.le_refl _)]
  apply Nat.mod_eq_of_lt
  have h1 : X < W64 ^ xs.length := by rw [hX]; exact vs_lt hdx
  exact Nat.lt_of_le_of_lt (Nat.div_le_self _ _) h1
end Mth
end Go.Proofs.YtoadjhmehgkeaaaDoor
namespace Go.Proofs.YtoadjhmehgkeaaaDoor
open Go.RowKit Mth

/-- The cells of numbers. -/
def cellsOf (k : IntKind) (xs : List Nat) : List Value := xs.map fun n : Nat => Value.int k (n : Int)
theorem length_cellsOf (k : IntKind) (xs : List Nat) : (cellsOf k xs).length = xs.length := by simp [cellsOf]
theorem cellsOf_append (k : IntKind) (xs ys : List Nat) : cellsOf k (xs ++ ys) = cellsOf k xs ++ cellsOf k ys := by simp [cellsOf]
theorem cellsOf_set (k : IntKind) (xs : List Nat) (i v : Nat) : cellsOf k (xs.set i v) = (cellsOf k xs).set i (.int k (v : Int)) := by simp [cellsOf, List.map_set]
theorem cellsOf_get (k : IntKind) (xs : List Nat) (i : Nat) (h : i < xs.length) : (cellsOf k xs)[i]? = some (.int k ((gt xs i : Nat) : Int)) := by
  simp [cellsOf, gt_of_lt h, List.getElem?_eq_getElem h]

/-- Block b holds just the numbers xs, each in a cell of kind k; its element type is e; nothing in it is frozen. -/
def Blk (k : IntKind) (e : TypeId) (w : World) (b : Nat) (xs : List Nat) : Prop := w.heap[b]? = some (.cells (cellsOf k xs).toArray e (0, 0))

section
variable {k : IntKind} {e : TypeId} {w w' : World} {b : Nat} {xs : List Nat}
theorem Blk.lt (h : Blk k e w b xs) : b < w.heap.size := (Array.getElem?_eq_some_iff.1 h).1
theorem Blk.cell (h : Blk k e w b xs) {i : Nat} (hi : i < xs.length) : w.cell? ⟨b, i, none⟩ = some (.int k ((gt xs i : Nat) : Int)) := by
  rw [cell_of_row w b i _ e (0, 0) h, List.getElem?_toArray, cellsOf_get k xs i hi]
theorem Blk.frozen (h : Blk k e w b xs) (i : Nat) : w.frozen? ⟨b, i, none⟩ = false := by
  simp only [World.frozen?]
  rw [show w.heap[b]? = some (.cells (cellsOf k xs).toArray e (0, 0)) from h]
  simp
theorem Blk.kept (h : Blk k e w b xs) {row : Option Nat} (hg : w.grownBy w' row) (hne : some b ≠ row) : Blk k e w' b xs := by
  unfold Blk at h ⊢
  rw [hg.block b (Array.getElem?_eq_some_iff.1 h).1 hne]; exact h
theorem Blk.alloc (h : Blk k e w b xs) (o : Obj) : Blk k e (w.alloc o) b xs := h.kept (World.grownBy_alloc w o none) (by simp)
theorem Blk.drew (h : Blk k e w b xs) : Blk k e w.drew b xs := h
theorem Blk.set (h : Blk k e w b xs) (i v : Nat) : Blk k e (w.setCell ⟨b, i, none⟩ (.int k (v : Int))) b (xs.set i v) := by
  unfold Blk at h ⊢
  rw [setCell_eq_setRow w b i _ e (0, 0) _ h, setRow_heap w b _ _ e (0, 0) h]
  simp [cellsOf_set]
theorem Blk.setOther (h : Blk k e w b xs) {b' : Nat} (hne : b ≠ b') (i : Nat) (v : Value) : Blk k e (w.setCell ⟨b', i, none⟩ v) b xs := by
  unfold Blk at h ⊢
  rw [Below.heap_setCell _ _ _ _ hne]; exact h
end

theorem madeCells_one (k : IntKind) (n : Nat) : (madeCells (Value.int k 0).cells (n * 1)).toList = cellsOf k (List.replicate n 0) := by
  simp only [madeCells, Value.cells, cellsOf, Nat.mul_one]
  apply List.ext_getElem
  · simp
  · intro i h1 h2
    simp [Nat.mod_one]
/-- What 'make' of n numbers leaves. -/
theorem blk_made {k : IntKind} {e : TypeId} {w' : World} {base g n : Nat} (h : w'.ownsRow base e 1 (.slice (some ⟨g, 0, none⟩) n n) n (madeCells (Value.int k 0).cells (n * 1)).toList) : Blk k e w' g (List.replicate n 0) := by
  obtain ⟨_, h2⟩ := h
  rcases h2 with ⟨h2, _⟩ | ⟨g', cap, cur, hv, _, hg, _, _, hsz, htk⟩
  · simp at h2
  · simp only [Value.slice.injEq, Option.some.injEq, Addr.mk.injEq, and_true, true_and] at hv
    obtain ⟨rfl, rfl⟩ := hv
    have hc : cur = (cellsOf k (List.replicate n 0)).toArray := by
      rw [← madeCells_one, ← htk, Nat.mul_one, List.take_of_length_le (by simp [hsz])]
    subst hc
    exact hg
theorem blk_made' {k : IntKind} {e : TypeId} {w' : World} {base g n : Nat} (h : w'.ownsRow base e 1 (.slice (some ⟨g, 0, none⟩) n n) n (madeCells #[Value.int k 0] n).toList) : Blk k e w' g (List.replicate n 0) :=
  blk_made (base := base) (by rw [Nat.mul_one]; exact h)

section
variable {w w1 w2 : World} {row : Option Nat}
theorem gr_trans {a b c : World} {r r1 r2 : Option Nat} (h : a.grownBy b r1) (g : b.grownBy c r2) (h1 : r1 = none ∨ r1 = r) (h2 : r2 = none ∨ r2 = r ∨ ∀ k, r2 = some k → a.heap.size ≤ k) : a.grownBy c r := by
  refine ⟨g.os.trans h.os, g.tape.trans h.tape, g.output.trans h.output, Nat.le_trans h.size g.size, fun k hk hne => ?_⟩
  have hb : b.heap[k]? = a.heap[k]? := h.block k hk (by rcases h1 with rfl | rfl; simp; exact hne)
  have hs := h.size
  refine (g.block k (by omega) ?_).trans hb
  rcases h2 with rfl | rfl | h2
  · simp
  · exact hne
  · intro e; have := h2 k e.symm; omega
theorem gr_set (w : World) (b i : Nat) (v : Value) : w.grownBy (w.setCell ⟨b, i, none⟩ v) (some b) :=
  ⟨rfl, rfl, rfl, by simp [World.setCell], fun k _ hne => Below.heap_setCell _ _ _ _ (by intro e; exact hne (by rw [e]))⟩
theorem gr_new {a b c : World} {g : Nat} (h : a.grownBy b none) (k : b.grownBy c (some g)) (hg : a.heap.size ≤ g) : a.grownBy c none :=
  gr_trans h k (.inl rfl) (.inr (.inr fun j e => by cases e; exact hg))
theorem gr_then {a b c : World} {r : Option Nat} (h : a.grownBy b none) (k : b.grownBy c r) : a.grownBy c r := gr_trans h k (.inl rfl) (.inr (.inl rfl))
theorem gr_alloc (w : World) (o : Obj) (row : Option Nat) : w.grownBy (w.alloc o) row := World.grownBy_alloc w o row
theorem gr_drew (w : World) (row : Option Nat) : w.grownBy w.drew row := ⟨rfl, rfl, rfl, Nat.le_refl _, fun _ _ _ => rfl⟩
theorem gr_drewN (w : World) (n : Nat) (row : Option Nat) : w.grownBy (w.drewN n) row := ⟨rfl, rfl, rfl, Nat.le_refl _, fun _ _ _ => rfl⟩
end
end Go.Proofs.YtoadjhmehgkeaaaDoor
namespace Go.Proofs.YtoadjhmehgkeaaaDoor
open Go.RowKit Mth

theorem len_toList (t : ByteArray) : t.data.toList.length = t.size := rfl
def lenOf : Value → Nat | .slice _ n _ => n | _ => 0
def strOf : Value → ByteArray | .string t => t | _ => ByteArray.empty
theorem canon_skip (t : ByteArray) (h : 0 < t.size) (h0 : t[0] = 0) : canon (t.extract 1 t.size).data.toList = canon t.data.toList := by
  have e : t.data.toList = t[0] :: t.data.toList.drop 1 := by
    cases hl : t.data.toList with
    | nil => have : t.data.toList.length = t.size := by simp
             rw [hl] at this; simp at this; omega
    | cons d l =>
      have : t[0] = t.data.toList[0]'(by simp; omega) := rfl
      rw [this]; simp [hl]
  have e2 : (t.extract 1 t.size).data.toList = t.data.toList.drop 1 := by
    exact Lib.extract_to_end t 1
  rw [e2]
  conv => rhs; rw [e]
  rw [h0, canon, if_pos rfl]
theorem canon_stay (t : ByteArray) (h : 0 < t.size) (h0 : t[0] ≠ 0) : canon t.data.toList = t.data.toList := by
  have e : t.data.toList = t[0] :: t.data.toList.drop 1 := by
    cases hl : t.data.toList with
    | nil => have : t.data.toList.length = t.size := by simp
             rw [hl] at this; simp at this; omega
    | cons d l =>
      have : t[0] = t.data.toList[0]'(by simp; omega) := rfl
      rw [this]; simp [hl]
  conv => lhs; rw [e]
  conv => rhs; rw [e]
  rw [canon, if_neg h0]
theorem toArray_eq (t : ByteArray) {l : List UInt8} (h : l = t.data.toList) : (⟨l.toArray⟩ : ByteArray) = t := by
  subst h; simp

theorem withoutZeros_any (s : ByteArray) (w : World) :
    Calls Tryd.prog 35 #[.string s] w fun e w' => e = .returned (.string ⟨(canon s.data.toList).toArray⟩) ∧ w = w' := by
  go_enter Tryd.func35, Tryd.ntmps35
  go_wp2
  go_loop [0] (fun v => ∃ t : ByteArray, t.size ≤ s.size ∧ v = .string t ∧ canon t.data.toList = canon s.data.toList) (fun v => (strOf v).size)
  case atStart => exact ⟨s, Nat.le_refl _, rfl, rfl⟩
  case round =>
    obtain ⟨t, ht, rfl, hc⟩ := hrel
    have HC := Lib.hid hc
    clear hc
    go_wp2
    · have h1 : 0 < t.size := by assumption
      have h2 : ((t[0].toNat : Int) == 0) = true := by assumption
      have h0 : t[0] = 0 := UInt8.toNat_inj.1 (by have := beq_iff_eq.1 h2; simpa using this)
      refine ⟨⟨t.extract 1 t.size, by simp; omega, rfl, by rw [canon_skip t h1 h0]; exact HC.out⟩, ?_⟩
      simp [strOf]; omega
    · have h1 : 0 < t.size := by assumption
      have h2 : ((t[0].toNat : Int) == 0) = false := by assumption
      have h0 : t[0] ≠ 0 := by intro e; rw [e] at h2; simp at h2
      go_ret
      refine ⟨?_, rfl⟩
      rw [toArray_eq t (by rw [← HC.out]; exact canon_stay t h1 h0)]; rfl
    · have h1 : ¬ 0 < t.size := by assumption
      have hz : t.data.toList = [] := List.eq_nil_of_length_eq_zero (by have := len_toList t; omega)
      go_ret
      refine ⟨?_, rfl⟩
      rw [toArray_eq t (by rw [← HC.out, hz]; rfl)]; rfl
end Go.Proofs.YtoadjhmehgkeaaaDoor
