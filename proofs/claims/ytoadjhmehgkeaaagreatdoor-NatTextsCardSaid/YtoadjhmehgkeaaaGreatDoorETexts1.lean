/- Contracts of package nat and of the reference, part 1: MthB, MthD, DivL, Mem, Str. -/
import Derived.Test.YtoadjhmehgkeaaaGreatDoorETexts0
import Derived.Test.YtoadjhmehgkeaaaGreatDoorShelf
import Derived.Lib.ItoaNum
import Derived.Laws.Bits64b
import Derived.Laws.BitsLemmas
import Derived.Deep.QuietTactic
import Derived.BigQuiet
import Derived.WalkKit
import Derived.Laws.CopyOwn
import Derived.Deep.Draws
import Derived.Lib.Hide
import Derived.Test.YtoadjhmehgkeaaaGreatDoorChecked
import Derived.WalkSpells
import Derived.WalkLawsBesides
import Derived.Lib.IndexBytes
namespace Go.Proofs.YtoadjhmehgkeaaaGreatDoor
namespace Mth
open Go.Proofs

theorem bitLen_bounds {x : Nat} (h : x < W64) (h0 : x ≠ 0) : 1 ≤ Lib.bitLen x ∧ Lib.bitLen x ≤ 64 ∧ 2 ^ (Lib.bitLen x - 1) ≤ x ∧ x < 2 ^ Lib.bitLen x := by
  have hx : x < 2 ^ 64 := h
  obtain ⟨h1, h2, h3⟩ := Lib.bitLenAux_bounds 64 x hx h0
  exact ⟨h1, Lib.bitLen_le x 64 (Nat.le_refl _) hx, h2, h3⟩
/-- How many bytes a word has. -/
theorem byteLen {x : Nat} (h : x < W64) (h0 : x ≠ 0) : 1 ≤ (Lib.bitLen x + 7) / 8 ∧ (Lib.bitLen x + 7) / 8 ≤ 8 ∧ 256 ^ ((Lib.bitLen x + 7) / 8 - 1) ≤ x ∧ x < 256 ^ ((Lib.bitLen x + 7) / 8) := by
  obtain ⟨h1, h2, h3, h4⟩ := bitLen_bounds h h0
  refine ⟨by omega, by omega, ?_, ?_⟩
  · rw [show (256 : Nat) = 2 ^ 8 from rfl, ← Nat.pow_mul]
    exact Nat.le_trans (Nat.pow_le_pow_right (by decide) (by omega)) h3
  · rw [show (256 : Nat) = 2 ^ 8 from rfl, ← Nat.pow_mul]
    exact Nat.lt_of_lt_of_le h4 (Nat.pow_le_pow_right (by decide) (by omega))
/-- The bytes of a number N, L of them, the most significant one first. -/
def bytesN (L N : Nat) : List Nat := (List.range L).map fun i => N / 256 ^ (L - 1 - i) % 256
theorem length_bytesN (L N : Nat) : (bytesN L N).length = L := by simp [bytesN]
theorem gt_bytesN {L N i : Nat} (h : i < L) : gt (bytesN L N) i = N / 256 ^ (L - 1 - i) % 256 := by
  rw [gt_of_lt (by rw [length_bytesN]; exact h)]; simp [bytesN]
/-- The first i bytes of them are there. -/
def fillN (L N i : Nat) : List Nat := (List.range L).map fun j => if j < i then N / 256 ^ (L - 1 - j) % 256 else 0
theorem length_fillN (L N i : Nat) : (fillN L N i).length = L := by simp [fillN]
theorem fillN_zero (L N : Nat) : fillN L N 0 = List.replicate L 0 := by
  apply gt_ext
  · simp [fillN]
  · intro i hi
    rw [gt_of_lt hi, gt_of_lt (by simpa [fillN] using hi)]; simp [fillN]
theorem fillN_all (L N : Nat) : fillN L N L = bytesN L N := by
  simp only [fillN, bytesN]
  apply List.map_congr_left
  intro j hj
  rw [if_pos (List.mem_range.1 hj)]
theorem fillN_set {L N i v : Nat} (h : i < L) (hv : v = N / 256 ^ (L - 1 - i) % 256) : (fillN L N i).set i v = fillN L N (i + 1) := by
  subst hv
  apply gt_ext
  · simp [fillN]
  · intro j hj
    simp only [List.length_set, length_fillN] at hj
    rw [gt_set (by rw [length_fillN]; exact h)]
    rw [gt_of_lt (by rw [length_fillN]; exact hj), gt_of_lt (by rw [length_fillN]; exact hj)]
    simp only [fillN, List.getElem_map, List.getElem_range]
    split
    · rename_i e; subst e; rw [if_pos (by omega)]
    · by_cases h2 : j < i
      · rw [if_pos h2, if_pos (by omega)]
      · rw [if_neg h2, if_neg (by omega)]
/-- As bytes. -/
def u8s (xs : List Nat) : List UInt8 := xs.map UInt8.ofNat
theorem bytesN_succ (L N : Nat) : bytesN (L + 1) N = bytesN L (N / 256) ++ [N % 256] := by
  apply gt_ext
  · simp [length_bytesN]
  · intro i hi
    rw [length_bytesN] at hi
    rw [gt_bytesN hi]
    by_cases h : i < L
    · rw [gt_append_left (by rw [length_bytesN]; exact h), gt_bytesN h, Nat.div_div_eq_div_mul, show L + 1 - 1 - i = (L - 1 - i) + 1 from by omega, Nat.pow_succ, Nat.mul_comm]
    · obtain rfl : i = L := by omega
      rw [gt_append_right (by rw [length_bytesN]; omega), length_bytesN, Nat.sub_self]
      simp [gt]
theorem u8s_bytesN {L N : Nat} (h1 : 256 ^ (L - 1) ≤ N ∨ L = 0) (h2 : N < 256 ^ L) : u8s (bytesN L N) = enc N := by
  induction L generalizing N with
  | zero => simp at h2; subst h2; simp [bytesN, u8s, enc_zero]
  | succ L ih =>
    have h3 : 256 ^ L ≤ N := by rcases h1 with h | h; simpa using h; omega
    have hp : 0 < 256 ^ L := Nat.pow_pos (by decide)
    rw [bytesN_succ, enc_pos (by omega)]
    rw [show u8s (bytesN L (N / 256) ++ [N % 256]) = u8s (bytesN L (N / 256)) ++ [UInt8.ofNat (N % 256)] from by simp [u8s]]
    rw [ih ?_ ?_]
    · cases L with
      | zero => right; rfl
      | succ L =>
        left
        rw [Nat.pow_succ] at h3
        simp only [Nat.add_sub_cancel]
        omega
    · rw [Nat.pow_succ] at h2; omega
/-- Byte number p of a number, out of its words. -/
theorem byte_of_word {xs : List Nat} {N q r m off : Nat} (hd : Dg W64 xs) (hN : vs W64 xs off m = N) (hq : q < m) (hr : r < 8) : gt xs (off + q) / 256 ^ r % 256 = N / 256 ^ (8 * q + r) % 256 := by
  obtain ⟨k, rfl⟩ : ∃ k, m = q + 1 + k := ⟨m - (q + 1), by omega⟩
  have hN2 : N = vs W64 xs off q + W64 ^ q * (gt xs (off + q) + W64 * vs W64 xs (off + (q + 1)) k) := by
    rw [← hN, vs_split]
    simp only [vs]
    rw [Nat.mul_add, Nat.pow_succ, Nat.mul_assoc, Nat.add_assoc]
  have h1 : N / W64 ^ q = gt xs (off + q) + W64 * vs W64 xs (off + (q + 1)) k := by
    rw [hN2, Nat.add_mul_div_left _ _ (Nat.pow_pos W64_pos), Nat.div_eq_of_lt (vs_lt hd), Nat.zero_add]
  rw [Nat.pow_add, ← W64_pow, ← Nat.div_div_eq_div_mul, h1]
  have hW : W64 = 256 ^ r * (256 * 256 ^ (7 - r)) := by rw [← Nat.pow_succ', ← Nat.pow_add, show r + (7 - r).succ = 8 from by omega]; rfl
  rw [hW, Nat.mul_assoc, Nat.add_mul_div_left _ _ (Nat.pow_pos (by decide)), Nat.mul_assoc, Nat.add_mul_mod_self_left]
/-- A number whose greatest word is x at place m. -/
theorem top_bounds {xs : List Nat} {m x off : Nat} (hd : Dg W64 xs) (hx : gt xs (off + m) = x) (h0 : x ≠ 0) : 256 ^ (8 * m + (Lib.bitLen x + 7) / 8 - 1) ≤ vs W64 xs off (m + 1) ∧ vs W64 xs off (m + 1) < 256 ^ (8 * m + (Lib.bitLen x + 7) / 8) := by
  obtain ⟨h1, h2, h3, h4⟩ := byteLen (hx ▸ hd (off + m)) h0
  simp only [vs, hx]
  have hlt := vs_lt (off := off) (n := m) hd
  rw [W64_pow] at hlt ⊢
  constructor
  · rw [show 8 * m + (Lib.bitLen x + 7) / 8 - 1 = 8 * m + ((Lib.bitLen x + 7) / 8 - 1) from by omega, Nat.pow_add]
    exact Nat.le_trans (Nat.mul_le_mul_left _ h3) (Nat.le_add_left _ _)
  · rw [Nat.pow_add]
    have h5 : 256 ^ (8 * m) * (x + 1) ≤ 256 ^ (8 * m) * 256 ^ ((Lib.bitLen x + 7) / 8) := Nat.mul_le_mul_left _ h4
    rw [Nat.mul_add] at h5
    omega
end Mth
end Go.Proofs.YtoadjhmehgkeaaaGreatDoor
namespace Go.Proofs.YtoadjhmehgkeaaaGreatDoor
namespace Mth

/-- 2 to the power of 32. -/
def H32 : Nat := 4294967296
theorem H32_eq : H32 = 4294967296 := rfl
/-- What a division by Y = N1 * H32 + N0 of U * H32 + u comes to, where U < Y. -/
structure DigIn (Y N1 N0 U u : Nat) : Prop where
  y : Y = N1 * H32 + N0
  n0 : N0 < H32
  lo : 2147483648 ≤ N1
  hi : N1 < H32
  lt : U < Y
  u : u < H32
/-- The estimate q with its rest r. -/
structure DigInv (Y N1 U u q r : Nat) : Prop where
  eq : q * N1 + r = U
  ge : (U * H32 + u) / Y ≤ q
theorem DigIn.q_lt {Y N1 N0 U u : Nat} (h : DigIn Y N1 N0 U u) : (U * H32 + u) / Y < H32 := by
  have hY : 0 < Y := Nat.lt_of_le_of_lt (Nat.zero_le _) h.lt
  rw [Nat.div_lt_iff_lt_mul hY]
  have h1 : H32 * (U + 1) ≤ H32 * Y := Nat.mul_le_mul_left _ h.lt
  have := h.u
  rw [Nat.mul_add] at h1
  rw [Nat.mul_comm U]
  omega
theorem DigIn.init {Y N1 N0 U u : Nat} (h : DigIn Y N1 N0 U u) : DigInv Y N1 U u (U / N1) (U % N1) := by
  have hN : 0 < N1 := by have := h.lo; omega
  have hY : 0 < Y := Nat.lt_of_le_of_lt (Nat.zero_le _) h.lt
  refine ⟨by rw [Nat.mul_comm]; exact Nat.div_add_mod _ _, ?_⟩
  rw [Nat.le_div_iff_mul_le hN]
  have h1 : (U * H32 + u) / Y * Y ≤ U * H32 + u := Nat.div_mul_le_self _ _
  generalize (U * H32 + u) / Y = q at *
  have h2 : q * N1 * H32 ≤ q * Y := by rw [h.y, Nat.mul_add, ← Nat.mul_assoc]; omega
  have h3 : q * N1 * H32 < (U + 1) * H32 := by have := h.u; rw [Nat.add_mul]; omega
  exact Nat.le_of_lt_succ (Nat.lt_of_mul_lt_mul_right h3)
theorem DigIn.init_le {Y N1 N0 U u : Nat} (h : DigIn Y N1 N0 U u) : U / N1 ≤ 4294967297 := by
  have hN : 0 < N1 := by have := h.lo; omega
  apply Nat.le_of_lt_succ
  rw [Nat.div_lt_iff_lt_mul hN]
  have h1 := h.lt
  have h2 := h.y
  have h3 := h.n0
  have h4 := h.lo
  rw [H32_eq] at *
  omega
theorem DigInv.pos {Y N1 N0 U u q r : Nat} (h : DigIn Y N1 N0 U u) (g : DigInv Y N1 U u q r) (hg : H32 ≤ q ∨ H32 * r + u < q * N0) : (U * H32 + u) / Y + 1 ≤ q := by
  have hY : 0 < Y := Nat.lt_of_le_of_lt (Nat.zero_le _) h.lt
  rcases hg with h1 | h1
  · have := h.q_lt; omega
  · apply Nat.succ_le_of_lt
    rw [Nat.div_lt_iff_lt_mul hY, h.y, Nat.mul_add, ← Nat.mul_assoc]
    have h2 : (q * N1 + r) * H32 = U * H32 := by rw [g.eq]
    rw [Nat.add_mul, Nat.mul_comm r] at h2
    omega
theorem DigInv.next {Y N1 N0 U u q r : Nat} (h : DigIn Y N1 N0 U u) (g : DigInv Y N1 U u q r) (hg : H32 ≤ q ∨ H32 * r + u < q * N0) : DigInv Y N1 U u (q - 1) (r + N1) := by
  have h1 := g.pos h hg
  refine ⟨?_, Nat.le_sub_of_add_le h1⟩
  have hq1 : 1 ≤ q := Nat.le_trans (Nat.le_add_left _ _) h1
  obtain ⟨k, rfl⟩ : ∃ k, q = k + 1 := ⟨q - 1, by omega⟩
  have h2 := g.eq
  rw [Nat.add_mul] at h2
  rw [Nat.add_sub_cancel]
  omega
theorem DigInv.done {Y N1 N0 U u q r : Nat} (h : DigIn Y N1 N0 U u) (g : DigInv Y N1 U u q r) (hg : q * N0 ≤ H32 * r + u) : q = (U * H32 + u) / Y := by
  have hY : 0 < Y := Nat.lt_of_le_of_lt (Nat.zero_le _) h.lt
  refine Nat.le_antisymm ?_ g.ge
  rw [Nat.le_div_iff_mul_le hY, h.y, Nat.mul_add, ← Nat.mul_assoc]
  have h2 : (q * N1 + r) * H32 = U * H32 := by rw [g.eq]
  rw [Nat.add_mul, Nat.mul_comm r] at h2
  omega
theorem DigInv.left {Y N1 N0 U u q r : Nat} (h : DigIn Y N1 N0 U u) (g : DigInv Y N1 U u q r) (hq : q ≤ H32) (hr : H32 ≤ r) : q = (U * H32 + u) / Y := by
  refine g.done h ?_
  have h1 : q * N0 ≤ H32 * H32 := Nat.mul_le_mul hq (Nat.le_of_lt h.n0)
  have h2 : H32 * H32 ≤ H32 * r := Nat.mul_le_mul_left _ hr
  omega
/-- The whole of Div64. -/
theorem div_whole {Y U U1 U0 y s hi lo : Nat} (hY : Y = y * 2 ^ s) (hy : 0 < y) (hall : (hi * W64 + lo) * 2 ^ s = (U * H32 + U1) * H32 + U0) :
    (U * H32 + U1) / Y * H32 + ((U * H32 + U1) % Y * H32 + U0) / Y = (hi * W64 + lo) / y ∧ ((U * H32 + U1) % Y * H32 + U0) % Y / 2 ^ s = (hi * W64 + lo) % y := by
  have hp : 0 < 2 ^ s := Nat.pow_pos (by decide)
  have hY0 : 0 < Y := by rw [hY]; exact Nat.mul_pos hy hp
  have h1 := Nat.div_add_mod (U * H32 + U1) Y
  generalize (U * H32 + U1) / Y = q1 at *
  generalize (U * H32 + U1) % Y = r1 at *
  have h2 := Nat.div_add_mod (r1 * H32 + U0) Y
  have h3 := Nat.mod_lt (r1 * H32 + U0) hY0
  generalize (r1 * H32 + U0) / Y = q0 at *
  generalize (r1 * H32 + U0) % Y = r0 at *
  have h4 : (hi * W64 + lo) * 2 ^ s = Y * (q1 * H32 + q0) + r0 := by
    rw [hall, ← h1, Nat.add_mul, Nat.mul_add, Nat.mul_assoc]
    omega
  have h5 : (hi * W64 + lo) * 2 ^ s / Y = q1 * H32 + q0 := by
    rw [h4, Nat.mul_add_div hY0, Nat.div_eq_of_lt h3]; omega
  have h6 : (hi * W64 + lo) * 2 ^ s % Y = r0 := by
    rw [h4, Nat.mul_add_mod, Nat.mod_eq_of_lt h3]
  rw [hY, Nat.mul_div_mul_right _ _ hp] at h5
  rw [hY, Nat.mul_mod_mul_right] at h6
  exact ⟨h5.symm, by rw [← h6, Nat.mul_div_cancel _ hp]⟩
end Mth
end Go.Proofs.YtoadjhmehgkeaaaGreatDoor
namespace Go.Proofs.YtoadjhmehgkeaaaGreatDoor
open Go.RowKit Mth

/-- What Div64 returns. -/
def D64Val (hi lo y : Nat) : Value := .tuple #[.int .u64 (((hi * W64 + lo) / y : Nat) : Int), .int .u64 (((hi * W64 + lo) % y : Nat) : Int)]

theorem div64_lo (lo y : Nat) (w : World) (hl : lo < W64) (hy : 0 < y) :
    Calls Tryz.prog 136 #[.int .u64 0, .int .u64 (lo : Int), .int .u64 (y : Int)] w fun e w' => e = .returned (.tuple #[.int .u64 ((lo / y : Nat) : Int), .int .u64 ((lo % y : Nat) : Int)]) ∧ ∃ n, w' = w.drewN n := by
  have h0 : ((y : Int) == 0) = false := by rw [beq_eq_false_iff_ne]; omega
  have h1 : ¬ (y : Int) ≤ 0 := by omega
  go_enter Tryz.func136, Tryz.ntmps136
  go_wp2
  go_quiet (fail)
  go_wp2
  go_ret2
  refine ⟨?_, _, rfl⟩
  show Ending.returned (.tuple #[.int .u64 (IntKind.u64.wrap ((lo : Int) / (y : Int))), .int .u64 ((lo : Int) % (y : Int))]) = _
  rw [← Int.natCast_ediv, wrap_u64 _ (Nat.lt_of_le_of_lt (Nat.div_le_self _ _) hl), ← Int.natCast_emod]

theorem wrap_mod (n : Int) : IntKind.u64.wrap n = n % 18446744073709551616 := by simp [IntKind.wrap, IntKind.bits, IntKind.signed]
theorem mask_u64 (x : Nat) (hx : x < W64) : bits BinOp.and IntKind.u64 (x : Int) 4294967295 = ((x % 4294967296 : Nat) : Int) := by
  have h := bits_and_u64_nat x 4294967295 (by rw [W64_eq] at hx; exact hx) (by decide)
  rw [show ((4294967295 : Nat) : Int) = 4294967295 from rfl] at h
  rw [h]
  congr 1
  exact Nat.and_two_pow_sub_one_eq_mod x 32

structure DivFacts (hi lo y s Y N1 N0 U V U1 U0 : Nat) : Prop where
  w1 : IntKind.u64.wrap ((y : Int) * (2 : Int) ^ s) = (Y : Int)
  w2 : (Y : Int) / 4294967296 = (N1 : Int)
  w3 : bits BinOp.and IntKind.u64 (Y : Int) 4294967295 = (N0 : Int)
  w4 : bits BinOp.or IntKind.u64 (IntKind.u64.wrap ((hi : Int) * (2 : Int) ^ s)) ((lo : Int) / (2 : Int) ^ (64 - s)) = (U : Int)
  w5 : IntKind.u64.wrap ((lo : Int) * (2 : Int) ^ s) = (V : Int)
  w6 : (V : Int) / 4294967296 = (U1 : Int)
  w7 : bits BinOp.and IntKind.u64 (V : Int) 4294967295 = (U0 : Int)
  dig : DigIn Y N1 N0 U U1
  all : (hi * W64 + lo) * 2 ^ s = (U * H32 + U1) * H32 + U0
  v : U0 ≤ 4294967295
  u : U < W64
theorem divFacts {hi lo y s Y N1 N0 U V U1 U0 : Nat} (hl : lo < W64) (hy : hi < y) (hy2 : y < W64) (hs : Lib.bitLen y = 64 - s) (hs63 : s ≤ 63) (h0 : 0 < y) (hY : Y = y * 2 ^ s) (hN1 : N1 = Y / 4294967296) (hN0 : N0 = Y % 4294967296)
    (hU : U = hi * 2 ^ s + lo / 2 ^ (64 - s)) (hV : V = (lo * 2 ^ s) % W64) (hU1 : U1 = V / 4294967296) (hU0 : U0 = V % 4294967296) : DivFacts hi lo y s Y N1 N0 U V U1 U0 := by
  have h64 : 2 ^ (64 - s) * 2 ^ s = W64 := by rw [← Nat.pow_add, show 64 - s + s = 64 from by omega]; rfl
  have hp : 0 < 2 ^ s := Nat.pow_pos (by decide)
  obtain ⟨_, _, b1, b2⟩ := bitLen_bounds hy2 (by omega : y ≠ 0)
  rw [hs] at b1 b2
  have hYlt : Y < W64 := by rw [hY, ← h64]; exact Nat.mul_lt_mul_of_pos_right b2 hp
  have hYge : 9223372036854775808 ≤ Y := by
    have h1 : 2 ^ (64 - s - 1) * 2 ^ s ≤ y * 2 ^ s := Nat.mul_le_mul_right _ b1
    rw [← Nat.pow_add, show 64 - s - 1 + s = 63 from by omega] at h1
    rw [hY]; exact h1
  have hq : lo / 2 ^ (64 - s) < 2 ^ s := by
    rw [Nat.div_lt_iff_lt_mul (Nat.pow_pos (by decide)), Nat.mul_comm, h64]; exact hl
  have hhi : (hi + 1) * 2 ^ s ≤ y * 2 ^ s := Nat.mul_le_mul_right _ hy
  rw [Nat.add_mul, Nat.one_mul, ← hY] at hhi
  have hUY : U < Y := by omega
  have hVlt : V < W64 := by rw [hV]; exact Nat.mod_lt _ W64_pos
  have hlo : lo * 2 ^ s = W64 * (lo / 2 ^ (64 - s)) + V := by
    have h1 := Nat.div_add_mod (lo * 2 ^ s) W64
    have h2 : lo * 2 ^ s / W64 = lo / 2 ^ (64 - s) := by rw [← h64, Nat.mul_div_mul_right _ _ hp]
    rw [← hV, h2] at h1
    exact h1.symm
  have hpc : ((2 : Int) ^ s) = ((2 ^ s : Nat) : Int) := by simp
  have hpc2 : ((2 : Int) ^ (64 - s)) = ((2 ^ (64 - s) : Nat) : Int) := by simp
  refine ⟨?_, by omega, by rw [hN0]; exact mask_u64 Y hYlt, ?_, ?_, by omega, by rw [hU0]; exact mask_u64 V hVlt, ?_, ?_, by omega, by omega⟩
  · rw [hpc, ← Int.natCast_mul, ← hY, wrap_u64 _ hYlt]
  · rw [hpc, hpc2, ← Int.natCast_mul, wrap_u64 _ (by omega), ← Int.natCast_ediv]
    rw [bits_or_u64_nat _ _ (by rw [W64_eq] at hYlt; omega) (by rw [W64_eq] at hYlt; omega)]
    rw [hU, Nat.mul_comm hi, Nat.two_pow_add_eq_or_of_lt hq]
  · rw [hpc, ← Int.natCast_mul, wrap_mod, hV, W64_eq]; omega
  · rw [W64_eq] at hYlt hVlt
    exact ⟨by rw [H32_eq]; omega, by rw [H32_eq]; omega, by omega, by rw [H32_eq]; omega, hUY, by rw [H32_eq]; omega⟩
  · have h1 : H32 * H32 = W64 := by decide
    have h2 : U1 * H32 + U0 = V := by rw [H32_eq]; omega
    rw [Nat.add_mul (U * H32), Nat.mul_assoc U, h1, Nat.add_assoc, h2, Nat.add_mul, hlo, hU, Nat.add_mul, Nat.mul_comm W64, Nat.mul_right_comm hi]
    omega

/-- The first estimate of a digit, as the walk spells it. -/
structure Prep (Y N1 U u Q R P : Nat) : Prop where
  w8 : (U : Int) / (N1 : Int) = (Q : Int)
  w9 : IntKind.u64.wrap ((Q : Int) * (N1 : Int)) = (P : Int)
  w10 : IntKind.u64.wrap ((U : Int) - (P : Int)) = (R : Int)
  w11 : (U : Int) - (P : Int) = (R : Int)
  w12 : IntKind.u64.wrap (R : Int) = (R : Int)
  r : R < N1
  q : Q ≤ 4294967297
  inv : DigInv Y N1 U u Q R
theorem prep {Y N1 N0 U u : Nat} (hdig : DigIn Y N1 N0 U u) (hUb : U < W64) : ∃ Q R P, Prep Y N1 U u Q R P := by
  have hinit := hdig.init
  have hlo := hdig.lo
  have hRN : U % N1 < N1 := Nat.mod_lt _ (by omega)
  have hw8 : (U : Int) / (N1 : Int) = ((U / N1 : Nat) : Int) := by rw [Int.natCast_ediv]
  have hPU : U / N1 * N1 + U % N1 = U := hinit.eq
  have hQ := hdig.init_le
  refine ⟨U / N1, U % N1, U / N1 * N1, hw8, ?_, ?_, ?_, wrap_u64 _ (by omega), hRN, hQ, hinit⟩
  · rw [← Int.natCast_mul, wrap_u64 _ (by omega)]
  · generalize U / N1 * N1 = P at *
    generalize U % N1 = R at *
    rw [show (U : Int) - (P : Int) = (R : Int) from by omega, wrap_u64 _ (by omega)]
  · generalize U / N1 * N1 = P at *
    generalize U % N1 = R at *
    omega
/-- What is left of the first digit, as the walk spells it. -/
theorem left_over {Y N1 N0 U u z : Nat} (hdig : DigIn Y N1 N0 U u) (hY : Y < W64) (hz : z = (U * H32 + u) / Y) :
    IntKind.u64.wrap (IntKind.u64.wrap (IntKind.u64.wrap ((U : Int) * 4294967296) + (u : Int)) - IntKind.u64.wrap ((z : Int) * (Y : Int))) = (((U * H32 + u) % Y : Nat) : Int) := by
  have h1 := Nat.div_add_mod (U * H32 + u) Y
  have h2 : (U * H32 + u) % Y < Y := Nat.mod_lt _ (by have := hdig.lt; omega)
  rw [← hz, Nat.mul_comm Y] at h1
  rw [← Int.natCast_mul]
  generalize (U * H32 + u) % Y = r at *
  generalize z * Y = P at *
  simp only [wrap_mod]
  rw [H32_eq] at h1
  rw [W64_eq] at hY
  omega

theorem prod_lt {q n : Nat} (h : q < 4294967296) (g : n < 4294967296) : q * n < W64 := by
  have h1 : q * n ≤ 4294967295 * 4294967295 := Nat.mul_le_mul (by omega) (by omega)
  rw [W64_eq]; omega

set_option maxHeartbeats 1000000 in
set_option maxRecDepth 100000 in
theorem div64_hi (hi lo y : Nat) (w : World) (hh : 0 < hi) (hl : lo < W64) (hy : hi < y) (hy2 : y < W64) :
    Calls Tryz.prog 136 #[.int .u64 (hi : Int), .int .u64 (lo : Int), .int .u64 (y : Int)] w fun e w' => e = .returned (D64Val hi lo y) ∧ w' = w := by
  have h0 : ((y : Int) == 0) = false := by rw [beq_eq_false_iff_ne]; omega
  have h00 : ((hi : Int) == 0) = false := by rw [beq_eq_false_iff_ne]; omega
  have h1 : ¬ (y : Int) ≤ (hi : Int) := by omega
  go_enter Tryz.func136, Tryz.ntmps136
  go_wp2_with fail
  refine (Tryz.bits_LeadingZeros64 _ _ (by omega) (by rw [W64_eq] at hy2; omega)).mono ?_
  rintro e w' ⟨rfl, rfl⟩
  rw [show Lib.bitLen ((y : Int).toNat) = Lib.bitLen y from rfl]
  have hbl := bitLen_bounds hy2 (by omega : y ≠ 0)
  obtain ⟨s, hs⟩ : ∃ s, Lib.bitLen y = 64 - s ∧ s ≤ 63 := ⟨64 - Lib.bitLen y, by omega, by omega⟩
  rw [hs.1, show (64 - ((64 - s : Nat) : Int)) = (s : Int) from by omega]
  have HS := Lib.hid hs.1
  have hs63 := hs.2
  clear hs hbl
  obtain ⟨Y, hY⟩ : ∃ Y, Y = y * 2 ^ s := ⟨_, rfl⟩
  obtain ⟨N1, hN1⟩ : ∃ N1, N1 = Y / 4294967296 := ⟨_, rfl⟩
  obtain ⟨N0, hN0⟩ : ∃ N0, N0 = Y % 4294967296 := ⟨_, rfl⟩
  obtain ⟨U, hU⟩ : ∃ U, U = hi * 2 ^ s + lo / 2 ^ (64 - s) := ⟨_, rfl⟩
  obtain ⟨V, hV⟩ : ∃ V, V = (lo * 2 ^ s) % W64 := ⟨_, rfl⟩
  obtain ⟨U1, hU1⟩ : ∃ U1, U1 = V / 4294967296 := ⟨_, rfl⟩
  obtain ⟨U0, hU0⟩ : ∃ U0, U0 = V % 4294967296 := ⟨_, rfl⟩
  have hfacts : DivFacts hi lo y s Y N1 N0 U V U1 U0 := divFacts hl hy hy2 HS.out hs63 (by omega) hY hN1 hN0 hU hV hU1 hU0
  obtain ⟨hw1, hw2, hw3, hw4, hw5, hw6, hw7, hdig, hall, hVb, hUb⟩ := hfacts
  have HYE := Lib.hid hY
  clear hY hN1 hN0 hU hV hU1 hU0
  have hN1a := hdig.lo
  have hN1b := hdig.hi
  have hN0b := hdig.n0
  have hU1b := hdig.u
  have hYb : Y < W64 := by have := hdig.y; rw [H32_eq] at *; rw [W64_eq]; omega
  have hUY := hdig.lt
  rw [H32_eq] at hN1b hN0b hU1b
  obtain ⟨Q, R, P, hprep⟩ := prep hdig hUb
  obtain ⟨hw8, hw9, hw10, hw11, hw12, hR, hQ, hinv⟩ := hprep
  have HDIG := Lib.hid hdig
  have HALL := Lib.hid hall
  have HINV := Lib.hid hinv
  clear hdig hall hinv
  go_wp2_with fail
  clear hw8 hw9 hw10 hw11 hw12 hw1 hw2 hw3 hw4 hw5 hw6 hw7
  have i3 : (N1 : Int) < 4294967296 := by omega
  have i4 : (U1 : Int) < 4294967296 := by omega
  have i5 : (U0 : Int) < 4294967296 := by omega
  have H3 := Lib.hid hN1b
  have H4 := Lib.hid hN0b
  have H6 := Lib.hid hN1a
  have H9 := Lib.hid hQ
  have i9 : (Q : Int) ≤ 4294967297 := by omega
  clear hN1b hN0b hU1b hN1a hQ
  go_loop [15, 16] (fun v r => ∃ q ρ : Nat, v = .int .u64 q ∧ r = .int .u64 ρ ∧ ρ < 4294967296 ∧ q ≤ 4294967297 ∧ Hid (DigInv Y N1 U U1 q ρ)) (fun v _ => (intOf v).toNat)
  case atStart => exact ⟨Q, R, rfl, rfl, by have := H3.out; omega, H9.out, HINV⟩
  case round =>
    obtain ⟨q, ρ, rfl, rfl, hρ, hq, HI⟩ := hrel
    have i1 : (ρ : Int) < 4294967296 := by omega
    have i2 : (q : Int) ≤ 4294967297 := by omega
    have hcases : 4294967296 ≤ q ∨ (q < 4294967296 ∧ 4294967296 * ρ + U1 < q * N0) ∨ (q < 4294967296 ∧ q * N0 ≤ 4294967296 * ρ + U1) := by
      rcases Nat.lt_or_ge q 4294967296 with h | h
      · rcases Nat.lt_or_ge (4294967296 * ρ + U1) (q * N0) with h' | h'
        · exact .inr (.inl ⟨h, h'⟩)
        · exact .inr (.inr ⟨h, h'⟩)
      · exact .inl h
    have HQ := Lib.hid hq
    have HR := Lib.hid hρ
    clear hq hρ
    rcases hcases with hc | ⟨hc, hp⟩ | ⟨hc, hp⟩
    · have hqd : decide ((4294967296 : Int) ≤ (q : Int)) = true := decide_eq_true (by omega)
      have hpos := HI.out.pos HDIG.out (.inl (by rw [H32_eq]; exact hc))
      have HNX := Lib.hid (HI.out.next HDIG.out (.inl (by rw [H32_eq]; exact hc)))
      have hq1 : 1 ≤ q := by omega
      clear hpos hc HI
      obtain ⟨k, hk⟩ : ∃ k, q = k + 1 := ⟨q - 1, by omega⟩
      have hk1 : (q : Int) - 1 = (k : Int) := by omega
      rw [show q - 1 = k from by omega] at HNX
      have hkq : k ≤ 4294967296 := by have := HQ.out; omega
      have HK := Lib.hid hk
      have HKQ := Lib.hid hkq
      clear hk hkq
      by_cases hbr : (4294967296 : Int) ≤ (ρ : Int) + (N1 : Int)
      · have hbd : decide ((4294967296 : Int) ≤ (ρ : Int) + (N1 : Int)) = true := decide_eq_true hbr
        have HZ := Lib.hid (HNX.out.left HDIG.out (by rw [H32_eq]; exact HKQ.out) (by rw [H32_eq]; omega))
        clear HNX
        have hlo1 := left_over HDIG.out hYb HZ.out
        obtain ⟨r1, hr1⟩ : ∃ r1, r1 = (U * H32 + U1) % Y := ⟨_, rfl⟩
        rw [← hr1] at hlo1
        have hr1Y : r1 < Y := by rw [hr1]; exact Nat.mod_lt _ (by omega)
        have hd2 : DigIn Y N1 N0 r1 U0 := ⟨HDIG.out.y, HDIG.out.n0, HDIG.out.lo, HDIG.out.hi, hr1Y, by rw [H32_eq]; omega⟩
        obtain ⟨Q2, R2, P2, hp2⟩ := prep hd2 (Nat.lt_trans hr1Y hYb)
        obtain ⟨v8, v9, v10, v11, v12, hR2, hQ2, hi2⟩ := hp2
        have hzb : k < 4294967296 := by have h := HDIG.out.q_lt; rw [← HZ.out, H32_eq] at h; exact h
        have i6 : (k : Int) < 4294967296 := by omega
        have HD2 := Lib.hid hd2
        have HI2 := Lib.hid hi2
        have HR1 := Lib.hid hr1
        have HQ2 := Lib.hid hQ2
        have HR2 := Lib.hid hR2
        have HZ1 := Lib.hid HZ.out
        have i8 : (Q2 : Int) ≤ 4294967297 := by omega
        clear hd2 hi2 hr1 hzb HZ hQ2 hR2
        go_wp2_with fail
        clear v8 v9 v10 v11 v12 hlo1
        go_loop [18, 16] (fun v r => ∃ q ρ : Nat, v = .int .u64 q ∧ r = .int .u64 ρ ∧ ρ < 4294967296 ∧ q ≤ 4294967297 ∧ Hid (DigInv Y N1 r1 U0 q ρ)) (fun v _ => (intOf v).toNat)
        case atStart => exact ⟨Q2, R2, rfl, rfl, by have := HR2.out; have := H3.out; omega, HQ2.out, HI2⟩
        case round =>
          obtain ⟨q, ρ, rfl, rfl, hρ, hq, HI⟩ := hrel
          have i1 : (ρ : Int) < 4294967296 := by omega
          have i2 : (q : Int) ≤ 4294967297 := by omega
          have hcases : 4294967296 ≤ q ∨ (q < 4294967296 ∧ 4294967296 * ρ + U0 < q * N0) ∨ (q < 4294967296 ∧ q * N0 ≤ 4294967296 * ρ + U0) := by
            rcases Nat.lt_or_ge q 4294967296 with h | h
            · rcases Nat.lt_or_ge (4294967296 * ρ + U0) (q * N0) with h' | h'
              · exact .inr (.inl ⟨h, h'⟩)
              · exact .inr (.inr ⟨h, h'⟩)
            · exact .inl h
          have HQ := Lib.hid hq
          have HR := Lib.hid hρ
          clear hq hρ
          rcases hcases with hc | ⟨hc, hp⟩ | ⟨hc, hp⟩
          · have hqd : decide ((4294967296 : Int) ≤ (q : Int)) = true := decide_eq_true (by omega)
            have hpos := HI.out.pos HD2.out (.inl (by rw [H32_eq]; exact hc))
            have HNX := Lib.hid (HI.out.next HD2.out (.inl (by rw [H32_eq]; exact hc)))
            have hq1 : 1 ≤ q := by omega
            clear hpos hc HI
            obtain ⟨k, hk⟩ : ∃ k, q = k + 1 := ⟨q - 1, by omega⟩
            have hk1 : (q : Int) - 1 = (k : Int) := by omega
            rw [show q - 1 = k from by omega] at HNX
            have hkq : k ≤ 4294967296 := by have := HQ.out; omega
            have HK := Lib.hid hk
            have HKQ := Lib.hid hkq
            clear hk hkq
            by_cases hbr : (4294967296 : Int) ≤ (ρ : Int) + (N1 : Int)
            · have hbd : decide ((4294967296 : Int) ≤ (ρ : Int) + (N1 : Int)) = true := decide_eq_true hbr
              have HZ := Lib.hid (HNX.out.left HD2.out (by rw [H32_eq]; exact HKQ.out) (by rw [H32_eq]; omega))
              clear HNX
              have hlo2 := left_over HD2.out hYb HZ.out
              have hfin := div_whole HYE.out (by omega : 0 < y) HALL.out
              rw [← HZ1.out, ← HR1.out, ← HZ.out] at hfin
              obtain ⟨r2, hr2⟩ : ∃ r2, r2 = (r1 * H32 + U0) % Y := ⟨_, rfl⟩
              rw [← hr2] at hlo2 hfin
              have HF := Lib.hid hfin
              have hz2b : k < 4294967296 := by have h := HD2.out.q_lt; rw [← HZ.out, H32_eq] at h; exact h
              have i7 : (k : Int) < 4294967296 := by omega
              have HZB := Lib.hid hz2b
              clear hr2 hfin hz2b
              go_wp2
              go_ret2
              refine ⟨?_, rfl⟩
              have hq := HF.out.1
              have hr := HF.out.2
              rw [H32_eq] at hq
              unfold D64Val
              rw [← hq, ← hr, Int.natCast_ediv, Int.natCast_pow]
              rfl
            · have hbd : decide ((4294967296 : Int) ≤ (ρ : Int) + (N1 : Int)) = false := decide_eq_false hbr
              go_wp2
              refine ⟨⟨k, ρ + N1, rfl, by go_num, by omega, by have := HKQ.out; omega, HNX⟩, ?_⟩
              have := HK.out
              simp [intOf]; omega
          · have hqd : decide ((4294967296 : Int) ≤ (q : Int)) = false := decide_eq_false (by omega)
            have hpos := HI.out.pos HD2.out (.inr (by rw [H32_eq]; exact hp))
            have HNX := Lib.hid (HI.out.next HD2.out (.inr (by rw [H32_eq]; exact hp)))
            have hq1 : 1 ≤ q := Nat.le_trans (Nat.le_add_left _ _) hpos
            have hpm := prod_lt hc H4.out
            obtain ⟨p0, hp0⟩ : ∃ p0, p0 = q * N0 := ⟨_, rfl⟩
            rw [← hp0] at hp hpm
            have hpw : IntKind.u64.wrap ((q : Int) * (N0 : Int)) = (p0 : Int) := by rw [← Int.natCast_mul, ← hp0, wrap_u64 _ hpm]
            have hgd : decide ((4294967296 : Int) * (ρ : Int) + (U0 : Int) < (p0 : Int)) = true := decide_eq_true (by omega)
            clear hpos hc HI hp hp0 hpm
            obtain ⟨k, hk⟩ : ∃ k, q = k + 1 := ⟨q - 1, by omega⟩
            have hk1 : (q : Int) - 1 = (k : Int) := by omega
            rw [show q - 1 = k from by omega] at HNX
            have hkq : k ≤ 4294967296 := by have := HQ.out; omega
            have HK := Lib.hid hk
            have HKQ := Lib.hid hkq
            clear hk hkq
            by_cases hbr : (4294967296 : Int) ≤ (ρ : Int) + (N1 : Int)
            · have hbd : decide ((4294967296 : Int) ≤ (ρ : Int) + (N1 : Int)) = true := decide_eq_true hbr
              have HZ := Lib.hid (HNX.out.left HD2.out (by rw [H32_eq]; exact HKQ.out) (by rw [H32_eq]; omega))
              clear HNX
              have hlo2 := left_over HD2.out hYb HZ.out
              have hfin := div_whole HYE.out (by omega : 0 < y) HALL.out
              rw [← HZ1.out, ← HR1.out, ← HZ.out] at hfin
              obtain ⟨r2, hr2⟩ : ∃ r2, r2 = (r1 * H32 + U0) % Y := ⟨_, rfl⟩
              rw [← hr2] at hlo2 hfin
              have HF := Lib.hid hfin
              have hz2b : k < 4294967296 := by have h := HD2.out.q_lt; rw [← HZ.out, H32_eq] at h; exact h
              have i7 : (k : Int) < 4294967296 := by omega
              have HZB := Lib.hid hz2b
              clear hr2 hfin hz2b
              go_wp2
              go_ret2
              refine ⟨?_, rfl⟩
              have hq := HF.out.1
              have hr := HF.out.2
              rw [H32_eq] at hq
              unfold D64Val
              rw [← hq, ← hr, Int.natCast_ediv, Int.natCast_pow]
              rfl
            · have hbd : decide ((4294967296 : Int) ≤ (ρ : Int) + (N1 : Int)) = false := decide_eq_false hbr
              go_wp2
              refine ⟨⟨k, ρ + N1, rfl, by go_num, by omega, by have := HKQ.out; omega, HNX⟩, ?_⟩
              have := HK.out
              simp [intOf]; omega
          · have hqd : decide ((4294967296 : Int) ≤ (q : Int)) = false := decide_eq_false (by omega)
            have HZ := Lib.hid (HI.out.done HD2.out (by rw [H32_eq]; exact hp))
            have hpm := prod_lt hc H4.out
            obtain ⟨p0, hp0⟩ : ∃ p0, p0 = q * N0 := ⟨_, rfl⟩
            rw [← hp0] at hp hpm
            have hpw : IntKind.u64.wrap ((q : Int) * (N0 : Int)) = (p0 : Int) := by rw [← Int.natCast_mul, ← hp0, wrap_u64 _ hpm]
            have hgd : decide ((4294967296 : Int) * (ρ : Int) + (U0 : Int) < (p0 : Int)) = false := decide_eq_false (by omega)
            clear hc HI hp hp0 hpm
            have hlo2 := left_over HD2.out hYb HZ.out
            have hfin := div_whole HYE.out (by omega : 0 < y) HALL.out
            rw [← HZ1.out, ← HR1.out, ← HZ.out] at hfin
            obtain ⟨r2, hr2⟩ : ∃ r2, r2 = (r1 * H32 + U0) % Y := ⟨_, rfl⟩
            rw [← hr2] at hlo2 hfin
            have HF := Lib.hid hfin
            have hz2b : q < 4294967296 := by have h := HD2.out.q_lt; rw [← HZ.out, H32_eq] at h; exact h
            have i7 : (q : Int) < 4294967296 := by omega
            have HZB := Lib.hid hz2b
            clear hr2 hfin hz2b
            go_wp2
            go_ret2
            refine ⟨?_, rfl⟩
            have hq := HF.out.1
            have hr := HF.out.2
            rw [H32_eq] at hq
            unfold D64Val
            rw [← hq, ← hr, Int.natCast_ediv, Int.natCast_pow]
            rfl
      · have hbd : decide ((4294967296 : Int) ≤ (ρ : Int) + (N1 : Int)) = false := decide_eq_false hbr
        go_wp2
        refine ⟨⟨k, ρ + N1, rfl, by go_num, by omega, by have := HKQ.out; omega, HNX⟩, ?_⟩
        have := HK.out
        simp [intOf]; omega
    · have hqd : decide ((4294967296 : Int) ≤ (q : Int)) = false := decide_eq_false (by omega)
      have hpos := HI.out.pos HDIG.out (.inr (by rw [H32_eq]; exact hp))
      have HNX := Lib.hid (HI.out.next HDIG.out (.inr (by rw [H32_eq]; exact hp)))
      have hq1 : 1 ≤ q := Nat.le_trans (Nat.le_add_left _ _) hpos
      have hpm := prod_lt hc H4.out
      obtain ⟨p0, hp0⟩ : ∃ p0, p0 = q * N0 := ⟨_, rfl⟩
      rw [← hp0] at hp hpm
      have hpw : IntKind.u64.wrap ((q : Int) * (N0 : Int)) = (p0 : Int) := by rw [← Int.natCast_mul, ← hp0, wrap_u64 _ hpm]
      have hgd : decide ((4294967296 : Int) * (ρ : Int) + (U1 : Int) < (p0 : Int)) = true := decide_eq_true (by omega)
      clear hpos hc HI hp hp0 hpm
      obtain ⟨k, hk⟩ : ∃ k, q = k + 1 := ⟨q - 1, by omega⟩
      have hk1 : (q : Int) - 1 = (k : Int) := by omega
      rw [show q - 1 = k from by omega] at HNX
      have hkq : k ≤ 4294967296 := by have := HQ.out; omega
      have HK := Lib.hid hk
      have HKQ := Lib.hid hkq
      clear hk hkq
      by_cases hbr : (4294967296 : Int) ≤ (ρ : Int) + (N1 : Int)
      · have hbd : decide ((4294967296 : Int) ≤ (ρ : Int) + (N1 : Int)) = true := decide_eq_true hbr
        have HZ := Lib.hid (HNX.out.left HDIG.out (by rw [H32_eq]; exact HKQ.out) (by rw [H32_eq]; omega))
        clear HNX
        have hlo1 := left_over HDIG.out hYb HZ.out
        obtain ⟨r1, hr1⟩ : ∃ r1, r1 = (U * H32 + U1) % Y := ⟨_, rfl⟩
        rw [← hr1] at hlo1
        have hr1Y : r1 < Y := by rw [hr1]; exact Nat.mod_lt _ (by omega)
        have hd2 : DigIn Y N1 N0 r1 U0 := ⟨HDIG.out.y, HDIG.out.n0, HDIG.out.lo, HDIG.out.hi, hr1Y, by rw [H32_eq]; omega⟩
        obtain ⟨Q2, R2, P2, hp2⟩ := prep hd2 (Nat.lt_trans hr1Y hYb)
        obtain ⟨v8, v9, v10, v11, v12, hR2, hQ2, hi2⟩ := hp2
        have hzb : k < 4294967296 := by have h := HDIG.out.q_lt; rw [← HZ.out, H32_eq] at h; exact h
        have i6 : (k : Int) < 4294967296 := by omega
        have HD2 := Lib.hid hd2
        have HI2 := Lib.hid hi2
        have HR1 := Lib.hid hr1
        have HQ2 := Lib.hid hQ2
        have HR2 := Lib.hid hR2
        have HZ1 := Lib.hid HZ.out
        have i8 : (Q2 : Int) ≤ 4294967297 := by omega
        clear hd2 hi2 hr1 hzb HZ hQ2 hR2
        go_wp2_with fail
        clear v8 v9 v10 v11 v12 hlo1
        go_loop [18, 16] (fun v r => ∃ q ρ : Nat, v = .int .u64 q ∧ r = .int .u64 ρ ∧ ρ < 4294967296 ∧ q ≤ 4294967297 ∧ Hid (DigInv Y N1 r1 U0 q ρ)) (fun v _ => (intOf v).toNat)
        case atStart => exact ⟨Q2, R2, rfl, rfl, by have := HR2.out; have := H3.out; omega, HQ2.out, HI2⟩
        case round =>
          obtain ⟨q, ρ, rfl, rfl, hρ, hq, HI⟩ := hrel
          have i1 : (ρ : Int) < 4294967296 := by omega
          have i2 : (q : Int) ≤ 4294967297 := by omega
          have hcases : 4294967296 ≤ q ∨ (q < 4294967296 ∧ 4294967296 * ρ + U0 < q * N0) ∨ (q < 4294967296 ∧ q * N0 ≤ 4294967296 * ρ + U0) := by
            rcases Nat.lt_or_ge q 4294967296 with h | h
            · rcases Nat.lt_or_ge (4294967296 * ρ + U0) (q * N0) with h' | h'
              · exact .inr (.inl ⟨h, h'⟩)
              · exact .inr (.inr ⟨h, h'⟩)
            · exact .inl h
          have HQ := Lib.hid hq
          have HR := Lib.hid hρ
          clear hq hρ
          rcases hcases with hc | ⟨hc, hp⟩ | ⟨hc, hp⟩
          · have hqd : decide ((4294967296 : Int) ≤ (q : Int)) = true := decide_eq_true (by omega)
            have hpos := HI.out.pos HD2.out (.inl (by rw [H32_eq]; exact hc))
            have HNX := Lib.hid (HI.out.next HD2.out (.inl (by rw [H32_eq]; exact hc)))
            have hq1 : 1 ≤ q := by omega
            clear hpos hc HI
            obtain ⟨k, hk⟩ : ∃ k, q = k + 1 := ⟨q - 1, by omega⟩
            have hk1 : (q : Int) - 1 = (k : Int) := by omega
            rw [show q - 1 = k from by omega] at HNX
            have hkq : k ≤ 4294967296 := by have := HQ.out; omega
            have HK := Lib.hid hk
            have HKQ := Lib.hid hkq
            clear hk hkq
            by_cases hbr : (4294967296 : Int) ≤ (ρ : Int) + (N1 : Int)
            · have hbd : decide ((4294967296 : Int) ≤ (ρ : Int) + (N1 : Int)) = true := decide_eq_true hbr
              have HZ := Lib.hid (HNX.out.left HD2.out (by rw [H32_eq]; exact HKQ.out) (by rw [H32_eq]; omega))
              clear HNX
              have hlo2 := left_over HD2.out hYb HZ.out
              have hfin := div_whole HYE.out (by omega : 0 < y) HALL.out
              rw [← HZ1.out, ← HR1.out, ← HZ.out] at hfin
              obtain ⟨r2, hr2⟩ : ∃ r2, r2 = (r1 * H32 + U0) % Y := ⟨_, rfl⟩
              rw [← hr2] at hlo2 hfin
              have HF := Lib.hid hfin
              have hz2b : k < 4294967296 := by have h := HD2.out.q_lt; rw [← HZ.out, H32_eq] at h; exact h
              have i7 : (k : Int) < 4294967296 := by omega
              have HZB := Lib.hid hz2b
              clear hr2 hfin hz2b
              go_wp2
              go_ret2
              refine ⟨?_, rfl⟩
              have hq := HF.out.1
              have hr := HF.out.2
              rw [H32_eq] at hq
              unfold D64Val
              rw [← hq, ← hr, Int.natCast_ediv, Int.natCast_pow]
              rfl
            · have hbd : decide ((4294967296 : Int) ≤ (ρ : Int) + (N1 : Int)) = false := decide_eq_false hbr
              go_wp2
              refine ⟨⟨k, ρ + N1, rfl, by go_num, by omega, by have := HKQ.out; omega, HNX⟩, ?_⟩
              have := HK.out
              simp [intOf]; omega
          · have hqd : decide ((4294967296 : Int) ≤ (q : Int)) = false := decide_eq_false (by omega)
            have hpos := HI.out.pos HD2.out (.inr (by rw [H32_eq]; exact hp))
            have HNX := Lib.hid (HI.out.next HD2.out (.inr (by rw [H32_eq]; exact hp)))
            have hq1 : 1 ≤ q := Nat.le_trans (Nat.le_add_left _ _) hpos
            have hpm := prod_lt hc H4.out
            obtain ⟨p0, hp0⟩ : ∃ p0, p0 = q * N0 := ⟨_, rfl⟩
            rw [← hp0] at hp hpm
            have hpw : IntKind.u64.wrap ((q : Int) * (N0 : Int)) = (p0 : Int) := by rw [← Int.natCast_mul, ← hp0, wrap_u64 _ hpm]
            have hgd : decide ((4294967296 : Int) * (ρ : Int) + (U0 : Int) < (p0 : Int)) = true := decide_eq_true (by omega)
            clear hpos hc HI hp hp0 hpm
            obtain ⟨k, hk⟩ : ∃ k, q = k + 1 := ⟨q - 1, by omega⟩
            have hk1 : (q : Int) - 1 = (k : Int) := by omega
            rw [show q - 1 = k from by omega] at HNX
            have hkq : k ≤ 4294967296 := by have := HQ.out; omega
            have HK := Lib.hid hk
            have HKQ := Lib.hid hkq
            clear hk hkq
            by_cases hbr : (4294967296 : Int) ≤ (ρ : Int) + (N1 : Int)
            · have hbd : decide ((4294967296 : Int) ≤ (ρ : Int) + (N1 : Int)) = true := decide_eq_true hbr
              have HZ := Lib.hid (HNX.out.left HD2.out (by rw [H32_eq]; exact HKQ.out) (by rw [H32_eq]; omega))
              clear HNX
              have hlo2 := left_over HD2.out hYb HZ.out
              have hfin := div_whole HYE.out (by omega : 0 < y) HALL.out
              rw [← HZ1.out, ← HR1.out, ← HZ.out] at hfin
              obtain ⟨r2, hr2⟩ : ∃ r2, r2 = (r1 * H32 + U0) % Y := ⟨_, rfl⟩
              rw [← hr2] at hlo2 hfin
              have HF := Lib.hid hfin
              have hz2b : k < 4294967296 := by have h := HD2.out.q_lt; rw [← HZ.out, H32_eq] at h; exact h
              have i7 : (k : Int) < 4294967296 := by omega
              have HZB := Lib.hid hz2b
              clear hr2 hfin hz2b
              go_wp2
              go_ret2
              refine ⟨?_, rfl⟩
              have hq := HF.out.1
              have hr := HF.out.2
              rw [H32_eq] at hq
              unfold D64Val
              rw [← hq, ← hr, Int.natCast_ediv, Int.natCast_pow]
              rfl
            · have hbd : decide ((4294967296 : Int) ≤ (ρ : Int) + (N1 : Int)) = false := decide_eq_false hbr
              go_wp2
              refine ⟨⟨k, ρ + N1, rfl, by go_num, by omega, by have := HKQ.out; omega, HNX⟩, ?_⟩
              have := HK.out
              simp [intOf]; omega
          · have hqd : decide ((4294967296 : Int) ≤ (q : Int)) = false := decide_eq_false (by omega)
            have HZ := Lib.hid (HI.out.done HD2.out (by rw [H32_eq]; exact hp))
            have hpm := prod_lt hc H4.out
            obtain ⟨p0, hp0⟩ : ∃ p0, p0 = q * N0 := ⟨_, rfl⟩
            rw [← hp0] at hp hpm
            have hpw : IntKind.u64.wrap ((q : Int) * (N0 : Int)) = (p0 : Int) := by rw [← Int.natCast_mul, ← hp0, wrap_u64 _ hpm]
            have hgd : decide ((4294967296 : Int) * (ρ : Int) + (U0 : Int) < (p0 : Int)) = false := decide_eq_false (by omega)
            clear hc HI hp hp0 hpm
            have hlo2 := left_over HD2.out hYb HZ.out
            have hfin := div_whole HYE.out (by omega : 0 < y) HALL.out
            rw [← HZ1.out, ← HR1.out, ← HZ.out] at hfin
            obtain ⟨r2, hr2⟩ : ∃ r2, r2 = (r1 * H32 + U0) % Y := ⟨_, rfl⟩
            rw [← hr2] at hlo2 hfin
            have HF := Lib.hid hfin
            have hz2b : q < 4294967296 := by have h := HD2.out.q_lt; rw [← HZ.out, H32_eq] at h; exact h
            have i7 : (q : Int) < 4294967296 := by omega
            have HZB := Lib.hid hz2b
            clear hr2 hfin hz2b
            go_wp2
            go_ret2
            refine ⟨?_, rfl⟩
            have hq := HF.out.1
            have hr := HF.out.2
            rw [H32_eq] at hq
            unfold D64Val
            rw [← hq, ← hr, Int.natCast_ediv, Int.natCast_pow]
            rfl
      · have hbd : decide ((4294967296 : Int) ≤ (ρ : Int) + (N1 : Int)) = false := decide_eq_false hbr
        go_wp2
        refine ⟨⟨k, ρ + N1, rfl, by go_num, by omega, by have := HKQ.out; omega, HNX⟩, ?_⟩
        have := HK.out
        simp [intOf]; omega
    · have hqd : decide ((4294967296 : Int) ≤ (q : Int)) = false := decide_eq_false (by omega)
      have HZ := Lib.hid (HI.out.done HDIG.out (by rw [H32_eq]; exact hp))
      have hpm := prod_lt hc H4.out
      obtain ⟨p0, hp0⟩ : ∃ p0, p0 = q * N0 := ⟨_, rfl⟩
      rw [← hp0] at hp hpm
      have hpw : IntKind.u64.wrap ((q : Int) * (N0 : Int)) = (p0 : Int) := by rw [← Int.natCast_mul, ← hp0, wrap_u64 _ hpm]
      have hgd : decide ((4294967296 : Int) * (ρ : Int) + (U1 : Int) < (p0 : Int)) = false := decide_eq_false (by omega)
      clear hc HI hp hp0 hpm
      have hlo1 := left_over HDIG.out hYb HZ.out
      obtain ⟨r1, hr1⟩ : ∃ r1, r1 = (U * H32 + U1) % Y := ⟨_, rfl⟩
      rw [← hr1] at hlo1
      have hr1Y : r1 < Y := by rw [hr1]; exact Nat.mod_lt _ (by omega)
      have hd2 : DigIn Y N1 N0 r1 U0 := ⟨HDIG.out.y, HDIG.out.n0, HDIG.out.lo, HDIG.out.hi, hr1Y, by rw [H32_eq]; omega⟩
      obtain ⟨Q2, R2, P2, hp2⟩ := prep hd2 (Nat.lt_trans hr1Y hYb)
      obtain ⟨v8, v9, v10, v11, v12, hR2, hQ2, hi2⟩ := hp2
      have hzb : q < 4294967296 := by have h := HDIG.out.q_lt; rw [← HZ.out, H32_eq] at h; exact h
      have i6 : (q : Int) < 4294967296 := by omega
      have HD2 := Lib.hid hd2
      have HI2 := Lib.hid hi2
      have HR1 := Lib.hid hr1
      have HQ2 := Lib.hid hQ2
      have HR2 := Lib.hid hR2
      have HZ1 := Lib.hid HZ.out
      have i8 : (Q2 : Int) ≤ 4294967297 := by omega
      clear hd2 hi2 hr1 hzb HZ hQ2 hR2
      go_wp2_with fail
      clear v8 v9 v10 v11 v12 hlo1
      go_loop [18, 16] (fun v r => ∃ q ρ : Nat, v = .int .u64 q ∧ r = .int .u64 ρ ∧ ρ < 4294967296 ∧ q ≤ 4294967297 ∧ Hid (DigInv Y N1 r1 U0 q ρ)) (fun v _ => (intOf v).toNat)
      case atStart => exact ⟨Q2, R2, rfl, rfl, by have := HR2.out; have := H3.out; omega, HQ2.out, HI2⟩
      case round =>
        obtain ⟨q, ρ, rfl, rfl, hρ, hq, HI⟩ := hrel
        have i1 : (ρ : Int) < 4294967296 := by omega
        have i2 : (q : Int) ≤ 4294967297 := by omega
        have hcases : 4294967296 ≤ q ∨ (q < 4294967296 ∧ 4294967296 * ρ + U0 < q * N0) ∨ (q < 4294967296 ∧ q * N0 ≤ 4294967296 * ρ + U0) := by
          rcases Nat.lt_or_ge q 4294967296 with h | h
          · rcases Nat.lt_or_ge (4294967296 * ρ + U0) (q * N0) with h' | h'
            · exact .inr (.inl ⟨h, h'⟩)
            · exact .inr (.inr ⟨h, h'⟩)
          · exact .inl h
        have HQ := Lib.hid hq
        have HR := Lib.hid hρ
        clear hq hρ
        rcases hcases with hc | ⟨hc, hp⟩ | ⟨hc, hp⟩
        · have hqd : decide ((4294967296 : Int) ≤ (q : Int)) = true := decide_eq_true (by omega)
          have hpos := HI.out.pos HD2.out (.inl (by rw [H32_eq]; exact hc))
          have HNX := Lib.hid (HI.out.next HD2.out (.inl (by rw [H32_eq]; exact hc)))
          have hq1 : 1 ≤ q := by omega
          clear hpos hc HI
          obtain ⟨k, hk⟩ : ∃ k, q = k + 1 := ⟨q - 1, by omega⟩
          have hk1 : (q : Int) - 1 = (k : Int) := by omega
          rw [show q - 1 = k from by omega] at HNX
          have hkq : k ≤ 4294967296 := by have := HQ.out; omega
          have HK := Lib.hid hk
          have HKQ := Lib.hid hkq
          clear hk hkq
          by_cases hbr : (4294967296 : Int) ≤ (ρ : Int) + (N1 : Int)
          · have hbd : decide ((4294967296 : Int) ≤ (ρ : Int) + (N1 : Int)) = true := decide_eq_true hbr
            have HZ := Lib.hid (HNX.out.left HD2.out (by rw [H32_eq]; exact HKQ.out) (by rw [H32_eq]; omega))
            clear HNX
            have hlo2 := left_over HD2.out hYb HZ.out
            have hfin := div_whole HYE.out (by omega : 0 < y) HALL.out
            rw [← HZ1.out, ← HR1.out, ← HZ.out] at hfin
            obtain ⟨r2, hr2⟩ : ∃ r2, r2 = (r1 * H32 + U0) % Y := ⟨_, rfl⟩
            rw [← hr2] at hlo2 hfin
            have HF := Lib.hid hfin
            have hz2b : k < 4294967296 := by have h := HD2.out.q_lt; rw [← HZ.out, H32_eq] at h; exact h
            have i7 : (k : Int) < 4294967296 := by omega
            have HZB := Lib.hid hz2b
            clear hr2 hfin hz2b
            go_wp2
            go_ret2
            refine ⟨?_, rfl⟩
            have hq := HF.out.1
            have hr := HF.out.2
            rw [H32_eq] at hq
            unfold D64Val
            rw [← hq, ← hr, Int.natCast_ediv, Int.natCast_pow]
            rfl
          · have hbd : decide ((4294967296 : Int) ≤ (ρ : Int) + (N1 : Int)) = false := decide_eq_false hbr
            go_wp2
            refine ⟨⟨k, ρ + N1, rfl, by go_num, by omega, by have := HKQ.out; omega, HNX⟩, ?_⟩
            have := HK.out
            simp [intOf]; omega
        · have hqd : decide ((4294967296 : Int) ≤ (q : Int)) = false := decide_eq_false (by omega)
          have hpos := HI.out.pos HD2.out (.inr (by rw [H32_eq]; exact hp))
          have HNX := Lib.hid (HI.out.next HD2.out (.inr (by rw [H32_eq]; exact hp)))
          have hq1 : 1 ≤ q := Nat.le_trans (Nat.le_add_left _ _) hpos
          have hpm := prod_lt hc H4.out
          obtain ⟨p0, hp0⟩ : ∃ p0, p0 = q * N0 := ⟨_, rfl⟩
          rw [← hp0] at hp hpm
          have hpw : IntKind.u64.wrap ((q : Int) * (N0 : Int)) = (p0 : Int) := by rw [← Int.natCast_mul, ← hp0, wrap_u64 _ hpm]
          have hgd : decide ((4294967296 : Int) * (ρ : Int) + (U0 : Int) < (p0 : Int)) = true := decide_eq_true (by omega)
          clear hpos hc HI hp hp0 hpm
          obtain ⟨k, hk⟩ : ∃ k, q = k + 1 := ⟨q - 1, by omega⟩
          have hk1 : (q : Int) - 1 = (k : Int) := by omega
          rw [show q - 1 = k from by omega] at HNX
          have hkq : k ≤ 4294967296 := by have := HQ.out; omega
          have HK := Lib.hid hk
          have HKQ := Lib.hid hkq
          clear hk hkq
          by_cases hbr : (4294967296 : Int) ≤ (ρ : Int) + (N1 : Int)
          · have hbd : decide ((4294967296 : Int) ≤ (ρ : Int) + (N1 : Int)) = true := decide_eq_true hbr
            have HZ := Lib.hid (HNX.out.left HD2.out (by rw [H32_eq]; exact HKQ.out) (by rw [H32_eq]; omega))
            clear HNX
            have hlo2 := left_over HD2.out hYb HZ.out
            have hfin := div_whole HYE.out (by omega : 0 < y) HALL.out
            rw [← HZ1.out, ← HR1.out, ← HZ.out] at hfin
            obtain ⟨r2, hr2⟩ : ∃ r2, r2 = (r1 * H32 + U0) % Y := ⟨_, rfl⟩
            rw [← hr2] at hlo2 hfin
            have HF := Lib.hid hfin
            have hz2b : k < 4294967296 := by have h := HD2.out.q_lt; rw [← HZ.out, H32_eq] at h; exact h
            have i7 : (k : Int) < 4294967296 := by omega
            have HZB := Lib.hid hz2b
            clear hr2 hfin hz2b
            go_wp2
            go_ret2
            refine ⟨?_, rfl⟩
            have hq := HF.out.1
            have hr := HF.out.2
            rw [H32_eq] at hq
            unfold D64Val
            rw [← hq, ← hr, Int.natCast_ediv, Int.natCast_pow]
            rfl
          · have hbd : decide ((4294967296 : Int) ≤ (ρ : Int) + (N1 : Int)) = false := decide_eq_false hbr
            go_wp2
            refine ⟨⟨k, ρ + N1, rfl, by go_num, by omega, by have := HKQ.out; omega, HNX⟩, ?_⟩
            have := HK.out
            simp [intOf]; omega
        · have hqd : decide ((4294967296 : Int) ≤ (q : Int)) = false := decide_eq_false (by omega)
          have HZ := Lib.hid (HI.out.done HD2.out (by rw [H32_eq]; exact hp))
          have hpm := prod_lt hc H4.out
          obtain ⟨p0, hp0⟩ : ∃ p0, p0 = q * N0 := ⟨_, rfl⟩
          rw [← hp0] at hp hpm
          have hpw : IntKind.u64.wrap ((q : Int) * (N0 : Int)) = (p0 : Int) := by rw [← Int.natCast_mul, ← hp0, wrap_u64 _ hpm]
          have hgd : decide ((4294967296 : Int) * (ρ : Int) + (U0 : Int) < (p0 : Int)) = false := decide_eq_false (by omega)
          clear hc HI hp hp0 hpm
          have hlo2 := left_over HD2.out hYb HZ.out
          have hfin := div_whole HYE.out (by omega : 0 < y) HALL.out
          rw [← HZ1.out, ← HR1.out, ← HZ.out] at hfin
          obtain ⟨r2, hr2⟩ : ∃ r2, r2 = (r1 * H32 + U0) % Y := ⟨_, rfl⟩
          rw [← hr2] at hlo2 hfin
          have HF := Lib.hid hfin
          have hz2b : q < 4294967296 := by have h := HD2.out.q_lt; rw [← HZ.out, H32_eq] at h; exact h
          have i7 : (q : Int) < 4294967296 := by omega
          have HZB := Lib.hid hz2b
          clear hr2 hfin hz2b
          go_wp2
          go_ret2
          refine ⟨?_, rfl⟩
          have hq := HF.out.1
          have hr := HF.out.2
          rw [H32_eq] at hq
          unfold D64Val
          rw [← hq, ← hr, Int.natCast_ediv, Int.natCast_pow]
          rfl

theorem div64_any (hi lo y : Nat) (w : World) (hl : lo < W64) (hy : hi < y) (hy2 : y < W64) :
    Calls Tryz.prog 136 #[.int .u64 (hi : Int), .int .u64 (lo : Int), .int .u64 (y : Int)] w fun e w' => e = .returned (D64Val hi lo y) ∧ ∃ n, w' = w.drewN n := by
  rcases Nat.eq_zero_or_pos hi with rfl | h
  · refine (div64_lo lo y w hl (by omega)).mono fun e w' ⟨he, hw⟩ => ⟨?_, hw⟩
    rw [he]; unfold D64Val; rw [Nat.zero_mul, Nat.zero_add]
  · exact (div64_hi hi lo y w h hl hy hy2).mono fun e w' ⟨he, hw⟩ => ⟨he, 0, hw⟩
end Go.Proofs.YtoadjhmehgkeaaaGreatDoor
namespace Go.Proofs.YtoadjhmehgkeaaaGreatDoor
open Go.RowKit Mth

/-- The cells of numbers. -/
def cellsOf (k : IntKind) (xs : List Nat) : List Value := xs.map fun n : Nat => Value.int k (n : Int)
theorem length_cellsOf (k : IntKind) (xs : List Nat) : (cellsOf k xs).length = xs.length := by simp [cellsOf]
theorem cellsOf_append (k : IntKind) (xs ys : List Nat) : cellsOf k (xs ++ ys) = cellsOf k xs ++ cellsOf k ys := by simp [cellsOf]
theorem cellsOf_set (k : IntKind) (xs : List Nat) (i v : Nat) : cellsOf k (xs.set i v) = (cellsOf k xs).set i (.int k (v : Int)) := by simp [cellsOf, List.map_set]
theorem cellsOf_get (k : IntKind) (xs : List Nat) (i : Nat) (h : i < xs.length) : (cellsOf k xs)[i]? = some (.int k ((gt xs i : Nat) : Int)) := by
  simp [cellsOf, gt_of_lt h, List.getElem?_eq_getElem h]

/-- Block b holds just the numbers xs, each in a cell of kind k; its element type is e; nothing in it is frozen. -/
def Blk (k : IntKind) (e : TypeId) (w : World) (b : Nat) (xs : List Nat) : Prop := w.heap[b]? = some (.cells (cellsOf k xs).toArray e (0, 0))

section
variable {k : IntKind} {e : TypeId} {w w' : World} {b : Nat} {xs : List Nat}
theorem Blk.lt (h : Blk k e w b xs) : b < w.heap.size := (Array.getElem?_eq_some_iff.1 h).1
theorem Blk.cell (h : Blk k e w b xs) {i : Nat} (hi : i < xs.length) : w.cell? ⟨b, i, none⟩ = some (.int k ((gt xs i : Nat) : Int)) := by
  rw [cell_of_row w b i _ e (0, 0) h, List.getElem?_toArray, cellsOf_get k xs i hi]
theorem Blk.frozen (h : Blk k e w b xs) (i : Nat) : w.frozen? ⟨b, i, none⟩ = false := by
  simp only [World.frozen?]
  rw [show w.heap[b]? = some (.cells (cellsOf k xs).toArray e (0, 0)) from h]
  simp
theorem Blk.kept (h : Blk k e w b xs) {row : Option Nat} (hg : w.grownBy w' row) (hne : some b ≠ row) : Blk k e w' b xs := by
  unfold Blk at h ⊢
  rw [hg.block b (Array.getElem?_eq_some_iff.1 h).1 hne]; exact h
theorem Blk.alloc (h : Blk k e w b xs) (o : Obj) : Blk k e (w.alloc o) b xs := h.kept (World.grownBy_alloc w o none) (by simp)
theorem Blk.drew (h : Blk k e w b xs) : Blk k e w.drew b xs := h
theorem Blk.set (h : Blk k e w b xs) (i v : Nat) : Blk k e (w.setCell ⟨b, i, none⟩ (.int k (v : Int))) b (xs.set i v) := by
  unfold Blk at h ⊢
  rw [setCell_eq_setRow w b i _ e (0, 0) _ h, setRow_heap w b _ _ e (0, 0) h]
  simp [cellsOf_set]
theorem Blk.setOther (h : Blk k e w b xs) {b' : Nat} (hne : b ≠ b') (i : Nat) (v : Value) : Blk k e (w.setCell ⟨b', i, none⟩ v) b xs := by
  unfold Blk at h ⊢
  rw [Below.heap_setCell _ _ _ _ hne]; exact h
end

theorem madeCells_one (k : IntKind) (n : Nat) : (madeCells (Value.int k 0).cells (n * 1)).toList = cellsOf k (List.replicate n 0) := by
  simp only [madeCells, Value.cells, cellsOf, Nat.mul_one]
  apply List.ext_getElem
  · simp
  · intro i h1 h2
    simp [Nat.mod_one]
/-- What 'make' of n numbers leaves. -/
theorem blk_made {k : IntKind} {e : TypeId} {w' : World} {base g n : Nat} (h : w'.ownsRow base e 1 (.slice (some ⟨g, 0, none⟩) n n) n (madeCells (Value.int k 0).cells (n * 1)).toList) : Blk k e w' g (List.replicate n 0) := by
  obtain ⟨_, h2⟩ := h
  rcases h2 with ⟨h2, _⟩ | ⟨g', cap, cur, hv, _, hg, _, _, hsz, htk⟩
  · simp at h2
  · simp only [Value.slice.injEq, Option.some.injEq, Addr.mk.injEq, and_true, true_and] at hv
    obtain ⟨rfl, rfl⟩ := hv
    have hc : cur = (cellsOf k (List.replicate n 0)).toArray := by
      rw [← madeCells_one, ← htk, Nat.mul_one, List.take_of_length_le (by simp [hsz])]
    subst hc
    exact hg
theorem blk_made' {k : IntKind} {e : TypeId} {w' : World} {base g n : Nat} (h : w'.ownsRow base e 1 (.slice (some ⟨g, 0, none⟩) n n) n (madeCells #[Value.int k 0] n).toList) : Blk k e w' g (List.replicate n 0) :=
  blk_made (base := base) (by rw [Nat.mul_one]; exact h)

section
variable {w w1 w2 : World} {row : Option Nat}
theorem gr_trans {a b c : World} {r r1 r2 : Option Nat} (h : a.grownBy b r1) (g : b.grownBy c r2) (h1 : r1 = none ∨ r1 = r) (h2 : r2 = none ∨ r2 = r ∨ ∀ k, r2 = some k → a.heap.size ≤ k) : a.grownBy c r := by
  refine ⟨g.os.trans h.os, g.tape.trans h.tape, g.output.trans h.output, Nat.le_trans h.size g.size, fun k hk hne => ?_⟩
  have hb : b.heap[k]? = a.heap[k]? := h.block k hk (by rcases h1 with rfl | rfl; simp; exact hne)
  have hs := h.size
  refine (g.block k (by omega) ?_).trans hb
  rcases h2 with rfl | rfl | h2
  · simp
  · exact hne
  · intro e; have := h2 k e.symm; omega
theorem gr_set (w : World) (b i : Nat) (v : Value) : w.grownBy (w.setCell ⟨b, i, none⟩ v) (some b) :=
  ⟨rfl, rfl, rfl, by simp [World.setCell], fun k _ hne => Below.heap_setCell _ _ _ _ (by intro e; exact hne (by rw [e]))⟩
theorem gr_new {a b c : World} {g : Nat} (h : a.grownBy b none) (k : b.grownBy c (some g)) (hg : a.heap.size ≤ g) : a.grownBy c none :=
  gr_trans h k (.inl rfl) (.inr (.inr fun j e => by cases e; exact hg))
theorem gr_then {a b c : World} {r : Option Nat} (h : a.grownBy b none) (k : b.grownBy c r) : a.grownBy c r := gr_trans h k (.inl rfl) (.inr (.inl rfl))
theorem gr_alloc (w : World) (o : Obj) (row : Option Nat) : w.grownBy (w.alloc o) row := World.grownBy_alloc w o row
theorem gr_drew (w : World) (row : Option Nat) : w.grownBy w.drew row := ⟨rfl, rfl, rfl, Nat.le_refl _, fun _ _ _ => rfl⟩
theorem gr_drewN (w : World) (n : Nat) (row : Option Nat) : w.grownBy (w.drewN n) row := ⟨rfl, rfl, rfl, Nat.le_refl _, fun _ _ _ => rfl⟩
end
end Go.Proofs.YtoadjhmehgkeaaaGreatDoor
namespace Go.Proofs.YtoadjhmehgkeaaaGreatDoor
open Go.RowKit Mth

theorem len_toList (t : ByteArray) : t.data.toList.length = t.size := rfl
def lenOf : Value → Nat | .slice _ n _ => n | _ => 0
def strOf : Value → ByteArray | .string t => t | _ => ByteArray.empty
theorem canon_skip (t : ByteArray) (h : 0 < t.size) (h0 : t[0] = 0) : canon (t.extract 1 t.size).data.toList = canon t.data.toList := by
  have e : t.data.toList = t[0] :: t.data.toList.drop 1 := by
    cases hl : t.data.toList with
    | nil => have : t.data.toList.length = t.size := by simp
             rw [hl] at this; simp at this; omega
    | cons d l =>
      have : t[0] = t.data.toList[0]'(by simp; omega) := rfl
      rw [this]; simp [hl]
  have e2 : (t.extract 1 t.size).data.toList = t.data.toList.drop 1 := by
    exact Lib.extract_to_end t 1
  rw [e2]
  conv => rhs; rw [e]
  rw [h0, canon, if_pos rfl]
theorem canon_stay (t : ByteArray) (h : 0 < t.size) (h0 : t[0] ≠ 0) : canon t.data.toList = t.data.toList := by
  have e : t.data.toList = t[0] :: t.data.toList.drop 1 := by
    cases hl : t.data.toList with
    | nil => have : t.data.toList.length = t.size := by simp
             rw [hl] at this; simp at this; omega
    | cons d l =>
      have : t[0] = t.data.toList[0]'(by simp; omega) := rfl
      rw [this]; simp [hl]
  conv => lhs; rw [e]
  conv => rhs; rw [e]
  rw [canon, if_neg h0]
theorem toArray_eq (t : ByteArray) {l : List UInt8} (h : l = t.data.toList) : (⟨l.toArray⟩ : ByteArray) = t := by
  subst h; simp

theorem withoutZeros_any (s : ByteArray) (w : World) :
    Calls Tryz.prog 79 #[.string s] w fun e w' => e = .returned (.string ⟨(canon s.data.toList).toArray⟩) ∧ w = w' := by
  go_enter Tryz.func79, Tryz.ntmps79
  go_wp2
  go_loop [0] (fun v => ∃ t : ByteArray, t.size ≤ s.size ∧ v = .string t ∧ canon t.data.toList = canon s.data.toList) (fun v => (strOf v).size)
  case atStart => exact ⟨s, Nat.le_refl _, rfl, rfl⟩
  case round =>
    obtain ⟨t, ht, rfl, hc⟩ := hrel
    have HC := Lib.hid hc
    clear hc
    go_wp2
    · have h1 : 0 < t.size := by assumption
      have h2 : ((t[0].toNat : Int) == 0) = true := by assumption
      have h0 : t[0] = 0 := UInt8.toNat_inj.1 (by have := beq_iff_eq.1 h2; simpa using this)
      refine ⟨⟨t.extract 1 t.size, by simp; omega, rfl, by rw [canon_skip t h1 h0]; exact HC.out⟩, ?_⟩
      simp [strOf]; omega
    · have h1 : 0 < t.size := by assumption
      have h2 : ((t[0].toNat : Int) == 0) = false := by assumption
      have h0 : t[0] ≠ 0 := by intro e; rw [e] at h2; simp at h2
      go_ret
      refine ⟨?_, rfl⟩
      rw [toArray_eq t (by rw [← HC.out]; exact canon_stay t h1 h0)]; rfl
    · have h1 : ¬ 0 < t.size := by assumption
      have hz : t.data.toList = [] := List.eq_nil_of_length_eq_zero (by have := len_toList t; omega)
      go_ret
      refine ⟨?_, rfl⟩
      rw [toArray_eq t (by rw [← HC.out, hz]; rfl)]; rfl
end Go.Proofs.YtoadjhmehgkeaaaGreatDoor
