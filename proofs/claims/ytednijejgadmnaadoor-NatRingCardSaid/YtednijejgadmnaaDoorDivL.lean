/- The contract of math/bits.Div64. -/
import Derived.Test.YtednijejgadmnaaDoorArith
import Derived.Test.YtednijejgadmnaaDoorShelf
import Derived.Test.YtednijejgadmnaaDoorMthD
import Derived.Laws.Bits64b
import Derived.Laws.BitsLemmas
import Derived.Deep.QuietTactic
import Derived.BigQuiet
namespace Go.Proofs.YtednijejgadmnaaDoor
open Go.RowKit Mth

/-- What Div64 returns. -/
def D64Val (hi lo y : Nat) : Value := .tuple #[.int .u64 (((hi * W64 + lo) / y : Nat) : Int), .int .u64 (((hi * W64 + lo) % y : Nat) : Int)]

theorem div64_lo (lo y : Nat) (w : World) (hl : lo < W64) (hy : 0 < y) :
    Calls Tryd.prog 73 #[.int .u64 0, .int .u64 (lo : Int), .int .u64 (y : Int)] w fun e w' => e = .returned (.tuple #[.int .u64 ((lo / y : Nat) : Int), .int .u64 ((lo % y : Nat) : Int)]) ∧ ∃ n, w' = w.drewN n := by
  have h0 : ((y : Int) == 0) = false := by rw [beq_eq_false_iff_ne]; omega
  have h1 : ¬ (y : Int) ≤ 0 := by omega
  go_enter Tryd.func73, Tryd.ntmps73
  go_wp2
  go_quiet (fail)
  go_wp2
  go_ret2
  refine ⟨?_, _, rfl⟩
  show Ending.returned (.tuple #[.int .u64 (IntKind.u64.wrap ((lo : Int) / (y : Int))), .int .u64 ((lo : Int) % (y : Int))]) = _
  rw [← Int.natCast_ediv, wrap_u64 _ (Nat.lt_of_le_of_lt (Nat.div_le_self _ _) hl), ← Int.natCast_emod]

theorem wrap_mod (n : Int) : IntKind.u64.wrap n = n % 18446744073709551616 := by simp [IntKind.wrap, IntKind.bits, IntKind.signed]
theorem mask_u64 (x : Nat) (hx : x < W64) : bits BinOp.and IntKind.u64 (x : Int) 4294967295 = ((x % 4294967296 : Nat) : Int) := by
  have h := bits_and_u64_nat x 4294967295 (by rw [W64_eq] at hx; exact hx) (by decide)
  rw [show ((4294967295 : Nat) : Int) = 4294967295 from rfl] at h
  rw [h]
  congr 1
  exact Nat.and_two_pow_sub_one_eq_mod x 32

structure DivFacts (hi lo y s Y N1 N0 U V U1 U0 : Nat) : Prop where
  w1 : IntKind.u64.wrap ((y : Int) * (2 : Int) ^ s) = (Y : Int)
  w2 : (Y : Int) / 4294967296 = (N1 : Int)
  w3 : bits BinOp.and IntKind.u64 (Y : Int) 4294967295 = (N0 : Int)
  w4 : bits BinOp.or IntKind.u64 (IntKind.u64.wrap ((hi : Int) * (2 : Int) ^ s)) ((lo : Int) / (2 : Int) ^ (64 - s)) = (U : Int)
  w5 : IntKind.u64.wrap ((lo : Int) * (2 : Int) ^ s) = (V : Int)
  w6 : (V : Int) / 4294967296 = (U1 : Int)
  w7 : bits BinOp.and IntKind.u64 (V : Int) 4294967295 = (U0 : Int)
  dig : DigIn Y N1 N0 U U1
  all : (hi * W64 + lo) * 2 ^ s = (U * H32 + U1) * H32 + U0
  v : U0 ≤ 4294967295
  u : U < W64
theorem divFacts {hi lo y s Y N1 N0 U V U1 U0 : Nat} (hl : lo < W64) (hy : hi < y) (hy2 : y < W64) (hs : Lib.bitLen y = 64 - s) (hs63 : s ≤ 63) (h0 : 0 < y) (hY : Y = y * 2 ^ s) (hN1 : N1 = Y / 4294967296) (hN0 : N0 = Y % 4294967296)
    (hU : U = hi * 2 ^ s + lo / 2 ^ (64 - s)) (hV : V = (lo * 2 ^ s) % W64) (hU1 : U1 = V / 4294967296) (hU0 : U0 = V % 4294967296) : DivFacts hi lo y s Y N1 N0 U V U1 U0 := by
  have h64 : 2 ^ (64 - s) * 2 ^ s = W64 := by rw [← Nat.pow_add, show 64 - s + s = 64 from by omega]; rfl
  have hp : 0 < 2 ^ s := Nat.pow_pos (by decide)
  obtain ⟨_, _, b1, b2⟩ := bitLen_bounds hy2 (by omega : y ≠ 0)
  rw [hs] at b1 b2
  have hYlt : Y < W64 := by rw [hY, ← h64]; exact Nat.mul_lt_mul_of_pos_right b2 hp
  have hYge : 9223372036854775808 ≤ Y := by
    have h1 : 2 ^ (64 - s - 1) * 2 ^ s ≤ y * 2 ^ s := Nat.mul_le_mul_right _ b1
    rw [← Nat.pow_add, show 64 - s - 1 + s = 63 from by omega] at h1
    rw [hY]; exact h1
  have hq : lo / 2 ^ (64 - s) < 2 ^ s := by
    rw [Nat.div_lt_iff_lt_mul (Nat.pow_pos (by decide)), Nat.mul_comm, h64]; exact hl
  have hhi : (hi + 1) * 2 ^ s ≤ y * 2 ^ s := Nat.mul_le_mul_right _ hy
  rw [Nat.add_mul, Nat.one_mul, ← hY] at hhi
  have hUY : U < Y := by omega
  have hVlt : V < W64 := by rw [hV]; exact Nat.mod_lt _ W64_pos
  have hlo : lo * 2 ^ s = W64 * (lo / 2 ^ (64 - s)) + V := by
    have h1 := Nat.div_add_mod (lo * 2 ^ s) W64
    have h2 : lo * 2 ^ s / W64 = lo / 2 ^ (64 - s) := by rw [← h64, Nat.mul_div_mul_right _ _ hp]
    rw [← hV, h2] at h1
    exact h1.symm
  have hpc : ((2 : Int) ^ s) = ((2 ^ s : Nat) : Int) := by simp
  have hpc2 : ((2 : Int) ^ (64 - s)) = ((2 ^ (64 - s) : Nat) : Int) := by simp
  refine ⟨?_, by omega, by rw [hN0]; exact mask_u64 Y hYlt, ?_, ?_, by omega, by rw [hU0]; exact mask_u64 V hVlt, ?_, ?_, by omega, by omega⟩
  · rw [hpc, ← Int.natCast_mul, ← hY, wrap_u64 _ hYlt]
  · rw [hpc, hpc2, ← Int.natCast_mul, wrap_u64 _ (by omega), ← Int.natCast_ediv]
    rw [bits_or_u64_nat _ _ (by rw [W64_eq] at hYlt; omega) (by rw [W64_eq] at hYlt; omega)]
    rw [hU, Nat.mul_comm hi, Nat.two_pow_add_eq_or_of_lt hq]
  · rw [hpc, ← Int.natCast_mul, wrap_mod, hV, W64_eq]; omega
  · rw [W64_eq] at hYlt hVlt
    exact ⟨by rw [H32_eq]; omega, by rw [H32_eq]; omega, by omega, by rw [H32_eq]; omega, hUY, by rw [H32_eq]; omega⟩
  · have h1 : H32 * H32 = W64 := by decide
    have h2 : U1 * H32 + U0 = V := by rw [H32_eq]; omega
    rw [Nat.add_mul (U * H32), Nat.mul_assoc U, h1, Nat.add_assoc, h2, Nat.add_mul, hlo, hU, Nat.add_mul, Nat.mul_comm W64, Nat.mul_right_comm hi]
    omega

/-- The first estimate of a digit, as the walk spells it. -/
structure Prep (Y N1 U u Q R P : Nat) : Prop where
  w8 : (U : Int) / (N1 : Int) = (Q : Int)
  w9 : IntKind.u64.wrap ((Q : Int) * (N1 : Int)) = (P : Int)
  w10 : IntKind.u64.wrap ((U : Int) - (P : Int)) = (R : Int)
  w11 : (U : Int) - (P : Int) = (R : Int)
  w12 : IntKind.u64.wrap (R : Int) = (R : Int)
  r : R < N1
  q : Q ≤ 4294967297
  inv : DigInv Y N1 U u Q R
theorem prep {Y N1 N0 U u : Nat} (hdig : DigIn Y N1 N0 U u) (hUb : U < W64) : ∃ Q R P, Prep Y N1 U u Q R P := by
  have hinit := hdig.init
  have hlo := hdig.lo
  have hRN : U % N1 < N1 := Nat.mod_lt _ (by omega)
  have hw8 : (U : Int) / (N1 : Int) = ((U / N1 : Nat) : Int) := by rw [Int.natCast_ediv]
  have hPU : U / N1 * N1 + U % N1 = U := hinit.eq
  have hQ := hdig.init_le
  refine ⟨U / N1, U % N1, U / N1 * N1, hw8, ?_, ?_, ?_, wrap_u64 _ (by omega), hRN, hQ, hinit⟩
  · rw [← Int.natCast_mul, wrap_u64 _ (by omega)]
  · generalize U / N1 * N1 = P at *
    generalize U % N1 = R at *
    rw [show (U : Int) - (P : Int) = (R : Int) from by omega, wrap_u64 _ (by omega)]
  · generalize U / N1 * N1 = P at *
    generalize U % N1 = R at *
    omega
/-- What is left of the first digit, as the walk spells it. -/
theorem left_over {Y N1 N0 U u z : Nat} (hdig : DigIn Y N1 N0 U u) (hY : Y < W64) (hz : z = (U * H32 + u) / Y) :
    IntKind.u64.wrap (IntKind.u64.wrap (IntKind.u64.wrap ((U : Int) * 4294967296) + (u : Int)) - IntKind.u64.wrap ((z : Int) * (Y : Int))) = (((U * H32 + u) % Y : Nat) : Int) := by
  have h1 := Nat.div_add_mod (U * H32 + u) Y
  have h2 : (U * H32 + u) % Y < Y := Nat.mod_lt _ (by have := hdig.lt; omega)
  rw [← hz, Nat.mul_comm Y] at h1
  rw [← Int.natCast_mul]
  generalize (U * H32 + u) % Y = r at *
  generalize z * Y = P at *
  simp only [wrap_mod]
  rw [H32_eq] at h1
  rw [W64_eq] at hY
  omega

theorem prod_lt {q n : Nat} (h : q < 4294967296) (g : n < 4294967296) : q * n < W64 := by
  have h1 : q * n ≤ 4294967295 * 4294967295 := Nat.mul_le_mul (by omega) (by omega)
  rw [W64_eq]; omega

set_option maxHeartbeats 1000000 in
set_option maxRecDepth 100000 in
theorem div64_hi (hi lo y : Nat) (w : World) (hh : 0 < hi) (hl : lo < W64) (hy : hi < y) (hy2 : y < W64) :
    Calls Tryd.prog 73 #[.int .u64 (hi : Int), .int .u64 (lo : Int), .int .u64 (y : Int)] w fun e w' => e = .returned (D64Val hi lo y) ∧ w' = w := by
  have h0 : ((y : Int) == 0) = false := by rw [beq_eq_false_iff_ne]; omega
  have h00 : ((hi : Int) == 0) = false := by rw [beq_eq_false_iff_ne]; omega
  have h1 : ¬ (y : Int) ≤ (hi : Int) := by omega
  go_enter Tryd.func73, Tryd.ntmps73
  go_wp2_with fail
  refine (Tryd.bits_LeadingZeros64 _ _ (by omega) (by rw [W64_eq] at hy2; omega)).mono ?_
  rintro e w' ⟨rfl, rfl⟩
  rw [show Lib.bitLen ((y : Int).toNat) = Lib.bitLen y from rfl]
  have hbl := bitLen_bounds hy2 (by omega : y ≠ 0)
  obtain ⟨s, hs⟩ : ∃ s, Lib.bitLen y = 64 - s ∧ s ≤ 63 := ⟨64 - Lib.bitLen y, by omega, by omega⟩
  rw [hs.1, show (64 - ((64 - s : Nat) : Int)) = (s : Int) from by omega]
  have HS := Lib.hid hs.1
  have hs63 := hs.2
  clear hs hbl
  obtain ⟨Y, hY⟩ : ∃ Y, Y = y * 2 ^ s := ⟨_, rfl⟩
  obtain ⟨N1, hN1⟩ : ∃ N1, N1 = Y / 4294967296 := ⟨_, rfl⟩
  obtain ⟨N0, hN0⟩ : ∃ N0, N0 = Y % 4294967296 := ⟨_, rfl⟩
  obtain ⟨U, hU⟩ : ∃ U, U = hi * 2 ^ s + lo / 2 ^ (64 - s) := ⟨_, rfl⟩
  obtain ⟨V, hV⟩ : ∃ V, V = (lo * 2 ^ s) % W64 := ⟨_, rfl⟩
  obtain ⟨U1, hU1⟩ : ∃ U1, U1 = V / 4294967296 := ⟨_, rfl⟩
  obtain ⟨U0, hU0⟩ : ∃ U0, U0 = V % 4294967296 := ⟨_, rfl⟩
  have hfacts : DivFacts hi lo y s Y N1 N0 U V U1 U0 := divFacts hl hy hy2 HS.out hs63 (by omega) hY hN1 hN0 hU hV hU1 hU0
  obtain ⟨hw1, hw2, hw3, hw4, hw5, hw6, hw7, hdig, hall, hVb, hUb⟩ := hfacts
  have HYE := Lib.hid hY
  clear hY hN1 hN0 hU hV hU1 hU0
  have hN1a := hdig.lo
  have hN1b := hdig.hi
  have hN0b := hdig.n0
  have hU1b := hdig.u
  have hYb : Y < W64 := by have := hdig.y; rw [H32_eq] at *; rw [W64_eq]; omega
  have hUY := hdig.lt
  rw [H32_eq] at hN1b hN0b hU1b
  obtain ⟨Q, R, P, hprep⟩ := prep hdig hUb
  obtain ⟨hw8, hw9, hw10, hw11, hw12, hR, hQ, hinv⟩ := hprep
  have HDIG := Lib.hid hdig
  have HALL := Lib.hid hall
  have HINV := Lib.hid hinv
  clear hdig hall hinv
  go_wp2_with fail
  clear hw8 hw9 hw10 hw11 hw12 hw1 hw2 hw3 hw4 hw5 hw6 hw7
  have i3 : (N1 : Int) < 4294967296 := by omega
  have i4 : (U1 : Int) < 4294967296 := by omega
  have i5 : (U0 : Int) < 4294967296 := by omega
  have H3 := Lib.hid hN1b
  have H4 := Lib.hid hN0b
  have H6 := Lib.hid hN1a
  have H9 := Lib.hid hQ
  have i9 : (Q : Int) ≤ 4294967297 := by omega
  clear hN1b hN0b hU1b hN1a hQ
  go_loop [15, 16] (fun v r => ∃ q ρ : Nat, v = .int .u64 q ∧ r = .int .u64 ρ ∧ ρ < 4294967296 ∧ q ≤ 4294967297 ∧ Hid (DigInv Y N1 U U1 q ρ)) (fun v _ => (intOf v).toNat)
  case atStart => exact ⟨Q, R, rfl, rfl, by have := H3.out; omega, H9.out, HINV⟩
  case round =>
    obtain ⟨q, ρ, rfl, rfl, hρ, hq, HI⟩ := hrel
    have i1 : (ρ : Int) < 4294967296 := by omega
    have i2 : (q : Int) ≤ 4294967297 := by omega
    have hcases : 4294967296 ≤ q ∨ (q < 4294967296 ∧ 4294967296 * ρ + U1 < q * N0) ∨ (q < 4294967296 ∧ q * N0 ≤ 4294967296 * ρ + U1) := by
      rcases Nat.lt_or_ge q 4294967296 with h | h
      · rcases Nat.lt_or_ge (4294967296 * ρ + U1) (q * N0) with h' | h'
        · exact .inr (.inl ⟨h, h'⟩)
        · exact .inr (.inr ⟨h, h'⟩)
      · exact .inl h
    have HQ := Lib.hid hq
    have HR := Lib.hid hρ
    clear hq hρ
    rcases hcases with hc | ⟨hc, hp⟩ | ⟨hc, hp⟩
    · have hqd : decide ((4294967296 : Int) ≤ (q : Int)) = true := decide_eq_true (by omega)
      have hpos := HI.out.pos HDIG.out (.inl (by rw [H32_eq]; exact hc))
      have HNX := Lib.hid (HI.out.next HDIG.out (.inl (by rw [H32_eq]; exact hc)))
      have hq1 : 1 ≤ q := by omega
      clear hpos hc HI
      obtain ⟨k, hk⟩ : ∃ k, q = k + 1 := ⟨q - 1, by omega⟩
      have hk1 : (q : Int) - 1 = (k : Int) := by omega
      rw [show q - 1 = k from by omega] at HNX
      have hkq : k ≤ 4294967296 := by have := HQ.out; omega
      have HK := Lib.hid hk
      have HKQ := Lib.hid hkq
      clear hk hkq
      by_cases hbr : (4294967296 : Int) ≤ (ρ : Int) + (N1 : Int)
      · have hbd : decide ((4294967296 : Int) ≤ (ρ : Int) + (N1 : Int)) = true := decide_eq_true hbr
        have HZ := Lib.hid (HNX.out.left HDIG.out (by rw [H32_eq]; exact HKQ.out) (by rw [H32_eq]; omega))
        clear HNX
        have hlo1 := left_over HDIG.out hYb HZ.out
        obtain ⟨r1, hr1⟩ : ∃ r1, r1 = (U * H32 + U1) % Y := ⟨_, rfl⟩
        rw [← hr1] at hlo1
        have hr1Y : r1 < Y := by rw [hr1]; exact Nat.mod_lt _ (by omega)
        have hd2 : DigIn Y N1 N0 r1 U0 := ⟨HDIG.out.y, HDIG.out.n0, HDIG.out.lo, HDIG.out.hi, hr1Y, by rw [H32_eq]; omega⟩
        obtain ⟨Q2, R2, P2, hp2⟩ := prep hd2 (Nat.lt_trans hr1Y hYb)
        obtain ⟨v8, v9, v10, v11, v12, hR2, hQ2, hi2⟩ := hp2
        have hzb : k < 4294967296 := by have h := HDIG.out.q_lt; rw [← HZ.out, H32_eq] at h; exact h
        have i6 : (k : Int) < 4294967296 := by omega
        have HD2 := Lib.hid hd2
        have HI2 := Lib.hid hi2
        have HR1 := Lib.hid hr1
        have HQ2 := Lib.hid hQ2
        have HR2 := Lib.hid hR2
        have HZ1 := Lib.hid HZ.out
        have i8 : (Q2 : Int) ≤ 4294967297 := by omega
        clear hd2 hi2 hr1 hzb HZ hQ2 hR2
        go_wp2_with fail
        clear v8 v9 v10 v11 v12 hlo1
        go_loop [18, 16] (fun v r => ∃ q ρ : Nat, v = .int .u64 q ∧ r = .int .u64 ρ ∧ ρ < 4294967296 ∧ q ≤ 4294967297 ∧ Hid (DigInv Y N1 r1 U0 q ρ)) (fun v _ => (intOf v).toNat)
        case atStart => exact ⟨Q2, R2, rfl, rfl, by have := HR2.out; have := H3.out; omega, HQ2.out, HI2⟩
        case round =>
          obtain ⟨q, ρ, rfl, rfl, hρ, hq, HI⟩ := hrel
          have i1 : (ρ : Int) < 4294967296 := by omega
          have i2 : (q : Int) ≤ 4294967297 := by omega
          have hcases : 4294967296 ≤ q ∨ (q < 4294967296 ∧ 4294967296 * ρ + U0 < q * N0) ∨ (q < 4294967296 ∧ q * N0 ≤ 4294967296 * ρ + U0) := by
            rcases Nat.lt_or_ge q 4294967296 with h | h
            · rcases Nat.lt_or_ge (4294967296 * ρ + U0) (q * N0) with h' | h'
              · exact .inr (.inl ⟨h, h'⟩)
              · exact .inr (.inr ⟨h, h'⟩)
            · exact .inl h
          have HQ := Lib.hid hq
          have HR := Lib.hid hρ
          clear hq hρ
          rcases hcases with hc | ⟨hc, hp⟩ | ⟨hc, hp⟩
          · have hqd : decide ((4294967296 : Int) ≤ (q : Int)) = true := decide_eq_true (by omega)
            have hpos := HI.out.pos HD2.out (.inl (by rw [H32_eq]; exact hc))
            have HNX := Lib.hid (HI.out.next HD2.out (.inl (by rw [H32_eq]; exact hc)))
            have hq1 : 1 ≤ q := by omega
            clear hpos hc HI
            obtain ⟨k, hk⟩ : ∃ k, q = k + 1 := ⟨q - 1, by omega⟩
            have hk1 : (q : Int) - 1 = (k : Int) := by omega
            rw [show q - 1 = k from by omega] at HNX
            have hkq : k ≤ 4294967296 := by have := HQ.out; omega
            have HK := Lib.hid hk
            have HKQ := Lib.hid hkq
            clear hk hkq
            by_cases hbr : (4294967296 : Int) ≤ (ρ : Int) + (N1 : Int)
            · have hbd : decide ((4294967296 : Int) ≤ (ρ : Int) + (N1 : Int)) = true := decide_eq_true hbr
              have HZ := Lib.hid (HNX.out.left HD2.out (by rw [H32_eq]; exact HKQ.out) (by rw [H32_eq]; omega))
              clear HNX
              have hlo2 := left_over HD2.out hYb HZ.out
              have hfin := div_whole HYE.out (by omega : 0 < y) HALL.out
              rw [← HZ1.out, ← HR1.out, ← HZ.out] at hfin
              obtain ⟨r2, hr2⟩ : ∃ r2, r2 = (r1 * H32 + U0) % Y := ⟨_, rfl⟩
              rw [← hr2] at hlo2 hfin
              have HF := Lib.hid hfin
              have hz2b : k < 4294967296 := by have h := HD2.out.q_lt; rw [← HZ.out, H32_eq] at h; exact h
              have i7 : (k : Int) < 4294967296 := by omega
              have HZB := Lib.hid hz2b
              clear hr2 hfin hz2b
              go_wp2
              go_ret2
              refine ⟨?_, rfl⟩
              have hq := HF.out.1
              have hr := HF.out.2
              rw [H32_eq] at hq
              unfold D64Val
              rw [← hq, ← hr, Int.natCast_ediv, Int.natCast_pow]
              rfl
            · have hbd : decide ((4294967296 : Int) ≤ (ρ : Int) + (N1 : Int)) = false := decide_eq_false hbr
              go_wp2
              refine ⟨⟨k, ρ + N1, rfl, by go_num, by omega, by have := HKQ.out; omega, HNX⟩, ?_⟩
              have := HK.out
              simp [intOf]; omega
          · have hqd : decide ((4294967296 : Int) ≤ (q : Int)) = false := decide_eq_false (by omega)
            have hpos := HI.out.pos HD2.out (.inr (by rw [H32_eq]; exact hp))
            have HNX := Lib.hid (HI.out.next HD2.out (.inr (by rw [H32_eq]; exact hp)))
            have hq1 : 1 ≤ q := Nat.le_trans (Nat.le_add_left _ _) hpos
            have hpm := prod_lt hc H4.out
            obtain ⟨p0, hp0⟩ : ∃ p0, p0 = q * N0 := ⟨_, rfl⟩
            rw [← hp0] at hp hpm
            have hpw : IntKind.u64.wrap ((q : Int) * (N0 : Int)) = (p0 : Int) := by rw [← Int.natCast_mul, ← hp0, wrap_u64 _ hpm]
            have hgd : decide ((4294967296 : Int) * (ρ : Int) + (U0 : Int) < (p0 : Int)) = true := decide_eq_true (by omega)
            clear hpos hc HI hp hp0 hpm
            obtain ⟨k, hk⟩ : ∃ k, q = k + 1 := ⟨q - 1, by omega⟩
            have hk1 : (q : Int) - 1 = (k : Int) := by omega
            rw [show q - 1 = k from by omega] at HNX
            have hkq : k ≤ 4294967296 := by have := HQ.out; omega
            have HK := Lib.hid hk
            have HKQ := Lib.hid hkq
            clear hk hkq
            by_cases hbr : (4294967296 : Int) ≤ (ρ : Int) + (N1 : Int)
            · have hbd : decide ((4294967296 : Int) ≤ (ρ : Int) + (N1 : Int)) = true := decide_eq_true hbr
              have HZ := Lib.hid (HNX.out.left HD2.out (by rw [H32_eq]; exact HKQ.out) (by rw [H32_eq]; omega))
              clear HNX
              have hlo2 := left_over HD2.out hYb HZ.out
              have hfin := div_whole HYE.out (by omega : 0 < y) HALL.out
              rw [← HZ1.out, ← HR1.out, ← HZ.out] at hfin
              obtain ⟨r2, hr2⟩ : ∃ r2, r2 = (r1 * H32 + U0) % Y := ⟨_, rfl⟩
              rw [← hr2] at hlo2 hfin
              have HF := Lib.hid hfin
              have hz2b : k < 4294967296 := by have h := HD2.out.q_lt; rw [← HZ.out, H32_eq] at h; exact h
              have i7 : (k : Int) < 4294967296 := by omega
              have HZB := Lib.hid hz2b
              clear hr2 hfin hz2b
              go_wp2
              go_ret2
              refine ⟨?_, rfl⟩
              have hq := HF.out.1
              have hr := HF.out.2
              rw [H32_eq] at hq
              unfold D64Val
              rw [← hq, ← hr, Int.natCast_ediv, Int.natCast_pow]
              rfl
            · have hbd : decide ((4294967296 : Int) ≤ (ρ : Int) + (N1 : Int)) = false := decide_eq_false hbr
              go_wp2
              refine ⟨⟨k, ρ + N1, rfl, by go_num, by omega, by have := HKQ.out; omega, HNX⟩, ?_⟩
              have := HK.out
              simp [intOf]; omega
          · have hqd : decide ((4294967296 : Int) ≤ (q : Int)) = false := decide_eq_false (by omega)
            have HZ := Lib.hid (HI.out.done HD2.out (by rw [H32_eq]; exact hp))
            have hpm := prod_lt hc H4.out
            obtain ⟨p0, hp0⟩ : ∃ p0, p0 = q * N0 := ⟨_, rfl⟩
            rw [← hp0] at hp hpm
            have hpw : IntKind.u64.wrap ((q : Int) * (N0 : Int)) = (p0 : Int) := by rw [← Int.natCast_mul, ← hp0, wrap_u64 _ hpm]
            have hgd : decide ((4294967296 : Int) * (ρ : Int) + (U0 : Int) < (p0 : Int)) = false := decide_eq_false (by omega)
            clear hc HI hp hp0 hpm
            have hlo2 := left_over HD2.out hYb HZ.out
            have hfin := div_whole HYE.out (by omega : 0 < y) HALL.out
            rw [← HZ1.out, ← HR1.out, ← HZ.out] at hfin
            obtain ⟨r2, hr2⟩ : ∃ r2, r2 = (r1 * H32 + U0) % Y := ⟨_, rfl⟩
            rw [← hr2] at hlo2 hfin
            have HF := Lib.hid hfin
            have hz2b : q < 4294967296 := by have h := HD2.out.q_lt; rw [← HZ.out, H32_eq] at h; exact h
            have i7 : (q : Int) < 4294967296 := by omega
            have HZB := Lib.hid hz2b
            clear hr2 hfin hz2b
            go_wp2
            go_ret2
            refine ⟨?_, rfl⟩
            have hq := HF.out.1
            have hr := HF.out.2
            rw [H32_eq] at hq
            unfold D64Val
            rw [← hq, ← hr, Int.natCast_ediv, Int.natCast_pow]
            rfl
      · have hbd : decide ((4294967296 : Int) ≤ (ρ : Int) + (N1 : Int)) = false := decide_eq_false hbr
        go_wp2
        refine ⟨⟨k, ρ + N1, rfl, by go_num, by omega, by have := HKQ.out; omega, HNX⟩, ?_⟩
        have := HK.out
        simp [intOf]; omega
    · have hqd : decide ((4294967296 : Int) ≤ (q : Int)) = false := decide_eq_false (by omega)
      have hpos := HI.out.pos HDIG.out (.inr (by rw [H32_eq]; exact hp))
      have HNX := Lib.hid (HI.out.next HDIG.out (.inr (by rw [H32_eq]; exact hp)))
      have hq1 : 1 ≤ q := Nat.le_trans (Nat.le_add_left _ _) hpos
      have hpm := prod_lt hc H4.out
      obtain ⟨p0, hp0⟩ : ∃ p0, p0 = q * N0 := ⟨_, rfl⟩
      rw [← hp0] at hp hpm
      have hpw : IntKind.u64.wrap ((q : Int) * (N0 : Int)) = (p0 : Int) := by rw [← Int.natCast_mul, ← hp0, wrap_u64 _ hpm]
      have hgd : decide ((4294967296 : Int) * (ρ : Int) + (U1 : Int) < (p0 : Int)) = true := decide_eq_true (by omega)
      clear hpos hc HI hp hp0 hpm
      obtain ⟨k, hk⟩ : ∃ k, q = k + 1 := ⟨q - 1, by omega⟩
      have hk1 : (q : Int) - 1 = (k : Int) := by omega
      rw [show q - 1 = k from by omega] at HNX
      have hkq : k ≤ 4294967296 := by have := HQ.out; omega
      have HK := Lib.hid hk
      have HKQ := Lib.hid hkq
      clear hk hkq
      by_cases hbr : (4294967296 : Int) ≤ (ρ : Int) + (N1 : Int)
      · have hbd : decide ((4294967296 : Int) ≤ (ρ : Int) + (N1 : Int)) = true := decide_eq_true hbr
        have HZ := Lib.hid (HNX.out.left HDIG.out (by rw [H32_eq]; exact HKQ.out) (by rw [H32_eq]; omega))
        clear HNX
        have hlo1 := left_over HDIG.out hYb HZ.out
        obtain ⟨r1, hr1⟩ : ∃ r1, r1 = (U * H32 + U1) % Y := ⟨_, rfl⟩
        rw [← hr1] at hlo1
        have hr1Y : r1 < Y := by rw [hr1]; exact Nat.mod_lt _ (by omega)
        have hd2 : DigIn Y N1 N0 r1 U0 := ⟨HDIG.out.y, HDIG.out.n0, HDIG.out.lo, HDIG.out.hi, hr1Y, by rw [H32_eq]; omega⟩
        obtain ⟨Q2, R2, P2, hp2⟩ := prep hd2 (Nat.lt_trans hr1Y hYb)
        obtain ⟨v8, v9, v10, v11, v12, hR2, hQ2, hi2⟩ := hp2
        have hzb : k < 4294967296 := by have h := HDIG.out.q_lt; rw [← HZ.out, H32_eq] at h; exact h
        have i6 : (k : Int) < 4294967296 := by omega
        have HD2 := Lib.hid hd2
        have HI2 := Lib.hid hi2
        have HR1 := Lib.hid hr1
        have HQ2 := Lib.hid hQ2
        have HR2 := Lib.hid hR2
        have HZ1 := Lib.hid HZ.out
        have i8 : (Q2 : Int) ≤ 4294967297 := by omega
        clear hd2 hi2 hr1 hzb HZ hQ2 hR2
        go_wp2_with fail
        clear v8 v9 v10 v11 v12 hlo1
        go_loop [18, 16] (fun v r => ∃ q ρ : Nat, v = .int .u64 q ∧ r = .int .u64 ρ ∧ ρ < 4294967296 ∧ q ≤ 4294967297 ∧ Hid (DigInv Y N1 r1 U0 q ρ)) (fun v _ => (intOf v).toNat)
        case atStart => exact ⟨Q2, R2, rfl, rfl, by have := HR2.out; have := H3.out; omega, HQ2.out, HI2⟩
        case round =>
          obtain ⟨q, ρ, rfl, rfl, hρ, hq, HI⟩ := hrel
          have i1 : (ρ : Int) < 4294967296 := by omega
          have i2 : (q : Int) ≤ 4294967297 := by omega
          have hcases : 4294967296 ≤ q ∨ (q < 4294967296 ∧ 4294967296 * ρ + U0 < q * N0) ∨ (q < 4294967296 ∧ q * N0 ≤ 4294967296 * ρ + U0) := by
            rcases Nat.lt_or_ge q 4294967296 with h | h
            · rcases Nat.lt_or_ge (4294967296 * ρ + U0) (q * N0) with h' | h'
              · exact .inr (.inl ⟨h, h'⟩)
              · exact .inr (.inr ⟨h, h'⟩)
            · exact .inl h
          have HQ := Lib.hid hq
          have HR := Lib.hid hρ
          clear hq hρ
          rcases hcases with hc | ⟨hc, hp⟩ | ⟨hc, hp⟩
          · have hqd : decide ((4294967296 : Int) ≤ (q : Int)) = true := decide_eq_true (by omega)
            have hpos := HI.out.pos HD2.out (.inl (by rw [H32_eq]; exact hc))
            have HNX := Lib.hid (HI.out.next HD2.out (.inl (by rw [H32_eq]; exact hc)))
            have hq1 : 1 ≤ q := by omega
            clear hpos hc HI
            obtain ⟨k, hk⟩ : ∃ k, q = k + 1 := ⟨q - 1, by omega⟩
            have hk1 : (q : Int) - 1 = (k : Int) := by omega
            rw [show q - 1 = k from by omega] at HNX
            have hkq : k ≤ 4294967296 := by have := HQ.out; omega
            have HK := Lib.hid hk
            have HKQ := Lib.hid hkq
            clear hk hkq
            by_cases hbr : (4294967296 : Int) ≤ (ρ : Int) + (N1 : Int)
            · have hbd : decide ((4294967296 : Int) ≤ (ρ : Int) + (N1 : Int)) = true := decide_eq_true hbr
              have HZ := Lib.hid (HNX.out.left HD2.out (by rw [H32_eq]; exact HKQ.out) (by rw [H32_eq]; omega))
              clear HNX
              have hlo2 := left_over HD2.out hYb HZ.out
              have hfin := div_whole HYE.out (by omega : 0 < y) HALL.out
              rw [← HZ1.out, ← HR1.out, ← HZ.out] at hfin
              obtain ⟨r2, hr2⟩ : ∃ r2, r2 = (r1 * H32 + U0) % Y := ⟨_, rfl⟩
              rw [← hr2] at hlo2 hfin
              have HF := Lib.hid hfin
              have hz2b : k < 4294967296 := by have h := HD2.out.q_lt; rw [← HZ.out, H32_eq] at h; exact h
              have i7 : (k : Int) < 4294967296 := by omega
              have HZB := Lib.hid hz2b
              clear hr2 hfin hz2b
              go_wp2
              go_ret2
              refine ⟨?_, rfl⟩
              have hq := HF.out.1
              have hr := HF.out.2
              rw [H32_eq] at hq
              unfold D64Val
              rw [← hq, ← hr, Int.natCast_ediv, Int.natCast_pow]
              rfl
            · have hbd : decide ((4294967296 : Int) ≤ (ρ : Int) + (N1 : Int)) = false := decide_eq_false hbr
              go_wp2
              refine ⟨⟨k, ρ + N1, rfl, by go_num, by omega, by have := HKQ.out; omega, HNX⟩, ?_⟩
              have := HK.out
              simp [intOf]; omega
          · have hqd : decide ((4294967296 : Int) ≤ (q : Int)) = false := decide_eq_false (by omega)
            have hpos := HI.out.pos HD2.out (.inr (by rw [H32_eq]; exact hp))
            have HNX := Lib.hid (HI.out.next HD2.out (.inr (by rw [H32_eq]; exact hp)))
            have hq1 : 1 ≤ q := Nat.le_trans (Nat.le_add_left _ _) hpos
            have hpm := prod_lt hc H4.out
            obtain ⟨p0, hp0⟩ : ∃ p0, p0 = q * N0 := ⟨_, rfl⟩
            rw [← hp0] at hp hpm
            have hpw : IntKind.u64.wrap ((q : Int) * (N0 : Int)) = (p0 : Int) := by rw [← Int.natCast_mul, ← hp0, wrap_u64 _ hpm]
            have hgd : decide ((4294967296 : Int) * (ρ : Int) + (U0 : Int) < (p0 : Int)) = true := decide_eq_true (by omega)
            clear hpos hc HI hp hp0 hpm
            obtain ⟨k, hk⟩ : ∃ k, q = k + 1 := ⟨q - 1, by omega⟩
            have hk1 : (q : Int) - 1 = (k : Int) := by omega
            rw [show q - 1 = k from by omega] at HNX
            have hkq : k ≤ 4294967296 := by have := HQ.out; omega
            have HK := Lib.hid hk
            have HKQ := Lib.hid hkq
            clear hk hkq
            by_cases hbr : (4294967296 : Int) ≤ (ρ : Int) + (N1 : Int)
            · have hbd : decide ((4294967296 : Int) ≤ (ρ : Int) + (N1 : Int)) = true := decide_eq_true hbr
              have HZ := Lib.hid (HNX.out.left HD2.out (by rw [H32_eq]; exact HKQ.out) (by rw [H32_eq]; omega))
              clear HNX
              have hlo2 := left_over HD2.out hYb HZ.out
              have hfin := div_whole HYE.out (by omega : 0 < y) HALL.out
              rw [← HZ1.out, ← HR1.out, ← HZ.out] at hfin
              obtain ⟨r2, hr2⟩ : ∃ r2, r2 = (r1 * H32 + U0) % Y := ⟨_, rfl⟩
              rw [← hr2] at hlo2 hfin
              have HF := Lib.hid hfin
              have hz2b : k < 4294967296 := by have h := HD2.out.q_lt; rw [← HZ.out, H32_eq] at h; exact h
              have i7 : (k : Int) < 4294967296 := by omega
              have HZB := Lib.hid hz2b
              clear hr2 hfin hz2b
              go_wp2
              go_ret2
              refine ⟨?_, rfl⟩
              have hq := HF.out.1
              have hr := HF.out.2
              rw [H32_eq] at hq
              unfold D64Val
              rw [← hq, ← hr, Int.natCast_ediv, Int.natCast_pow]
              rfl
            · have hbd : decide ((4294967296 : Int) ≤ (ρ : Int) + (N1 : Int)) = false := decide_eq_false hbr
              go_wp2
              refine ⟨⟨k, ρ + N1, rfl, by go_num, by omega, by have := HKQ.out; omega, HNX⟩, ?_⟩
              have := HK.out
              simp [intOf]; omega
          · have hqd : decide ((4294967296 : Int) ≤ (q : Int)) = false := decide_eq_false (by omega)
            have HZ := Lib.hid (HI.out.done HD2.out (by rw [H32_eq]; exact hp))
            have hpm := prod_lt hc H4.out
            obtain ⟨p0, hp0⟩ : ∃ p0, p0 = q * N0 := ⟨_, rfl⟩
            rw [← hp0] at hp hpm
            have hpw : IntKind.u64.wrap ((q : Int) * (N0 : Int)) = (p0 : Int) := by rw [← Int.natCast_mul, ← hp0, wrap_u64 _ hpm]
            have hgd : decide ((4294967296 : Int) * (ρ : Int) + (U0 : Int) < (p0 : Int)) = false := decide_eq_false (by omega)
            clear hc HI hp hp0 hpm
            have hlo2 := left_over HD2.out hYb HZ.out
            have hfin := div_whole HYE.out (by omega : 0 < y) HALL.out
            rw [← HZ1.out, ← HR1.out, ← HZ.out] at hfin
            obtain ⟨r2, hr2⟩ : ∃ r2, r2 = (r1 * H32 + U0) % Y := ⟨_, rfl⟩
            rw [← hr2] at hlo2 hfin
            have HF := Lib.hid hfin
            have hz2b : q < 4294967296 := by have h := HD2.out.q_lt; rw [← HZ.out, H32_eq] at h; exact h
            have i7 : (q : Int) < 4294967296 := by omega
            have HZB := Lib.hid hz2b
            clear hr2 hfin hz2b
            go_wp2
            go_ret2
            refine ⟨?_, rfl⟩
            have hq := HF.out.1
            have hr := HF.out.2
            rw [H32_eq] at hq
            unfold D64Val
            rw [← hq, ← hr, Int.natCast_ediv, Int.natCast_pow]
            rfl
      · have hbd : decide ((4294967296 : Int) ≤ (ρ : Int) + (N1 : Int)) = false := decide_eq_false hbr
        go_wp2
        refine ⟨⟨k, ρ + N1, rfl, by go_num, by omega, by have := HKQ.out; omega, HNX⟩, ?_⟩
        have := HK.out
        simp [intOf]; omega
    · have hqd : decide ((4294967296 : Int) ≤ (q : Int)) = false := decide_eq_false (by omega)
      have HZ := Lib.hid (HI.out.done HDIG.out (by rw [H32_eq]; exact hp))
      have hpm := prod_lt hc H4.out
      obtain ⟨p0, hp0⟩ : ∃ p0, p0 = q * N0 := ⟨_, rfl⟩
      rw [← hp0] at hp hpm
      have hpw : IntKind.u64.wrap ((q : Int) * (N0 : Int)) = (p0 : Int) := by rw [← Int.natCast_mul, ← hp0, wrap_u64 _ hpm]
      have hgd : decide ((4294967296 : Int) * (ρ : Int) + (U1 : Int) < (p0 : Int)) = false := decide_eq_false (by omega)
      clear hc HI hp hp0 hpm
      have hlo1 := left_over HDIG.out hYb HZ.out
      obtain ⟨r1, hr1⟩ : ∃ r1, r1 = (U * H32 + U1) % Y := ⟨_, rfl⟩
      rw [← hr1] at hlo1
      have hr1Y : r1 < Y := by rw [hr1]; exact Nat.mod_lt _ (by omega)
      have hd2 : DigIn Y N1 N0 r1 U0 := ⟨HDIG.out.y, HDIG.out.n0, HDIG.out.lo, HDIG.out.hi, hr1Y, by rw [H32_eq]; omega⟩
      obtain ⟨Q2, R2, P2, hp2⟩ := prep hd2 (Nat.lt_trans hr1Y hYb)
      obtain ⟨v8, v9, v10, v11, v12, hR2, hQ2, hi2⟩ := hp2
      have hzb : q < 4294967296 := by have h := HDIG.out.q_lt; rw [← HZ.out, H32_eq] at h; exact h
      have i6 : (q : Int) < 4294967296 := by omega
      have HD2 := Lib.hid hd2
      have HI2 := Lib.hid hi2
      have HR1 := Lib.hid hr1
      have HQ2 := Lib.hid hQ2
      have HR2 := Lib.hid hR2
      have HZ1 := Lib.hid HZ.out
      have i8 : (Q2 : Int) ≤ 4294967297 := by omega
      clear hd2 hi2 hr1 hzb HZ hQ2 hR2
      go_wp2_with fail
      clear v8 v9 v10 v11 v12 hlo1
      go_loop [18, 16] (fun v r => ∃ q ρ : Nat, v = .int .u64 q ∧ r = .int .u64 ρ ∧ ρ < 4294967296 ∧ q ≤ 4294967297 ∧ Hid (DigInv Y N1 r1 U0 q ρ)) (fun v _ => (intOf v).toNat)
      case atStart => exact ⟨Q2, R2, rfl, rfl, by have := HR2.out; have := H3.out; omega, HQ2.out, HI2⟩
      case round =>
        obtain ⟨q, ρ, rfl, rfl, hρ, hq, HI⟩ := hrel
        have i1 : (ρ : Int) < 4294967296 := by omega
        have i2 : (q : Int) ≤ 4294967297 := by omega
        have hcases : 4294967296 ≤ q ∨ (q < 4294967296 ∧ 4294967296 * ρ + U0 < q * N0) ∨ (q < 4294967296 ∧ q * N0 ≤ 4294967296 * ρ + U0) := by
          rcases Nat.lt_or_ge q 4294967296 with h | h
          · rcases Nat.lt_or_ge (4294967296 * ρ + U0) (q * N0) with h' | h'
            · exact .inr (.inl ⟨h, h'⟩)
            · exact .inr (.inr ⟨h, h'⟩)
          · exact .inl h
        have HQ := Lib.hid hq
        have HR := Lib.hid hρ
        clear hq hρ
        rcases hcases with hc | ⟨hc, hp⟩ | ⟨hc, hp⟩
        · have hqd : decide ((4294967296 : Int) ≤ (q : Int)) = true := decide_eq_true (by omega)
          have hpos := HI.out.pos HD2.out (.inl (by rw [H32_eq]; exact hc))
          have HNX := Lib.hid (HI.out.next HD2.out (.inl (by rw [H32_eq]; exact hc)))
          have hq1 : 1 ≤ q := by omega
          clear hpos hc HI
          obtain ⟨k, hk⟩ : ∃ k, q = k + 1 := ⟨q - 1, by omega⟩
          have hk1 : (q : Int) - 1 = (k : Int) := by omega
          rw [show q - 1 = k from by omega] at HNX
          have hkq : k ≤ 4294967296 := by have := HQ.out; omega
          have HK := Lib.hid hk
          have HKQ := Lib.hid hkq
          clear hk hkq
          by_cases hbr : (4294967296 : Int) ≤ (ρ : Int) + (N1 : Int)
          · have hbd : decide ((4294967296 : Int) ≤ (ρ : Int) + (N1 : Int)) = true := decide_eq_true hbr
            have HZ := Lib.hid (HNX.out.left HD2.out (by rw [H32_eq]; exact HKQ.out) (by rw [H32_eq]; omega))
            clear HNX
            have hlo2 := left_over HD2.out hYb HZ.out
            have hfin := div_whole HYE.out (by omega : 0 < y) HALL.out
            rw [← HZ1.out, ← HR1.out, ← HZ.out] at hfin
            obtain ⟨r2, hr2⟩ : ∃ r2, r2 = (r1 * H32 + U0) % Y := ⟨_, rfl⟩
            rw [← hr2] at hlo2 hfin
            have HF := Lib.hid hfin
            have hz2b : k < 4294967296 := by have h := HD2.out.q_lt; rw [← HZ.out, H32_eq] at h; exact h
            have i7 : (k : Int) < 4294967296 := by omega
            have HZB := Lib.hid hz2b
            clear hr2 hfin hz2b
            go_wp2
            go_ret2
            refine ⟨?_, rfl⟩
            have hq := HF.out.1
            have hr := HF.out.2
            rw [H32_eq] at hq
            unfold D64Val
            rw [← hq, ← hr, Int.natCast_ediv, Int.natCast_pow]
            rfl
          · have hbd : decide ((4294967296 : Int) ≤ (ρ : Int) + (N1 : Int)) = false := decide_eq_false hbr
            go_wp2
            refine ⟨⟨k, ρ + N1, rfl, by go_num, by omega, by have := HKQ.out; omega, HNX⟩, ?_⟩
            have := HK.out
            simp [intOf]; omega
        · have hqd : decide ((4294967296 : Int) ≤ (q : Int)) = false := decide_eq_false (by omega)
          have hpos := HI.out.pos HD2.out (.inr (by rw [H32_eq]; exact hp))
          have HNX := Lib.hid (HI.out.next HD2.out (.inr (by rw [H32_eq]; exact hp)))
          have hq1 : 1 ≤ q := Nat.le_trans (Nat.le_add_left _ _) hpos
          have hpm := prod_lt hc H4.out
          obtain ⟨p0, hp0⟩ : ∃ p0, p0 = q * N0 := ⟨_, rfl⟩
          rw [← hp0] at hp hpm
          have hpw : IntKind.u64.wrap ((q : Int) * (N0 : Int)) = (p0 : Int) := by rw [← Int.natCast_mul, ← hp0, wrap_u64 _ hpm]
          have hgd : decide ((4294967296 : Int) * (ρ : Int) + (U0 : Int) < (p0 : Int)) = true := decide_eq_true (by omega)
          clear hpos hc HI hp hp0 hpm
          obtain ⟨k, hk⟩ : ∃ k, q = k + 1 := ⟨q - 1, by omega⟩
          have hk1 : (q : Int) - 1 = (k : Int) := by omega
          rw [show q - 1 = k from by omega] at HNX
          have hkq : k ≤ 4294967296 := by have := HQ.out; omega
          have HK := Lib.hid hk
          have HKQ := Lib.hid hkq
          clear hk hkq
          by_cases hbr : (4294967296 : Int) ≤ (ρ : Int) + (N1 : Int)
          · have hbd : decide ((4294967296 : Int) ≤ (ρ : Int) + (N1 : Int)) = true := decide_eq_true hbr
            have HZ := Lib.hid (HNX.out.left HD2.out (by rw [H32_eq]; exact HKQ.out) (by rw [H32_eq]; omega))
            clear HNX
            have hlo2 := left_over HD2.out hYb HZ.out
            have hfin := div_whole HYE.out (by omega : 0 < y) HALL.out
            rw [← HZ1.out, ← HR1.out, ← HZ.out] at hfin
            obtain ⟨r2, hr2⟩ : ∃ r2, r2 = (r1 * H32 + U0) % Y := ⟨_, rfl⟩
            rw [← hr2] at hlo2 hfin
            have HF := Lib.hid hfin
            have hz2b : k < 4294967296 := by have h := HD2.out.q_lt; rw [← HZ.out, H32_eq] at h; exact h
            have i7 : (k : Int) < 4294967296 := by omega
            have HZB := Lib.hid hz2b
            clear hr2 hfin hz2b
            go_wp2
            go_ret2
            refine ⟨?_, rfl⟩
            have hq := HF.out.1
            have hr := HF.out.2
            rw [H32_eq] at hq
            unfold D64Val
            rw [← hq, ← hr, Int.natCast_ediv, Int.natCast_pow]
            rfl
          · have hbd : decide ((4294967296 : Int) ≤ (ρ : Int) + (N1 : Int)) = false := decide_eq_false hbr
            go_wp2
            refine ⟨⟨k, ρ + N1, rfl, by go_num, by omega, by have := HKQ.out; omega, HNX⟩, ?_⟩
            have := HK.out
            simp [intOf]; omega
        · have hqd : decide ((4294967296 : Int) ≤ (q : Int)) = false := decide_eq_false (by omega)
          have HZ := Lib.hid (HI.out.done HD2.out (by rw [H32_eq]; exact hp))
          have hpm := prod_lt hc H4.out
          obtain ⟨p0, hp0⟩ : ∃ p0, p0 = q * N0 := ⟨_, rfl⟩
          rw [← hp0] at hp hpm
          have hpw : IntKind.u64.wrap ((q : Int) * (N0 : Int)) = (p0 : Int) := by rw [← Int.natCast_mul, ← hp0, wrap_u64 _ hpm]
          have hgd : decide ((4294967296 : Int) * (ρ : Int) + (U0 : Int) < (p0 : Int)) = false := decide_eq_false (by omega)
          clear hc HI hp hp0 hpm
          have hlo2 := left_over HD2.out hYb HZ.out
          have hfin := div_whole HYE.out (by omega : 0 < y) HALL.out
          rw [← HZ1.out, ← HR1.out, ← HZ.out] at hfin
          obtain ⟨r2, hr2⟩ : ∃ r2, r2 = (r1 * H32 + U0) % Y := ⟨_, rfl⟩
          rw [← hr2] at hlo2 hfin
          have HF := Lib.hid hfin
          have hz2b : q < 4294967296 := by have h := HD2.out.q_lt; rw [← HZ.out, H32_eq] at h; exact h
          have i7 : (q : Int) < 4294967296 := by omega
          have HZB := Lib.hid hz2b
          clear hr2 hfin hz2b
          go_wp2
          go_ret2
          refine ⟨?_, rfl⟩
          have hq := HF.out.1
          have hr := HF.out.2
          rw [H32_eq] at hq
          unfold D64Val
          rw [← hq, ← hr, Int.natCast_ediv, Int.natCast_pow]
          rfl

theorem div64_any (hi lo y : Nat) (w : World) (hl : lo < W64) (hy : hi < y) (hy2 : y < W64) :
    Calls Tryd.prog 73 #[.int .u64 (hi : Int), .int .u64 (lo : Int), .int .u64 (y : Int)] w fun e w' => e = .returned (D64Val hi lo y) ∧ ∃ n, w' = w.drewN n := by
  rcases Nat.eq_zero_or_pos hi with rfl | h
  · refine (div64_lo lo y w hl (by omega)).mono fun e w' ⟨he, hw⟩ => ⟨?_, hw⟩
    rw [he]; unfold D64Val; rw [Nat.zero_mul, Nat.zero_add]
  · exact (div64_hi hi lo y w h hl hy hy2).mono fun e w' ⟨he, hw⟩ => ⟨he, 0, hw⟩
end Go.Proofs.YtednijejgadmnaaDoor
