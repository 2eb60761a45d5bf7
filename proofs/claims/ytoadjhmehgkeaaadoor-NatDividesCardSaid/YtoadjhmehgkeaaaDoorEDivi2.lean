/- Contracts of package nat and of the reference, part 2: DivL, Words, NatOf, Copy, Sum. -/
import Derived.Test.YtoadjhmehgkeaaaDoorEDivi1
import Derived.Test.YtoadjhmehgkeaaaDoorShelf
import Derived.Laws.Bits64b
import Derived.Laws.BitsLemmas
import Derived.Deep.QuietTactic
import Derived.BigQuiet
import Derived.RegionTactic
import Derived.BigRegion
import Derived.Laws.BytesArg
namespace Go.Proofs.YtoadjhmehgkeaaaDoor
open Go.RowKit Mth

/-- What Div64 returns. -/
def D64Val (hi lo y : Nat) : Value := .tuple #[.int .u64 (((hi * W64 + lo) / y : Nat) : Int), .int .u64 (((hi * W64 + lo) % y : Nat) : Int)]

theorem div64_lo (lo y : Nat) (w : World) (hl : lo < W64) (hy : 0 < y) :
    Calls Tryd.prog 73 #[.int .u64 0, .int .u64 (lo : Int), .int .u64 (y : Int)] w fun e w' => e = .returned (.tuple #[.int .u64 ((lo / y : Nat) : Int), .int .u64 ((lo % y : Nat) : Int)]) ∧ ∃ n, w' = w.drewN n := by
  have h0 : ((y : Int) == 0) = false := by rw [beq_eq_false_iff_ne]; omega
  have h1 : ¬ (y : Int) ≤ 0 := by omega
  go_enter Tryd.func73, Tryd.ntmps73
  go_wp2
  go_quiet (fail)
  go_wp2
  go_ret2
  refine ⟨?_, _, rfl⟩
  show Ending.returned (.tuple #[.int .u64 (IntKind.u64.wrap ((lo : Int) / (y : Int))), .int .u64 ((lo : Int) % (y : Int))]) = _
  rw [← Int.natCast_ediv, wrap_u64 _ (Nat.lt_of_le_of_lt (Nat.div_le_self _ _) hl), ← Int.natCast_emod]

theorem wrap_mod (n : Int) : IntKind.u64.wrap n = n % 18446744073709551616 := by simp [IntKind.wrap, IntKind.bits, IntKind.signed]
theorem mask_u64 (x : Nat) (hx : x < W64) : bits BinOp.and IntKind.u64 (x : Int) 4294967295 = ((x % 4294967296 : Nat) : Int) := by
  have h := bits_and_u64_nat x 4294967295 (by rw [W64_eq] at hx; exact hx) (by decide)
  rw [show ((4294967295 : Nat) : Int) = 4294967295 from rfl] at h
  rw [h]
  congr 1
  exact Nat.and_two_pow_sub_one_eq_mod x 32

structure DivFacts (hi lo y s Y N1 N0 U V U1 U0 : Nat) : Prop where
  w1 : IntKind.u64.wrap ((y : Int) * (2 : Int) ^ s) = (Y : Int)
  w2 : (Y : Int) / 4294967296 = (N1 : Int)
  w3 : bits BinOp.and IntKind.u64 (Y : Int) 4294967295 = (N0 : Int)
  w4 : bits BinOp.or IntKind.u64 (IntKind.u64.wrap ((hi : Int) * (2 : Int) ^ s)) ((lo : Int) / (2 : Int) ^ (64 - s)) = (U : Int)
  w5 : IntKind.u64.wrap ((lo : Int) * (2 : Int) ^ s) = (V : Int)
  w6 : (V : Int) / 4294967296 = (U1 : Int)
  w7 : bits BinOp.and IntKind.u64 (V : Int) 4294967295 = (U0 : Int)
  dig : DigIn Y N1 N0 U U1
  all : (hi * W64 + lo) * 2 ^ s = (U * H32 + U1) * H32 + U0
  v : U0 ≤ 4294967295
  u : U < W64
theorem divFacts {hi lo y s Y N1 N0 U V U1 U0 : Nat} (hl : lo < W64) (hy : hi < y) (hy2 : y < W64) (hs : Lib.bitLen y = 64 - s) (hs63 : s ≤ 63) (h0 : 0 < y) (hY : Y = y * 2 ^ s) (hN1 : N1 = Y / 4294967296) (hN0 : N0 = Y % 4294967296)
    (hU : U = hi * 2 ^ s + lo / 2 ^ (64 - s)) (hV : V = (lo * 2 ^ s) % W64) (hU1 : U1 = V / 4294967296) (hU0 : U0 = V % 4294967296) : DivFacts hi lo y s Y N1 N0 U V U1 U0 := by
  have h64 : 2 ^ (64 - s) * 2 ^ s = W64 := by rw [← Nat.pow_add, show 64 - s + s = 64 from by omega]; rfl
  have hp : 0 < 2 ^ s := Nat.pow_pos (by decide)
  obtain ⟨_, _, b1, b2⟩ := bitLen_bounds hy2 (by omega : y ≠ 0)
  rw [hs] at b1 b2
  have hYlt : Y < W64 := by rw [hY, ← h64]; exact Nat.mul_lt_mul_of_pos_right b2 hp
  have hYge : 9223372036854775808 ≤ Y := by
    have h1 : 2 ^ (64 - s - 1) * 2 ^ s ≤ y * 2 ^ s := Nat.mul_le_mul_right _ b1
    rw [← Nat.pow_add, show 64 - s - 1 + s = 63 from by omega] at h1
    rw [hY]; exact h1
  have hq : lo / 2 ^ (64 - s) < 2 ^ s := by
    rw [Nat.div_lt_iff_lt_mul (Nat.pow_pos (by decide)), Nat.mul_comm, h64]; exact hl
  have hhi : (hi + 1) * 2 ^ s ≤ y * 2 ^ s := Nat.mul_le_mul_right _ hy
  rw [Nat.add_mul, Nat.one_mul, ← hY] at hhi
  have hUY : U < Y := by omega
  have hVlt : V < W64 := by rw [hV]; exact Nat.mod_lt _ W64_pos
  have hlo : lo * 2 ^ s = W64 * (lo / 2 ^ (64 - s)) + V := by
    have h1 := Nat.div_add_mod (lo * 2 ^ s) W64
    have h2 : lo * 2 ^ s / W64 = lo / 2 ^ (64 - s) := by rw [← h64, Nat.mul_div_mul_right _ _ hp]
    rw [← hV, h2] at h1
    exact h1.symm
  have hpc : ((2 : Int) ^ s) = ((2 ^ s : Nat) : Int) := by simp
  have hpc2 : ((2 : Int) ^ (64 - s)) = ((2 ^ (64 - s) : Nat) : Int) := by simp
  refine ⟨?_, by omega, by rw [hN0]; exact mask_u64 Y hYlt, ?_, ?_, by omega, by rw [hU0]; exact mask_u64 V hVlt, ?_, ?_, by omega, by omega⟩
  · rw [hpc, ← Int.natCast_mul, ← hY, wrap_u64 _ hYlt]
  · rw [hpc, hpc2, ← Int.natCast_mul, wrap_u64 _ (by omega), ← Int.natCast_ediv]
    rw [bits_or_u64_nat _ _ (by rw [W64_eq] at hYlt; omega) (by rw [W64_eq] at hYlt; omega)]
    rw [hU, Nat.mul_comm hi, Nat.two_pow_add_eq_or_of_lt hq]
  · rw [hpc, ← Int.natCast_mul, wrap_mod, hV, W64_eq]; omega
  · rw [W64_eq] at hYlt hVlt
    exact ⟨by rw [H32_eq]; omega, by rw [H32_eq]; omega, by omega, by rw [H32_eq]; omega, hUY, by rw [H32_eq]; omega⟩
  · have h1 : H32 * H32 = W64 := by decide
    have h2 : U1 * H32 + U0 = V := by rw [H32_eq]; omega
    rw [Nat.add_mul (U * H32), Nat.mul_assoc U, h1, Nat.add_assoc, h2, Nat.add_mul, hlo, hU, Nat.add_mul, Nat.mul_comm W64, Nat.mul_right_comm hi]
    omega

/-- The first estimate of a digit, as the walk spells it. -/
structure Prep (Y N1 U u Q R P : Nat) : Prop where
  w8 : (U : Int) / (N1 : Int) = (Q : Int)
  w9 : IntKind.u64.wrap ((Q : Int) * (N1 : Int)) = (P : Int)
  w10 : IntKind.u64.wrap ((U : Int) - (P : Int)) = (R : Int)
  w11 : (U : Int) - (P : Int) = (R : Int)
  w12 : IntKind.u64.wrap (R : Int) = (R : Int)
  r : R < N1
  q : Q ≤ 4294967297
  inv : DigInv Y N1 U u Q R
theorem prep {Y N1 N0 U u : Nat} (hdig : DigIn Y N1 N0 U u) (hUb : U < W64) : ∃ Q R P, Prep Y N1 U u Q R P := by
  have hinit := hdig.init
  have hlo := hdig.lo
  have hRN : U % N1 < N1 := Nat.mod_lt _ (by omega)
  have hw8 : (U : Int) / (N1 : Int) = ((U / N1 : Nat) : Int) := by rw [Int.natCast_ediv]
  have hPU : U / N1 * N1 + U % N1 = U := hinit.eq
  have hQ := hdig.init_le
  refine ⟨U / N1, U % N1, U / N1 * N1, hw8, ?_, ?_, ?_, wrap_u64 _ (by omega), hRN, hQ, hinit⟩
  · rw [← Int.natCast_mul, wrap_u64 _ (by omega)]
  · generalize U / N1 * N1 = P at *
    generalize U % N1 = R at *
    rw [show (U : Int) - (P : Int) = (R : Int) from by omega, wrap_u64 _ (by omega)]
  · generalize U / N1 * N1 = P at *
    generalize U % N1 = R at *
    omega
/-- What is left of the first digit, as the walk spells it. -/
theorem left_over {Y N1 N0 U u z : Nat} (hdig : DigIn Y N1 N0 U u) (hY : Y < W64) (hz : z = (U * H32 + u) / Y) :
    IntKind.u64.wrap (IntKind.u64.wrap (IntKind.u64.wrap ((U : Int) * 4294967296) + (u : Int)) - IntKind.u64.wrap ((z : Int) * (Y : Int))) = (((U * H32 + u) % Y : Nat) : Int) := by
  have h1 := Nat.div_add_mod (U * H32 + u) Y
  have h2 : (U * H32 + u) % Y < Y := Nat.mod_lt _ (by have := hdig.lt; omega)
  rw [← hz, Nat.mul_comm Y] at h1
  rw [← Int.natCast_mul]
  generalize (U * H32 + u) % Y = r at *
  generalize z * Y = P at *
  simp only [wrap_mod]
  rw [H32_eq] at h1
  rw [W64_eq] at hY
  omega

theorem prod_lt {q n : Nat} (h : q < 4294967296) (g : n < 4294967296) : q * n < W64 := by
  have h1 : q * n ≤ 4294967295 * 4294967295 := Nat.mul_le_mul (by omega) (by omega)
  rw [W64_eq]; omega

set_option maxHeartbeats 1000000 in
set_option maxRecDepth 100000 in
theorem div64_hi (hi lo y : Nat) (w : World) (hh : 0 < hi) (hl : lo < W64) (hy : hi < y) (hy2 : y < W64) :
    Calls Tryd.prog 73 #[.int .u64 (hi : Int), .int .u64 (lo : Int), .int .u64 (y : Int)] w fun e w' => e = .returned (D64Val hi lo y) ∧ w' = w := by
  have h0 : ((y : Int) == 0) = false := by rw [beq_eq_false_iff_ne]; omega
  have h00 : ((hi : Int) == 0) = false := by rw [beq_eq_false_iff_ne]; omega
  have h1 : ¬ (y : Int) ≤ (hi : Int) := by omega
  go_enter Tryd.func73, Tryd.ntmps73
  go_wp2_with fail
  refine (Tryd.bits_LeadingZeros64 _ _ (by omega) (by rw [W64_eq] at hy2; omega)).mono ?_
  rintro e w' ⟨rfl, rfl⟩
  rw [show Lib.bitLen ((y : Int).toNat) = Lib.bitLen y from rfl]
  have hbl := bitLen_bounds hy2 (by omega : y ≠ 0)
  obtain ⟨s, hs⟩ : ∃ s, Lib.bitLen y = 64 - s ∧ s ≤ 63 := ⟨64 - Lib.bitLen y, by omega, by omega⟩
  rw [hs.1, show (64 - ((64 - s : Nat) : Int)) = (s : Int) from by omega]
  have HS := Lib.hid hs.1
  have hs63 := hs.2
  clear hs hbl
  obtain ⟨Y, hY⟩ : ∃ Y, Y = y * 2 ^ s := ⟨_, rfl⟩
  obtain ⟨N1, hN1⟩ : ∃ N1, N1 = Y / 4294967296 := ⟨_, rfl⟩
  obtain ⟨N0, hN0⟩ : ∃ N0, N0 = Y % 4294967296 := ⟨_, rfl⟩
  obtain ⟨U, hU⟩ : ∃ U, U = hi * 2 ^ s + lo / 2 ^ (64 - s) := ⟨_, rfl⟩
  obtain ⟨V, hV⟩ : ∃ V, V = (lo * 2 ^ s) % W64 := ⟨_, rfl⟩
  obtain ⟨U1, hU1⟩ : ∃ U1, U1 = V / 4294967296 := ⟨_, rfl⟩
  obtain ⟨U0, hU0⟩ : ∃ U0, U0 = V % 4294967296 := ⟨_, rfl⟩
  have hfacts : DivFacts hi lo y s Y N1 N0 U V U1 U0 := divFacts hl hy hy2 HS.out hs63 (by omega) hY hN1 hN0 hU hV hU1 hU0
  obtain ⟨hw1, hw2, hw3, hw4, hw5, hw6, hw7, hdig, hall, hVb, hUb⟩ := hfacts
  have HYE := Lib.hid hY
  clear hY hN1 hN0 hU hV hU1 hU0
  have hN1a := hdig.lo
  have hN1b := hdig.hi
  have hN0b := hdig.n0
  have hU1b := hdig.u
  have hYb : Y < W64 := by have := hdig.y; rw [H32_eq] at *; rw [W64_eq]; omega
  have hUY := hdig.lt
  rw [H32_eq] at hN1b hN0b hU1b
  obtain ⟨Q, R, P, hprep⟩ := prep hdig hUb
  obtain ⟨hw8, hw9, hw10, hw11, hw12, hR, hQ, hinv⟩ := hprep
  have HDIG := Lib.hid hdig
  have HALL := Lib.hid hall
  have HINV := Lib.hid hinv
  clear hdig hall hinv
  go_wp2_with fail
  clear hw8 hw9 hw10 hw11 hw12 hw1 hw2 hw3 hw4 hw5 hw6 hw7
  have i3 : (N1 : Int) < 4294967296 := by omega
  have i4 : (U1 : Int) < 4294967296 := by omega
  have i5 : (U0 : Int) < 4294967296 := by omega
  have H3 := Lib.hid hN1b
  have H4 := Lib.hid hN0b
  have H6 := Lib.hid hN1a
  have H9 := Lib.hid hQ
  have i9 : (Q : Int) ≤ 4294967297 := by omega
  clear hN1b hN0b hU1b hN1a hQ
  go_loop [15, 16] (fun v r => ∃ q ρ : Nat, v = .int .u64 q ∧ r = .int .u64 ρ ∧ ρ < 4294967296 ∧ q ≤ 4294967297 ∧ Hid (DigInv Y N1 U U1 q ρ)) (fun v _ => (intOf v).toNat)
  case atStart => exact ⟨Q, R, rfl, rfl, by have := H3.out; omega, H9.out, HINV⟩
  case round =>
    obtain ⟨q, ρ, rfl, rfl, hρ, hq, HI⟩ := hrel
    have i1 : (ρ : Int) < 4294967296 := by omega
    have i2 : (q : Int) ≤ 4294967297 := by omega
    have hcases : 4294967296 ≤ q ∨ (q < 4294967296 ∧ 4294967296 * ρ + U1 < q * N0) ∨ (q < 4294967296 ∧ q * N0 ≤ 4294967296 * ρ + U1) := by
      rcases Nat.lt_or_ge q 4294967296 with h | h
      · rcases Nat.lt_or_ge (4294967296 * ρ + U1) (q * N0) with h' | h'
        · exact .inr (.inl ⟨h, h'⟩)
        · exact .inr (.inr ⟨h, h'⟩)
      · exact .inl h
    have HQ := Lib.hid hq
    have HR := Lib.hid hρ
    clear hq hρ
    rcases hcases with hc | ⟨hc, hp⟩ | ⟨hc, hp⟩
    · have hqd : decide ((4294967296 : Int) ≤ (q : Int)) = true := decide_eq_true (by omega)
      have hpos := HI.out.pos HDIG.out (.inl (by rw [H32_eq]; exact hc))
      have HNX := Lib.hid (HI.out.next HDIG.out (.inl (by rw [H32_eq]; exact hc)))
      have hq1 : 1 ≤ q := by omega
      clear hpos hc HI
      obtain ⟨k, hk⟩ : ∃ k, q = k + 1 := ⟨q - 1, by omega⟩
      have hk1 : (q : Int) - 1 = (k : Int) := by omega
      rw [show q - 1 = k from by omega] at HNX
      have hkq : k ≤ 4294967296 := by have := HQ.out; omega
      have HK := Lib.hid hk
      have HKQ := Lib.hid hkq
      clear hk hkq
      by_cases hbr : (4294967296 : Int) ≤ (ρ : Int) + (N1 : Int)
      · have hbd : decide ((4294967296 : Int) ≤ (ρ : Int) + (N1 : Int)) = true := decide_eq_true hbr
        have HZ := Lib.hid (HNX.out.left HDIG.out (by rw [H32_eq]; exact HKQ.out) (by rw [H32_eq]; omega))
        clear HNX
        have hlo1 := left_over HDIG.out hYb HZ.out
        obtain ⟨r1, hr1⟩ : ∃ r1, r1 = (U * H32 + U1) % Y := ⟨_, rfl⟩
        rw [← hr1] at hlo1
        have hr1Y : r1 < Y := by rw [hr1]; exact Nat.mod_lt _ (by omega)
        have hd2 : DigIn Y N1 N0 r1 U0 := ⟨HDIG.out.y, HDIG.out.n0, HDIG.out.lo, HDIG.out.hi, hr1Y, by rw [H32_eq]; omega⟩
        obtain ⟨Q2, R2, P2, hp2⟩ := prep hd2 (Nat.lt_trans hr1Y hYb)
        obtain ⟨v8, v9, v10, v11, v12, hR2, hQ2, hi2⟩ := hp2
        have hzb : k < 4294967296 := by have h := HDIG.out.q_lt; rw [← HZ.out, H32_eq] at h; exact h
        have i6 : (k : Int) < 4294967296 := by omega
        have HD2 := Lib.hid hd2
        have HI2 := Lib.hid hi2
        have HR1 := Lib.hid hr1
        have HQ2 := Lib.hid hQ2
        have HR2 := Lib.hid hR2
        have HZ1 := Lib.hid HZ.out
        have i8 : (Q2 : Int) ≤ 4294967297 := by omega
        clear hd2 hi2 hr1 hzb HZ hQ2 hR2
        go_wp2_with fail
        clear v8 v9 v10 v11 v12 hlo1
        go_loop [18, 16] (fun v r => ∃ q ρ : Nat, v = .int .u64 q ∧ r = .int .u64 ρ ∧ ρ < 4294967296 ∧ q ≤ 4294967297 ∧ Hid (DigInv Y N1 r1 U0 q ρ)) (fun v _ => (intOf v).toNat)
        case atStart => exact ⟨Q2, R2, rfl, rfl, by have := HR2.out; have := H3.out; omega, HQ2.out, HI2⟩
        case round =>
          obtain ⟨q, ρ, rfl, rfl, hρ, hq, HI⟩ := hrel
          have i1 : (ρ : Int) < 4294967296 := by omega
          have i2 : (q : Int) ≤ 4294967297 := by omega
          have hcases : 4294967296 ≤ q ∨ (q < 4294967296 ∧ 4294967296 * ρ + U0 < q * N0) ∨ (q < 4294967296 ∧ q * N0 ≤ 4294967296 * ρ + U0) := by
            rcases Nat.lt_or_ge q 4294967296 with h | h
            · rcases Nat.lt_or_ge (4294967296 * ρ + U0) (q * N0) with h' | h'
              · exact .inr (.inl ⟨h, h'⟩)
              · exact .inr (.inr ⟨h, h'⟩)
            · exact .inl h
          have HQ := Lib.hid hq
          have HR := Lib.hid hρ
          clear hq hρ
          rcases hcases with hc | ⟨hc, hp⟩ | ⟨hc, hp⟩
          · have hqd : decide ((4294967296 : Int) ≤ (q : Int)) = true := decide_eq_true (by omega)
            have hpos := HI.out.pos HD2.out (.inl (by rw [H32_eq]; exact hc))
            have HNX := Lib.hid (HI.out.next HD2.out (.inl (by rw [H32_eq]; exact hc)))
            have hq1 : 1 ≤ q := by omega
            clear hpos hc HI
            obtain ⟨k, hk⟩ : ∃ k, q = k + 1 := ⟨q - 1, by omega⟩
            have hk1 : (q : Int) - 1 = (k : Int) := by omega
            rw [show q - 1 = k from by omega] at HNX
            have hkq : k ≤ 4294967296 := by have := HQ.out; omega
            have HK := Lib.hid hk
            have HKQ := Lib.hid hkq
            clear hk hkq
            by_cases hbr : (4294967296 : Int) ≤ (ρ : Int) + (N1 : Int)
            · have hbd : decide ((4294967296 : Int) ≤ (ρ : Int) + (N1 : Int)) = true := decide_eq_true hbr
              have HZ := Lib.hid (HNX.out.left HD2.out (by rw [H32_eq]; exact HKQ.out) (by rw [H32_eq]; omega))
              clear HNX
              have hlo2 := left_over HD2.out hYb HZ.out
              have hfin := div_whole HYE.out (by omega : 0 < y) HALL.out
              rw [← HZ1.out, ← HR1.out, ← HZ.out] at hfin
              obtain ⟨r2, hr2⟩ : ∃ r2, r2 = (r1 * H32 + U0) % Y := ⟨_, rfl⟩
              rw [← hr2] at hlo2 hfin
              have HF := Lib.hid hfin
              have hz2b : k < 4294967296 := by have h := HD2.out.q_lt; rw [← HZ.out, H32_eq] at h; exact h
              have i7 : (k : Int) < 4294967296 := by omega
              have HZB := Lib.hid hz2b
              clear hr2 hfin hz2b
              go_wp2
              go_ret2
              refine ⟨?_, rfl⟩
              have hq := HF.out.1
              have hr := HF.out.2
              rw [H32_eq] at hq
              unfold D64Val
              rw [← hq, ← hr, Int.natCast_ediv, Int.natCast_pow]
              rfl
            · have hbd : decide ((4294967296 : Int) ≤ (ρ : Int) + (N1 : Int)) = false := decide_eq_false hbr
              go_wp2
              refine ⟨⟨k, ρ + N1, rfl, by go_num, by omega, by have := HKQ.out; omega, HNX⟩, ?_⟩
              have := HK.out
              simp [intOf]; omega
          · have hqd : decide ((4294967296 : Int) ≤ (q : Int)) = false := decide_eq_false (by omega)
            have hpos := HI.out.pos HD2.out (.inr (by rw [H32_eq]; exact hp))
            have HNX := Lib.hid (HI.out.next HD2.out (.inr (by rw [H32_eq]; exact hp)))
            have hq1 : 1 ≤ q := Nat.le_trans (Nat.le_add_left _ _) hpos
            have hpm := prod_lt hc H4.out
            obtain ⟨p0, hp0⟩ : ∃ p0, p0 = q * N0 := ⟨_, rfl⟩
            rw [← hp0] at hp hpm
            have hpw : IntKind.u64.wrap ((q : Int) * (N0 : Int)) = (p0 : Int) := by rw [← Int.natCast_mul, ← hp0, wrap_u64 _ hpm]
            have hgd : decide ((4294967296 : Int) * (ρ : Int) + (U0 : Int) < (p0 : Int)) = true := decide_eq_true (by omega)
            clear hpos hc HI hp hp0 hpm
            obtain ⟨k, hk⟩ : ∃ k, q = k + 1 := ⟨q - 1, by omega⟩
            have hk1 : (q : Int) - 1 = (k : Int) := by omega
            rw [show q - 1 = k from by omega] at HNX
            have hkq : k ≤ 4294967296 := by have := HQ.out; omega
            have HK := Lib.hid hk
            have HKQ := Lib.hid hkq
            clear hk hkq
            by_cases hbr : (4294967296 : Int) ≤ (ρ : Int) + (N1 : Int)
            · have hbd : decide ((4294967296 : Int) ≤ (ρ : Int) + (N1 : Int)) = true := decide_eq_true hbr
              have HZ := Lib.hid (HNX.out.left HD2.out (by rw [H32_eq]; exact HKQ.out) (by rw [H32_eq]; omega))
              clear HNX
              have hlo2 := left_over HD2.out hYb HZ.out
              have hfin := div_whole HYE.out (by omega : 0 < y) HALL.out
              rw [← HZ1.out, ← HR1.out, ← HZ.out] at hfin
              obtain ⟨r2, hr2⟩ : ∃ r2, r2 = (r1 * H32 + U0) % Y := ⟨_, rfl⟩
              rw [← hr2] at hlo2 hfin
              have HF := Lib.hid hfin
              have hz2b : k < 4294967296 := by have h := HD2.out.q_lt; rw [← HZ.out, H32_eq] at h; exact h
              have i7 : (k : Int) < 4294967296 := by omega
              have HZB := Lib.hid hz2b
              clear hr2 hfin hz2b
              go_wp2
              go_ret2
              refine ⟨?_, rfl⟩
              have hq := HF.out.1
              have hr := HF.out.2
              rw [H32_eq] at hq
              unfold D64Val
              rw [← hq, ← hr, Int.natCast_ediv, Int.natCast_pow]
              rfl
            · have hbd : decide ((4294967296 : Int) ≤ (ρ : Int) + (N1 : Int)) = false := decide_eq_false hbr
              go_wp2
              refine ⟨⟨k, ρ + N1, rfl, by go_num, by omega, by have := HKQ.out; omega, HNX⟩, ?_⟩
              have := HK.out
              simp [intOf]; omega
          · have hqd : decide ((4294967296 : Int) ≤ (q : Int)) = false := decide_eq_false (by omega)
            have HZ := Lib.hid (HI.out.done HD2.out (by rw [H32_eq]; exact hp))
            have hpm := prod_lt hc H4.out
            obtain ⟨p0, hp0⟩ : ∃ p0, p0 = q * N0 := ⟨_, rfl⟩
            rw [← hp0] at hp hpm
            have hpw : IntKind.u64.wrap ((q : Int) * (N0 : Int)) = (p0 : Int) := by rw [← Int.natCast_mul, ← hp0, wrap_u64 _ hpm]
            have hgd : decide ((4294967296 : Int) * (ρ : Int) + (U0 : Int) < (p0 : Int)) = false := decide_eq_false (by omega)
            clear hc HI hp hp0 hpm
            have hlo2 := left_over HD2.out hYb HZ.out
            have hfin := div_whole HYE.out (by omega : 0 < y) HALL.out
            rw [← HZ1.out, ← HR1.out, ← HZ.out] at hfin
            obtain ⟨r2, hr2⟩ : ∃ r2, r2 = (r1 * H32 + U0) % Y := ⟨_, rfl⟩
            rw [← hr2] at hlo2 hfin
            have HF := Lib.hid hfin
            have hz2b : q < 4294967296 := by have h := HD2.out.q_lt; rw [← HZ.out, H32_eq] at h; exact h
            have i7 : (q : Int) < 4294967296 := by omega
            have HZB := Lib.hid hz2b
            clear hr2 hfin hz2b
            go_wp2
            go_ret2
            refine ⟨?_, rfl⟩
            have hq := HF.out.1
            have hr := HF.out.2
            rw [H32_eq] at hq
            unfold D64Val
            rw [← hq, ← hr, Int.natCast_ediv, Int.natCast_pow]
            rfl
      · have hbd : decide ((4294967296 : Int) ≤ (ρ : Int) + (N1 : Int)) = false := decide_eq_false hbr
        go_wp2
        refine ⟨⟨k, ρ + N1, rfl, by go_num, by omega, by have := HKQ.out; omega, HNX⟩, ?_⟩
        have := HK.out
        simp [intOf]; omega
    · have hqd : decide ((4294967296 : Int) ≤ (q : Int)) = false := decide_eq_false (by omega)
      have hpos := HI.out.pos HDIG.out (.inr (by rw [H32_eq]; exact hp))
      have HNX := Lib.hid (HI.out.next HDIG.out (.inr (by rw [H32_eq]; exact hp)))
      have hq1 : 1 ≤ q := Nat.le_trans (Nat.le_add_left _ _) hpos
      have hpm := prod_lt hc H4.out
      obtain ⟨p0, hp0⟩ : ∃ p0, p0 = q * N0 := ⟨_, rfl⟩
      rw [← hp0] at hp hpm
      have hpw : IntKind.u64.wrap ((q : Int) * (N0 : Int)) = (p0 : Int) := by rw [← Int.natCast_mul, ← hp0, wrap_u64 _ hpm]
      have hgd : decide ((4294967296 : Int) * (ρ : Int) + (U1 : Int) < (p0 : Int)) = true := decide_eq_true (by omega)
      clear hpos hc HI hp hp0 hpm
      obtain ⟨k, hk⟩ : ∃ k, q = k + 1 := ⟨q - 1, by omega⟩
      have hk1 : (q : Int) - 1 = (k : Int) := by omega
      rw [show q - 1 = k from by omega] at HNX
      have hkq : k ≤ 4294967296 := by have := HQ.out; omega
      have HK := Lib.hid hk
      have HKQ := Lib.hid hkq
      clear hk hkq
      by_cases hbr : (4294967296 : Int) ≤ (ρ : Int) + (N1 : Int)
      · have hbd : decide ((4294967296 : Int) ≤ (ρ : Int) + (N1 : Int)) = true := decide_eq_true hbr
        have HZ := Lib.hid (HNX.out.left HDIG.out (by rw [H32_eq]; exact HKQ.out) (by rw [H32_eq]; omega))
        clear HNX
        have hlo1 := left_over HDIG.out hYb HZ.out
        obtain ⟨r1, hr1⟩ : ∃ r1, r1 = (U * H32 + U1) % Y := ⟨_, rfl⟩
        rw [← hr1] at hlo1
        have hr1Y : r1 < Y := by rw [hr1]; exact Nat.mod_lt _ (by omega)
        have hd2 : DigIn Y N1 N0 r1 U0 := ⟨HDIG.out.y, HDIG.out.n0, HDIG.out.lo, HDIG.out.hi, hr1Y, by rw [H32_eq]; omega⟩
        obtain ⟨Q2, R2, P2, hp2⟩ := prep hd2 (Nat.lt_trans hr1Y hYb)
        obtain ⟨v8, v9, v10, v11, v12, hR2, hQ2, hi2⟩ := hp2
        have hzb : k < 4294967296 := by have h := HDIG.out.q_lt; rw [← HZ.out, H32_eq] at h; exact h
        have i6 : (k : Int) < 4294967296 := by omega
        have HD2 := Lib.hid hd2
        have HI2 := Lib.hid hi2
        have HR1 := Lib.hid hr1
        have HQ2 := Lib.hid hQ2
        have HR2 := Lib.hid hR2
        have HZ1 := Lib.hid HZ.out
        have i8 : (Q2 : Int) ≤ 4294967297 := by omega
        clear hd2 hi2 hr1 hzb HZ hQ2 hR2
        go_wp2_with fail
        clear v8 v9 v10 v11 v12 hlo1
        go_loop [18, 16] (fun v r => ∃ q ρ : Nat, v = .int .u64 q ∧ r = .int .u64 ρ ∧ ρ < 4294967296 ∧ q ≤ 4294967297 ∧ Hid (DigInv Y N1 r1 U0 q ρ)) (fun v _ => (intOf v).toNat)
        case atStart => exact ⟨Q2, R2, rfl, rfl, by have := HR2.out; have := H3.out; omega, HQ2.out, HI2⟩
        case round =>
          obtain ⟨q, ρ, rfl, rfl, hρ, hq, HI⟩ := hrel
          have i1 : (ρ : Int) < 4294967296 := by omega
          have i2 : (q : Int) ≤ 4294967297 := by omega
          have hcases : 4294967296 ≤ q ∨ (q < 4294967296 ∧ 4294967296 * ρ + U0 < q * N0) ∨ (q < 4294967296 ∧ q * N0 ≤ 4294967296 * ρ + U0) := by
            rcases Nat.lt_or_ge q 4294967296 with h | h
            · rcases Nat.lt_or_ge (4294967296 * ρ + U0) (q * N0) with h' | h'
              · exact .inr (.inl ⟨h, h'⟩)
              · exact .inr (.inr ⟨h, h'⟩)
            · exact .inl h
          have HQ := Lib.hid hq
          have HR := Lib.hid hρ
          clear hq hρ
          rcases hcases with hc | ⟨hc, hp⟩ | ⟨hc, hp⟩
          · have hqd : decide ((4294967296 : Int) ≤ (q : Int)) = true := decide_eq_true (by omega)
            have hpos := HI.out.pos HD2.out (.inl (by rw [H32_eq]; exact hc))
            have HNX := Lib.hid (HI.out.next HD2.out (.inl (by rw [H32_eq]; exact hc)))
            have hq1 : 1 ≤ q := by omega
            clear hpos hc HI
            obtain ⟨k, hk⟩ : ∃ k, q = k + 1 := ⟨q - 1, by omega⟩
            have hk1 : (q : Int) - 1 = (k : Int) := by omega
            rw [show q - 1 = k from by omega] at HNX
            have hkq : k ≤ 4294967296 := by have := HQ.out; omega
            have HK := Lib.hid hk
            have HKQ := Lib.hid hkq
            clear hk hkq
            by_cases hbr : (4294967296 : Int) ≤ (ρ : Int) + (N1 : Int)
            · have hbd : decide ((4294967296 : Int) ≤ (ρ : Int) + (N1 : Int)) = true := decide_eq_true hbr
              have HZ := Lib.hid (HNX.out.left HD2.out (by rw [H32_eq]; exact HKQ.out) (by rw [H32_eq]; omega))
              clear HNX
              have hlo2 := left_over HD2.out hYb HZ.out
              have hfin := div_whole HYE.out (by omega : 0 < y) HALL.out
              rw [← HZ1.out, ← HR1.out, ← HZ.out] at hfin
              obtain ⟨r2, hr2⟩ : ∃ r2, r2 = (r1 * H32 + U0) % Y := ⟨_, rfl⟩
              rw [← hr2] at hlo2 hfin
              have HF := Lib.hid hfin
              have hz2b : k < 4294967296 := by have h := HD2.out.q_lt; rw [← HZ.out, H32_eq] at h; exact h
              have i7 : (k : Int) < 4294967296 := by omega
              have HZB := Lib.hid hz2b
              clear hr2 hfin hz2b
              go_wp2
              go_ret2
              refine ⟨?_, rfl⟩
              have hq := HF.out.1
              have hr := HF.out.2
              rw [H32_eq] at hq
              unfold D64Val
              rw [← hq, ← hr, Int.natCast_ediv, Int.natCast_pow]
              rfl
            · have hbd : decide ((4294967296 : Int) ≤ (ρ : Int) + (N1 : Int)) = false := decide_eq_false hbr
              go_wp2
              refine ⟨⟨k, ρ + N1, rfl, by go_num, by omega, by have := HKQ.out; omega, HNX⟩, ?_⟩
              have := HK.out
              simp [intOf]; omega
          · have hqd : decide ((4294967296 : Int) ≤ (q : Int)) = false := decide_eq_false (by omega)
            have hpos := HI.out.pos HD2.out (.inr (by rw [H32_eq]; exact hp))
            have HNX := Lib.hid (HI.out.next HD2.out (.inr (by rw [H32_eq]; exact hp)))
            have hq1 : 1 ≤ q := Nat.le_trans (Nat.le_add_left _ _) hpos
            have hpm := prod_lt hc H4.out
            obtain ⟨p0, hp0⟩ : ∃ p0, p0 = q * N0 := ⟨_, rfl⟩
            rw [← hp0] at hp hpm
            have hpw : IntKind.u64.wrap ((q : Int) * (N0 : Int)) = (p0 : Int) := by rw [← Int.natCast_mul, ← hp0, wrap_u64 _ hpm]
            have hgd : decide ((4294967296 : Int) * (ρ : Int) + (U0 : Int) < (p0 : Int)) = true := decide_eq_true (by omega)
            clear hpos hc HI hp hp0 hpm
            obtain ⟨k, hk⟩ : ∃ k, q = k + 1 := ⟨q - 1, by omega⟩
            have hk1 : (q : Int) - 1 = (k : Int) := by omega
            rw [show q - 1 = k from by omega] at HNX
            have hkq : k ≤ 4294967296 := by have := HQ.out; omega
            have HK := Lib.hid hk
            have HKQ := Lib.hid hkq
            clear hk hkq
            by_cases hbr : (4294967296 : Int) ≤ (ρ : Int) + (N1 : Int)
            · have hbd : decide ((4294967296 : Int) ≤ (ρ : Int) + (N1 : Int)) = true := decide_eq_true hbr
              have HZ := Lib.hid (HNX.out.left HD2.out (by rw [H32_eq]; exact HKQ.out) (by rw [H32_eq]; omega))
              clear HNX
              have hlo2 := left_over HD2.out hYb HZ.out
              have hfin := div_whole HYE.out (by omega : 0 < y) HALL.out
              rw [← HZ1.out, ← HR1.out, ← HZ.out] at hfin
              obtain ⟨r2, hr2⟩ : ∃ r2, r2 = (r1 * H32 + U0) % Y := ⟨_, rfl⟩
              rw [← hr2] at hlo2 hfin
              have HF := Lib.hid hfin
              have hz2b : k < 4294967296 := by have h := HD2.out.q_lt; rw [← HZ.out, H32_eq] at h; exact h
              have i7 : (k : Int) < 4294967296 := by omega
              have HZB := Lib.hid hz2b
              clear hr2 hfin hz2b
              go_wp2
              go_ret2
              refine ⟨?_, rfl⟩
              have hq := HF.out.1
              have hr := HF.out.2
              rw [H32_eq] at hq
              unfold D64Val
              rw [← hq, ← hr, Int.natCast_ediv, Int.natCast_pow]
              rfl
            · have hbd : decide ((4294967296 : Int) ≤ (ρ : Int) + (N1 : Int)) = false := decide_eq_false hbr
              go_wp2
              refine ⟨⟨k, ρ + N1, rfl, by go_num, by omega, by have := HKQ.out; omega, HNX⟩, ?_⟩
              have := HK.out
              simp [intOf]; omega
          · have hqd : decide ((4294967296 : Int) ≤ (q : Int)) = false := decide_eq_false (by omega)
            have HZ := Lib.hid (HI.out.done HD2.out (by rw [H32_eq]; exact hp))
            have hpm := prod_lt hc H4.out
            obtain ⟨p0, hp0⟩ : ∃ p0, p0 = q * N0 := ⟨_, rfl⟩
            rw [← hp0] at hp hpm
            have hpw : IntKind.u64.wrap ((q : Int) * (N0 : Int)) = (p0 : Int) := by rw [← Int.natCast_mul, ← hp0, wrap_u64 _ hpm]
            have hgd : decide ((4294967296 : Int) * (ρ : Int) + (U0 : Int) < (p0 : Int)) = false := decide_eq_false (by omega)
            clear hc HI hp hp0 hpm
            have hlo2 := left_over HD2.out hYb HZ.out
            have hfin := div_whole HYE.out (by omega : 0 < y) HALL.out
            rw [← HZ1.out, ← HR1.out, ← HZ.out] at hfin
            obtain ⟨r2, hr2⟩ : ∃ r2, r2 = (r1 * H32 + U0) % Y := ⟨_, rfl⟩
            rw [← hr2] at hlo2 hfin
            have HF := Lib.hid hfin
            have hz2b : q < 4294967296 := by have h := HD2.out.q_lt; rw [← HZ.out, H32_eq] at h; exact h
            have i7 : (q : Int) < 4294967296 := by omega
            have HZB := Lib.hid hz2b
            clear hr2 hfin hz2b
            go_wp2
            go_ret2
            refine ⟨?_, rfl⟩
            have hq := HF.out.1
            have hr := HF.out.2
            rw [H32_eq] at hq
            unfold D64Val
            rw [← hq, ← hr, Int.natCast_ediv, Int.natCast_pow]
            rfl
      · have hbd : decide ((4294967296 : Int) ≤ (ρ : Int) + (N1 : Int)) = false := decide_eq_false hbr
        go_wp2
        refine ⟨⟨k, ρ + N1, rfl, by go_num, by omega, by have := HKQ.out; omega, HNX⟩, ?_⟩
        have := HK.out
        simp [intOf]; omega
    · have hqd : decide ((4294967296 : Int) ≤ (q : Int)) = false := decide_eq_false (by omega)
      have HZ := Lib.hid (HI.out.done HDIG.out (by rw [H32_eq]; exact hp))
      have hpm := prod_lt hc H4.out
      obtain ⟨p0, hp0⟩ : ∃ p0, p0 = q * N0 := ⟨_, rfl⟩
      rw [← hp0] at hp hpm
      have hpw : IntKind.u64.wrap ((q : Int) * (N0 : Int)) = (p0 : Int) := by rw [← Int.natCast_mul, ← hp0, wrap_u64 _ hpm]
      have hgd : decide ((4294967296 : Int) * (ρ : Int) + (U1 : Int) < (p0 : Int)) = false := decide_eq_false (by omega)
      clear hc HI hp hp0 hpm
      have hlo1 := left_over HDIG.out hYb HZ.out
      obtain ⟨r1, hr1⟩ : ∃ r1, r1 = (U * H32 + U1) % Y := ⟨_, rfl⟩
      rw [← hr1] at hlo1
      have hr1Y : r1 < Y := by rw [hr1]; exact Nat.mod_lt _ (by omega)
      have hd2 : DigIn Y N1 N0 r1 U0 := ⟨HDIG.out.y, HDIG.out.n0, HDIG.out.lo, HDIG.out.hi, hr1Y, by rw [H32_eq]; omega⟩
      obtain ⟨Q2, R2, P2, hp2⟩ := prep hd2 (Nat.lt_trans hr1Y hYb)
      obtain ⟨v8, v9, v10, v11, v12, hR2, hQ2, hi2⟩ := hp2
      have hzb : q < 4294967296 := by have h := HDIG.out.q_lt; rw [← HZ.out, H32_eq] at h; exact h
      have i6 : (q : Int) < 4294967296 := by omega
      have HD2 := Lib.hid hd2
      have HI2 := Lib.hid hi2
      have HR1 := Lib.hid hr1
      have HQ2 := Lib.hid hQ2
      have HR2 := Lib.hid hR2
      have HZ1 := Lib.hid HZ.out
      have i8 : (Q2 : Int) ≤ 4294967297 := by omega
      clear hd2 hi2 hr1 hzb HZ hQ2 hR2
      go_wp2_with fail
      clear v8 v9 v10 v11 v12 hlo1
      go_loop [18, 16] (fun v r => ∃ q ρ : Nat, v = .int .u64 q ∧ r = .int .u64 ρ ∧ ρ < 4294967296 ∧ q ≤ 4294967297 ∧ Hid (DigInv Y N1 r1 U0 q ρ)) (fun v _ => (intOf v).toNat)
      case atStart => exact ⟨Q2, R2, rfl, rfl, by have := HR2.out; have := H3.out; omega, HQ2.out, HI2⟩
      case round =>
        obtain ⟨q, ρ, rfl, rfl, hρ, hq, HI⟩ := hrel
        have i1 : (ρ : Int) < 4294967296 := by omega
        have i2 : (q : Int) ≤ 4294967297 := by omega
        have hcases : 4294967296 ≤ q ∨ (q < 4294967296 ∧ 4294967296 * ρ + U0 < q * N0) ∨ (q < 4294967296 ∧ q * N0 ≤ 4294967296 * ρ + U0) := by
          rcases Nat.lt_or_ge q 4294967296 with h | h
          · rcases Nat.lt_or_ge (4294967296 * ρ + U0) (q * N0) with h' | h'
            · exact .inr (.inl ⟨h, h'⟩)
            · exact .inr (.inr ⟨h, h'⟩)
          · exact .inl h
        have HQ := Lib.hid hq
        have HR := Lib.hid hρ
        clear hq hρ
        rcases hcases with hc | ⟨hc, hp⟩ | ⟨hc, hp⟩
        · have hqd : decide ((4294967296 : Int) ≤ (q : Int)) = true := decide_eq_true (by omega)
          have hpos := HI.out.pos HD2.out (.inl (by rw [H32_eq]; exact hc))
          have HNX := Lib.hid (HI.out.next HD2.out (.inl (by rw [H32_eq]; exact hc)))
          have hq1 : 1 ≤ q := by omega
          clear hpos hc HI
          obtain ⟨k, hk⟩ : ∃ k, q = k + 1 := ⟨q - 1, by omega⟩
          have hk1 : (q : Int) - 1 = (k : Int) := by omega
          rw [show q - 1 = k from by omega] at HNX
          have hkq : k ≤ 4294967296 := by have := HQ.out; omega
          have HK := Lib.hid hk
          have HKQ := Lib.hid hkq
          clear hk hkq
          by_cases hbr : (4294967296 : Int) ≤ (ρ : Int) + (N1 : Int)
          · have hbd : decide ((4294967296 : Int) ≤ (ρ : Int) + (N1 : Int)) = true := decide_eq_true hbr
            have HZ := Lib.hid (HNX.out.left HD2.out (by rw [H32_eq]; exact HKQ.out) (by rw [H32_eq]; omega))
            clear HNX
            have hlo2 := left_over HD2.out hYb HZ.out
            have hfin := div_whole HYE.out (by omega : 0 < y) HALL.out
            rw [← HZ1.out, ← HR1.out, ← HZ.out] at hfin
            obtain ⟨r2, hr2⟩ : ∃ r2, r2 = (r1 * H32 + U0) % Y := ⟨_, rfl⟩
            rw [← hr2] at hlo2 hfin
            have HF := Lib.hid hfin
            have hz2b : k < 4294967296 := by have h := HD2.out.q_lt; rw [← HZ.out, H32_eq] at h; exact h
            have i7 : (k : Int) < 4294967296 := by omega
            have HZB := Lib.hid hz2b
            clear hr2 hfin hz2b
            go_wp2
            go_ret2
            refine ⟨?_, rfl⟩
            have hq := HF.out.1
            have hr := HF.out.2
            rw [H32_eq] at hq
            unfold D64Val
            rw [← hq, ← hr, Int.natCast_ediv, Int.natCast_pow]
            rfl
          · have hbd : decide ((4294967296 : Int) ≤ (ρ : Int) + (N1 : Int)) = false := decide_eq_false hbr
            go_wp2
            refine ⟨⟨k, ρ + N1, rfl, by go_num, by omega, by have := HKQ.out; omega, HNX⟩, ?_⟩
            have := HK.out
            simp [intOf]; omega
        · have hqd : decide ((4294967296 : Int) ≤ (q : Int)) = false := decide_eq_false (by omega)
          have hpos := HI.out.pos HD2.out (.inr (by rw [H32_eq]; exact hp))
          have HNX := Lib.hid (HI.out.next HD2.out (.inr (by rw [H32_eq]; exact hp)))
          have hq1 : 1 ≤ q := Nat.le_trans (Nat.le_add_left _ _) hpos
          have hpm := prod_lt hc H4.out
          obtain ⟨p0, hp0⟩ : ∃ p0, p0 = q * N0 := ⟨_, rfl⟩
          rw [← hp0] at hp hpm
          have hpw : IntKind.u64.wrap ((q : Int) * (N0 : Int)) = (p0 : Int) := by rw [← Int.natCast_mul, ← hp0, wrap_u64 _ hpm]
          have hgd : decide ((4294967296 : Int) * (ρ : Int) + (U0 : Int) < (p0 : Int)) = true := decide_eq_true (by omega)
          clear hpos hc HI hp hp0 hpm
          obtain ⟨k, hk⟩ : ∃ k, q = k + 1 := ⟨q - 1, by omega⟩
          have hk1 : (q : Int) - 1 = (k : Int) := by omega
          rw [show q - 1 = k from by omega] at HNX
          have hkq : k ≤ 4294967296 := by have := HQ.out; omega
          have HK := Lib.hid hk
          have HKQ := Lib.hid hkq
          clear hk hkq
          by_cases hbr : (4294967296 : Int) ≤ (ρ : Int) + (N1 : Int)
          · have hbd : decide ((4294967296 : Int) ≤ (ρ : Int) + (N1 : Int)) = true := decide_eq_true hbr
            have HZ := Lib.hid (HNX.out.left HD2.out (by rw [H32_eq]; exact HKQ.out) (by rw [H32_eq]; omega))
            clear HNX
            have hlo2 := left_over HD2.out hYb HZ.out
            have hfin := div_whole HYE.out (by omega : 0 < y) HALL.out
            rw [← HZ1.out, ← HR1.out, ← HZ.out] at hfin
            obtain ⟨r2, hr2⟩ : ∃ r2, r2 = (r1 * H32 + U0) % Y := ⟨_, rfl⟩
            rw [← hr2] at hlo2 hfin
            have HF := Lib.hid hfin
            have hz2b : k < 4294967296 := by have h := HD2.out.q_lt; rw [← HZ.out, H32_eq] at h; exact h
            have i7 : (k : Int) < 4294967296 := by omega
            have HZB := Lib.hid hz2b
            clear hr2 hfin hz2b
            go_wp2
            go_ret2
            refine ⟨?_, rfl⟩
            have hq := HF.out.1
            have hr := HF.out.2
            rw [H32_eq] at hq
            unfold D64Val
            rw [← hq, ← hr, Int.natCast_ediv, Int.natCast_pow]
            rfl
          · have hbd : decide ((4294967296 : Int) ≤ (ρ : Int) + (N1 : Int)) = false := decide_eq_false hbr
            go_wp2
            refine ⟨⟨k, ρ + N1, rfl, by go_num, by omega, by have := HKQ.out; omega, HNX⟩, ?_⟩
            have := HK.out
            simp [intOf]; omega
        · have hqd : decide ((4294967296 : Int) ≤ (q : Int)) = false := decide_eq_false (by omega)
          have HZ := Lib.hid (HI.out.done HD2.out (by rw [H32_eq]; exact hp))
          have hpm := prod_lt hc H4.out
          obtain ⟨p0, hp0⟩ : ∃ p0, p0 = q * N0 := ⟨_, rfl⟩
          rw [← hp0] at hp hpm
          have hpw : IntKind.u64.wrap ((q : Int) * (N0 : Int)) = (p0 : Int) := by rw [← Int.natCast_mul, ← hp0, wrap_u64 _ hpm]
          have hgd : decide ((4294967296 : Int) * (ρ : Int) + (U0 : Int) < (p0 : Int)) = false := decide_eq_false (by omega)
          clear hc HI hp hp0 hpm
          have hlo2 := left_over HD2.out hYb HZ.out
          have hfin := div_whole HYE.out (by omega : 0 < y) HALL.out
          rw [← HZ1.out, ← HR1.out, ← HZ.out] at hfin
          obtain ⟨r2, hr2⟩ : ∃ r2, r2 = (r1 * H32 + U0) % Y := ⟨_, rfl⟩
          rw [← hr2] at hlo2 hfin
          have HF := Lib.hid hfin
          have hz2b : q < 4294967296 := by have h := HD2.out.q_lt; rw [← HZ.out, H32_eq] at h; exact h
          have i7 : (q : Int) < 4294967296 := by omega
          have HZB := Lib.hid hz2b
          clear hr2 hfin hz2b
          go_wp2
          go_ret2
          refine ⟨?_, rfl⟩
          have hq := HF.out.1
          have hr := HF.out.2
          rw [H32_eq] at hq
          unfold D64Val
          rw [← hq, ← hr, Int.natCast_ediv, Int.natCast_pow]
          rfl

theorem div64_any (hi lo y : Nat) (w : World) (hl : lo < W64) (hy : hi < y) (hy2 : y < W64) :
    Calls Tryd.prog 73 #[.int .u64 (hi : Int), .int .u64 (lo : Int), .int .u64 (y : Int)] w fun e w' => e = .returned (D64Val hi lo y) ∧ ∃ n, w' = w.drewN n := by
  rcases Nat.eq_zero_or_pos hi with rfl | h
  · refine (div64_lo lo y w hl (by omega)).mono fun e w' ⟨he, hw⟩ => ⟨?_, hw⟩
    rw [he]; unfold D64Val; rw [Nat.zero_mul, Nat.zero_add]
  · exact (div64_hi hi lo y w h hl hy hy2).mono fun e w' ⟨he, hw⟩ => ⟨he, 0, hw⟩
end Go.Proofs.YtoadjhmehgkeaaaDoor

namespace Go.Proofs.YtoadjhmehgkeaaaDoor
open Go.RowKit Mth

theorem infoW : (Tryd.prog.info? 57).map (fun i => (i.zero, i.size, i.bytes)) = some (some (.int .u64 0), 1, 8) := by kernel_rfl
def bytesOf (s : ByteArray) : ByteArray := ⟨(canon s.data.toList).toArray⟩

theorem wordsOf_any (s : ByteArray) (w : World) (hs : s.size ≤ 1099511627776) :
    Calls Tryd.prog 31 #[.string s] w fun e w' => ∃ b xs, e = .returned (.slice (some ⟨b, 0, none⟩) xs.length xs.length) ∧ w.heap.size ≤ b ∧ Blk .u64 57 w' b xs ∧ w.grownBy w' none ∧ Words xs (num s.data.toList) ∧ xs.length ≤ 137438953473 := by
  have hls : (bytesOf s).size ≤ s.size := canon_length_le _
  have hrt : Rt (bytesOf s).data.toList := rt_canon _
  have hnum : num (bytesOf s).data.toList = num s.data.toList := num_canon _
  generalize ht : (bytesOf s) = t at hls hrt hnum
  have HT := Lib.hid ht
  have HR := Lib.hid hrt
  have HV := Lib.hid hnum
  clear ht hrt hnum
  obtain ⟨i0, hi, hz0, hz1, hz2⟩ := info_parts infoW
  obtain ⟨n, hn⟩ : ∃ n, n = (t.size + 7) / 8 := ⟨_, rfl⟩
  have HN := Lib.hid hn
  have hn1 : n * 8 ≤ t.size + 7 := by omega
  have hn2 : t.size ≤ n * 8 := by omega
  clear hn
  go_enter Tryd.func31, Tryd.ntmps31
  go_wp2_with fail
  refine (withoutZeros_any s _).mono ?_
  rintro e w' ⟨rfl, rfl⟩
  rw [show (⟨(canon s.data.toList).toArray⟩ : ByteArray) = t from HT.out]
  go_wp2_with (at_make; refine wpList_make_full _ rfl _ _ 51 rfl 0 57 i0 (.int .u64 0) 1 Tryd.underlying51 hi hz0 hz1 .i64 .i64 _ _ n rfl rfl ?_ ?_ ?_ ?_ (Nat.zero_le _) ?_)
  case refine_1 => have := HN.out; omega
  case refine_2 => have := HN.out; omega
  case refine_3 => rw [hz2]; omega
  case refine_4 => unfold maxLen; omega
  intro w1 hown hgr
  have hb0 := blk_made' hown
  rw [← wordsN_zero, ← front_zero t.data.toList] at hb0
  clear hown hi hz0 hz1 hz2
  go_wp2
  go_loopw [16] (fun j wr => ∃ i : Nat, i ≤ t.size ∧ j = .int .i64 i ∧ Blk .u64 57 wr w.heap.size (wordsN n (front t.data.toList i)) ∧ w.grownBy wr none) (fun j _ => t.size - (intOf j).toNat)
  case atStart => exact ⟨0, Nat.zero_le _, rfl, hb0, hgr⟩
  case round =>
    obtain ⟨i, hile, rfl, hbz, hg⟩ := hrel
    by_cases hlt : i < t.size
    · have hlen : (wordsN n (front t.data.toList i)).length = n := length_wordsN _ _
      have hcell : wr.cell? ⟨w.heap.size, (t.size - 1 - i) / 8, none⟩ = some (.int .u64 ((gt (wordsN n (front t.data.toList i)) ((t.size - 1 - i) / 8) : Nat) : Int)) := hbz.cell (by omega)
      have hfr : wr.frozen? ⟨w.heap.size, (t.size - 1 - i) / 8, none⟩ = false := hbz.frozen _
      have hq : (t.size - 1 - i) / 8 < n := by omega
      have hres : (wordsN n (front t.data.toList i)).set ((t.size - 1 - i) / 8) (gt (wordsN n (front t.data.toList i)) ((t.size - 1 - i) / 8) ||| (t[i].toNat * 256 ^ ((t.size - 1 - i) % 8))) = wordsN n (front t.data.toList (i + 1)) :=
        words_round t.data.toList (i := i) (q := (t.size - 1 - i) / 8) (r := (t.size - 1 - i) % 8) hlt (by show t.size - 1 - i = _; omega) (Nat.mod_lt _ (by decide)) hq rfl
      have hor := or_word (gt (wordsN n (front t.data.toList i)) ((t.size - 1 - i) / 8)) t[i].toNat ((t.size - 1 - i) % 8) (dg_wordsN _ _ _) t[i].toNat_lt (Nat.mod_lt _ (by decide))
      have HRES := Lib.hid hres
      have HOR := Lib.hid hor
      clear hb0 hres hor
      go_wp2
      go_region
      go_wp2
      refine ⟨⟨i + 1, by omega, by go_num, ?_, ?_⟩, by simp [intOf]; omega⟩
      · rw [HOR.out, ← HRES.out]
        exact (hbz.set _ _).drew
      · exact gr_trans (gr_trans hg (gr_set _ _ _ _) (.inl rfl) (.inr (.inr fun k e => by cases e; exact Nat.le_refl _))) (gr_drew _ none) (.inl rfl) (.inl rfl)
    · obtain rfl : i = t.size := by omega
      have hw := words_of (HR.out)
      rw [HV.out] at hw
      go_wp2
      go_ret
      have hl : (wordsN n (front t.data.toList t.size)).length = n := length_wordsN _ _
      refine ⟨w.heap.size, wordsN n (front t.data.toList t.size), ?_, Nat.le_refl _, hbz, hg, ?_, by rw [hl]; omega⟩
      · rw [hl]; rfl
      · rw [show front t.data.toList t.size = num t.data.toList from front_all _, HN.out, HV.out]
        rw [HV.out] at *
        exact hw
end Go.Proofs.YtoadjhmehgkeaaaDoor

namespace Go.Proofs.YtoadjhmehgkeaaaDoor
open Go.RowKit Mth

theorem infoB : (Tryd.prog.info? 5).map (fun i => (i.zero, i.size, i.bytes)) = some (some (.int .u8 0), 1, 1) := by kernel_rfl

theorem nums_u8s (xs : List Nat) : strOfNums (xs.map fun v : Nat => (v : Int)) = ⟨(u8s xs).toArray⟩ := by
  simp [strOfNums, u8s]

theorem natOf_any (b off n c : Nat) (xs : List Nat) (w : World) (hb : Blk .u64 57 w b xs) (hn : off + n ≤ xs.length) (hd : Dg W64 xs) (hc : n ≤ c) (hm : c ≤ maxLen) (hsm : n ≤ 1099511627776) :
    Calls Tryd.prog 29 #[.slice (some ⟨b, off, none⟩) n c] w fun e w' => e = .returned (.string ⟨(enc (vs W64 xs off n)).toArray⟩) ∧ w.grownBy w' none := by
  obtain ⟨i0, hi, hz0, hz1, hz2⟩ := info_parts infoB
  have hm' := hm
  unfold maxLen at hm'
  go_enter Tryd.func29, Tryd.ntmps29
  go_wp2_with fail
  refine (trimmed_any b off n c xs w hb hn hc hm).mono ?_
  rintro e w' ⟨⟨m, rfl, hmn, hz, htop⟩, rfl⟩
  have hv : vs W64 xs off n = vs W64 xs off m := by
    obtain ⟨k, rfl⟩ : ∃ k, n = m + k := ⟨n - m, by omega⟩
    rw [vs_split, vs_zero (n := k) (fun i hi => by rw [Nat.add_assoc]; exact hz _ (by omega) (by omega))]; simp
  have HV := Lib.hid hv
  have HZ := Lib.hid hz
  have HT := Lib.hid htop
  clear hv hz htop
  by_cases hm0 : m = 0
  · subst hm0
    go_wp2
    go_ret
    refine ⟨?_, World.grownBy.refl _ _⟩
    rw [HV.out]
    simp [vs, enc_zero]
  · have hcell : w.cell? ⟨b, off + (m - 1), none⟩ = some (.int .u64 ((gt xs (off + (m - 1)) : Nat) : Int)) := hb.cell (by omega)
    obtain ⟨x, hx⟩ : ∃ x, x = gt xs (off + (m - 1)) := ⟨_, rfl⟩
    have hxW := hd (off + (m - 1))
    rw [← hx] at hcell hxW
    have HX := Lib.hid hx
    clear hx
    have hx0 : x ≠ 0 := by rcases HT.out with h | h; exact absurd h hm0; rw [HX.out]; exact h
    have hm1 : ((m : Int) == 0) = false := by simp; omega
    have hbl := byteLen hxW hx0
    have hb64 := (bitLen_bounds hxW hx0).2.1
    generalize hB : Lib.bitLen x = B at hbl hb64
    have HB := Lib.hid hB
    clear hB
    go_wp2_with fail
    refine (Tryd.bits_Len64 x _ (by omega) (by rw [W64_eq] at hxW; omega)).mono ?_
    rintro e w' ⟨rfl, rfl⟩
    rw [show Lib.bitLen ((x : Int).toNat) = B from HB.out]
    obtain ⟨L, hL⟩ : ∃ L, L = 8 * (m - 1) + (B + 7) / 8 := ⟨_, rfl⟩
    have hL1 : 1 ≤ L := by omega
    have hL2 : L ≤ 8 * m := by omega
    have hL3 : 8 * (m - 1) < L := by omega
    have HL := Lib.hid hL
    clear hL
    go_wp2_with (at_make; refine wpList_make_full _ rfl _ _ 22 rfl 0 5 i0 (.int .u8 0) 1 Tryd.underlying22 hi hz0 hz1 .i64 .i64 _ _ L rfl rfl ?_ ?_ ?_ ?_ (Nat.zero_le _) ?_)
    case refine_1 => have := HL.out; omega
    case refine_2 => have := HL.out; omega
    case refine_3 => rw [hz2]; omega
    case refine_4 => unfold maxLen; omega
    intro w1 hown hgr
    obtain ⟨N, hN⟩ : ∃ N, N = vs W64 xs off m := ⟨_, rfl⟩
    have HNN := Lib.hid hN
    clear hN
    have hb0 := blk_made' hown
    rw [← fillN_zero L N] at hb0
    have hbw := hb.kept hgr (by simp)
    have hgw : w'.heap.size ≠ b := by have := hb.lt; omega
    clear hown hi hz0 hz1 hz2 hcell hb
    go_wp2
    go_loopw [30] (fun j wr => ∃ i : Nat, i ≤ L ∧ j = .int .i64 i ∧ Blk .u8 5 wr w'.heap.size (fillN L N i) ∧ Blk .u64 57 wr b xs ∧ w'.grownBy wr none) (fun j _ => L - (intOf j).toNat)
    case atStart => exact ⟨0, Nat.zero_le _, rfl, hb0, hbw, hgr⟩
    case round =>
      obtain ⟨i, hile, rfl, hbz, hbr, hg⟩ := hrel
      by_cases hlt : i < L
      · have hcell : wr.cell? ⟨b, off + (L - 1 - i) / 8, none⟩ = some (.int .u64 ((gt xs (off + (L - 1 - i) / 8) : Nat) : Int)) := hbr.cell (by omega)
        have hfr : wr.frozen? ⟨w'.heap.size, i, none⟩ = false := hbz.frozen _
        have hold : wr.cell? ⟨w'.heap.size, i, none⟩ = some (.int .u8 ((gt (fillN L N i) i : Nat) : Int)) := hbz.cell (by rw [length_fillN]; exact hlt)
        have hbyte : gt xs (off + (L - 1 - i) / 8) / 256 ^ ((L - 1 - i) % 8) % 256 = N / 256 ^ (L - 1 - i) % 256 := by
          rw [byte_of_word (m := m) hd HNN.out.symm (by omega) (Nat.mod_lt _ (by decide)), show 8 * ((L - 1 - i) / 8) + (L - 1 - i) % 8 = L - 1 - i from by omega]
        have hset := fillN_set (N := N) hlt hbyte
        have HS := Lib.hid hset
        clear hb0 hbw hbyte hset
        go_wp2
        refine ⟨⟨i + 1, by omega, by go_num, ?_, hbr.setOther (by omega) _ _, gr_trans hg (gr_set _ _ _ _) (.inl rfl) (.inr (.inr fun k e => by cases e; exact Nat.le_refl _))⟩, by simp [intOf]; omega⟩
        rw [byte_word, ← HS.out]
        exact hbz.set _ _
      · obtain rfl : i = L := by omega
        have hcv := fun (dst : TypeId) (hd : Tryd.prog.underlying dst = some .string) => run_convert_bytes_arg (P := Tryd.prog) wr 22 5 Tryd.underlying22 Tryd.underlying5 w'.heap.size 0 i i ((fillN i N i).map fun v : Nat => (v : Int)) (by simp [length_fillN]) (fun j hj => by
          rw [Nat.zero_add, hbz.cell (by rw [length_fillN]; exact hj)]
          simp [gt, List.getD, hj, length_fillN]) dst hd
        have hc2 := hcv 24 Tryd.underlying24
        generalize hstr : strOfNums ((fillN i N i).map fun v : Nat => (v : Int)) = str at hc2
        have HSTR := Lib.hid hstr
        clear hcv hstr hb0 hbw
        go_wp2
        go_ret
        refine ⟨?_, hg⟩
        have hmm : m - 1 + 1 = m := by omega
        have htb := top_bounds (off := off) hd (HX.out.symm) hx0
        rw [hmm, ← HNN.out, HB.out, ← HL.out] at htb
        have henc : u8s (bytesN i N) = enc N := u8s_bytesN (.inl htb.1) htb.2
        rw [HV.out, ← HNN.out, ← henc, ← fillN_all, ← nums_u8s, HSTR.out]; rfl
end Go.Proofs.YtoadjhmehgkeaaaDoor

namespace Go.Proofs.YtoadjhmehgkeaaaDoor
open Go.RowKit Mth

def copied (zs xs : List Nat) (off o1 m : Nat) : List Nat := zs.take off ++ ((xs.drop o1).take m ++ zs.drop (off + m))
theorem length_copied {zs xs : List Nat} {off o1 m : Nat} (h1 : off + m ≤ zs.length) (h2 : o1 + m ≤ xs.length) : (copied zs xs off o1 m).length = zs.length := by
  simp [copied]; omega
theorem gt_copied {zs xs : List Nat} {off o1 m : Nat} (h1 : off + m ≤ zs.length) (h2 : o1 + m ≤ xs.length) (i : Nat) : gt (copied zs xs off o1 m) i = if off ≤ i ∧ i < off + m then gt xs (o1 + (i - off)) else gt zs i := by
  have hl1 : (zs.take off).length = off := by simp; omega
  have hl2 : ((xs.drop o1).take m).length = m := by simp; omega
  unfold copied
  by_cases ha : i < off
  · rw [if_neg (by omega), gt_append_left (by omega), gt_take ha]
  · rw [gt_append_right (by omega), hl1]
    by_cases hb : i < off + m
    · rw [if_pos (by omega), gt_append_left (by omega), gt_take (by omega), gt_drop]
    · rw [if_neg (by omega), gt_append_right (by omega), hl2, gt_drop]
      congr 1; omega

theorem gr_setRow (w : World) (g : Nat) (cs : Array Value) : w.grownBy (w.setRow g cs) (some g) :=
  ⟨rfl, rfl, rfl, by simp, fun k _ hne => setRow_other w g k cs (by intro e; exact hne (by rw [e]))⟩

theorem wpList_copy_blk {P : Program} {w : World} {ops : Array Oper} {rest : List Oper} {o : Oper} {a : Act} {Q : Exit → Act → World → Prop} (hgd : o.guard = none) (d s : Operand) (dT sT : TypeId)
    (ho : o.op = .call { callee := .builtin .copy, args := #[d, s], argTypes := #[dT, sT] }) (elem : TypeId) (hu : P.underlying dT = some (.slice elem)) (hsz : (P.info? elem).map (·.size) = some 1)
    (k : IntKind) (e : TypeId) (g off dLen dCap b1 o1 n1 c1 : Nat) (zs xs : List Nat) (hd : a.eval d = .slice (some ⟨g, off, none⟩) dLen dCap) (hs : a.eval s = .slice (some ⟨b1, o1, none⟩) n1 c1)
    (hz : Blk k e w g zs) (hx : Blk k e w b1 xs) (hn : o1 + n1 ≤ xs.length) (hfit : off + dLen ≤ zs.length)
    (h : ∀ w', Blk k e w' g (copied zs xs off o1 (Nat.min n1 dLen)) → w.grownBy w' (some g) → wpList P ops Q rest (a.put o.dst (goInt (Nat.min n1 dLen))) w') :
    wpList P ops Q (o :: rest) a w := by
  have hm1 : Nat.min n1 dLen ≤ n1 := Nat.min_le_left _ _
  have hm2 : Nat.min n1 dLen ≤ dLen := Nat.min_le_right _ _
  generalize hm : Nat.min n1 dLen = m at h hm1 hm2
  have hl2 : (cellsOf k ((xs.drop o1).take m)).length = m := by rw [length_cellsOf]; simp; omega
  refine wpList_copy_own hgd d s dT sT ho elem hu hsz g off dLen dCap ⟨b1, o1, none⟩ n1 c1 hd hs (cellsOf k zs).toArray e hz (cellsOf k ((xs.drop o1).take m)) (by rw [hl2, hm]) ?_ ?_ ?_ ?_
  · intro j v hv
    have hj : j < m := by have := (List.getElem?_eq_some_iff.1 hv).1; omega
    rw [Addr.add_lit, hx.cell (by omega)]
    rw [cellsOf_get k _ _ (by simp; omega), gt_take hj, gt_drop] at hv
    exact hv
  · rw [hl2]; simp [length_cellsOf]; omega
  · intro v hv
    simp only [cellsOf, List.mem_map] at hv
    obtain ⟨n, _, rfl⟩ := hv
    rfl
  · rw [hl2]
    refine h _ ?_ (gr_setRow _ _ _)
    have := setRow_heap w g _ ((cellsOf k zs).toArray.toList.take off ++ (cellsOf k ((xs.drop o1).take m) ++ (cellsOf k zs).toArray.toList.drop (off + m))).toArray e (0, 0) hz
    unfold Blk
    rw [this]
    simp [copied, cellsOf, List.map_take, List.map_drop]
end Go.Proofs.YtoadjhmehgkeaaaDoor

namespace Go.Proofs.YtoadjhmehgkeaaaDoor
open Go.RowKit Mth

theorem sum_any (b1 o1 n1 c1 b2 o2 n2 c2 : Nat) (xs ys : List Nat) (w : World) (hb : Blk .u64 57 w b1 xs) (hn : o1 + n1 ≤ xs.length) (hd : Dg W64 xs)
    (hb2 : Blk .u64 57 w b2 ys) (hn2 : o2 + n2 ≤ ys.length) (hd2 : Dg W64 ys) (hs1 : n1 ≤ 1099511627775) (hs2 : n2 ≤ 1099511627775) :
    Calls Tryd.prog 38 #[.slice (some ⟨b1, o1, none⟩) n1 c1, .slice (some ⟨b2, o2, none⟩) n2 c2] w fun e w' => ∃ b zs, e = .returned (.slice (some ⟨b, 0, none⟩) zs.length zs.length) ∧ w.heap.size ≤ b ∧ Blk .u64 57 w' b zs ∧ w.grownBy w' none ∧ Dg W64 zs ∧ zs.length = max n1 n2 + 1 ∧ vs W64 zs 0 zs.length = vs W64 xs o1 n1 + vs W64 ys o2 n2 := by
  obtain ⟨i0, hi, hz0, hz1, hz2⟩ := info_parts infoW
  obtain ⟨T, hT⟩ : ∃ T, T = max n1 n2 + 1 := ⟨_, rfl⟩
  have hT1 : n1 + 1 ≤ T := by omega
  have hT2 : n2 + 1 ≤ T := by omega
  have hT3 : T ≤ 1099511627776 := by omega
  have HT := Lib.hid hT
  clear hT
  go_enter Tryd.func38, Tryd.ntmps38
  go_wp2_with (at_make; refine wpList_make_full _ rfl _ _ 51 rfl 0 57 i0 (.int .u64 0) 1 Tryd.underlying51 hi hz0 hz1 .i64 .i64 _ _ T rfl rfl ?_ ?_ ?_ ?_ (Nat.zero_le _) ?_)
  case refine_1 => have := HT.out; omega
  case refine_2 => have := HT.out; omega
  case refine_3 => rw [hz2]; omega
  case refine_4 => unfold maxLen; omega
  intro w1 hown hgr
  have hb0 := blk_made' hown
  have hl0 : (List.replicate T 0 : List Nat).length = T := List.length_replicate
  have hzz : ∀ j, gt (List.replicate T 0) j = 0 := fun j => by simp [gt, List.getD, List.getElem?_replicate]; split <;> rfl
  have HLZ := Lib.hid hl0
  have HZZ := Lib.hid hzz
  generalize (List.replicate T 0 : List Nat) = z0 at hb0 HLZ HZZ
  clear hown hi hz0 hz1 hz2 hl0 hzz
  have hbr := hb.kept hgr (by simp)
  have hb2r := hb2.kept hgr (by simp)
  have hlt1 := hb.lt
  have hlt2 := hb2.lt
  have hmin : Nat.min n1 T = n1 := Nat.min_eq_left (by omega)
  have HMIN := Lib.hid hmin
  clear hmin
  go_wp2_with (with_reducible refine wpList_copy_blk rfl (.tmp 13) (.tmp 14) 51 51 rfl 57 Tryd.underlying51 (by kernel_rfl) .u64 57 w.heap.size 0 T T b1 o1 n1 c1 z0 xs rfl rfl hb0 hbr hn ?_ ?_)
  case refine_1 => rw [HLZ.out]; omega
  intro w2 hb3 hg2
  have hl1 : o1 + Nat.min n1 T ≤ xs.length := by rw [HMIN.out]; exact hn
  have hl2 : 0 + Nat.min n1 T ≤ z0.length := by rw [HMIN.out, HLZ.out]; omega
  have hlc := (length_copied hl2 hl1).trans HLZ.out
  have hgc := gt_copied hl2 hl1
  rw [HMIN.out] at hgc hlc hb3
  have HLC := Lib.hid hlc
  have HGC := Lib.hid hgc
  generalize copied z0 xs 0 o1 n1 = us at hb3 HLC HGC
  clear hl1 hl2 hlc hgc
  have hdu : Dg W64 us := by
    intro i
    rw [HGC.out]
    split
    · exact hd _
    · rw [HZZ.out]; exact W64_pos
  have hb2r2 := hb2r.kept hg2 (by simp; omega)
  have hvu : vs W64 us 0 T = vs W64 xs o1 n1 := by
    obtain ⟨k, rfl⟩ : ∃ k, T = n1 + k := ⟨T - n1, by omega⟩
    rw [vs_split, vs_zero (off := 0 + n1) (n := k) (fun i _ => by rw [HGC.out, if_neg (by omega)]; exact HZZ.out _)]
    rw [vs_congr (ys := xs) (off' := o1) (n := n1) (fun i hi => by rw [HGC.out, if_pos (by omega)]; congr 1; omega)]
    simp
  have HVU := Lib.hid hvu
  clear hvu
  go_wp2_with fail
  refine (addTo_any w.heap.size 0 T T b2 o2 n2 c2 us ys w2 hb3 (by rw [HLC.out]; omega) hdu (Nat.le_refl _) (by unfold maxLen; omega) hb2r2 hn2 hd2 (by omega) (by omega)).mono ?_
  rintro e w3 ⟨rfl, vv, hv, hg3, hadd⟩
  obtain ⟨a1, a2, κ, a3⟩ := hadd
  have hlv : vv.length = T := a1.len.trans HLC.out
  have hB : vs W64 xs o1 n1 + vs W64 ys o2 n2 < W64 ^ T := by
    have h1 := vs_lt (off := o1) (n := n1) hd
    have h2 := vs_lt (off := o2) (n := n2) hd2
    obtain ⟨M, hM⟩ : ∃ M, T = M + 1 := ⟨T - 1, by omega⟩
    have h3 : W64 ^ n1 ≤ W64 ^ M := Nat.pow_le_pow_right W64_pos (by omega)
    have h4 : W64 ^ n2 ≤ W64 ^ M := Nat.pow_le_pow_right W64_pos (by omega)
    rw [hM, Nat.pow_succ, W64_eq]
    rw [W64_eq] at h1 h2 h3 h4
    omega
  have hκ : κ = 0 := by
    rw [HVU.out] at a3
    rcases Nat.eq_zero_or_pos κ with h | h
    · exact h
    · have h5 : W64 ^ T * 1 ≤ W64 ^ T * κ := Nat.mul_le_mul_left _ h
      omega
  have hfin : vs W64 vv 0 vv.length = vs W64 xs o1 n1 + vs W64 ys o2 n2 := by
    rw [HVU.out, hκ] at a3
    rw [hlv]; simpa using a3
  have HFIN := Lib.hid hfin
  have HLV := Lib.hid hlv
  clear hfin hlv hκ hB a3
  go_wp2
  go_ret
  exact ⟨w.heap.size, vv, by rw [HLV.out]; rfl, Nat.le_refl _, hv, gr_new (gr_new hgr hg2 (Nat.le_refl _)) hg3 (Nat.le_refl _), a2, HLV.out.trans HT.out, HFIN.out⟩

theorem add_any (s t : ByteArray) (w : World) (hs : s.size ≤ 1000000000000) (ht : t.size ≤ 1000000000000) :
    Calls Tryd.prog 21 #[.string s, .string t] w fun e w' => e = .returned (.string ⟨(enc (num s.data.toList + num t.data.toList)).toArray⟩) ∧ w.grownBy w' none := by
  go_enter Tryd.func21, Tryd.ntmps21
  go_wp2_with fail
  refine (wordsOf_any s w (by omega)).mono ?_
  rintro e w1 ⟨b1, xs, rfl, hlt1, hb1, hg1, hw1, hsz1⟩
  go_wp2_with fail
  refine (wordsOf_any t w1 (by omega)).mono ?_
  rintro e w2 ⟨b2, ys, rfl, hlt2, hb2, hg2, hw2, hsz2⟩
  go_wp2_with fail
  refine (sum_any b1 0 xs.length xs.length b2 0 ys.length ys.length xs ys w2 (hb1.kept hg2 (by simp)) (by omega) hw1.dg hb2 (by omega) hw2.dg (by omega) (by omega)).mono ?_
  rintro e w3 ⟨b3, zs, rfl, hlt3, hb3, hg3, hd3, hl3, hv3⟩
  rw [hw1.val, hw2.val] at hv3
  have HV := Lib.hid hv3
  have hls : zs.length ≤ 1099511627776 := by omega
  clear hv3 hl3
  go_wp2_with fail
  refine (natOf_any b3 0 zs.length zs.length zs w3 hb3 (by omega) hd3 (Nat.le_refl _) (by unfold maxLen; omega) hls).mono ?_
  rintro e w4 ⟨rfl, hg4⟩
  go_wp2
  go_ret
  exact ⟨by rw [HV.out]; rfl, gr_then hg1 (gr_then hg2 (gr_then hg3 hg4))⟩
end Go.Proofs.YtoadjhmehgkeaaaDoor
