/- Contracts of the program and of the reference, part 2: MulW, SubW, SubM, DivL. -/
import Derived.Test.YteajpefbmiiioaaGreatDoorBRat1
import Derived.Test.YteajpefbmiiioaaGreatDoorShelf
import Derived.Shelf.Spec.BitsCarry
import Derived.Laws.Bits64b
import Derived.Laws.BitsLemmas
import Derived.Deep.QuietTactic
import Derived.BigQuiet
namespace Go.Proofs.YteajpefbmiiioaaGreatDoor
open Go.RowKit Mth

def mulLo (x y : Nat) : Nat := x * y % W64
def mulHi (x y : Nat) : Nat := x * y / W64
theorem mul_split (x y : Nat) : mulLo x y + W64 * mulHi x y = x * y := Nat.mod_add_div _ _
theorem mulLo_lt (x y : Nat) : mulLo x y < W64 := Nat.mod_lt _ W64_pos
theorem mul64_run (x y : Nat) (hx : x < W64) (hy : y < W64) (w : World) :
    Calls Tryz.prog 150 #[.int .u64 (x : Int), .int .u64 (y : Int)] w fun e w' => e = .returned (.tuple #[.int .u64 ((mulHi x y : Nat) : Int), .int .u64 ((mulLo x y : Nat) : Int)]) ∧ w = w' :=
  (Tryz.bits_Mul64 x y hx hy w).mono fun _ _ ⟨h1, h2⟩ => ⟨h1, h2.symm⟩
/-- One step: the new digit and the new carry. -/
def stepLo (x f t c : Nat) : Nat := addLo (addLo (mulLo x f) t 0) c 0
def stepHi (x f t c : Nat) : Nat := mulHi x f + addHi (mulLo x f) t 0 + addHi (addLo (mulLo x f) t 0) c 0
theorem step_split (x f t c : Nat) : stepLo x f t c + W64 * stepHi x f t c = x * f + t + c := by
  have h1 := mul_split x f
  have h2 := add_split (mulLo x f) t 0
  have h3 := add_split (addLo (mulLo x f) t 0) c 0
  unfold stepLo stepHi
  rw [Nat.mul_add, Nat.mul_add]
  omega
theorem stepLo_lt (x f t c : Nat) : stepLo x f t c < W64 := addLo_lt _ _ _
theorem stepHi_lt {x f t c : Nat} (hx : x < W64) (hf : f < W64) (ht : t < W64) (hc : c < W64) : stepHi x f t c < W64 := by
  have h := step_split x f t c
  have h1 : x * f ≤ (W64 - 1) * (W64 - 1) := Nat.mul_le_mul (by omega) (by omega)
  have h2 : (W64 - 1) * (W64 - 1) + (W64 - 1) + (W64 - 1) < W64 * W64 := by decide
  refine Nat.lt_of_mul_lt_mul_left (a := W64) ?_
  omega
theorem carry_cast {a b c : Nat} (h : a + b + c < W64) : IntKind.u64.wrap (IntKind.u64.wrap ((a : Int) + (b : Int)) + (c : Int)) = ((a + b + c : Nat) : Int) := by
  rw [← Int.natCast_add, wrap_u64 (a + b) (by omega), ← Int.natCast_add, wrap_u64 _ h]

def MulInv (xs ys zs : List Nat) (off n o2 f i c : Nat) : Prop := Wrote xs zs off n ∧ Dg W64 zs ∧ c < W64 ∧ (∀ j, i ≤ j → gt zs (off + j) = gt xs (off + j)) ∧ vs W64 zs off i + W64 ^ i * c = vs W64 xs off i + vs W64 ys o2 i * f
theorem MulInv.next {xs ys zs : List Nat} {off n o2 f i c : Nat} (h : MulInv xs ys zs off n o2 f i c) (hy : Dg W64 ys) (hf : f < W64) (hi : i < n) (hx : off + n ≤ xs.length) :
    MulInv xs ys (zs.set (off + i) (stepLo (gt ys (o2 + i)) f (gt zs (off + i)) c)) off n o2 f (i + 1) (stepHi (gt ys (o2 + i)) f (gt zs (off + i)) c) := by
  obtain ⟨h1, h2, h3, h4, h5⟩ := h
  have hl : off + i < zs.length := by rw [h1.len]; omega
  refine ⟨h1.step (by omega) (by omega) (by omega), h2.set (stepLo_lt _ _ _ _), stepHi_lt (hy _) hf (h2 _) h3, fun j hj => ?_, ?_⟩
  · rw [gt_set hl, if_neg (by omega)]; exact h4 j (by omega)
  · have hs := step_split (gt ys (o2 + i)) f (gt zs (off + i)) c
    simp only [vs]
    rw [gt_set hl, if_pos rfl, vs_congr (ys := zs) (off' := off) (fun j hj => by rw [gt_set hl, if_neg (by omega)])]
    rw [h4 i (Nat.le_refl _)] at hs ⊢
    have e : W64 ^ i * stepLo (gt ys (o2 + i)) f (gt xs (off + i)) c + W64 ^ (i + 1) * stepHi (gt ys (o2 + i)) f (gt xs (off + i)) c = W64 ^ i * gt ys (o2 + i) * f + W64 ^ i * gt xs (off + i) + W64 ^ i * c := by
      rw [Nat.pow_succ, Nat.mul_assoc, ← Nat.mul_add, hs, Nat.mul_add, Nat.mul_add, Nat.mul_assoc]
    rw [Nat.add_mul]
    omega

/-- What addMultiple leaves. -/
def AddedM (xs zs : List Nat) (off n c y : Nat) : Prop := Wrote xs zs off n ∧ Dg W64 zs ∧ c < W64 ∧ vs W64 zs off n + W64 ^ n * c = vs W64 xs off n + y
theorem addMultiple_any (b1 o1 n1 c1 b2 o2 n2 c2 f : Nat) (xs ys : List Nat) (w : World) (hb : Blk .u64 96 w b1 xs) (hn : o1 + n1 ≤ xs.length) (hd : Dg W64 xs)
    (hb2 : Blk .u64 96 w b2 ys) (hn2 : o2 + n2 ≤ ys.length) (hd2 : Dg W64 ys) (hne : b2 ≠ b1) (hle : n2 ≤ n1) (hf : f < W64) (hm : n1 ≤ maxLen) :
    Calls Tryz.prog 163 #[.slice (some ⟨b1, o1, none⟩) n1 c1, .slice (some ⟨b2, o2, none⟩) n2 c2, .int .u64 (f : Int)] w fun e w' => ∃ c zs, e = .returned (.int .u64 ((c : Nat) : Int)) ∧ Blk .u64 96 w' b1 zs ∧ w.grownBy w' (some b1) ∧ AddedM xs zs o1 n2 c (vs W64 ys o2 n2 * f) := by
  unfold maxLen at hm
  have ha := add64_run0
  have hy0 : MulInv xs ys xs o1 n2 o2 f 0 0 := ⟨Wrote.refl _ _ _, hd, W64_pos, fun _ _ => rfl, by simp [vs]⟩
  go_enter Tryz.func163, Tryz.ntmps163
  go_wp2
  go_loopw [7, 15] (fun v j wr => ∃ (i t : Nat) (zs : List Nat), i ≤ n2 ∧ j = .int .i64 i ∧ v = .int .u64 t ∧ Blk .u64 96 wr b1 zs ∧ w.grownBy wr (some b1) ∧ MulInv xs ys zs o1 n2 o2 f i t) (fun _ j _ => n2 - (intOf j).toNat)
  case atStart => exact ⟨0, 0, xs, Nat.zero_le _, rfl, rfl, hb, World.grownBy.refl _ _, hy0⟩
  case round =>
    obtain ⟨i, t, zs, hi, rfl, rfl, hbz, hg, hinv⟩ := hrel
    have hlz : zs.length = xs.length := hinv.1.len
    have ht : t < W64 := hinv.2.2.1
    have hb2r := hb2.kept hg (by simpa using hne)
    have hcell2 : i < n2 → wr.cell? ⟨b2, o2 + i, none⟩ = some (.int .u64 ((gt ys (o2 + i) : Nat) : Int)) := fun h => hb2r.cell (by omega)
    have hcell : i < n2 → wr.cell? ⟨b1, o1 + i, none⟩ = some (.int .u64 ((gt zs (o1 + i) : Nat) : Int)) := fun h => hbz.cell (by omega)
    have hfr : wr.frozen? ⟨b1, o1 + i, none⟩ = false := hbz.frozen _
    have hyi := hd2 (o2 + i)
    have hzi := hinv.2.1 (o1 + i)
    by_cases hlt : i < n2
    · have hnx := hinv.next hd2 hf hlt (by omega : o1 + n2 ≤ xs.length)
      have hhi := stepHi_lt hyi hf hzi ht
      have HC := Lib.hid (carry_cast hhi)
      go_wp2_with fail
      refine (mul64_run _ _ hyi hf _).mono ?_
      rintro e w' ⟨rfl, rfl⟩
      go_wp2
      go_roundw
      case rel => exact ⟨i + 1, stepHi (gt ys (o2 + i)) f (gt zs (o1 + i)) t, _, by omega, by go_num, by rw [HC.out]; rfl, hbz.set _ _, gr_trans hg (gr_set _ _ _ _) (.inr rfl) (.inr (.inl rfl)), hnx⟩
      case measure => simp [intOf]; omega
    · obtain rfl : i = n2 := by omega
      go_wp2
      go_ret
      exact ⟨t, zs, rfl, hbz, hg, hinv.1, hinv.2.1, ht, hinv.2.2.2.2⟩
end Go.Proofs.YteajpefbmiiioaaGreatDoor
namespace Go.Proofs.YteajpefbmiiioaaGreatDoor
open Go.RowKit Mth

def subLo (x y c : Nat) : Nat := (x + W64 - y - c) % W64
def subHi (x y c : Nat) : Nat := if x < y + c then 1 else 0
theorem subLo_lt (x y c : Nat) : subLo x y c < W64 := Nat.mod_lt _ W64_pos
theorem subHi_le (x y c : Nat) : subHi x y c ≤ 1 := by unfold subHi; split <;> omega
theorem sub_split {x y c : Nat} (hx : x < W64) (hy : y < W64) (hc : c ≤ 1) : subLo x y c + y + c = x + W64 * subHi x y c := by
  unfold subLo subHi
  rw [W64_eq] at *
  split <;> omega
theorem sub64_run (x y c : Nat) (hc : c ≤ 1) (w : World) :
    (callFunc 124 #[.int .u64 (x : Int), .int .u64 (y : Int), .int .u64 (c : Int)]).run Tryz.prog w =
      .ok (.value (.tuple #[.int .u64 ((subLo x y c : Nat) : Int), .int .u64 ((subHi x y c : Nat) : Int)])) w := by
  rw [run_callFunc_extern Tryz.func124 (by kernel_rfl) (by kernel_rfl) (by kernel_rfl) (e := sub64Entry) (by kernel_rfl), run_sub64 x y c hc]
  rfl
theorem sub64_run0 (x c : Nat) (hc : c ≤ 1) (w : World) :
    (callFunc 124 #[.int .u64 (x : Int), .int .u64 0, .int .u64 (c : Int)]).run Tryz.prog w =
      .ok (.value (.tuple #[.int .u64 ((subLo x 0 c : Nat) : Int), .int .u64 ((subHi x 0 c : Nat) : Int)])) w := sub64_run x 0 c hc w

def SubInv (xs zs : List Nat) (off n Y i c : Nat) : Prop := Wrote xs zs off n ∧ Dg W64 zs ∧ c ≤ 1 ∧ (∀ j, i ≤ j → gt zs (off + j) = gt xs (off + j)) ∧ vs W64 zs off i + Y = vs W64 xs off i + W64 ^ i * c
theorem SubInv.next {xs zs : List Nat} {off n Y i c y : Nat} (h : SubInv xs zs off n Y i c) (hy : y < W64) (hi : i < n) (hx : off + n ≤ xs.length) : SubInv xs (zs.set (off + i) (subLo (gt zs (off + i)) y c)) off n (Y + W64 ^ i * y) (i + 1) (subHi (gt zs (off + i)) y c) := by
  obtain ⟨h1, h2, h3, h4, h5⟩ := h
  have hl : off + i < zs.length := by rw [h1.len]; omega
  refine ⟨h1.step (by omega) (by omega) (by omega), h2.set (subLo_lt _ _ _), subHi_le _ _ _, fun j hj => ?_, ?_⟩
  · rw [gt_set hl, if_neg (by omega)]; exact h4 j (by omega)
  · have hs := sub_split (h2 (off + i)) hy h3
    simp only [vs]
    rw [gt_set hl, if_pos rfl, vs_congr (ys := zs) (off' := off) (fun j hj => by rw [gt_set hl, if_neg (by omega)])]
    rw [h4 i (Nat.le_refl _)] at hs ⊢
    have e : W64 ^ i * subLo (gt xs (off + i)) y c + W64 ^ i * y + W64 ^ i * c = W64 ^ i * gt xs (off + i) + W64 ^ (i + 1) * subHi (gt xs (off + i)) y c := by
      rw [Nat.pow_succ, Nat.mul_assoc, ← Nat.mul_add, ← Nat.mul_add, hs, Nat.mul_add]
    omega
theorem SubInv.done {xs zs : List Nat} {off n Y i c : Nat} (h : SubInv xs zs off n Y i c) (hi : i ≤ n) (he : i = n ∨ c = 0) (hY : Y ≤ vs W64 xs off n) : Wrote xs zs off n ∧ Dg W64 zs ∧ vs W64 zs off n + Y = vs W64 xs off n := by
  obtain ⟨h1, h2, h3, h4, h5⟩ := h
  refine ⟨h1, h2, ?_⟩
  rcases he with rfl | rfl
  · have hlt := vs_lt (off := off) (n := i) h2
    have : c = 0 ∨ c = 1 := by omega
    rcases this with rfl | rfl
    · simpa using h5
    · omega
  · obtain ⟨m, rfl⟩ : ∃ m, n = i + m := ⟨n - i, by omega⟩
    rw [vs_split, vs_split, vs_congr (xs := zs) (ys := xs) (off' := off + i) (n := m) (fun j hj => by rw [Nat.add_assoc]; exact h4 (i + j) (by omega))]
    omega

theorem subtractFrom_any (b1 o1 n1 c1 b2 o2 n2 c2 : Nat) (xs ys : List Nat) (w : World) (hb : Blk .u64 96 w b1 xs) (hn : o1 + n1 ≤ xs.length) (hd : Dg W64 xs) (hm : n1 ≤ maxLen)
    (hb2 : Blk .u64 96 w b2 ys) (hn2 : o2 + n2 ≤ ys.length) (hd2 : Dg W64 ys) (hne : b2 ≠ b1) (hle : n2 ≤ n1) (hval : vs W64 ys o2 n2 ≤ vs W64 xs o1 n1) :
    Calls Tryz.prog 72 #[.slice (some ⟨b1, o1, none⟩) n1 c1, .slice (some ⟨b2, o2, none⟩) n2 c2] w fun e w' => e = .returned (.tuple #[]) ∧ ∃ zs, Blk .u64 96 w' b1 zs ∧ w.grownBy w' (some b1) ∧ Wrote xs zs o1 n1 ∧ Dg W64 zs ∧ vs W64 zs o1 n1 + vs W64 ys o2 n2 = vs W64 xs o1 n1 := by
  unfold maxLen at hm
  have ha := sub64_run
  have hy0 : SubInv xs xs o1 n1 (vs W64 ys o2 0) 0 0 := ⟨Wrote.refl _ _ _, hd, by omega, fun _ _ => rfl, by simp [vs]⟩
  have HV := Lib.hid hval
  clear hval
  go_enter Tryz.func72, Tryz.ntmps72
  go_wp2
  go_loopw [4, 10] (fun v j wr => ∃ (i t : Nat) (zs : List Nat), i ≤ n2 ∧ j = .int .i64 i ∧ v = .int .u64 t ∧ Blk .u64 96 wr b1 zs ∧ w.grownBy wr (some b1) ∧ SubInv xs zs o1 n1 (vs W64 ys o2 i) i t) (fun _ j _ => n2 - (intOf j).toNat)
  case atStart => exact ⟨0, 0, xs, Nat.zero_le _, rfl, rfl, hb, World.grownBy.refl _ _, hy0⟩
  case round =>
    obtain ⟨i, t, zs, hi, rfl, rfl, hbz, hg, hinv⟩ := hrel
    have hlz : zs.length = xs.length := hinv.1.len
    have ht : t ≤ 1 := hinv.2.2.1
    have hb2r := hb2.kept hg (by simpa using hne)
    by_cases hlt : i < n2
    · have hcell2 : wr.cell? ⟨b2, o2 + i, none⟩ = some (.int .u64 ((gt ys (o2 + i) : Nat) : Int)) := hb2r.cell (by omega)
      have hcell : wr.cell? ⟨b1, o1 + i, none⟩ = some (.int .u64 ((gt zs (o1 + i) : Nat) : Int)) := hbz.cell (by omega)
      have hfr : wr.frozen? ⟨b1, o1 + i, none⟩ = false := hbz.frozen _
      have hnx := hinv.next (hd2 (o2 + i)) (by omega : i < n1) hn
      go_wp2
      go_roundw
      case rel => exact ⟨i + 1, _, _, by omega, by go_num, rfl, hbz.set _ _, gr_trans hg (gr_set _ _ _ _) (.inr rfl) (.inr (.inl rfl)), hnx⟩
      case measure => simp [intOf]; omega
    · obtain rfl : i = n2 := by omega
      clear ha hlz
      have ha := sub64_run0
      obtain ⟨W1, rfl⟩ : ∃ W1, W1 = wr := ⟨_, rfl⟩
      go_wp2
      go_loopw [4, 7] (fun v j wr => ∃ (l t : Nat) (zs : List Nat), i ≤ l ∧ l ≤ n1 ∧ j = .int .i64 l ∧ v = .int .u64 t ∧ Blk .u64 96 wr b1 zs ∧ w.grownBy wr (some b1) ∧ SubInv xs zs o1 n1 (vs W64 ys o2 i) l t) (fun _ j _ => n1 - (intOf j).toNat)
      case atStart => exact ⟨i, t, zs, Nat.le_refl _, hle, rfl, rfl, hbz, hg, hinv⟩
      case round =>
        obtain ⟨l, t', zs', hil, hln, rfl, rfl, hbz', hg', hinv'⟩ := hrel
        have hlz : zs'.length = xs.length := hinv'.1.len
        have ht : t' ≤ 1 := hinv'.2.2.1
        have hcell : l < n1 → wr.cell? ⟨b1, o1 + l, none⟩ = some (.int .u64 ((gt zs' (o1 + l) : Nat) : Int)) := fun h => hbz'.cell (by omega)
        have hfr : wr.frozen? ⟨b1, o1 + l, none⟩ = false := hbz'.frozen _
        go_wp2
        · have hlt : l < n1 := by assumption
          have hnx := hinv'.next (y := 0) W64_pos hlt hn
          rw [Nat.mul_zero, Nat.add_zero] at hnx
          go_roundw
          case rel => exact ⟨l + 1, _, _, by omega, by omega, by go_num, rfl, hbz'.set _ _, gr_trans hg' (gr_set _ _ _ _) (.inr rfl) (.inr (.inl rfl)), hnx⟩
          case measure => simp [intOf]; omega
        · have hlt : l < n1 := by assumption
          have h0 : ¬ 0 < t' := by assumption
          go_end0
          have hd := hinv'.done hln (.inr (by omega)) HV.out
          exact ⟨rfl, zs', hbz', hg', hd⟩
        · have hlt : ¬ l < n1 := by assumption
          go_end0
          have hd := hinv'.done hln (.inl (by omega)) HV.out
          exact ⟨rfl, zs', hbz', hg', hd⟩
end Go.Proofs.YteajpefbmiiioaaGreatDoor
namespace Go.Proofs.YteajpefbmiiioaaGreatDoor
open Go.RowKit Mth

theorem sub64_runz (x y : Nat) (w : World) :
    (callFunc 124 #[.int .u64 (x : Int), .int .u64 (y : Int), .int .u64 0]).run Tryz.prog w =
      .ok (.value (.tuple #[.int .u64 ((subLo x y 0 : Nat) : Int), .int .u64 ((subHi x y 0 : Nat) : Int)])) w := sub64_run x y 0 (by omega) w
/-- One step: the new digit and the new borrow. -/
def smLo (x f t c : Nat) : Nat := subLo t (addLo (mulLo x f) c 0) 0
def smHi (x f t c : Nat) : Nat := mulHi x f + addHi (mulLo x f) c 0 + subHi t (addLo (mulLo x f) c 0) 0
theorem sm_split {x f t c : Nat} (ht : t < W64) : smLo x f t c + x * f + c = t + W64 * smHi x f t c := by
  have h1 := mul_split x f
  have h2 := add_split (mulLo x f) c 0
  have h3 := sub_split ht (addLo_lt (mulLo x f) c 0) (Nat.zero_le 1)
  unfold smLo smHi
  rw [Nat.mul_add, Nat.mul_add]
  omega
theorem smLo_lt (x f t c : Nat) : smLo x f t c < W64 := subLo_lt _ _ _
theorem smHi_lt {x f t c : Nat} (hx : x < W64) (hf : f < W64) (ht : t < W64) (hc : c < W64) : smHi x f t c < W64 := by
  have h := sm_split (x := x) (f := f) (c := c) ht
  have h0 := smLo_lt x f t c
  have h1 : x * f ≤ (W64 - 1) * (W64 - 1) := Nat.mul_le_mul (by omega) (by omega)
  have h2 : (W64 - 1) * (W64 - 1) + (W64 - 1) + (W64 - 1) < W64 * W64 := by decide
  refine Nat.lt_of_mul_lt_mul_left (a := W64) ?_
  omega

def SmInv (xs ys zs : List Nat) (off n o2 f i c : Nat) : Prop := Wrote xs zs off n ∧ Dg W64 zs ∧ c < W64 ∧ (∀ j, i ≤ j → gt zs (off + j) = gt xs (off + j)) ∧ vs W64 zs off i + vs W64 ys o2 i * f = vs W64 xs off i + W64 ^ i * c
theorem SmInv.next {xs ys zs : List Nat} {off n o2 f i c : Nat} (h : SmInv xs ys zs off n o2 f i c) (hy : Dg W64 ys) (hf : f < W64) (hi : i < n) (hx : off + n ≤ xs.length) :
    SmInv xs ys (zs.set (off + i) (smLo (gt ys (o2 + i)) f (gt zs (off + i)) c)) off n o2 f (i + 1) (smHi (gt ys (o2 + i)) f (gt zs (off + i)) c) := by
  obtain ⟨h1, h2, h3, h4, h5⟩ := h
  have hl : off + i < zs.length := by rw [h1.len]; omega
  refine ⟨h1.step (by omega) (by omega) (by omega), h2.set (smLo_lt _ _ _ _), smHi_lt (hy _) hf (h2 _) h3, fun j hj => ?_, ?_⟩
  · rw [gt_set hl, if_neg (by omega)]; exact h4 j (by omega)
  · have hs := sm_split (x := gt ys (o2 + i)) (f := f) (c := c) (h2 (off + i))
    simp only [vs]
    rw [gt_set hl, if_pos rfl, vs_congr (ys := zs) (off' := off) (fun j hj => by rw [gt_set hl, if_neg (by omega)])]
    rw [h4 i (Nat.le_refl _)] at hs ⊢
    have e : W64 ^ i * smLo (gt ys (o2 + i)) f (gt xs (off + i)) c + W64 ^ i * gt ys (o2 + i) * f + W64 ^ i * c = W64 ^ i * gt xs (off + i) + W64 ^ (i + 1) * smHi (gt ys (o2 + i)) f (gt xs (off + i)) c := by
      rw [Nat.pow_succ, Nat.mul_assoc, Nat.mul_assoc, ← Nat.mul_add, ← Nat.mul_add, hs, Nat.mul_add]
    rw [Nat.add_mul]
    omega

/-- What subtractMultiple leaves. -/
def SubbedM (xs zs : List Nat) (off n c y : Nat) : Prop := Wrote xs zs off n ∧ Dg W64 zs ∧ c < W64 ∧ vs W64 zs off n + y = vs W64 xs off n + W64 ^ n * c
theorem subtractMultiple_any (b1 o1 n1 c1 b2 o2 n2 c2 f : Nat) (xs ys : List Nat) (w : World) (hb : Blk .u64 96 w b1 xs) (hn : o1 + n1 ≤ xs.length) (hd : Dg W64 xs)
    (hb2 : Blk .u64 96 w b2 ys) (hn2 : o2 + n2 ≤ ys.length) (hd2 : Dg W64 ys) (hne : b2 ≠ b1) (hle : n2 ≤ n1) (hf : f < W64) (hm : n1 ≤ maxLen) :
    Calls Tryz.prog 159 #[.slice (some ⟨b1, o1, none⟩) n1 c1, .slice (some ⟨b2, o2, none⟩) n2 c2, .int .u64 (f : Int)] w fun e w' => ∃ c zs, e = .returned (.int .u64 ((c : Nat) : Int)) ∧ Blk .u64 96 w' b1 zs ∧ w.grownBy w' (some b1) ∧ SubbedM xs zs o1 n2 c (vs W64 ys o2 n2 * f) := by
  unfold maxLen at hm
  have ha := add64_run0
  have hs64 := sub64_runz
  have hy0 : SmInv xs ys xs o1 n2 o2 f 0 0 := ⟨Wrote.refl _ _ _, hd, W64_pos, fun _ _ => rfl, by simp [vs]⟩
  go_enter Tryz.func159, Tryz.ntmps159
  go_wp2
  go_loopw [7, 15] (fun v j wr => ∃ (i t : Nat) (zs : List Nat), i ≤ n2 ∧ j = .int .i64 i ∧ v = .int .u64 t ∧ Blk .u64 96 wr b1 zs ∧ w.grownBy wr (some b1) ∧ SmInv xs ys zs o1 n2 o2 f i t) (fun _ j _ => n2 - (intOf j).toNat)
  case atStart => exact ⟨0, 0, xs, Nat.zero_le _, rfl, rfl, hb, World.grownBy.refl _ _, hy0⟩
  case round =>
    obtain ⟨i, t, zs, hi, rfl, rfl, hbz, hg, hinv⟩ := hrel
    have hlz : zs.length = xs.length := hinv.1.len
    have ht : t < W64 := hinv.2.2.1
    have hb2r := hb2.kept hg (by simpa using hne)
    have hcell2 : i < n2 → wr.cell? ⟨b2, o2 + i, none⟩ = some (.int .u64 ((gt ys (o2 + i) : Nat) : Int)) := fun h => hb2r.cell (by omega)
    have hcell : i < n2 → wr.cell? ⟨b1, o1 + i, none⟩ = some (.int .u64 ((gt zs (o1 + i) : Nat) : Int)) := fun h => hbz.cell (by omega)
    have hfr : wr.frozen? ⟨b1, o1 + i, none⟩ = false := hbz.frozen _
    have hyi := hd2 (o2 + i)
    have hzi := hinv.2.1 (o1 + i)
    by_cases hlt : i < n2
    · have hnx := hinv.next hd2 hf hlt (by omega : o1 + n2 ≤ xs.length)
      have hhi := smHi_lt hyi hf hzi ht
      have HC := Lib.hid (carry_cast hhi)
      go_wp2_with fail
      refine (mul64_run _ _ hyi hf _).mono ?_
      rintro e w' ⟨rfl, rfl⟩
      go_wp2
      go_roundw
      case rel => exact ⟨i + 1, smHi (gt ys (o2 + i)) f (gt zs (o1 + i)) t, _, by omega, by go_num, by rw [HC.out]; rfl, hbz.set _ _, gr_trans hg (gr_set _ _ _ _) (.inr rfl) (.inr (.inl rfl)), hnx⟩
      case measure => simp [intOf]; omega
    · obtain rfl : i = n2 := by omega
      go_wp2
      go_ret
      exact ⟨t, zs, rfl, hbz, hg, hinv.1, hinv.2.1, ht, hinv.2.2.2.2⟩
end Go.Proofs.YteajpefbmiiioaaGreatDoor
namespace Go.Proofs.YteajpefbmiiioaaGreatDoor
open Go.RowKit Mth

/-- What Div64 returns. -/
def D64Val (hi lo y : Nat) : Value := .tuple #[.int .u64 (((hi * W64 + lo) / y : Nat) : Int), .int .u64 (((hi * W64 + lo) % y : Nat) : Int)]

theorem div64_lo (lo y : Nat) (w : World) (hl : lo < W64) (hy : 0 < y) :
    Calls Tryz.prog 136 #[.int .u64 0, .int .u64 (lo : Int), .int .u64 (y : Int)] w fun e w' => e = .returned (.tuple #[.int .u64 ((lo / y : Nat) : Int), .int .u64 ((lo % y : Nat) : Int)]) ∧ ∃ n, w' = w.drewN n := by
  have h0 : ((y : Int) == 0) = false := by rw [beq_eq_false_iff_ne]; omega
  have h1 : ¬ (y : Int) ≤ 0 := by omega
  go_enter Tryz.func136, Tryz.ntmps136
  go_wp2
  go_quiet (fail)
  go_wp2
  go_ret2
  refine ⟨?_, _, rfl⟩
  show Ending.returned (.tuple #[.int .u64 (IntKind.u64.wrap ((lo : Int) / (y : Int))), .int .u64 ((lo : Int) % (y : Int))]) = _
  rw [← Int.natCast_ediv, wrap_u64 _ (Nat.lt_of_le_of_lt (Nat.div_le_self _ _) hl), ← Int.natCast_emod]

theorem wrap_mod (n : Int) : IntKind.u64.wrap n = n % 18446744073709551616 := by simp [IntKind.wrap, IntKind.bits, IntKind.signed]
theorem mask_u64 (x : Nat) (hx : x < W64) : bits BinOp.and IntKind.u64 (x : Int) 4294967295 = ((x % 4294967296 : Nat) : Int) := by
  have h := bits_and_u64_nat x 4294967295 (by rw [W64_eq] at hx; exact hx) (by decide)
  rw [show ((4294967295 : Nat) : Int) = 4294967295 from rfl] at h
  rw [h]
  congr 1
  exact Nat.and_two_pow_sub_one_eq_mod x 32

structure DivFacts (hi lo y s Y N1 N0 U V U1 U0 : Nat) : Prop where
  w1 : IntKind.u64.wrap ((y : Int) * (2 : Int) ^ s) = (Y : Int)
  w2 : (Y : Int) / 4294967296 = (N1 : Int)
  w3 : bits BinOp.and IntKind.u64 (Y : Int) 4294967295 = (N0 : Int)
  w4 : bits BinOp.or IntKind.u64 (IntKind.u64.wrap ((hi : Int) * (2 : Int) ^ s)) ((lo : Int) / (2 : Int) ^ (64 - s)) = (U : Int)
  w5 : IntKind.u64.wrap ((lo : Int) * (2 : Int) ^ s) = (V : Int)
  w6 : (V : Int) / 4294967296 = (U1 : Int)
  w7 : bits BinOp.and IntKind.u64 (V : Int) 4294967295 = (U0 : Int)
  dig : DigIn Y N1 N0 U U1
  all : (hi * W64 + lo) * 2 ^ s = (U * H32 + U1) * H32 + U0
  v : U0 ≤ 4294967295
  u : U < W64
theorem divFacts {hi lo y s Y N1 N0 U V U1 U0 : Nat} (hl : lo < W64) (hy : hi < y) (hy2 : y < W64) (hs : Lib.bitLen y = 64 - s) (hs63 : s ≤ 63) (h0 : 0 < y) (hY : Y = y * 2 ^ s) (hN1 : N1 = Y / 4294967296) (hN0 : N0 = Y % 4294967296)
    (hU : U = hi * 2 ^ s + lo / 2 ^ (64 - s)) (hV : V = (lo * 2 ^ s) % W64) (hU1 : U1 = V / 4294967296) (hU0 : U0 = V % 4294967296) : DivFacts hi lo y s Y N1 N0 U V U1 U0 := by
  have h64 : 2 ^ (64 - s) * 2 ^ s = W64 := by rw [← Nat.pow_add, show 64 - s + s = 64 from by omega]; rfl
  have hp : 0 < 2 ^ s := Nat.pow_pos (by decide)
  obtain ⟨_, _, b1, b2⟩ := bitLen_bounds hy2 (by omega : y ≠ 0)
  rw [hs] at b1 b2
  have hYlt : Y < W64 := by rw [hY, ← h64]; exact Nat.mul_lt_mul_of_pos_right b2 hp
  have hYge : 9223372036854775808 ≤ Y := by
    have h1 : 2 ^ (64 - s - 1) * 2 ^ s ≤ y * 2 ^ s := Nat.mul_le_mul_right _ b1
    rw [← Nat.pow_add, show 64 - s - 1 + s = 63 from by omega] at h1
    rw [hY]; exact h1
  have hq : lo / 2 ^ (64 - s) < 2 ^ s := by
    rw [Nat.div_lt_iff_lt_mul (Nat.pow_pos (by decide)), Nat.mul_comm, h64]; exact hl
  have hhi : (hi + 1) * 2 ^ s ≤ y * 2 ^ s := Nat.mul_le_mul_right _ hy
  rw [Nat.add_mul, Nat.one_mul, ← hY] at hhi
  have hUY : U < Y := by omega
  have hVlt : V < W64 := by rw [hV]; exact Nat.mod_lt _ W64_pos
  have hlo : lo * 2 ^ s = W64 * (lo / 2 ^ (64 - s)) + V := by
    have h1 := Nat.div_add_mod (lo * 2 ^ s) W64
    have h2 : lo * 2 ^ s / W64 = lo / 2 ^ (64 - s) := by rw [← h64, Nat.mul_div_mul_right _ _ hp]
    rw [← hV, h2] at h1
    exact h1.symm
  have hpc : ((2 : Int) ^ s) = ((2 ^ s : Nat) : Int) := by simp
  have hpc2 : ((2 : Int) ^ (64 - s)) = ((2 ^ (64 - s) : Nat) : Int) := by simp
  refine ⟨?_, by omega, by rw [hN0]; exact mask_u64 Y hYlt, ?_, ?_, by omega, by rw [hU0]; exact mask_u64 V hVlt, ?_, ?_, by omega, by omega⟩
  · rw [hpc, ← Int.natCast_mul, ← hY, wrap_u64 _ hYlt]
  · rw [hpc, hpc2, ← Int.natCast_mul, wrap_u64 _ (by omega), ← Int.natCast_ediv]
    rw [bits_or_u64_nat _ _ (by rw [W64_eq] at hYlt; omega) (by rw [W64_eq] at hYlt; omega)]
    rw [hU, Nat.mul_comm hi, Nat.two_pow_add_eq_or_of_lt hq]
  · rw [hpc, ← Int.natCast_mul, wrap_mod, hV, W64_eq]; omega
  · rw [W64_eq] at hYlt hVlt
    exact ⟨by rw [H32_eq]; omega, by rw [H32_eq]; omega, by omega, by rw [H32_eq]; omega, hUY, by rw [H32_eq]; omega⟩
  · have h1 : H32 * H32 = W64 := by decide
    have h2 : U1 * H32 + U0 = V := by rw [H32_eq]; omega
    rw [Nat.add_mul (U * H32), Nat.mul_assoc U, h1, Nat.add_assoc, h2, Nat.add_mul, hlo, hU, Nat.add_mul, Nat.mul_comm W64, Nat.mul_right_comm hi]
    omega

/-- The first estimate of a digit, as the walk spells it. -/
structure Prep (Y N1 U u Q R P : Nat) : Prop where
  w8 : (U : Int) / (N1 : Int) = (Q : Int)
  w9 : IntKind.u64.wrap ((Q : Int) * (N1 : Int)) = (P : Int)
  w10 : IntKind.u64.wrap ((U : Int) - (P : Int)) = (R : Int)
  w11 : (U : Int) - (P : Int) = (R : Int)
  w12 : IntKind.u64.wrap (R : Int) = (R : Int)
  r : R < N1
  q : Q ≤ 4294967297
  inv : DigInv Y N1 U u Q R
theorem prep {Y N1 N0 U u : Nat} (hdig : DigIn Y N1 N0 U u) (hUb : U < W64) : ∃ Q R P, Prep Y N1 U u Q R P := by
  have hinit := hdig.init
  have hlo := hdig.lo
  have hRN : U % N1 < N1 := Nat.mod_lt _ (by omega)
  have hw8 : (U : Int) / (N1 : Int) = ((U / N1 : Nat) : Int) := by rw [Int.natCast_ediv]
  have hPU : U / N1 * N1 + U % N1 = U := hinit.eq
  have hQ := hdig.init_le
  refine ⟨U / N1, U % N1, U / N1 * N1, hw8, ?_, ?_, ?_, wrap_u64 _ (by omega), hRN, hQ, hinit⟩
  · rw [← Int.natCast_mul, wrap_u64 _ (by omega)]
  · generalize U / N1 * N1 = P at *
    generalize U % N1 = R at *
    rw [show (U : Int) - (P : Int) = (R : Int) from by omega, wrap_u64 _ (by omega)]
  · generalize U / N1 * N1 = P at *
    generalize U % N1 = R at *
    omega
/-- What is left of the first digit, as the walk spells it. -/
theorem left_over {Y N1 N0 U u z : Nat} (hdig : DigIn Y N1 N0 U u) (hY : Y < W64) (hz : z = (U * H32 + u) / Y) :
    IntKind.u64.wrap (IntKind.u64.wrap (IntKind.u64.wrap ((U : Int) * 4294967296) + (u : Int)) - IntKind.u64.wrap ((z : Int) * (Y : Int))) = (((U * H32 + u) % Y : Nat) : Int) := by
  have h1 := Nat.div_add_mod (U * H32 + u) Y
  have h2 : (U * H32 + u) % Y < Y := Nat.mod_lt _ (by have := hdig.lt; omega)
  rw [← hz, Nat.mul_comm Y] at h1
  rw [← Int.natCast_mul]
  generalize (U * H32 + u) % Y = r at *
  generalize z * Y = P at *
  simp only [wrap_mod]
  rw [H32_eq] at h1
  rw [W64_eq] at hY
  omega

theorem prod_lt {q n : Nat} (h : q < 4294967296) (g : n < 4294967296) : q * n < W64 := by
  have h1 : q * n ≤ 4294967295 * 4294967295 := Nat.mul_le_mul (by omega) (by omega)
  rw [W64_eq]; omega

set_option maxHeartbeats 1000000 in
set_option maxRecDepth 100000 in
theorem div64_hi (hi lo y : Nat) (w : World) (hh : 0 < hi) (hl : lo < W64) (hy : hi < y) (hy2 : y < W64) :
    Calls Tryz.prog 136 #[.int .u64 (hi : Int), .int .u64 (lo : Int), .int .u64 (y : Int)] w fun e w' => e = .returned (D64Val hi lo y) ∧ w' = w := by
  have h0 : ((y : Int) == 0) = false := by rw [beq_eq_false_iff_ne]; omega
  have h00 : ((hi : Int) == 0) = false := by rw [beq_eq_false_iff_ne]; omega
  have h1 : ¬ (y : Int) ≤ (hi : Int) := by omega
  go_enter Tryz.func136, Tryz.ntmps136
  go_wp2_with fail
  refine (Tryz.bits_LeadingZeros64 _ _ (by omega) (by rw [W64_eq] at hy2; omega)).mono ?_
  rintro e w' ⟨rfl, rfl⟩
  rw [show Lib.bitLen ((y : Int).toNat) = Lib.bitLen y from rfl]
  have hbl := bitLen_bounds hy2 (by omega : y ≠ 0)
  obtain ⟨s, hs⟩ : ∃ s, Lib.bitLen y = 64 - s ∧ s ≤ 63 := ⟨64 - Lib.bitLen y, by omega, by omega⟩
  rw [hs.1, show (64 - ((64 - s : Nat) : Int)) = (s : Int) from by omega]
  have HS := Lib.hid hs.1
  have hs63 := hs.2
  clear hs hbl
  obtain ⟨Y, hY⟩ : ∃ Y, Y = y * 2 ^ s := ⟨_, rfl⟩
  obtain ⟨N1, hN1⟩ : ∃ N1, N1 = Y / 4294967296 := ⟨_, rfl⟩
  obtain ⟨N0, hN0⟩ : ∃ N0, N0 = Y % 4294967296 := ⟨_, rfl⟩
  obtain ⟨U, hU⟩ : ∃ U, U = hi * 2 ^ s + lo / 2 ^ (64 - s) := ⟨_, rfl⟩
  obtain ⟨V, hV⟩ : ∃ V, V = (lo * 2 ^ s) % W64 := ⟨_, rfl⟩
  obtain ⟨U1, hU1⟩ : ∃ U1, U1 = V / 4294967296 := ⟨_, rfl⟩
  obtain ⟨U0, hU0⟩ : ∃ U0, U0 = V % 4294967296 := ⟨_, rfl⟩
  have hfacts : DivFacts hi lo y s Y N1 N0 U V U1 U0 := divFacts hl hy hy2 HS.out hs63 (by omega) hY hN1 hN0 hU hV hU1 hU0
  obtain ⟨hw1, hw2, hw3, hw4, hw5, hw6, hw7, hdig, hall, hVb, hUb⟩ := hfacts
  have HYE := Lib.hid hY
  clear hY hN1 hN0 hU hV hU1 hU0
  have hN1a := hdig.lo
  have hN1b := hdig.hi
  have hN0b := hdig.n0
  have hU1b := hdig.u
  have hYb : Y < W64 := by have := hdig.y; rw [H32_eq] at *; rw [W64_eq]; omega
  have hUY := hdig.lt
  rw [H32_eq] at hN1b hN0b hU1b
  obtain ⟨Q, R, P, hprep⟩ := prep hdig hUb
  obtain ⟨hw8, hw9, hw10, hw11, hw12, hR, hQ, hinv⟩ := hprep
  have HDIG := Lib.hid hdig
  have HALL := Lib.hid hall
  have HINV := Lib.hid hinv
  clear hdig hall hinv
  go_wp2_with fail
  clear hw8 hw9 hw10 hw11 hw12 hw1 hw2 hw3 hw4 hw5 hw6 hw7
  have i3 : (N1 : Int) < 4294967296 := by omega
  have i4 : (U1 : Int) < 4294967296 := by omega
  have i5 : (U0 : Int) < 4294967296 := by omega
  have H3 := Lib.hid hN1b
  have H4 := Lib.hid hN0b
  have H6 := Lib.hid hN1a
  have H9 := Lib.hid hQ
  have i9 : (Q : Int) ≤ 4294967297 := by omega
  clear hN1b hN0b hU1b hN1a hQ
  go_loop [15, 16] (fun v r => ∃ q ρ : Nat, v = .int .u64 q ∧ r = .int .u64 ρ ∧ ρ < 4294967296 ∧ q ≤ 4294967297 ∧ Hid (DigInv Y N1 U U1 q ρ)) (fun v _ => (intOf v).toNat)
  case atStart => exact ⟨Q, R, rfl, rfl, by have := H3.out; omega, H9.out, HINV⟩
  case round =>
    obtain ⟨q, ρ, rfl, rfl, hρ, hq, HI⟩ := hrel
    have i1 : (ρ : Int) < 4294967296 := by omega
    have i2 : (q : Int) ≤ 4294967297 := by omega
    have hcases : 4294967296 ≤ q ∨ (q < 4294967296 ∧ 4294967296 * ρ + U1 < q * N0) ∨ (q < 4294967296 ∧ q * N0 ≤ 4294967296 * ρ + U1) := by
      rcases Nat.lt_or_ge q 4294967296 with h | h
      · rcases Nat.lt_or_ge (4294967296 * ρ + U1) (q * N0) with h' | h'
        · exact .inr (.inl ⟨h, h'⟩)
        · exact .inr (.inr ⟨h, h'⟩)
      · exact .inl h
    have HQ := Lib.hid hq
    have HR := Lib.hid hρ
    clear hq hρ
    rcases hcases with hc | ⟨hc, hp⟩ | ⟨hc, hp⟩
    · have hqd : decide ((4294967296 : Int) ≤ (q : Int)) = true := decide_eq_true (by omega)
      have hpos := HI.out.pos HDIG.out (.inl (by rw [H32_eq]; exact hc))
      have HNX := Lib.hid (HI.out.next HDIG.out (.inl (by rw [H32_eq]; exact hc)))
      have hq1 : 1 ≤ q := by omega
      clear hpos hc HI
      obtain ⟨k, hk⟩ : ∃ k, q = k + 1 := ⟨q - 1, by omega⟩
      have hk1 : (q : Int) - 1 = (k : Int) := by omega
      rw [show q - 1 = k from by omega] at HNX
      have hkq : k ≤ 4294967296 := by have := HQ.out; omega
      have HK := Lib.hid hk
      have HKQ := Lib.hid hkq
      clear hk hkq
      by_cases hbr : (4294967296 : Int) ≤ (ρ : Int) + (N1 : Int)
      · have hbd : decide ((4294967296 : Int) ≤ (ρ : Int) + (N1 : Int)) = true := decide_eq_true hbr
        have HZ := Lib.hid (HNX.out.left HDIG.out (by rw [H32_eq]; exact HKQ.out) (by rw [H32_eq]; omega))
        clear HNX
        have hlo1 := left_over HDIG.out hYb HZ.out
        obtain ⟨r1, hr1⟩ : ∃ r1, r1 = (U * H32 + U1) % Y := ⟨_, rfl⟩
        rw [← hr1] at hlo1
        have hr1Y : r1 < Y := by rw [hr1]; exact Nat.mod_lt _ (by omega)
        have hd2 : DigIn Y N1 N0 r1 U0 := ⟨HDIG.out.y, HDIG.out.n0, HDIG.out.lo, HDIG.out.hi, hr1Y, by rw [H32_eq]; omega⟩
        obtain ⟨Q2, R2, P2, hp2⟩ := prep hd2 (Nat.lt_trans hr1Y hYb)
        obtain ⟨v8, v9, v10, v11, v12, hR2, hQ2, hi2⟩ := hp2
        have hzb : k < 4294967296 := by have h := HDIG.out.q_lt; rw [← HZ.out, H32_eq] at h; exact h
        have i6 : (k : Int) < 4294967296 := by omega
        have HD2 := Lib.hid hd2
        have HI2 := Lib.hid hi2
        have HR1 := Lib.hid hr1
        have HQ2 := Lib.hid hQ2
        have HR2 := Lib.hid hR2
        have HZ1 := Lib.hid HZ.out
        have i8 : (Q2 : Int) ≤ 4294967297 := by omega
        clear hd2 hi2 hr1 hzb HZ hQ2 hR2
        go_wp2_with fail
        clear v8 v9 v10 v11 v12 hlo1
        go_loop [18, 16] (fun v r => ∃ q ρ : Nat, v = .int .u64 q ∧ r = .int .u64 ρ ∧ ρ < 4294967296 ∧ q ≤ 4294967297 ∧ Hid (DigInv Y N1 r1 U0 q ρ)) (fun v _ => (intOf v).toNat)
        case atStart => exact ⟨Q2, R2, rfl, rfl, by have := HR2.out; have := H3.out; omega, HQ2.out, HI2⟩
        case round =>
          obtain ⟨q, ρ, rfl, rfl, hρ, hq, HI⟩ := hrel
          have i1 : (ρ : Int) < 4294967296 := by omega
          have i2 : (q : Int) ≤ 4294967297 := by omega
          have hcases : 4294967296 ≤ q ∨ (q < 4294967296 ∧ 4294967296 * ρ + U0 < q * N0) ∨ (q < 4294967296 ∧ q * N0 ≤ 4294967296 * ρ + U0) := by
            rcases Nat.lt_or_ge q 4294967296 with h | h
            · rcases Nat.lt_or_ge (4294967296 * ρ + U0) (q * N0) with h' | h'
              · exact .inr (.inl ⟨h, h'⟩)
              · exact .inr (.inr ⟨h, h'⟩)
            · exact .inl h
          have HQ := Lib.hid hq
          have HR := Lib.hid hρ
          clear hq hρ
          rcases hcases with hc | ⟨hc, hp⟩ | ⟨hc, hp⟩
          · have hqd : decide ((4294967296 : Int) ≤ (q : Int)) = true := decide_eq_true (by omega)
            have hpos := HI.out.pos HD2.out (.inl (by rw [H32_eq]; exact hc))
            have HNX := Lib.hid (HI.out.next HD2.out (.inl (by rw [H32_eq]; exact hc)))
            have hq1 : 1 ≤ q := by omega
            clear hpos hc HI
            obtain ⟨k, hk⟩ : ∃ k, q = k + 1 := ⟨q - 1, by omega⟩
            have hk1 : (q : Int) - 1 = (k : Int) := by omega
            rw [show q - 1 = k from by omega] at HNX
            have hkq : k ≤ 4294967296 := by have := HQ.out; omega
            have HK := Lib.hid hk
            have HKQ := Lib.hid hkq
            clear hk hkq
            by_cases hbr : (4294967296 : Int) ≤ (ρ : Int) + (N1 : Int)
            · have hbd : decide ((4294967296 : Int) ≤ (ρ : Int) + (N1 : Int)) = true := decide_eq_true hbr
              have HZ := Lib.hid (HNX.out.left HD2.out (by rw [H32_eq]; exact HKQ.out) (by rw [H32_eq]; omega))
              clear HNX
              have hlo2 := left_over HD2.out hYb HZ.out
              have hfin := div_whole HYE.out (by omega : 0 < y) HALL.out
              rw [← HZ1.out, ← HR1.out, ← HZ.out] at hfin
              obtain ⟨r2, hr2⟩ : ∃ r2, r2 = (r1 * H32 + U0) % Y := ⟨_, rfl⟩
              rw [← hr2] at hlo2 hfin
              have HF := Lib.hid hfin
              have hz2b : k < 4294967296 := by have h := HD2.out.q_lt; rw [← HZ.out, H32_eq] at h; exact h
              have i7 : (k : Int) < 4294967296 := by omega
              have HZB := Lib.hid hz2b
              clear hr2 hfin hz2b
              go_wp2
              go_ret2
              refine ⟨?_, rfl⟩
              have hq := HF.out.1
              have hr := HF.out.2
              rw [H32_eq] at hq
              unfold D64Val
              rw [← hq, ← hr, Int.natCast_ediv, Int.natCast_pow]
              rfl
            · have hbd : decide ((4294967296 : Int) ≤ (ρ : Int) + (N1 : Int)) = false := decide_eq_false hbr
              go_wp2
              refine ⟨⟨k, ρ + N1, rfl, by go_num, by omega, by have := HKQ.out; omega, HNX⟩, ?_⟩
              have := HK.out
              simp [intOf]; omega
          · have hqd : decide ((4294967296 : Int) ≤ (q : Int)) = false := decide_eq_false (by omega)
            have hpos := HI.out.pos HD2.out (.inr (by rw [H32_eq]; exact hp))
            have HNX := Lib.hid (HI.out.next HD2.out (.inr (by rw [H32_eq]; exact hp)))
            have hq1 : 1 ≤ q := Nat.le_trans (Nat.le_add_left _ _) hpos
            have hpm := prod_lt hc H4.out
            obtain ⟨p0, hp0⟩ : ∃ p0, p0 = q * N0 := ⟨_, rfl⟩
            rw [← hp0] at hp hpm
            have hpw : IntKind.u64.wrap ((q : Int) * (N0 : Int)) = (p0 : Int) := by rw [← Int.natCast_mul, ← hp0, wrap_u64 _ hpm]
            have hgd : decide ((4294967296 : Int) * (ρ : Int) + (U0 : Int) < (p0 : Int)) = true := decide_eq_true (by omega)
            clear hpos hc HI hp hp0 hpm
            obtain ⟨k, hk⟩ : ∃ k, q = k + 1 := ⟨q - 1, by omega⟩
            have hk1 : (q : Int) - 1 = (k : Int) := by omega
            rw [show q - 1 = k from by omega] at HNX
            have hkq : k ≤ 4294967296 := by have := HQ.out; omega
            have HK := Lib.hid hk
            have HKQ := Lib.hid hkq
            clear hk hkq
            by_cases hbr : (4294967296 : Int) ≤ (ρ : Int) + (N1 : Int)
            · have hbd : decide ((4294967296 : Int) ≤ (ρ : Int) + (N1 : Int)) = true := decide_eq_true hbr
              have HZ := Lib.hid (HNX.out.left HD2.out (by rw [H32_eq]; exact HKQ.out) (by rw [H32_eq]; omega))
              clear HNX
              have hlo2 := left_over HD2.out hYb HZ.out
              have hfin := div_whole HYE.out (by omega : 0 < y) HALL.out
              rw [← HZ1.out, ← HR1.out, ← HZ.out] at hfin
              obtain ⟨r2, hr2⟩ : ∃ r2, r2 = (r1 * H32 + U0) % Y := ⟨_, rfl⟩
              rw [← hr2] at hlo2 hfin
              have HF := Lib.hid hfin
              have hz2b : k < 4294967296 := by have h := HD2.out.q_lt; rw [← HZ.out, H32_eq] at h; exact h
              have i7 : (k : Int) < 4294967296 := by omega
              have HZB := Lib.hid hz2b
              clear hr2 hfin hz2b
              go_wp2
              go_ret2
              refine ⟨?_, rfl⟩
              have hq := HF.out.1
              have hr := HF.out.2
              rw [H32_eq] at hq
              unfold D64Val
              rw [← hq, ← hr, Int.natCast_ediv, Int.natCast_pow]
              rfl
            · have hbd : decide ((4294967296 : Int) ≤ (ρ : Int) + (N1 : Int)) = false := decide_eq_false hbr
              go_wp2
              refine ⟨⟨k, ρ + N1, rfl, by go_num, by omega, by have := HKQ.out; omega, HNX⟩, ?_⟩
              have := HK.out
              simp [intOf]; omega
          · have hqd : decide ((4294967296 : Int) ≤ (q : Int)) = false := decide_eq_false (by omega)
            have HZ := Lib.hid (HI.out.done HD2.out (by rw [H32_eq]; exact hp))
            have hpm := prod_lt hc H4.out
            obtain ⟨p0, hp0⟩ : ∃ p0, p0 = q * N0 := ⟨_, rfl⟩
            rw [← hp0] at hp hpm
            have hpw : IntKind.u64.wrap ((q : Int) * (N0 : Int)) = (p0 : Int) := by rw [← Int.natCast_mul, ← hp0, wrap_u64 _ hpm]
            have hgd : decide ((4294967296 : Int) * (ρ : Int) + (U0 : Int) < (p0 : Int)) = false := decide_eq_false (by omega)
            clear hc HI hp hp0 hpm
            have hlo2 := left_over HD2.out hYb HZ.out
            have hfin := div_whole HYE.out (by omega : 0 < y) HALL.out
            rw [← HZ1.out, ← HR1.out, ← HZ.out] at hfin
            obtain ⟨r2, hr2⟩ : ∃ r2, r2 = (r1 * H32 + U0) % Y := ⟨_, rfl⟩
            rw [← hr2] at hlo2 hfin
            have HF := Lib.hid hfin
            have hz2b : q < 4294967296 := by have h := HD2.out.q_lt; rw [← HZ.out, H32_eq] at h; exact h
            have i7 : (q : Int) < 4294967296 := by omega
            have HZB := Lib.hid hz2b
            clear hr2 hfin hz2b
            go_wp2
            go_ret2
            refine ⟨?_, rfl⟩
            have hq := HF.out.1
            have hr := HF.out.2
            rw [H32_eq] at hq
            unfold D64Val
            rw [← hq, ← hr, Int.natCast_ediv, Int.natCast_pow]
            rfl
      · have hbd : decide ((4294967296 : Int) ≤ (ρ : Int) + (N1 : Int)) = false := decide_eq_false hbr
        go_wp2
        refine ⟨⟨k, ρ + N1, rfl, by go_num, by omega, by have := HKQ.out; omega, HNX⟩, ?_⟩
        have := HK.out
        simp [intOf]; omega
    · have hqd : decide ((4294967296 : Int) ≤ (q : Int)) = false := decide_eq_false (by omega)
      have hpos := HI.out.pos HDIG.out (.inr (by rw [H32_eq]; exact hp))
      have HNX := Lib.hid (HI.out.next HDIG.out (.inr (by rw [H32_eq]; exact hp)))
      have hq1 : 1 ≤ q := Nat.le_trans (Nat.le_add_left _ _) hpos
      have hpm := prod_lt hc H4.out
      obtain ⟨p0, hp0⟩ : ∃ p0, p0 = q * N0 := ⟨_, rfl⟩
      rw [← hp0] at hp hpm
      have hpw : IntKind.u64.wrap ((q : Int) * (N0 : Int)) = (p0 : Int) := by rw [← Int.natCast_mul, ← hp0, wrap_u64 _ hpm]
      have hgd : decide ((4294967296 : Int) * (ρ : Int) + (U1 : Int) < (p0 : Int)) = true := decide_eq_true (by omega)
      clear hpos hc HI hp hp0 hpm
      obtain ⟨k, hk⟩ : ∃ k, q = k + 1 := ⟨q - 1, by omega⟩
      have hk1 : (q : Int) - 1 = (k : Int) := by omega
      rw [show q - 1 = k from by omega] at HNX
      have hkq : k ≤ 4294967296 := by have := HQ.out; omega
      have HK := Lib.hid hk
      have HKQ := Lib.hid hkq
      clear hk hkq
      by_cases hbr : (4294967296 : Int) ≤ (ρ : Int) + (N1 : Int)
      · have hbd : decide ((4294967296 : Int) ≤ (ρ : Int) + (N1 : Int)) = true := decide_eq_true hbr
        have HZ := Lib.hid (HNX.out.left HDIG.out (by rw [H32_eq]; exact HKQ.out) (by rw [H32_eq]; omega))
        clear HNX
        have hlo1 := left_over HDIG.out hYb HZ.out
        obtain ⟨r1, hr1⟩ : ∃ r1, r1 = (U * H32 + U1) % Y := ⟨_, rfl⟩
        rw [← hr1] at hlo1
        have hr1Y : r1 < Y := by rw [hr1]; exact Nat.mod_lt _ (by omega)
        have hd2 : DigIn Y N1 N0 r1 U0 := ⟨HDIG.out.y, HDIG.out.n0, HDIG.out.lo, HDIG.out.hi, hr1Y, by rw [H32_eq]; omega⟩
        obtain ⟨Q2, R2, P2, hp2⟩ := prep hd2 (Nat.lt_trans hr1Y hYb)
        obtain ⟨v8, v9, v10, v11, v12, hR2, hQ2, hi2⟩ := hp2
        have hzb : k < 4294967296 := by have h := HDIG.out.q_lt; rw [← HZ.out, H32_eq] at h; exact h
        have i6 : (k : Int) < 4294967296 := by omega
        have HD2 := Lib.hid hd2
        have HI2 := Lib.hid hi2
        have HR1 := Lib.hid hr1
        have HQ2 := Lib.hid hQ2
        have HR2 := Lib.hid hR2
        have HZ1 := Lib.hid HZ.out
        have i8 : (Q2 : Int) ≤ 4294967297 := by omega
        clear hd2 hi2 hr1 hzb HZ hQ2 hR2
        go_wp2_with fail
        clear v8 v9 v10 v11 v12 hlo1
        go_loop [18, 16] (fun v r => ∃ q ρ : Nat, v = .int .u64 q ∧ r = .int .u64 ρ ∧ ρ < 4294967296 ∧ q ≤ 4294967297 ∧ Hid (DigInv Y N1 r1 U0 q ρ)) (fun v _ => (intOf v).toNat)
        case atStart => exact ⟨Q2, R2, rfl, rfl, by have := HR2.out; have := H3.out; omega, HQ2.out, HI2⟩
        case round =>
          obtain ⟨q, ρ, rfl, rfl, hρ, hq, HI⟩ := hrel
          have i1 : (ρ : Int) < 4294967296 := by omega
          have i2 : (q : Int) ≤ 4294967297 := by omega
          have hcases : 4294967296 ≤ q ∨ (q < 4294967296 ∧ 4294967296 * ρ + U0 < q * N0) ∨ (q < 4294967296 ∧ q * N0 ≤ 4294967296 * ρ + U0) := by
            rcases Nat.lt_or_ge q 4294967296 with h | h
            · rcases Nat.lt_or_ge (4294967296 * ρ + U0) (q * N0) with h' | h'
              · exact .inr (.inl ⟨h, h'⟩)
              · exact .inr (.inr ⟨h, h'⟩)
            · exact .inl h
          have HQ := Lib.hid hq
          have HR := Lib.hid hρ
          clear hq hρ
          rcases hcases with hc | ⟨hc, hp⟩ | ⟨hc, hp⟩
          · have hqd : decide ((4294967296 : Int) ≤ (q : Int)) = true := decide_eq_true (by omega)
            have hpos := HI.out.pos HD2.out (.inl (by rw [H32_eq]; exact hc))
            have HNX := Lib.hid (HI.out.next HD2.out (.inl (by rw [H32_eq]; exact hc)))
            have hq1 : 1 ≤ q := by omega
            clear hpos hc HI
            obtain ⟨k, hk⟩ : ∃ k, q = k + 1 := ⟨q - 1, by omega⟩
            have hk1 : (q : Int) - 1 = (k : Int) := by omega
            rw [show q - 1 = k from by omega] at HNX
            have hkq : k ≤ 4294967296 := by have := HQ.out; omega
            have HK := Lib.hid hk
            have HKQ := Lib.hid hkq
            clear hk hkq
            by_cases hbr : (4294967296 : Int) ≤ (ρ : Int) + (N1 : Int)
            · have hbd : decide ((4294967296 : Int) ≤ (ρ : Int) + (N1 : Int)) = true := decide_eq_true hbr
              have HZ := Lib.hid (HNX.out.left HD2.out (by rw [H32_eq]; exact HKQ.out) (by rw [H32_eq]; omega))
              clear HNX
              have hlo2 := left_over HD2.out hYb HZ.out
              have hfin := div_whole HYE.out (by omega : 0 < y) HALL.out
              rw [← HZ1.out, ← HR1.out, ← HZ.out] at hfin
              obtain ⟨r2, hr2⟩ : ∃ r2, r2 = (r1 * H32 + U0) % Y := ⟨_, rfl⟩
              rw [← hr2] at hlo2 hfin
              have HF := Lib.hid hfin
              have hz2b : k < 4294967296 := by have h := HD2.out.q_lt; rw [← HZ.out, H32_eq] at h; exact h
              have i7 : (k : Int) < 4294967296 := by omega
              have HZB := Lib.hid hz2b
              clear hr2 hfin hz2b
              go_wp2
              go_ret2
              refine ⟨?_, rfl⟩
              have hq := HF.out.1
              have hr := HF.out.2
              rw [H32_eq] at hq
              unfold D64Val
              rw [← hq, ← hr, Int.natCast_ediv, Int.natCast_pow]
              rfl
            · have hbd : decide ((4294967296 : Int) ≤ (ρ : Int) + (N1 : Int)) = false := decide_eq_false hbr
              go_wp2
              refine ⟨⟨k, ρ + N1, rfl, by go_num, by omega, by have := HKQ.out; omega, HNX⟩, ?_⟩
              have := HK.out
              simp [intOf]; omega
          · have hqd : decide ((4294967296 : Int) ≤ (q : Int)) = false := decide_eq_false (by omega)
            have hpos := HI.out.pos HD2.out (.inr (by rw [H32_eq]; exact hp))
            have HNX := Lib.hid (HI.out.next HD2.out (.inr (by rw [H32_eq]; exact hp)))
            have hq1 : 1 ≤ q := Nat.le_trans (Nat.le_add_left _ _) hpos
            have hpm := prod_lt hc H4.out
            obtain ⟨p0, hp0⟩ : ∃ p0, p0 = q * N0 := ⟨_, rfl⟩
            rw [← hp0] at hp hpm
            have hpw : IntKind.u64.wrap ((q : Int) * (N0 : Int)) = (p0 : Int) := by rw [← Int.natCast_mul, ← hp0, wrap_u64 _ hpm]
            have hgd : decide ((4294967296 : Int) * (ρ : Int) + (U0 : Int) < (p0 : Int)) = true := decide_eq_true (by omega)
            clear hpos hc HI hp hp0 hpm
            obtain ⟨k, hk⟩ : ∃ k, q = k + 1 := ⟨q - 1, by omega⟩
            have hk1 : (q : Int) - 1 = (k : Int) := by omega
            rw [show q - 1 = k from by omega] at HNX
            have hkq : k ≤ 4294967296 := by have := HQ.out; omega
            have HK := Lib.hid hk
            have HKQ := Lib.hid hkq
            clear hk hkq
            by_cases hbr : (4294967296 : Int) ≤ (ρ : Int) + (N1 : Int)
            · have hbd : decide ((4294967296 : Int) ≤ (ρ : Int) + (N1 : Int)) = true := decide_eq_true hbr
              have HZ := Lib.hid (HNX.out.left HD2.out (by rw [H32_eq]; exact HKQ.out) (by rw [H32_eq]; omega))
              clear HNX
              have hlo2 := left_over HD2.out hYb HZ.out
              have hfin := div_whole HYE.out (by omega : 0 < y) HALL.out
              rw [← HZ1.out, ← HR1.out, ← HZ.out] at hfin
              obtain ⟨r2, hr2⟩ : ∃ r2, r2 = (r1 * H32 + U0) % Y := ⟨_, rfl⟩
              rw [← hr2] at hlo2 hfin
              have HF := Lib.hid hfin
              have hz2b : k < 4294967296 := by have h := HD2.out.q_lt; rw [← HZ.out, H32_eq] at h; exact h
              have i7 : (k : Int) < 4294967296 := by omega
              have HZB := Lib.hid hz2b
              clear hr2 hfin hz2b
              go_wp2
              go_ret2
              refine ⟨?_, rfl⟩
              have hq := HF.out.1
              have hr := HF.out.2
              rw [H32_eq] at hq
              unfold D64Val
              rw [← hq, ← hr, Int.natCast_ediv, Int.natCast_pow]
              rfl
            · have hbd : decide ((4294967296 : Int) ≤ (ρ : Int) + (N1 : Int)) = false := decide_eq_false hbr
              go_wp2
              refine ⟨⟨k, ρ + N1, rfl, by go_num, by omega, by have := HKQ.out; omega, HNX⟩, ?_⟩
              have := HK.out
              simp [intOf]; omega
          · have hqd : decide ((4294967296 : Int) ≤ (q : Int)) = false := decide_eq_false (by omega)
            have HZ := Lib.hid (HI.out.done HD2.out (by rw [H32_eq]; exact hp))
            have hpm := prod_lt hc H4.out
            obtain ⟨p0, hp0⟩ : ∃ p0, p0 = q * N0 := ⟨_, rfl⟩
            rw [← hp0] at hp hpm
            have hpw : IntKind.u64.wrap ((q : Int) * (N0 : Int)) = (p0 : Int) := by rw [← Int.natCast_mul, ← hp0, wrap_u64 _ hpm]
            have hgd : decide ((4294967296 : Int) * (ρ : Int) + (U0 : Int) < (p0 : Int)) = false := decide_eq_false (by omega)
            clear hc HI hp hp0 hpm
            have hlo2 := left_over HD2.out hYb HZ.out
            have hfin := div_whole HYE.out (by omega : 0 < y) HALL.out
            rw [← HZ1.out, ← HR1.out, ← HZ.out] at hfin
            obtain ⟨r2, hr2⟩ : ∃ r2, r2 = (r1 * H32 + U0) % Y := ⟨_, rfl⟩
            rw [← hr2] at hlo2 hfin
            have HF := Lib.hid hfin
            have hz2b : q < 4294967296 := by have h := HD2.out.q_lt; rw [← HZ.out, H32_eq] at h; exact h
            have i7 : (q : Int) < 4294967296 := by omega
            have HZB := Lib.hid hz2b
            clear hr2 hfin hz2b
            go_wp2
            go_ret2
            refine ⟨?_, rfl⟩
            have hq := HF.out.1
            have hr := HF.out.2
            rw [H32_eq] at hq
            unfold D64Val
            rw [← hq, ← hr, Int.natCast_ediv, Int.natCast_pow]
            rfl
      · have hbd : decide ((4294967296 : Int) ≤ (ρ : Int) + (N1 : Int)) = false := decide_eq_false hbr
        go_wp2
        refine ⟨⟨k, ρ + N1, rfl, by go_num, by omega, by have := HKQ.out; omega, HNX⟩, ?_⟩
        have := HK.out
        simp [intOf]; omega
    · have hqd : decide ((4294967296 : Int) ≤ (q : Int)) = false := decide_eq_false (by omega)
      have HZ := Lib.hid (HI.out.done HDIG.out (by rw [H32_eq]; exact hp))
      have hpm := prod_lt hc H4.out
      obtain ⟨p0, hp0⟩ : ∃ p0, p0 = q * N0 := ⟨_, rfl⟩
      rw [← hp0] at hp hpm
      have hpw : IntKind.u64.wrap ((q : Int) * (N0 : Int)) = (p0 : Int) := by rw [← Int.natCast_mul, ← hp0, wrap_u64 _ hpm]
      have hgd : decide ((4294967296 : Int) * (ρ : Int) + (U1 : Int) < (p0 : Int)) = false := decide_eq_false (by omega)
      clear hc HI hp hp0 hpm
      have hlo1 := left_over HDIG.out hYb HZ.out
      obtain ⟨r1, hr1⟩ : ∃ r1, r1 = (U * H32 + U1) % Y := ⟨_, rfl⟩
      rw [← hr1] at hlo1
      have hr1Y : r1 < Y := by rw [hr1]; exact Nat.mod_lt _ (by omega)
      have hd2 : DigIn Y N1 N0 r1 U0 := ⟨HDIG.out.y, HDIG.out.n0, HDIG.out.lo, HDIG.out.hi, hr1Y, by rw [H32_eq]; omega⟩
      obtain ⟨Q2, R2, P2, hp2⟩ := prep hd2 (Nat.lt_trans hr1Y hYb)
      obtain ⟨v8, v9, v10, v11, v12, hR2, hQ2, hi2⟩ := hp2
      have hzb : q < 4294967296 := by have h := HDIG.out.q_lt; rw [← HZ.out, H32_eq] at h; exact h
      have i6 : (q : Int) < 4294967296 := by omega
      have HD2 := Lib.hid hd2
      have HI2 := Lib.hid hi2
      have HR1 := Lib.hid hr1
      have HQ2 := Lib.hid hQ2
      have HR2 := Lib.hid hR2
      have HZ1 := Lib.hid HZ.out
      have i8 : (Q2 : Int) ≤ 4294967297 := by omega
      clear hd2 hi2 hr1 hzb HZ hQ2 hR2
      go_wp2_with fail
      clear v8 v9 v10 v11 v12 hlo1
      go_loop [18, 16] (fun v r => ∃ q ρ : Nat, v = .int .u64 q ∧ r = .int .u64 ρ ∧ ρ < 4294967296 ∧ q ≤ 4294967297 ∧ Hid (DigInv Y N1 r1 U0 q ρ)) (fun v _ => (intOf v).toNat)
      case atStart => exact ⟨Q2, R2, rfl, rfl, by have := HR2.out; have := H3.out; omega, HQ2.out, HI2⟩
      case round =>
        obtain ⟨q, ρ, rfl, rfl, hρ, hq, HI⟩ := hrel
        have i1 : (ρ : Int) < 4294967296 := by omega
        have i2 : (q : Int) ≤ 4294967297 := by omega
        have hcases : 4294967296 ≤ q ∨ (q < 4294967296 ∧ 4294967296 * ρ + U0 < q * N0) ∨ (q < 4294967296 ∧ q * N0 ≤ 4294967296 * ρ + U0) := by
          rcases Nat.lt_or_ge q 4294967296 with h | h
          · rcases Nat.lt_or_ge (4294967296 * ρ + U0) (q * N0) with h' | h'
            · exact .inr (.inl ⟨h, h'⟩)
            · exact .inr (.inr ⟨h, h'⟩)
          · exact .inl h
        have HQ := Lib.hid hq
        have HR := Lib.hid hρ
        clear hq hρ
        rcases hcases with hc | ⟨hc, hp⟩ | ⟨hc, hp⟩
        · have hqd : decide ((4294967296 : Int) ≤ (q : Int)) = true := decide_eq_true (by omega)
          have hpos := HI.out.pos HD2.out (.inl (by rw [H32_eq]; exact hc))
          have HNX := Lib.hid (HI.out.next HD2.out (.inl (by rw [H32_eq]; exact hc)))
          have hq1 : 1 ≤ q := by omega
          clear hpos hc HI
          obtain ⟨k, hk⟩ : ∃ k, q = k + 1 := ⟨q - 1, by omega⟩
          have hk1 : (q : Int) - 1 = (k : Int) := by omega
          rw [show q - 1 = k from by omega] at HNX
          have hkq : k ≤ 4294967296 := by have := HQ.out; omega
          have HK := Lib.hid hk
          have HKQ := Lib.hid hkq
          clear hk hkq
          by_cases hbr : (4294967296 : Int) ≤ (ρ : Int) + (N1 : Int)
          · have hbd : decide ((4294967296 : Int) ≤ (ρ : Int) + (N1 : Int)) = true := decide_eq_true hbr
            have HZ := Lib.hid (HNX.out.left HD2.out (by rw [H32_eq]; exact HKQ.out) (by rw [H32_eq]; omega))
            clear HNX
            have hlo2 := left_over HD2.out hYb HZ.out
            have hfin := div_whole HYE.out (by omega : 0 < y) HALL.out
            rw [← HZ1.out, ← HR1.out, ← HZ.out] at hfin
            obtain ⟨r2, hr2⟩ : ∃ r2, r2 = (r1 * H32 + U0) % Y := ⟨_, rfl⟩
            rw [← hr2] at hlo2 hfin
            have HF := Lib.hid hfin
            have hz2b : k < 4294967296 := by have h := HD2.out.q_lt; rw [← HZ.out, H32_eq] at h; exact h
            have i7 : (k : Int) < 4294967296 := by omega
            have HZB := Lib.hid hz2b
            clear hr2 hfin hz2b
            go_wp2
            go_ret2
            refine ⟨?_, rfl⟩
            have hq := HF.out.1
            have hr := HF.out.2
            rw [H32_eq] at hq
            unfold D64Val
            rw [← hq, ← hr, Int.natCast_ediv, Int.natCast_pow]
            rfl
          · have hbd : decide ((4294967296 : Int) ≤ (ρ : Int) + (N1 : Int)) = false := decide_eq_false hbr
            go_wp2
            refine ⟨⟨k, ρ + N1, rfl, by go_num, by omega, by have := HKQ.out; omega, HNX⟩, ?_⟩
            have := HK.out
            simp [intOf]; omega
        · have hqd : decide ((4294967296 : Int) ≤ (q : Int)) = false := decide_eq_false (by omega)
          have hpos := HI.out.pos HD2.out (.inr (by rw [H32_eq]; exact hp))
          have HNX := Lib.hid (HI.out.next HD2.out (.inr (by rw [H32_eq]; exact hp)))
          have hq1 : 1 ≤ q := Nat.le_trans (Nat.le_add_left _ _) hpos
          have hpm := prod_lt hc H4.out
          obtain ⟨p0, hp0⟩ : ∃ p0, p0 = q * N0 := ⟨_, rfl⟩
          rw [← hp0] at hp hpm
          have hpw : IntKind.u64.wrap ((q : Int) * (N0 : Int)) = (p0 : Int) := by rw [← Int.natCast_mul, ← hp0, wrap_u64 _ hpm]
          have hgd : decide ((4294967296 : Int) * (ρ : Int) + (U0 : Int) < (p0 : Int)) = true := decide_eq_true (by omega)
          clear hpos hc HI hp hp0 hpm
          obtain ⟨k, hk⟩ : ∃ k, q = k + 1 := ⟨q - 1, by omega⟩
          have hk1 : (q : Int) - 1 = (k : Int) := by omega
          rw [show q - 1 = k from by omega] at HNX
          have hkq : k ≤ 4294967296 := by have := HQ.out; omega
          have HK := Lib.hid hk
          have HKQ := Lib.hid hkq
          clear hk hkq
          by_cases hbr : (4294967296 : Int) ≤ (ρ : Int) + (N1 : Int)
          · have hbd : decide ((4294967296 : Int) ≤ (ρ : Int) + (N1 : Int)) = true := decide_eq_true hbr
            have HZ := Lib.hid (HNX.out.left HD2.out (by rw [H32_eq]; exact HKQ.out) (by rw [H32_eq]; omega))
            clear HNX
            have hlo2 := left_over HD2.out hYb HZ.out
            have hfin := div_whole HYE.out (by omega : 0 < y) HALL.out
            rw [← HZ1.out, ← HR1.out, ← HZ.out] at hfin
            obtain ⟨r2, hr2⟩ : ∃ r2, r2 = (r1 * H32 + U0) % Y := ⟨_, rfl⟩
            rw [← hr2] at hlo2 hfin
            have HF := Lib.hid hfin
            have hz2b : k < 4294967296 := by have h := HD2.out.q_lt; rw [← HZ.out, H32_eq] at h; exact h
            have i7 : (k : Int) < 4294967296 := by omega
            have HZB := Lib.hid hz2b
            clear hr2 hfin hz2b
            go_wp2
            go_ret2
            refine ⟨?_, rfl⟩
            have hq := HF.out.1
            have hr := HF.out.2
            rw [H32_eq] at hq
            unfold D64Val
            rw [← hq, ← hr, Int.natCast_ediv, Int.natCast_pow]
            rfl
          · have hbd : decide ((4294967296 : Int) ≤ (ρ : Int) + (N1 : Int)) = false := decide_eq_false hbr
            go_wp2
            refine ⟨⟨k, ρ + N1, rfl, by go_num, by omega, by have := HKQ.out; omega, HNX⟩, ?_⟩
            have := HK.out
            simp [intOf]; omega
        · have hqd : decide ((4294967296 : Int) ≤ (q : Int)) = false := decide_eq_false (by omega)
          have HZ := Lib.hid (HI.out.done HD2.out (by rw [H32_eq]; exact hp))
          have hpm := prod_lt hc H4.out
          obtain ⟨p0, hp0⟩ : ∃ p0, p0 = q * N0 := ⟨_, rfl⟩
          rw [← hp0] at hp hpm
          have hpw : IntKind.u64.wrap ((q : Int) * (N0 : Int)) = (p0 : Int) := by rw [← Int.natCast_mul, ← hp0, wrap_u64 _ hpm]
          have hgd : decide ((4294967296 : Int) * (ρ : Int) + (U0 : Int) < (p0 : Int)) = false := decide_eq_false (by omega)
          clear hc HI hp hp0 hpm
          have hlo2 := left_over HD2.out hYb HZ.out
          have hfin := div_whole HYE.out (by omega : 0 < y) HALL.out
          rw [← HZ1.out, ← HR1.out, ← HZ.out] at hfin
          obtain ⟨r2, hr2⟩ : ∃ r2, r2 = (r1 * H32 + U0) % Y := ⟨_, rfl⟩
          rw [← hr2] at hlo2 hfin
          have HF := Lib.hid hfin
          have hz2b : q < 4294967296 := by have h := HD2.out.q_lt; rw [← HZ.out, H32_eq] at h; exact h
          have i7 : (q : Int) < 4294967296 := by omega
          have HZB := Lib.hid hz2b
          clear hr2 hfin hz2b
          go_wp2
          go_ret2
          refine ⟨?_, rfl⟩
          have hq := HF.out.1
          have hr := HF.out.2
          rw [H32_eq] at hq
          unfold D64Val
          rw [← hq, ← hr, Int.natCast_ediv, Int.natCast_pow]
          rfl

theorem div64_any (hi lo y : Nat) (w : World) (hl : lo < W64) (hy : hi < y) (hy2 : y < W64) :
    Calls Tryz.prog 136 #[.int .u64 (hi : Int), .int .u64 (lo : Int), .int .u64 (y : Int)] w fun e w' => e = .returned (D64Val hi lo y) ∧ ∃ n, w' = w.drewN n := by
  rcases Nat.eq_zero_or_pos hi with rfl | h
  · refine (div64_lo lo y w hl (by omega)).mono fun e w' ⟨he, hw⟩ => ⟨?_, hw⟩
    rw [he]; unfold D64Val; rw [Nat.zero_mul, Nat.zero_add]
  · exact (div64_hi hi lo y w h hl hy hy2).mono fun e w' ⟨he, hw⟩ => ⟨he, 0, hw⟩
end Go.Proofs.YteajpefbmiiioaaGreatDoor
