/- Contracts of package nat and of the reference, part 2: Trim, Add, SubW, AddTo, Words, NatOf, Copy, Sum, MulW, Prod, Cmp. -/
import Derived.Test.YtoadjhmehgkeaaaGreatDoorETexts1
import Derived.Laws.Externs
import Derived.Shelf.Spec.BitsCarry
import Derived.RegionTactic
import Derived.BigRegion
import Derived.Laws.BytesArg
namespace Go.Proofs.YtoadjhmehgkeaaaGreatDoor
open Go.RowKit Mth

theorem trimmed_any (b off n c : Nat) (xs : List Nat) (w : World) (hb : Blk .u64 96 w b xs) (hn : off + n ≤ xs.length) (hc : n ≤ c) (hm : c ≤ maxLen) :
    Calls Tryz.prog 125 #[.slice (some ⟨b, off, none⟩) n c] w fun e w' => (∃ m, e = .returned (.slice (some ⟨b, off, none⟩) m c) ∧ m ≤ n ∧ (∀ i, m ≤ i → i < n → gt xs (off + i) = 0) ∧ (m = 0 ∨ gt xs (off + (m - 1)) ≠ 0)) ∧ w = w' := by
  unfold maxLen at hm
  go_enter Tryz.func125, Tryz.ntmps125
  go_wp2
  go_loop [0] (fun v => ∃ m : Nat, m ≤ n ∧ v = .slice (some ⟨b, off, none⟩) m c ∧ Hid (∀ i, m ≤ i → i < n → gt xs (off + i) = 0)) (fun v => lenOf v)
  case atStart => exact ⟨n, Nat.le_refl _, rfl, fun i h1 h2 => by omega⟩
  case round =>
    obtain ⟨m, hmn, rfl, hz⟩ := hrel
    have hcell : 0 < m → w.cell? ⟨b, off + (m - 1), none⟩ = some (.int .u64 ((gt xs (off + (m - 1)) : Nat) : Int)) := fun h => hb.cell (by omega)
    go_wp2
    · have h1 : 0 < m := by assumption
      have h2 : ((gt xs (off + (m - 1)) : Int) == 0) = true := by assumption
      have h0 : gt xs (off + (m - 1)) = 0 := by have := beq_iff_eq.1 h2; omega
      refine ⟨⟨m - 1, by omega, rfl, fun i h3 h4 => ?_⟩, by simp only [lenOf]; omega⟩
      by_cases e : i = m - 1
      · rw [e]; exact h0
      · exact hz.out i (by omega) h4
    · have h1 : 0 < m := by assumption
      have h2 : ((gt xs (off + (m - 1)) : Int) == 0) = false := by assumption
      have h0 : gt xs (off + (m - 1)) ≠ 0 := by intro e; rw [e] at h2; simp at h2
      go_ret
      exact ⟨⟨m, rfl, hmn, hz.out, .inr h0⟩, rfl⟩
    · have h1 : ¬ 0 < m := by assumption
      go_ret
      exact ⟨⟨m, rfl, hmn, hz.out, .inl (by omega)⟩, rfl⟩
end Go.Proofs.YtoadjhmehgkeaaaGreatDoor
namespace Go.Proofs.YtoadjhmehgkeaaaGreatDoor
open Go.RowKit Mth

theorem add64_run (x y c : Nat) (hc : c ≤ 1) (w : World) :
    (callFunc 151 #[.int .u64 (x : Int), .int .u64 (y : Int), .int .u64 (c : Int)]).run Tryz.prog w =
      .ok (.value (.tuple #[.int .u64 ((addLo x y c : Nat) : Int), .int .u64 ((addHi x y c : Nat) : Int)])) w := by
  rw [run_callFunc_extern Tryz.func151 (by kernel_rfl) (by kernel_rfl) (by kernel_rfl) (e := add64Entry) (by kernel_rfl), run_add64 x y c (by omega) (by omega) (by omega) (by omega)]
  simp only [Result.andThen, addLo, addHi, W64]
  congr 5 <;> omega
theorem add64_run0 (x y : Nat) (w : World) :
    (callFunc 151 #[.int .u64 (x : Int), .int .u64 (y : Int), .int .u64 0]).run Tryz.prog w =
      .ok (.value (.tuple #[.int .u64 ((addLo x y 0 : Nat) : Int), .int .u64 ((addHi x y 0 : Nat) : Int)])) w := add64_run x y 0 (by omega) w

/-- What a slice at (b, off, n) of numbers below the base has become, the rest of its block being as it was. -/
structure Wrote (xs zs : List Nat) (off n : Nat) : Prop where
  len : zs.length = xs.length
  out : ∀ i, (i < off ∨ off + n ≤ i) → gt zs i = gt xs i
theorem Wrote.refl (xs : List Nat) (off n : Nat) : Wrote xs xs off n := ⟨rfl, fun _ _ => rfl⟩
theorem Wrote.step {xs zs : List Nat} {off n : Nat} (h : Wrote xs zs off n) {i v : Nat} (h1 : off ≤ i) (h2 : i < off + n) (h3 : i < xs.length) : Wrote xs (zs.set i v) off n :=
  ⟨by simp [h.len], fun j hj => by rw [gt_set (by rw [h.len]; exact h3), if_neg (by omega)]; exact h.out j hj⟩
theorem Wrote.trans {xs ys zs : List Nat} {off n o1 n1 o2 n2 : Nat} (h : Wrote xs ys o1 n1) (g : Wrote ys zs o2 n2) (h1 : off ≤ o1) (h2 : o1 + n1 ≤ off + n) (h3 : off ≤ o2) (h4 : o2 + n2 ≤ off + n) : Wrote xs zs off n :=
  ⟨g.len.trans h.len, fun i hi => (g.out i (by omega)).trans (h.out i (by omega))⟩

def AddedW (xs zs : List Nat) (off n y : Nat) : Prop := Wrote xs zs off n ∧ Dg W64 zs ∧ ∃ k, vs W64 zs off n + W64 ^ n * k = vs W64 xs off n + y
/-- The loop of addWordTo: i rounds are over, y is still to be added. -/
def AddInv (xs zs : List Nat) (off n i y0 y : Nat) : Prop := Wrote xs zs off n ∧ Dg W64 zs ∧ y < W64 ∧ (∀ j, i ≤ j → gt zs (off + j) = gt xs (off + j)) ∧ vs W64 zs off i + W64 ^ i * y = vs W64 xs off i + y0
theorem AddInv.next {xs zs : List Nat} {off n i y0 y : Nat} (h : AddInv xs zs off n i y0 y) (hi : i < n) (hx : off + n ≤ xs.length) : AddInv xs (zs.set (off + i) (addLo (gt zs (off + i)) y 0)) off n (i + 1) y0 (addHi (gt zs (off + i)) y 0) := by
  obtain ⟨h1, h2, h3, h4, h5⟩ := h
  have hl : off + i < zs.length := by rw [h1.len]; omega
  have hhi := addHi_le (h2 (off + i)) h3 (Nat.zero_le 1)
  have h1W : 1 < W64 := by decide
  refine ⟨h1.step (by omega) (by omega) (by omega), h2.set (addLo_lt _ _ _), by omega, fun j hj => ?_, ?_⟩
  · rw [gt_set hl, if_neg (by omega)]; exact h4 j (by omega)
  · have hs := add_split (gt zs (off + i)) y 0
    simp only [vs]
    rw [gt_set hl, if_pos rfl, vs_congr (ys := zs) (off' := off) (fun j hj => by rw [gt_set hl, if_neg (by omega)])]
    rw [h4 i (Nat.le_refl _)] at hs ⊢
    have e : W64 ^ i * addLo (gt xs (off + i)) y 0 + W64 ^ (i + 1) * addHi (gt xs (off + i)) y 0 = W64 ^ i * gt xs (off + i) + W64 ^ i * y := by
      rw [Nat.pow_succ, Nat.mul_assoc, ← Nat.mul_add, hs, Nat.add_zero, Nat.mul_add]
    omega
theorem AddInv.done {xs zs : List Nat} {off n i y0 y : Nat} (h : AddInv xs zs off n i y0 y) (hi : i ≤ n) (he : i = n ∨ y = 0) : AddedW xs zs off n y0 := by
  obtain ⟨h1, h2, h3, h4, h5⟩ := h
  refine ⟨h1, h2, ?_⟩
  rcases he with rfl | rfl
  · exact ⟨y, h5⟩
  · refine ⟨0, ?_⟩
    obtain ⟨m, rfl⟩ : ∃ m, n = i + m := ⟨n - i, by omega⟩
    rw [vs_split, vs_split, vs_congr (xs := zs) (ys := xs) (off' := off + i) (n := m) (fun j hj => by rw [Nat.add_assoc]; exact h4 (i + j) (by omega))]
    omega

theorem addWordTo_any (b off n c y : Nat) (xs : List Nat) (w : World) (hb : Blk .u64 96 w b xs) (hn : off + n ≤ xs.length) (hd : Dg W64 xs) (hy : y < W64) (hm : n ≤ maxLen) :
    Calls Tryz.prog 156 #[.slice (some ⟨b, off, none⟩) n c, .int .u64 (y : Int)] w fun e w' => e = .returned (.tuple #[]) ∧ ∃ zs, Blk .u64 96 w' b zs ∧ w.grownBy w' (some b) ∧ AddedW xs zs off n y := by
  unfold maxLen at hm
  have ha := add64_run0
  have hy0 : AddInv xs xs off n 0 y y := ⟨Wrote.refl _ _ _, hd, hy, fun _ _ => rfl, by simp [vs]⟩
  go_enter Tryz.func156, Tryz.ntmps156
  go_wp2
  go_loopw [1, 4] (fun v j wr => ∃ (i t : Nat) (zs : List Nat), i ≤ n ∧ j = .int .i64 i ∧ v = .int .u64 t ∧ Blk .u64 96 wr b zs ∧ w.grownBy wr (some b) ∧ AddInv xs zs off n i y t) (fun _ j _ => n - (intOf j).toNat)
  case atStart => exact ⟨0, y, xs, Nat.zero_le _, rfl, rfl, hb, World.grownBy.refl _ _, hy0⟩
  case round =>
    obtain ⟨i, t, zs, hi, rfl, rfl, hbz, hg, hinv⟩ := hrel
    have hlz : zs.length = xs.length := hinv.1.len
    have hcell : i < n → wr.cell? ⟨b, off + i, none⟩ = some (.int .u64 ((gt zs (off + i) : Nat) : Int)) := fun h => hbz.cell (by omega)
    have hfr : wr.frozen? ⟨b, off + i, none⟩ = false := hbz.frozen _
    go_wp2
    · have hlt : i < n := by assumption
      have hnx := hinv.next hlt hn
      go_roundw
      case rel => exact ⟨i + 1, _, _, by omega, by go_num, rfl, hbz.set _ _, gr_trans hg (gr_set _ _ _ _) (.inr rfl) (.inr (.inl rfl)), hnx⟩
      case measure => simp [intOf]; omega
    · have hlt : i < n := by assumption
      have h0 : ¬ 0 < t := by assumption
      go_end0
      exact ⟨rfl, zs, hbz, hg, hinv.done hi (.inr (by omega))⟩
    · have hlt : ¬ i < n := by assumption
      go_end0
      exact ⟨rfl, zs, hbz, hg, hinv.done hi (.inl (by omega))⟩
end Go.Proofs.YtoadjhmehgkeaaaGreatDoor
namespace Go.Proofs.YtoadjhmehgkeaaaGreatDoor
open Go.RowKit Mth

def subLo (x y c : Nat) : Nat := (x + W64 - y - c) % W64
def subHi (x y c : Nat) : Nat := if x < y + c then 1 else 0
theorem subLo_lt (x y c : Nat) : subLo x y c < W64 := Nat.mod_lt _ W64_pos
theorem subHi_le (x y c : Nat) : subHi x y c ≤ 1 := by unfold subHi; split <;> omega
theorem sub_split {x y c : Nat} (hx : x < W64) (hy : y < W64) (hc : c ≤ 1) : subLo x y c + y + c = x + W64 * subHi x y c := by
  unfold subLo subHi
  rw [W64_eq] at *
  split <;> omega
theorem sub64_run (x y c : Nat) (hc : c ≤ 1) (w : World) :
    (callFunc 124 #[.int .u64 (x : Int), .int .u64 (y : Int), .int .u64 (c : Int)]).run Tryz.prog w =
      .ok (.value (.tuple #[.int .u64 ((subLo x y c : Nat) : Int), .int .u64 ((subHi x y c : Nat) : Int)])) w := by
  rw [run_callFunc_extern Tryz.func124 (by kernel_rfl) (by kernel_rfl) (by kernel_rfl) (e := sub64Entry) (by kernel_rfl), run_sub64 x y c hc]
  rfl
theorem sub64_run0 (x c : Nat) (hc : c ≤ 1) (w : World) :
    (callFunc 124 #[.int .u64 (x : Int), .int .u64 0, .int .u64 (c : Int)]).run Tryz.prog w =
      .ok (.value (.tuple #[.int .u64 ((subLo x 0 c : Nat) : Int), .int .u64 ((subHi x 0 c : Nat) : Int)])) w := sub64_run x 0 c hc w

def SubInv (xs zs : List Nat) (off n Y i c : Nat) : Prop := Wrote xs zs off n ∧ Dg W64 zs ∧ c ≤ 1 ∧ (∀ j, i ≤ j → gt zs (off + j) = gt xs (off + j)) ∧ vs W64 zs off i + Y = vs W64 xs off i + W64 ^ i * c
theorem SubInv.next {xs zs : List Nat} {off n Y i c y : Nat} (h : SubInv xs zs off n Y i c) (hy : y < W64) (hi : i < n) (hx : off + n ≤ xs.length) : SubInv xs (zs.set (off + i) (subLo (gt zs (off + i)) y c)) off n (Y + W64 ^ i * y) (i + 1) (subHi (gt zs (off + i)) y c) := by
  obtain ⟨h1, h2, h3, h4, h5⟩ := h
  have hl : off + i < zs.length := by rw [h1.len]; omega
  refine ⟨h1.step (by omega) (by omega) (by omega), h2.set (subLo_lt _ _ _), subHi_le _ _ _, fun j hj => ?_, ?_⟩
  · rw [gt_set hl, if_neg (by omega)]; exact h4 j (by omega)
  · have hs := sub_split (h2 (off + i)) hy h3
    simp only [vs]
    rw [gt_set hl, if_pos rfl, vs_congr (ys := zs) (off' := off) (fun j hj => by rw [gt_set hl, if_neg (by omega)])]
    rw [h4 i (Nat.le_refl _)] at hs ⊢
    have e : W64 ^ i * subLo (gt xs (off + i)) y c + W64 ^ i * y + W64 ^ i * c = W64 ^ i * gt xs (off + i) + W64 ^ (i + 1) * subHi (gt xs (off + i)) y c := by
      rw [Nat.pow_succ, Nat.mul_assoc, ← Nat.mul_add, ← Nat.mul_add, hs, Nat.mul_add]
    omega
theorem SubInv.done {xs zs : List Nat} {off n Y i c : Nat} (h : SubInv xs zs off n Y i c) (hi : i ≤ n) (he : i = n ∨ c = 0) (hY : Y ≤ vs W64 xs off n) : Wrote xs zs off n ∧ Dg W64 zs ∧ vs W64 zs off n + Y = vs W64 xs off n := by
  obtain ⟨h1, h2, h3, h4, h5⟩ := h
  refine ⟨h1, h2, ?_⟩
  rcases he with rfl | rfl
  · have hlt := vs_lt (off := off) (n := i) h2
    have : c = 0 ∨ c = 1 := by omega
    rcases this with rfl | rfl
    · simpa using h5
    · omega
  · obtain ⟨m, rfl⟩ : ∃ m, n = i + m := ⟨n - i, by omega⟩
    rw [vs_split, vs_split, vs_congr (xs := zs) (ys := xs) (off' := off + i) (n := m) (fun j hj => by rw [Nat.add_assoc]; exact h4 (i + j) (by omega))]
    omega

theorem subtractFrom_any (b1 o1 n1 c1 b2 o2 n2 c2 : Nat) (xs ys : List Nat) (w : World) (hb : Blk .u64 96 w b1 xs) (hn : o1 + n1 ≤ xs.length) (hd : Dg W64 xs) (hm : n1 ≤ maxLen)
    (hb2 : Blk .u64 96 w b2 ys) (hn2 : o2 + n2 ≤ ys.length) (hd2 : Dg W64 ys) (hne : b2 ≠ b1) (hle : n2 ≤ n1) (hval : vs W64 ys o2 n2 ≤ vs W64 xs o1 n1) :
    Calls Tryz.prog 72 #[.slice (some ⟨b1, o1, none⟩) n1 c1, .slice (some ⟨b2, o2, none⟩) n2 c2] w fun e w' => e = .returned (.tuple #[]) ∧ ∃ zs, Blk .u64 96 w' b1 zs ∧ w.grownBy w' (some b1) ∧ Wrote xs zs o1 n1 ∧ Dg W64 zs ∧ vs W64 zs o1 n1 + vs W64 ys o2 n2 = vs W64 xs o1 n1 := by
  unfold maxLen at hm
  have ha := sub64_run
  have hy0 : SubInv xs xs o1 n1 (vs W64 ys o2 0) 0 0 := ⟨Wrote.refl _ _ _, hd, by omega, fun _ _ => rfl, by simp [vs]⟩
  have HV := Lib.hid hval
  clear hval
  go_enter Tryz.func72, Tryz.ntmps72
  go_wp2
  go_loopw [4, 10] (fun v j wr => ∃ (i t : Nat) (zs : List Nat), i ≤ n2 ∧ j = .int .i64 i ∧ v = .int .u64 t ∧ Blk .u64 96 wr b1 zs ∧ w.grownBy wr (some b1) ∧ SubInv xs zs o1 n1 (vs W64 ys o2 i) i t) (fun _ j _ => n2 - (intOf j).toNat)
  case atStart => exact ⟨0, 0, xs, Nat.zero_le _, rfl, rfl, hb, World.grownBy.refl _ _, hy0⟩
  case round =>
    obtain ⟨i, t, zs, hi, rfl, rfl, hbz, hg, hinv⟩ := hrel
    have hlz : zs.length = xs.length := hinv.1.len
    have ht : t ≤ 1 := hinv.2.2.1
    have hb2r := hb2.kept hg (by simpa using hne)
    by_cases hlt : i < n2
    · have hcell2 : wr.cell? ⟨b2, o2 + i, none⟩ = some (.int .u64 ((gt ys (o2 + i) : Nat) : Int)) := hb2r.cell (by omega)
      have hcell : wr.cell? ⟨b1, o1 + i, none⟩ = some (.int .u64 ((gt zs (o1 + i) : Nat) : Int)) := hbz.cell (by omega)
      have hfr : wr.frozen? ⟨b1, o1 + i, none⟩ = false := hbz.frozen _
      have hnx := hinv.next (hd2 (o2 + i)) (by omega : i < n1) hn
      go_wp2
      go_roundw
      case rel => exact ⟨i + 1, _, _, by omega, by go_num, rfl, hbz.set _ _, gr_trans hg (gr_set _ _ _ _) (.inr rfl) (.inr (.inl rfl)), hnx⟩
      case measure => simp [intOf]; omega
    · obtain rfl : i = n2 := by omega
      clear ha hlz
      have ha := sub64_run0
      obtain ⟨W1, rfl⟩ : ∃ W1, W1 = wr := ⟨_, rfl⟩
      go_wp2
      go_loopw [4, 7] (fun v j wr => ∃ (l t : Nat) (zs : List Nat), i ≤ l ∧ l ≤ n1 ∧ j = .int .i64 l ∧ v = .int .u64 t ∧ Blk .u64 96 wr b1 zs ∧ w.grownBy wr (some b1) ∧ SubInv xs zs o1 n1 (vs W64 ys o2 i) l t) (fun _ j _ => n1 - (intOf j).toNat)
      case atStart => exact ⟨i, t, zs, Nat.le_refl _, hle, rfl, rfl, hbz, hg, hinv⟩
      case round =>
        obtain ⟨l, t', zs', hil, hln, rfl, rfl, hbz', hg', hinv'⟩ := hrel
        have hlz : zs'.length = xs.length := hinv'.1.len
        have ht : t' ≤ 1 := hinv'.2.2.1
        have hcell : l < n1 → wr.cell? ⟨b1, o1 + l, none⟩ = some (.int .u64 ((gt zs' (o1 + l) : Nat) : Int)) := fun h => hbz'.cell (by omega)
        have hfr : wr.frozen? ⟨b1, o1 + l, none⟩ = false := hbz'.frozen _
        go_wp2
        · have hlt : l < n1 := by assumption
          have hnx := hinv'.next (y := 0) W64_pos hlt hn
          rw [Nat.mul_zero, Nat.add_zero] at hnx
          go_roundw
          case rel => exact ⟨l + 1, _, _, by omega, by omega, by go_num, rfl, hbz'.set _ _, gr_trans hg' (gr_set _ _ _ _) (.inr rfl) (.inr (.inl rfl)), hnx⟩
          case measure => simp [intOf]; omega
        · have hlt : l < n1 := by assumption
          have h0 : ¬ 0 < t' := by assumption
          go_end0
          have hd := hinv'.done hln (.inr (by omega)) HV.out
          exact ⟨rfl, zs', hbz', hg', hd⟩
        · have hlt : ¬ l < n1 := by assumption
          go_end0
          have hd := hinv'.done hln (.inl (by omega)) HV.out
          exact ⟨rfl, zs', hbz', hg', hd⟩
end Go.Proofs.YtoadjhmehgkeaaaGreatDoor
namespace Go.Proofs.YtoadjhmehgkeaaaGreatDoor
open Go.RowKit Mth

def SumInv (xs ys zs : List Nat) (off n o2 i c : Nat) : Prop := Wrote xs zs off n ∧ Dg W64 zs ∧ c ≤ 1 ∧ (∀ j, i ≤ j → gt zs (off + j) = gt xs (off + j)) ∧ vs W64 zs off i + W64 ^ i * c = vs W64 xs off i + vs W64 ys o2 i
theorem SumInv.next {xs ys zs : List Nat} {off n o2 i c : Nat} (h : SumInv xs ys zs off n o2 i c) (hy : Dg W64 ys) (hi : i < n) (hx : off + n ≤ xs.length) : SumInv xs ys (zs.set (off + i) (addLo (gt zs (off + i)) (gt ys (o2 + i)) c)) off n o2 (i + 1) (addHi (gt zs (off + i)) (gt ys (o2 + i)) c) := by
  obtain ⟨h1, h2, h3, h4, h5⟩ := h
  have hl : off + i < zs.length := by rw [h1.len]; omega
  refine ⟨h1.step (by omega) (by omega) (by omega), h2.set (addLo_lt _ _ _), addHi_le (h2 _) (hy _) h3, fun j hj => ?_, ?_⟩
  · rw [gt_set hl, if_neg (by omega)]; exact h4 j (by omega)
  · have hs := add_split (gt zs (off + i)) (gt ys (o2 + i)) c
    simp only [vs]
    rw [gt_set hl, if_pos rfl, vs_congr (ys := zs) (off' := off) (fun j hj => by rw [gt_set hl, if_neg (by omega)])]
    rw [h4 i (Nat.le_refl _)] at hs ⊢
    have e : W64 ^ i * addLo (gt xs (off + i)) (gt ys (o2 + i)) c + W64 ^ (i + 1) * addHi (gt xs (off + i)) (gt ys (o2 + i)) c = W64 ^ i * gt xs (off + i) + W64 ^ i * gt ys (o2 + i) + W64 ^ i * c := by
      rw [Nat.pow_succ, Nat.mul_assoc, ← Nat.mul_add, hs, Nat.mul_add, Nat.mul_add]
    omega
theorem SumInv.done {xs ys zs us : List Nat} {off n o2 m c : Nat} (h : SumInv xs ys zs off n o2 m c) (hm : m ≤ n) (g : AddedW zs us (off + m) (n - m) c) : AddedW xs us off n (vs W64 ys o2 m) := by
  obtain ⟨h1, h2, h3, h4, h5⟩ := h
  obtain ⟨g1, g2, k, g3⟩ := g
  refine ⟨h1.trans g1 (Nat.le_refl _) (Nat.le_refl _) (by omega) (by omega), g2, k, ?_⟩
  obtain ⟨r, rfl⟩ : ∃ r, n = m + r := ⟨n - m, by omega⟩
  rw [Nat.add_sub_cancel_left] at g3
  rw [vs_split, vs_split, vs_congr (xs := us) (ys := zs) (off' := off) (n := m) (fun j hj => g1.out _ (by omega))]
  rw [vs_congr (xs := xs) (ys := zs) (off := off + m) (off' := off + m) (n := r) (fun j hj => by rw [Nat.add_assoc]; exact (h4 (m + j) (by omega)).symm)]
  have e : W64 ^ m * vs W64 us (off + m) r + W64 ^ (m + r) * k = W64 ^ m * vs W64 zs (off + m) r + W64 ^ m * c := by
    rw [Nat.pow_add, Nat.mul_assoc, ← Nat.mul_add, g3, Nat.mul_add]
  omega

theorem AddedW.move0 {xs zs : List Nat} {o o' c : Nat} (h : AddedW xs zs o 0 c) : AddedW xs zs o' 0 c := by
  obtain ⟨h1, h2, k, h3⟩ := h
  exact ⟨⟨h1.len, fun i _ => h1.out i (by omega)⟩, h2, k, by simpa [vs] using h3⟩

theorem addTo_any (b1 o1 n1 c1 b2 o2 n2 c2 : Nat) (xs ys : List Nat) (w : World) (hb : Blk .u64 96 w b1 xs) (hn : o1 + n1 ≤ xs.length) (hd : Dg W64 xs) (hc1 : n1 ≤ c1) (hm : c1 ≤ maxLen)
    (hb2 : Blk .u64 96 w b2 ys) (hn2 : o2 + n2 ≤ ys.length) (hd2 : Dg W64 ys) (hne : b2 ≠ b1) (hle : n2 ≤ n1) :
    Calls Tryz.prog 127 #[.slice (some ⟨b1, o1, none⟩) n1 c1, .slice (some ⟨b2, o2, none⟩) n2 c2] w fun e w' => e = .returned (.tuple #[]) ∧ ∃ zs, Blk .u64 96 w' b1 zs ∧ w.grownBy w' (some b1) ∧ AddedW xs zs o1 n1 (vs W64 ys o2 n2) := by
  unfold maxLen at hm
  have ha := add64_run
  have hy0 : SumInv xs ys xs o1 n1 o2 0 0 := ⟨Wrote.refl _ _ _, hd, by omega, fun _ _ => rfl, by simp [vs]⟩
  go_enter Tryz.func127, Tryz.ntmps127
  go_wp2
  go_loopw [4, 9] (fun v j wr => ∃ (i t : Nat) (zs : List Nat), i ≤ n2 ∧ j = .int .i64 i ∧ v = .int .u64 t ∧ Blk .u64 96 wr b1 zs ∧ w.grownBy wr (some b1) ∧ SumInv xs ys zs o1 n1 o2 i t) (fun _ j _ => n2 - (intOf j).toNat)
  case atStart => exact ⟨0, 0, xs, Nat.zero_le _, rfl, rfl, hb, World.grownBy.refl _ _, hy0⟩
  case round =>
    obtain ⟨i, t, zs, hi, rfl, rfl, hbz, hg, hinv⟩ := hrel
    have hlz : zs.length = xs.length := hinv.1.len
    have ht : t ≤ 1 := hinv.2.2.1
    have hb2r := hb2.kept hg (by simpa using hne)
    have hcell2 : i < n2 → wr.cell? ⟨b2, o2 + i, none⟩ = some (.int .u64 ((gt ys (o2 + i) : Nat) : Int)) := fun h => hb2r.cell (by omega)
    have hcell : i < n2 → wr.cell? ⟨b1, o1 + i, none⟩ = some (.int .u64 ((gt zs (o1 + i) : Nat) : Int)) := fun h => hbz.cell (by omega)
    have hfr : wr.frozen? ⟨b1, o1 + i, none⟩ = false := hbz.frozen _
    by_cases hlt : i < n2
    · have hnx := hinv.next hd2 (by omega : i < n1) hn
      go_wp2
      go_roundw
      case rel => exact ⟨i + 1, _, _, by omega, by go_num, rfl, hbz.set _ _, gr_trans hg (gr_set _ _ _ _) (.inr rfl) (.inr (.inl rfl)), hnx⟩
      case measure => simp [intOf]; omega
    · obtain rfl : i = n2 := by omega
      clear ha
      have htW : t < W64 := Nat.lt_of_le_of_lt ht (by decide)
      by_cases hcc : c1 = i
      · subst hcc
        obtain rfl : n1 = c1 := by omega
        go_wp2_with fail
        refine (addWordTo_any b1 o1 0 0 t zs wr hbz (by omega) hinv.2.1 htW (by unfold maxLen; omega)).mono ?_
        rintro e w' ⟨rfl, us, hu, hg2, hadd⟩
        have hfin := hinv.done (Nat.le_refl _) (by rw [Nat.sub_self]; exact hadd.move0)
        go_wp2
        go_end0
        exact ⟨rfl, us, hu, gr_trans hg hg2 (.inr rfl) (.inr (.inl rfl)), hfin⟩
      · go_wp2_with fail
        refine (addWordTo_any b1 (o1 + i) (n1 - i) (c1 - i) t zs wr hbz (by omega) hinv.2.1 htW (by unfold maxLen; omega)).mono ?_
        rintro e w' ⟨rfl, us, hu, hg2, hadd⟩
        have hfin := hinv.done hle hadd
        go_wp2
        go_end0
        exact ⟨rfl, us, hu, gr_trans hg hg2 (.inr rfl) (.inr (.inl rfl)), hfin⟩
end Go.Proofs.YtoadjhmehgkeaaaGreatDoor
namespace Go.Proofs.YtoadjhmehgkeaaaGreatDoor
open Go.RowKit Mth

theorem infoW : (Tryz.prog.info? 96).map (fun i => (i.zero, i.size, i.bytes)) = some (some (.int .u64 0), 1, 8) := by kernel_rfl
def bytesOf (s : ByteArray) : ByteArray := ⟨(canon s.data.toList).toArray⟩

theorem wordsOf_any (s : ByteArray) (w : World) (hs : s.size ≤ 1099511627776) :
    Calls Tryz.prog 71 #[.string s] w fun e w' => ∃ b xs, e = .returned (.slice (some ⟨b, 0, none⟩) xs.length xs.length) ∧ w.heap.size ≤ b ∧ Blk .u64 96 w' b xs ∧ w.grownBy w' none ∧ Words xs (num s.data.toList) ∧ xs.length ≤ 137438953473 := by
  have hls : (bytesOf s).size ≤ s.size := canon_length_le _
  have hrt : Rt (bytesOf s).data.toList := rt_canon _
  have hnum : num (bytesOf s).data.toList = num s.data.toList := num_canon _
  generalize ht : (bytesOf s) = t at hls hrt hnum
  have HT := Lib.hid ht
  have HR := Lib.hid hrt
  have HV := Lib.hid hnum
  clear ht hrt hnum
  obtain ⟨i0, hi, hz0, hz1, hz2⟩ := info_parts infoW
  obtain ⟨n, hn⟩ : ∃ n, n = (t.size + 7) / 8 := ⟨_, rfl⟩
  have HN := Lib.hid hn
  have hn1 : n * 8 ≤ t.size + 7 := by omega
  have hn2 : t.size ≤ n * 8 := by omega
  clear hn
  go_enter Tryz.func71, Tryz.ntmps71
  go_wp2_with fail
  refine (withoutZeros_any s _).mono ?_
  rintro e w' ⟨rfl, rfl⟩
  rw [show (⟨(canon s.data.toList).toArray⟩ : ByteArray) = t from HT.out]
  go_wp2_with (at_make; refine wpList_make_full _ rfl _ _ 81 rfl 0 96 i0 (.int .u64 0) 1 Tryz.underlying81 hi hz0 hz1 .i64 .i64 _ _ n rfl rfl ?_ ?_ ?_ ?_ (Nat.zero_le _) ?_)
  case refine_1 => have := HN.out; omega
  case refine_2 => have := HN.out; omega
  case refine_3 => rw [hz2]; omega
  case refine_4 => unfold maxLen; omega
  intro w1 hown hgr
  have hb0 := blk_made' hown
  rw [← wordsN_zero, ← front_zero t.data.toList] at hb0
  clear hown hi hz0 hz1 hz2
  go_wp2
  go_loopw [16] (fun j wr => ∃ i : Nat, i ≤ t.size ∧ j = .int .i64 i ∧ Blk .u64 96 wr w.heap.size (wordsN n (front t.data.toList i)) ∧ w.grownBy wr none) (fun j _ => t.size - (intOf j).toNat)
  case atStart => exact ⟨0, Nat.zero_le _, rfl, hb0, hgr⟩
  case round =>
    obtain ⟨i, hile, rfl, hbz, hg⟩ := hrel
    by_cases hlt : i < t.size
    · have hlen : (wordsN n (front t.data.toList i)).length = n := length_wordsN _ _
      have hcell : wr.cell? ⟨w.heap.size, (t.size - 1 - i) / 8, none⟩ = some (.int .u64 ((gt (wordsN n (front t.data.toList i)) ((t.size - 1 - i) / 8) : Nat) : Int)) := hbz.cell (by omega)
      have hfr : wr.frozen? ⟨w.heap.size, (t.size - 1 - i) / 8, none⟩ = false := hbz.frozen _
      have hq : (t.size - 1 - i) / 8 < n := by omega
      have hres : (wordsN n (front t.data.toList i)).set ((t.size - 1 - i) / 8) (gt (wordsN n (front t.data.toList i)) ((t.size - 1 - i) / 8) ||| (t[i].toNat * 256 ^ ((t.size - 1 - i) % 8))) = wordsN n (front t.data.toList (i + 1)) :=
        words_round t.data.toList (i := i) (q := (t.size - 1 - i) / 8) (r := (t.size - 1 - i) % 8) hlt (by show t.size - 1 - i = _; omega) (Nat.mod_lt _ (by decide)) hq rfl
      have hor := or_word (gt (wordsN n (front t.data.toList i)) ((t.size - 1 - i) / 8)) t[i].toNat ((t.size - 1 - i) % 8) (dg_wordsN _ _ _) t[i].toNat_lt (Nat.mod_lt _ (by decide))
      have HRES := Lib.hid hres
      have HOR := Lib.hid hor
      clear hb0 hres hor
      go_wp2
      go_region
      go_wp2
      refine ⟨⟨i + 1, by omega, by go_num, ?_, ?_⟩, by simp [intOf]; omega⟩
      · rw [HOR.out, ← HRES.out]
        exact (hbz.set _ _).drew
      · exact gr_trans (gr_trans hg (gr_set _ _ _ _) (.inl rfl) (.inr (.inr fun k e => by cases e; exact Nat.le_refl _))) (gr_drew _ none) (.inl rfl) (.inl rfl)
    · obtain rfl : i = t.size := by omega
      have hw := words_of (HR.out)
      rw [HV.out] at hw
      go_wp2
      go_ret
      have hl : (wordsN n (front t.data.toList t.size)).length = n := length_wordsN _ _
      refine ⟨w.heap.size, wordsN n (front t.data.toList t.size), ?_, Nat.le_refl _, hbz, hg, ?_, by rw [hl]; omega⟩
      · rw [hl]; rfl
      · rw [show front t.data.toList t.size = num t.data.toList from front_all _, HN.out, HV.out]
        rw [HV.out] at *
        exact hw
end Go.Proofs.YtoadjhmehgkeaaaGreatDoor
namespace Go.Proofs.YtoadjhmehgkeaaaGreatDoor
open Go.RowKit Mth

theorem infoB : (Tryz.prog.info? 5).map (fun i => (i.zero, i.size, i.bytes)) = some (some (.int .u8 0), 1, 1) := by kernel_rfl

theorem nums_u8s (xs : List Nat) : strOfNums (xs.map fun v : Nat => (v : Int)) = ⟨(u8s xs).toArray⟩ := by
  simp [strOfNums, u8s]

theorem natOf_any (b off n c : Nat) (xs : List Nat) (w : World) (hb : Blk .u64 96 w b xs) (hn : off + n ≤ xs.length) (hd : Dg W64 xs) (hc : n ≤ c) (hm : c ≤ maxLen) (hsm : n ≤ 1099511627776) :
    Calls Tryz.prog 73 #[.slice (some ⟨b, off, none⟩) n c] w fun e w' => e = .returned (.string ⟨(enc (vs W64 xs off n)).toArray⟩) ∧ w.grownBy w' none := by
  obtain ⟨i0, hi, hz0, hz1, hz2⟩ := info_parts infoB
  have hm' := hm
  unfold maxLen at hm'
  go_enter Tryz.func73, Tryz.ntmps73
  go_wp2_with fail
  refine (trimmed_any b off n c xs w hb hn hc hm).mono ?_
  rintro e w' ⟨⟨m, rfl, hmn, hz, htop⟩, rfl⟩
  have hv : vs W64 xs off n = vs W64 xs off m := by
    obtain ⟨k, rfl⟩ : ∃ k, n = m + k := ⟨n - m, by omega⟩
    rw [vs_split, vs_zero (n := k) (fun i hi => by rw [Nat.add_assoc]; exact hz _ (by omega) (by omega))]; simp
  have HV := Lib.hid hv
  have HZ := Lib.hid hz
  have HT := Lib.hid htop
  clear hv hz htop
  by_cases hm0 : m = 0
  · subst hm0
    go_wp2
    go_ret
    refine ⟨?_, World.grownBy.refl _ _⟩
    rw [HV.out]
    simp [vs, enc_zero]
  · have hcell : w.cell? ⟨b, off + (m - 1), none⟩ = some (.int .u64 ((gt xs (off + (m - 1)) : Nat) : Int)) := hb.cell (by omega)
    obtain ⟨x, hx⟩ : ∃ x, x = gt xs (off + (m - 1)) := ⟨_, rfl⟩
    have hxW := hd (off + (m - 1))
    rw [← hx] at hcell hxW
    have HX := Lib.hid hx
    clear hx
    have hx0 : x ≠ 0 := by rcases HT.out with h | h; exact absurd h hm0; rw [HX.out]; exact h
    have hm1 : ((m : Int) == 0) = false := by simp; omega
    have hbl := byteLen hxW hx0
    have hb64 := (bitLen_bounds hxW hx0).2.1
    generalize hB : Lib.bitLen x = B at hbl hb64
    have HB := Lib.hid hB
    clear hB
    go_wp2_with fail
    refine (Tryz.bits_Len64 x _ (by omega) (by rw [W64_eq] at hxW; omega)).mono ?_
    rintro e w' ⟨rfl, rfl⟩
    rw [show Lib.bitLen ((x : Int).toNat) = B from HB.out]
    obtain ⟨L, hL⟩ : ∃ L, L = 8 * (m - 1) + (B + 7) / 8 := ⟨_, rfl⟩
    have hL1 : 1 ≤ L := by omega
    have hL2 : L ≤ 8 * m := by omega
    have hL3 : 8 * (m - 1) < L := by omega
    have HL := Lib.hid hL
    clear hL
    go_wp2_with (at_make; refine wpList_make_full _ rfl _ _ 22 rfl 0 5 i0 (.int .u8 0) 1 Tryz.underlying22 hi hz0 hz1 .i64 .i64 _ _ L rfl rfl ?_ ?_ ?_ ?_ (Nat.zero_le _) ?_)
    case refine_1 => have := HL.out; omega
    case refine_2 => have := HL.out; omega
    case refine_3 => rw [hz2]; omega
    case refine_4 => unfold maxLen; omega
    intro w1 hown hgr
    obtain ⟨N, hN⟩ : ∃ N, N = vs W64 xs off m := ⟨_, rfl⟩
    have HNN := Lib.hid hN
    clear hN
    have hb0 := blk_made' hown
    rw [← fillN_zero L N] at hb0
    have hbw := hb.kept hgr (by simp)
    have hgw : w'.heap.size ≠ b := by have := hb.lt; omega
    clear hown hi hz0 hz1 hz2 hcell hb
    go_wp2
    go_loopw [30] (fun j wr => ∃ i : Nat, i ≤ L ∧ j = .int .i64 i ∧ Blk .u8 5 wr w'.heap.size (fillN L N i) ∧ Blk .u64 96 wr b xs ∧ w'.grownBy wr none) (fun j _ => L - (intOf j).toNat)
    case atStart => exact ⟨0, Nat.zero_le _, rfl, hb0, hbw, hgr⟩
    case round =>
      obtain ⟨i, hile, rfl, hbz, hbr, hg⟩ := hrel
      by_cases hlt : i < L
      · have hcell : wr.cell? ⟨b, off + (L - 1 - i) / 8, none⟩ = some (.int .u64 ((gt xs (off + (L - 1 - i) / 8) : Nat) : Int)) := hbr.cell (by omega)
        have hfr : wr.frozen? ⟨w'.heap.size, i, none⟩ = false := hbz.frozen _
        have hold : wr.cell? ⟨w'.heap.size, i, none⟩ = some (.int .u8 ((gt (fillN L N i) i : Nat) : Int)) := hbz.cell (by rw [length_fillN]; exact hlt)
        have hbyte : gt xs (off + (L - 1 - i) / 8) / 256 ^ ((L - 1 - i) % 8) % 256 = N / 256 ^ (L - 1 - i) % 256 := by
          rw [byte_of_word (m := m) hd HNN.out.symm (by omega) (Nat.mod_lt _ (by decide)), show 8 * ((L - 1 - i) / 8) + (L - 1 - i) % 8 = L - 1 - i from by omega]
        have hset := fillN_set (N := N) hlt hbyte
        have HS := Lib.hid hset
        clear hb0 hbw hbyte hset
        go_wp2
        refine ⟨⟨i + 1, by omega, by go_num, ?_, hbr.setOther (by omega) _ _, gr_trans hg (gr_set _ _ _ _) (.inl rfl) (.inr (.inr fun k e => by cases e; exact Nat.le_refl _))⟩, by simp [intOf]; omega⟩
        rw [byte_word, ← HS.out]
        exact hbz.set _ _
      · obtain rfl : i = L := by omega
        have hcv := fun (dst : TypeId) (hd : Tryz.prog.underlying dst = some .string) => run_convert_bytes_arg (P := Tryz.prog) wr 22 5 Tryz.underlying22 Tryz.underlying5 w'.heap.size 0 i i ((fillN i N i).map fun v : Nat => (v : Int)) (by simp [length_fillN]) (fun j hj => by
          rw [Nat.zero_add, hbz.cell (by rw [length_fillN]; exact hj)]
          simp [gt, List.getD, hj, length_fillN]) dst hd
        have hc2 := hcv 24 Tryz.underlying24
        generalize hstr : strOfNums ((fillN i N i).map fun v : Nat => (v : Int)) = str at hc2
        have HSTR := Lib.hid hstr
        clear hcv hstr hb0 hbw
        go_wp2
        go_ret
        refine ⟨?_, hg⟩
        have hmm : m - 1 + 1 = m := by omega
        have htb := top_bounds (off := off) hd (HX.out.symm) hx0
        rw [hmm, ← HNN.out, HB.out, ← HL.out] at htb
        have henc : u8s (bytesN i N) = enc N := u8s_bytesN (.inl htb.1) htb.2
        rw [HV.out, ← HNN.out, ← henc, ← fillN_all, ← nums_u8s, HSTR.out]; rfl
end Go.Proofs.YtoadjhmehgkeaaaGreatDoor
namespace Go.Proofs.YtoadjhmehgkeaaaGreatDoor
open Go.RowKit Mth

def copied (zs xs : List Nat) (off o1 m : Nat) : List Nat := zs.take off ++ ((xs.drop o1).take m ++ zs.drop (off + m))
theorem length_copied {zs xs : List Nat} {off o1 m : Nat} (h1 : off + m ≤ zs.length) (h2 : o1 + m ≤ xs.length) : (copied zs xs off o1 m).length = zs.length := by
  simp [copied]; omega
theorem gt_copied {zs xs : List Nat} {off o1 m : Nat} (h1 : off + m ≤ zs.length) (h2 : o1 + m ≤ xs.length) (i : Nat) : gt (copied zs xs off o1 m) i = if off ≤ i ∧ i < off + m then gt xs (o1 + (i - off)) else gt zs i := by
  have hl1 : (zs.take off).length = off := by simp; omega
  have hl2 : ((xs.drop o1).take m).length = m := by simp; omega
  unfold copied
  by_cases ha : i < off
  · rw [if_neg (by omega), gt_append_left (by omega), gt_take ha]
  · rw [gt_append_right (by omega), hl1]
    by_cases hb : i < off + m
    · rw [if_pos (by omega), gt_append_left (by omega), gt_take (by omega), gt_drop]
    · rw [if_neg (by omega), gt_append_right (by omega), hl2, gt_drop]
      congr 1; omega

theorem gr_setRow (w : World) (g : Nat) (cs : Array Value) : w.grownBy (w.setRow g cs) (some g) :=
  ⟨rfl, rfl, rfl, by simp, fun k _ hne => setRow_other w g k cs (by intro e; exact hne (by rw [e]))⟩

theorem wpList_copy_blk {P : Program} {w : World} {ops : Array Oper} {rest : List Oper} {o : Oper} {a : Act} {Q : Exit → Act → World → Prop} (hgd : o.guard = none) (d s : Operand) (dT sT : TypeId)
    (ho : o.op = .call { callee := .builtin .copy, args := #[d, s], argTypes := #[dT, sT] }) (elem : TypeId) (hu : P.underlying dT = some (.slice elem)) (hsz : (P.info? elem).map (·.size) = some 1)
    (k : IntKind) (e : TypeId) (g off dLen dCap b1 o1 n1 c1 : Nat) (zs xs : List Nat) (hd : a.eval d = .slice (some ⟨g, off, none⟩) dLen dCap) (hs : a.eval s = .slice (some ⟨b1, o1, none⟩) n1 c1)
    (hz : Blk k e w g zs) (hx : Blk k e w b1 xs) (hn : o1 + n1 ≤ xs.length) (hfit : off + dLen ≤ zs.length)
    (h : ∀ w', Blk k e w' g (copied zs xs off o1 (Nat.min n1 dLen)) → w.grownBy w' (some g) → wpList P ops Q rest (a.put o.dst (goInt (Nat.min n1 dLen))) w') :
    wpList P ops Q (o :: rest) a w := by
  have hm1 : Nat.min n1 dLen ≤ n1 := Nat.min_le_left _ _
  have hm2 : Nat.min n1 dLen ≤ dLen := Nat.min_le_right _ _
  generalize hm : Nat.min n1 dLen = m at h hm1 hm2
  have hl2 : (cellsOf k ((xs.drop o1).take m)).length = m := by rw [length_cellsOf]; simp; omega
  refine wpList_copy_own hgd d s dT sT ho elem hu hsz g off dLen dCap ⟨b1, o1, none⟩ n1 c1 hd hs (cellsOf k zs).toArray e hz (cellsOf k ((xs.drop o1).take m)) (by rw [hl2, hm]) ?_ ?_ ?_ ?_
  · intro j v hv
    have hj : j < m := by have := (List.getElem?_eq_some_iff.1 hv).1; omega
    rw [Addr.add_lit, hx.cell (by omega)]
    rw [cellsOf_get k _ _ (by simp; omega), gt_take hj, gt_drop] at hv
    exact hv
  · rw [hl2]; simp [length_cellsOf]; omega
  · intro v hv
    simp only [cellsOf, List.mem_map] at hv
    obtain ⟨n, _, rfl⟩ := hv
    rfl
  · rw [hl2]
    refine h _ ?_ (gr_setRow _ _ _)
    have := setRow_heap w g _ ((cellsOf k zs).toArray.toList.take off ++ (cellsOf k ((xs.drop o1).take m) ++ (cellsOf k zs).toArray.toList.drop (off + m))).toArray e (0, 0) hz
    unfold Blk
    rw [this]
    simp [copied, cellsOf, List.map_take, List.map_drop]
end Go.Proofs.YtoadjhmehgkeaaaGreatDoor
namespace Go.Proofs.YtoadjhmehgkeaaaGreatDoor
open Go.RowKit Mth

theorem sum_any (b1 o1 n1 c1 b2 o2 n2 c2 : Nat) (xs ys : List Nat) (w : World) (hb : Blk .u64 96 w b1 xs) (hn : o1 + n1 ≤ xs.length) (hd : Dg W64 xs)
    (hb2 : Blk .u64 96 w b2 ys) (hn2 : o2 + n2 ≤ ys.length) (hd2 : Dg W64 ys) (hs1 : n1 ≤ 1099511627775) (hs2 : n2 ≤ 1099511627775) :
    Calls Tryz.prog 77 #[.slice (some ⟨b1, o1, none⟩) n1 c1, .slice (some ⟨b2, o2, none⟩) n2 c2] w fun e w' => ∃ b zs, e = .returned (.slice (some ⟨b, 0, none⟩) zs.length zs.length) ∧ w.heap.size ≤ b ∧ Blk .u64 96 w' b zs ∧ w.grownBy w' none ∧ Dg W64 zs ∧ zs.length = max n1 n2 + 1 ∧ vs W64 zs 0 zs.length = vs W64 xs o1 n1 + vs W64 ys o2 n2 := by
  obtain ⟨i0, hi, hz0, hz1, hz2⟩ := info_parts infoW
  obtain ⟨T, hT⟩ : ∃ T, T = max n1 n2 + 1 := ⟨_, rfl⟩
  have hT1 : n1 + 1 ≤ T := by omega
  have hT2 : n2 + 1 ≤ T := by omega
  have hT3 : T ≤ 1099511627776 := by omega
  have HT := Lib.hid hT
  clear hT
  go_enter Tryz.func77, Tryz.ntmps77
  go_wp2_with (at_make; refine wpList_make_full _ rfl _ _ 81 rfl 0 96 i0 (.int .u64 0) 1 Tryz.underlying81 hi hz0 hz1 .i64 .i64 _ _ T rfl rfl ?_ ?_ ?_ ?_ (Nat.zero_le _) ?_)
  case refine_1 => have := HT.out; omega
  case refine_2 => have := HT.out; omega
  case refine_3 => rw [hz2]; omega
  case refine_4 => unfold maxLen; omega
  intro w1 hown hgr
  have hb0 := blk_made' hown
  have hl0 : (List.replicate T 0 : List Nat).length = T := List.length_replicate
  have hzz : ∀ j, gt (List.replicate T 0) j = 0 := fun j => by simp [gt, List.getD, List.getElem?_replicate]; split <;> rfl
  have HLZ := Lib.hid hl0
  have HZZ := Lib.hid hzz
  generalize (List.replicate T 0 : List Nat) = z0 at hb0 HLZ HZZ
  clear hown hi hz0 hz1 hz2 hl0 hzz
  have hbr := hb.kept hgr (by simp)
  have hb2r := hb2.kept hgr (by simp)
  have hlt1 := hb.lt
  have hlt2 := hb2.lt
  have hmin : Nat.min n1 T = n1 := Nat.min_eq_left (by omega)
  have HMIN := Lib.hid hmin
  clear hmin
  go_wp2_with (with_reducible refine wpList_copy_blk rfl (.tmp 13) (.tmp 14) 81 81 rfl 96 Tryz.underlying81 (by kernel_rfl) .u64 96 w.heap.size 0 T T b1 o1 n1 c1 z0 xs rfl rfl hb0 hbr hn ?_ ?_)
  case refine_1 => rw [HLZ.out]; omega
  intro w2 hb3 hg2
  have hl1 : o1 + Nat.min n1 T ≤ xs.length := by rw [HMIN.out]; exact hn
  have hl2 : 0 + Nat.min n1 T ≤ z0.length := by rw [HMIN.out, HLZ.out]; omega
  have hlc := (length_copied hl2 hl1).trans HLZ.out
  have hgc := gt_copied hl2 hl1
  rw [HMIN.out] at hgc hlc hb3
  have HLC := Lib.hid hlc
  have HGC := Lib.hid hgc
  generalize copied z0 xs 0 o1 n1 = us at hb3 HLC HGC
  clear hl1 hl2 hlc hgc
  have hdu : Dg W64 us := by
    intro i
    rw [HGC.out]
    split
    · exact hd _
    · rw [HZZ.out]; exact W64_pos
  have hb2r2 := hb2r.kept hg2 (by simp; omega)
  have hvu : vs W64 us 0 T = vs W64 xs o1 n1 := by
    obtain ⟨k, rfl⟩ : ∃ k, T = n1 + k := ⟨T - n1, by omega⟩
    rw [vs_split, vs_zero (off := 0 + n1) (n := k) (fun i _ => by rw [HGC.out, if_neg (by omega)]; exact HZZ.out _)]
    rw [vs_congr (ys := xs) (off' := o1) (n := n1) (fun i hi => by rw [HGC.out, if_pos (by omega)]; congr 1; omega)]
    simp
  have HVU := Lib.hid hvu
  clear hvu
  go_wp2_with fail
  refine (addTo_any w.heap.size 0 T T b2 o2 n2 c2 us ys w2 hb3 (by rw [HLC.out]; omega) hdu (Nat.le_refl _) (by unfold maxLen; omega) hb2r2 hn2 hd2 (by omega) (by omega)).mono ?_
  rintro e w3 ⟨rfl, vv, hv, hg3, hadd⟩
  obtain ⟨a1, a2, κ, a3⟩ := hadd
  have hlv : vv.length = T := a1.len.trans HLC.out
  have hB : vs W64 xs o1 n1 + vs W64 ys o2 n2 < W64 ^ T := by
    have h1 := vs_lt (off := o1) (n := n1) hd
    have h2 := vs_lt (off := o2) (n := n2) hd2
    obtain ⟨M, hM⟩ : ∃ M, T = M + 1 := ⟨T - 1, by omega⟩
    have h3 : W64 ^ n1 ≤ W64 ^ M := Nat.pow_le_pow_right W64_pos (by omega)
    have h4 : W64 ^ n2 ≤ W64 ^ M := Nat.pow_le_pow_right W64_pos (by omega)
    rw [hM, Nat.pow_succ, W64_eq]
    rw [W64_eq] at h1 h2 h3 h4
    omega
  have hκ : κ = 0 := by
    rw [HVU.out] at a3
    rcases Nat.eq_zero_or_pos κ with h | h
    · exact h
    · have h5 : W64 ^ T * 1 ≤ W64 ^ T * κ := Nat.mul_le_mul_left _ h
      omega
  have hfin : vs W64 vv 0 vv.length = vs W64 xs o1 n1 + vs W64 ys o2 n2 := by
    rw [HVU.out, hκ] at a3
    rw [hlv]; simpa using a3
  have HFIN := Lib.hid hfin
  have HLV := Lib.hid hlv
  clear hfin hlv hκ hB a3
  go_wp2
  go_ret
  exact ⟨w.heap.size, vv, by rw [HLV.out]; rfl, Nat.le_refl _, hv, gr_new (gr_new hgr hg2 (Nat.le_refl _)) hg3 (Nat.le_refl _), a2, HLV.out.trans HT.out, HFIN.out⟩

theorem add_any (s t : ByteArray) (w : World) (hs : s.size ≤ 1000000000000) (ht : t.size ≤ 1000000000000) :
    Calls Tryz.prog 18 #[.string s, .string t] w fun e w' => e = .returned (.string ⟨(enc (num s.data.toList + num t.data.toList)).toArray⟩) ∧ w.grownBy w' none := by
  go_enter Tryz.func18, Tryz.ntmps18
  go_wp2_with fail
  refine (wordsOf_any s w (by omega)).mono ?_
  rintro e w1 ⟨b1, xs, rfl, hlt1, hb1, hg1, hw1, hsz1⟩
  go_wp2_with fail
  refine (wordsOf_any t w1 (by omega)).mono ?_
  rintro e w2 ⟨b2, ys, rfl, hlt2, hb2, hg2, hw2, hsz2⟩
  go_wp2_with fail
  refine (sum_any b1 0 xs.length xs.length b2 0 ys.length ys.length xs ys w2 (hb1.kept hg2 (by simp)) (by omega) hw1.dg hb2 (by omega) hw2.dg (by omega) (by omega)).mono ?_
  rintro e w3 ⟨b3, zs, rfl, hlt3, hb3, hg3, hd3, hl3, hv3⟩
  rw [hw1.val, hw2.val] at hv3
  have HV := Lib.hid hv3
  have hls : zs.length ≤ 1099511627776 := by omega
  clear hv3 hl3
  go_wp2_with fail
  refine (natOf_any b3 0 zs.length zs.length zs w3 hb3 (by omega) hd3 (Nat.le_refl _) (by unfold maxLen; omega) hls).mono ?_
  rintro e w4 ⟨rfl, hg4⟩
  go_wp2
  go_ret
  exact ⟨by rw [HV.out]; rfl, gr_then hg1 (gr_then hg2 (gr_then hg3 hg4))⟩
end Go.Proofs.YtoadjhmehgkeaaaGreatDoor
namespace Go.Proofs.YtoadjhmehgkeaaaGreatDoor
open Go.RowKit Mth

def mulLo (x y : Nat) : Nat := x * y % W64
def mulHi (x y : Nat) : Nat := x * y / W64
theorem mul_split (x y : Nat) : mulLo x y + W64 * mulHi x y = x * y := Nat.mod_add_div _ _
theorem mulLo_lt (x y : Nat) : mulLo x y < W64 := Nat.mod_lt _ W64_pos
theorem mul64_run (x y : Nat) (hx : x < W64) (hy : y < W64) (w : World) :
    Calls Tryz.prog 150 #[.int .u64 (x : Int), .int .u64 (y : Int)] w fun e w' => e = .returned (.tuple #[.int .u64 ((mulHi x y : Nat) : Int), .int .u64 ((mulLo x y : Nat) : Int)]) ∧ w = w' :=
  (Tryz.bits_Mul64 x y hx hy w).mono fun _ _ ⟨h1, h2⟩ => ⟨h1, h2.symm⟩
/-- One step: the new digit and the new carry. -/
def stepLo (x f t c : Nat) : Nat := addLo (addLo (mulLo x f) t 0) c 0
def stepHi (x f t c : Nat) : Nat := mulHi x f + addHi (mulLo x f) t 0 + addHi (addLo (mulLo x f) t 0) c 0
theorem step_split (x f t c : Nat) : stepLo x f t c + W64 * stepHi x f t c = x * f + t + c := by
  have h1 := mul_split x f
  have h2 := add_split (mulLo x f) t 0
  have h3 := add_split (addLo (mulLo x f) t 0) c 0
  unfold stepLo stepHi
  rw [Nat.mul_add, Nat.mul_add]
  omega
theorem stepLo_lt (x f t c : Nat) : stepLo x f t c < W64 := addLo_lt _ _ _
theorem stepHi_lt {x f t c : Nat} (hx : x < W64) (hf : f < W64) (ht : t < W64) (hc : c < W64) : stepHi x f t c < W64 := by
  have h := step_split x f t c
  have h1 : x * f ≤ (W64 - 1) * (W64 - 1) := Nat.mul_le_mul (by omega) (by omega)
  have h2 : (W64 - 1) * (W64 - 1) + (W64 - 1) + (W64 - 1) < W64 * W64 := by decide
  refine Nat.lt_of_mul_lt_mul_left (a := W64) ?_
  omega
theorem carry_cast {a b c : Nat} (h : a + b + c < W64) : IntKind.u64.wrap (IntKind.u64.wrap ((a : Int) + (b : Int)) + (c : Int)) = ((a + b + c : Nat) : Int) := by
  rw [← Int.natCast_add, wrap_u64 (a + b) (by omega), ← Int.natCast_add, wrap_u64 _ h]

def MulInv (xs ys zs : List Nat) (off n o2 f i c : Nat) : Prop := Wrote xs zs off n ∧ Dg W64 zs ∧ c < W64 ∧ (∀ j, i ≤ j → gt zs (off + j) = gt xs (off + j)) ∧ vs W64 zs off i + W64 ^ i * c = vs W64 xs off i + vs W64 ys o2 i * f
theorem MulInv.next {xs ys zs : List Nat} {off n o2 f i c : Nat} (h : MulInv xs ys zs off n o2 f i c) (hy : Dg W64 ys) (hf : f < W64) (hi : i < n) (hx : off + n ≤ xs.length) :
    MulInv xs ys (zs.set (off + i) (stepLo (gt ys (o2 + i)) f (gt zs (off + i)) c)) off n o2 f (i + 1) (stepHi (gt ys (o2 + i)) f (gt zs (off + i)) c) := by
  obtain ⟨h1, h2, h3, h4, h5⟩ := h
  have hl : off + i < zs.length := by rw [h1.len]; omega
  refine ⟨h1.step (by omega) (by omega) (by omega), h2.set (stepLo_lt _ _ _ _), stepHi_lt (hy _) hf (h2 _) h3, fun j hj => ?_, ?_⟩
  · rw [gt_set hl, if_neg (by omega)]; exact h4 j (by omega)
  · have hs := step_split (gt ys (o2 + i)) f (gt zs (off + i)) c
    simp only [vs]
    rw [gt_set hl, if_pos rfl, vs_congr (ys := zs) (off' := off) (fun j hj => by rw [gt_set hl, if_neg (by omega)])]
    rw [h4 i (Nat.le_refl _)] at hs ⊢
    have e : W64 ^ i * stepLo (gt ys (o2 + i)) f (gt xs (off + i)) c + W64 ^ (i + 1) * stepHi (gt ys (o2 + i)) f (gt xs (off + i)) c = W64 ^ i * gt ys (o2 + i) * f + W64 ^ i * gt xs (off + i) + W64 ^ i * c := by
      rw [Nat.pow_succ, Nat.mul_assoc, ← Nat.mul_add, hs, Nat.mul_add, Nat.mul_add, Nat.mul_assoc]
    rw [Nat.add_mul]
    omega

/-- What addMultiple leaves. -/
def AddedM (xs zs : List Nat) (off n c y : Nat) : Prop := Wrote xs zs off n ∧ Dg W64 zs ∧ c < W64 ∧ vs W64 zs off n + W64 ^ n * c = vs W64 xs off n + y
theorem addMultiple_any (b1 o1 n1 c1 b2 o2 n2 c2 f : Nat) (xs ys : List Nat) (w : World) (hb : Blk .u64 96 w b1 xs) (hn : o1 + n1 ≤ xs.length) (hd : Dg W64 xs)
    (hb2 : Blk .u64 96 w b2 ys) (hn2 : o2 + n2 ≤ ys.length) (hd2 : Dg W64 ys) (hne : b2 ≠ b1) (hle : n2 ≤ n1) (hf : f < W64) (hm : n1 ≤ maxLen) :
    Calls Tryz.prog 163 #[.slice (some ⟨b1, o1, none⟩) n1 c1, .slice (some ⟨b2, o2, none⟩) n2 c2, .int .u64 (f : Int)] w fun e w' => ∃ c zs, e = .returned (.int .u64 ((c : Nat) : Int)) ∧ Blk .u64 96 w' b1 zs ∧ w.grownBy w' (some b1) ∧ AddedM xs zs o1 n2 c (vs W64 ys o2 n2 * f) := by
  unfold maxLen at hm
  have ha := add64_run0
  have hy0 : MulInv xs ys xs o1 n2 o2 f 0 0 := ⟨Wrote.refl _ _ _, hd, W64_pos, fun _ _ => rfl, by simp [vs]⟩
  go_enter Tryz.func163, Tryz.ntmps163
  go_wp2
  go_loopw [7, 15] (fun v j wr => ∃ (i t : Nat) (zs : List Nat), i ≤ n2 ∧ j = .int .i64 i ∧ v = .int .u64 t ∧ Blk .u64 96 wr b1 zs ∧ w.grownBy wr (some b1) ∧ MulInv xs ys zs o1 n2 o2 f i t) (fun _ j _ => n2 - (intOf j).toNat)
  case atStart => exact ⟨0, 0, xs, Nat.zero_le _, rfl, rfl, hb, World.grownBy.refl _ _, hy0⟩
  case round =>
    obtain ⟨i, t, zs, hi, rfl, rfl, hbz, hg, hinv⟩ := hrel
    have hlz : zs.length = xs.length := hinv.1.len
    have ht : t < W64 := hinv.2.2.1
    have hb2r := hb2.kept hg (by simpa using hne)
    have hcell2 : i < n2 → wr.cell? ⟨b2, o2 + i, none⟩ = some (.int .u64 ((gt ys (o2 + i) : Nat) : Int)) := fun h => hb2r.cell (by omega)
    have hcell : i < n2 → wr.cell? ⟨b1, o1 + i, none⟩ = some (.int .u64 ((gt zs (o1 + i) : Nat) : Int)) := fun h => hbz.cell (by omega)
    have hfr : wr.frozen? ⟨b1, o1 + i, none⟩ = false := hbz.frozen _
    have hyi := hd2 (o2 + i)
    have hzi := hinv.2.1 (o1 + i)
    by_cases hlt : i < n2
    · have hnx := hinv.next hd2 hf hlt (by omega : o1 + n2 ≤ xs.length)
      have hhi := stepHi_lt hyi hf hzi ht
      have HC := Lib.hid (carry_cast hhi)
      go_wp2_with fail
      refine (mul64_run _ _ hyi hf _).mono ?_
      rintro e w' ⟨rfl, rfl⟩
      go_wp2
      go_roundw
      case rel => exact ⟨i + 1, stepHi (gt ys (o2 + i)) f (gt zs (o1 + i)) t, _, by omega, by go_num, by rw [HC.out]; rfl, hbz.set _ _, gr_trans hg (gr_set _ _ _ _) (.inr rfl) (.inr (.inl rfl)), hnx⟩
      case measure => simp [intOf]; omega
    · obtain rfl : i = n2 := by omega
      go_wp2
      go_ret
      exact ⟨t, zs, rfl, hbz, hg, hinv.1, hinv.2.1, ht, hinv.2.2.2.2⟩
end Go.Proofs.YtoadjhmehgkeaaaGreatDoor
namespace Go.Proofs.YtoadjhmehgkeaaaGreatDoor
open Go.RowKit Mth

def ProdInv (A : Nat) (ys zs : List Nat) (n1 o2 i : Nat) : Prop := Dg W64 zs ∧ (∀ j, n1 + i ≤ j → gt zs j = 0) ∧ vs W64 zs 0 (n1 + i) = A * vs W64 ys o2 i
theorem ProdInv.next {A : Nat} {ys zs us : List Nat} {n1 o2 i c : Nat} (h : ProdInv A ys zs n1 o2 i) (hlen : n1 + i < zs.length) (g : AddedM zs us i n1 c (A * gt ys (o2 + i))) : ProdInv A ys (us.set (i + n1) c) n1 o2 (i + 1) := by
  obtain ⟨h1, h2, h3⟩ := h
  obtain ⟨g1, g2, g3, g4⟩ := g
  have hl : i + n1 < us.length := by rw [g1.len]; omega
  refine ⟨g2.set g3, fun j hj => ?_, ?_⟩
  · rw [gt_set hl, if_neg (by omega), g1.out j (by omega)]; exact h2 j (by omega)
  · rw [show n1 + (i + 1) = i + (n1 + 1) from by omega, vs_split]
    simp only [vs, Nat.zero_add]
    rw [gt_set hl, if_pos rfl]
    rw [vs_congr (ys := us) (off' := i) (n := n1) (fun j hj => by rw [gt_set hl, if_neg (by omega)])]
    rw [vs_congr (ys := zs) (off := 0) (off' := 0) (n := i) (fun j hj => by rw [gt_set hl, if_neg (by omega)]; exact g1.out _ (by omega))]
    rw [g4]
    rw [show n1 + i = i + n1 from by omega, vs_split, Nat.zero_add] at h3
    rw [Nat.mul_add, Nat.mul_add, ← h3, Nat.mul_left_comm A]
    omega

theorem product_any (b1 o1 n1 c1 b2 o2 n2 c2 : Nat) (xs ys : List Nat) (w : World) (hb : Blk .u64 96 w b1 xs) (hn : o1 + n1 ≤ xs.length) (hd : Dg W64 xs)
    (hb2 : Blk .u64 96 w b2 ys) (hn2 : o2 + n2 ≤ ys.length) (hd2 : Dg W64 ys) (hs1 : n1 ≤ 1099511627776) (hs2 : n2 ≤ 1099511627776) :
    Calls Tryz.prog 143 #[.slice (some ⟨b1, o1, none⟩) n1 c1, .slice (some ⟨b2, o2, none⟩) n2 c2] w fun e w' => ∃ b zs, e = .returned (.slice (some ⟨b, 0, none⟩) zs.length zs.length) ∧ w.heap.size ≤ b ∧ Blk .u64 96 w' b zs ∧ w.grownBy w' none ∧ Dg W64 zs ∧ zs.length = n1 + n2 ∧ vs W64 zs 0 zs.length = vs W64 xs o1 n1 * vs W64 ys o2 n2 := by
  obtain ⟨i0, hi, hz0, hz1, hz2⟩ := info_parts infoW
  obtain ⟨A, hA⟩ : ∃ A, A = vs W64 xs o1 n1 := ⟨_, rfl⟩
  have HA := Lib.hid hA
  clear hA
  go_enter Tryz.func143, Tryz.ntmps143
  go_wp2_with (at_make; refine wpList_make_full _ rfl _ _ 81 rfl 0 96 i0 (.int .u64 0) 1 Tryz.underlying81 hi hz0 hz1 .i64 .i64 _ _ (n1 + n2) rfl rfl ?_ ?_ ?_ ?_ (Nat.zero_le _) ?_)
  case refine_1 => omega
  case refine_2 => omega
  case refine_3 => rw [hz2]; omega
  case refine_4 => unfold maxLen; omega
  intro w1 hown hgr
  have hb0 := blk_made' hown
  have hl0 : (List.replicate (n1 + n2) 0 : List Nat).length = n1 + n2 := List.length_replicate
  have hi0 : ProdInv A ys (List.replicate (n1 + n2) 0) n1 o2 0 := by
    have hz : ∀ j, gt (List.replicate (n1 + n2) 0) j = 0 := fun j => by simp [gt, List.getD, List.getElem?_replicate]; split <;> rfl
    exact ⟨fun j => by rw [hz]; exact W64_pos, fun j _ => hz j, by rw [vs_zero (fun j _ => hz _)]; simp [vs]⟩
  generalize (List.replicate (n1 + n2) 0 : List Nat) = z0 at hb0 hl0 hi0
  clear hown hi hz0 hz1 hz2
  go_wp2
  go_loopw [16] (fun j wr => ∃ (i : Nat) (zs : List Nat), i ≤ n2 ∧ j = .int .i64 i ∧ Blk .u64 96 wr w.heap.size zs ∧ zs.length = n1 + n2 ∧ w.grownBy wr none ∧ ProdInv A ys zs n1 o2 i) (fun j _ => n2 - (intOf j).toNat)
  case atStart => exact ⟨0, z0, Nat.zero_le _, rfl, hb0, hl0, hgr, hi0⟩
  case round =>
    obtain ⟨i, zs, hile, rfl, hbz, hlz, hg, hinv⟩ := hrel
    have hbr := hb.kept hg (by simp)
    have hb2r := hb2.kept hg (by simp)
    have hne : b1 ≠ w.heap.size := by have := hb.lt; omega
    have HLZ := Lib.hid hlz
    clear hb0 hl0 hi0
    by_cases hlt : i < n2
    · have hcell2 : wr.cell? ⟨b2, o2 + i, none⟩ = some (.int .u64 ((gt ys (o2 + i) : Nat) : Int)) := hb2r.cell (by omega)
      have hcut : ¬ n1 + n2 = i := by omega
      clear hlz
      go_wp2_with fail
      refine (addMultiple_any w.heap.size i (n1 + n2 - i) (n1 + n2 - i) b1 o1 n1 c1 (gt ys (o2 + i)) zs xs wr hbz (by rw [HLZ.out]; omega) hinv.1 hbr hn hd hne (by omega) (hd2 _) (by unfold maxLen; omega)).mono ?_
      rintro e w' ⟨c, us, rfl, hu, hg2, hadd⟩
      rw [← HA.out] at hadd
      have hnx := hinv.next (by rw [HLZ.out]; omega) hadd
      have hfr : w'.frozen? ⟨w.heap.size, i + n1, none⟩ = false := hu.frozen _
      have hlu : us.length = n1 + n2 := hadd.1.len.trans HLZ.out
      have HLU := Lib.hid hlu
      clear hlu
      have hold : w'.cell? ⟨w.heap.size, i + n1, none⟩ = some (.int .u64 ((gt us (i + n1) : Nat) : Int)) := hu.cell (by rw [HLU.out]; omega)
      go_wp2
      refine ⟨⟨i + 1, us.set (i + n1) c, by omega, by go_num, hu.set _ _, by rw [List.length_set]; exact HLU.out, ?_, hnx⟩, by simp [intOf]; omega⟩
      exact gr_new (gr_new hg hg2 (Nat.le_refl _)) (gr_set _ _ _ _) (Nat.le_refl _)
    · obtain rfl : i = n2 := by omega
      go_wp2
      go_ret
      refine ⟨w.heap.size, zs, by rw [HLZ.out]; rfl, Nat.le_refl _, hbz, hg, hinv.1, HLZ.out, ?_⟩
      rw [HLZ.out, hinv.2.2, HA.out]
end Go.Proofs.YtoadjhmehgkeaaaGreatDoor
namespace Go.Proofs.YtoadjhmehgkeaaaGreatDoor
open Go.RowKit Mth

theorem bytesLess_num : ∀ (x y : List UInt8), x.length = y.length → Op.bytesLess x y = decide (num x < num y)
  | [], [], _ => by simp [Op.bytesLess, num]
  | [], _ :: _, h => by simp at h
  | _ :: _, [], h => by simp at h
  | a :: x, b :: y, h => by
    have hl : x.length = y.length := by simpa using h
    have hx := num_lt x
    have hy := num_lt y
    rw [Op.bytesLess, bytesLess_num x y hl, num_cons, num_cons, hl]
    rw [hl] at hx
    by_cases h1 : a < b
    · have h2 : a.toNat + 1 ≤ b.toNat := UInt8.lt_iff_toNat_lt.1 h1
      have h3 : (a.toNat + 1) * 256 ^ y.length ≤ b.toNat * 256 ^ y.length := Nat.mul_le_mul_right _ h2
      rw [Nat.add_mul] at h3
      rw [decide_eq_true h1, Bool.true_or]; exact (decide_eq_true (by omega)).symm
    · by_cases h2 : a = b
      · subst h2
        rw [decide_eq_false h1, show (a == a) = true from by simp, Bool.true_and, Bool.false_or]
        by_cases h3 : num x < num y
        · rw [decide_eq_true h3]; exact (decide_eq_true (by omega)).symm
        · rw [decide_eq_false h3]; exact (decide_eq_false (by omega)).symm
      · have h4 : b.toNat + 1 ≤ a.toNat := by
          have h5 : ¬ a.toNat < b.toNat := fun h => h1 (UInt8.lt_iff_toNat_lt.2 h)
          have h6 : a.toNat ≠ b.toNat := fun h => h2 (UInt8.toNat_inj.1 h)
          omega
        have h3 : (b.toNat + 1) * 256 ^ y.length ≤ a.toNat * 256 ^ y.length := Nat.mul_le_mul_right _ h4
        rw [Nat.add_mul] at h3
        rw [decide_eq_false h1, show (a == b) = false from by simp [h2], Bool.false_and, Bool.false_or]; exact (decide_eq_false (by omega)).symm

theorem num_inj_len : ∀ {x y : List UInt8}, x.length = y.length → num x = num y → x = y
  | [], [], _, _ => rfl
  | [], _ :: _, h, _ => by simp at h
  | _ :: _, [], h, _ => by simp at h
  | a :: x, b :: y, h, hn => by
    have hl : x.length = y.length := by simpa using h
    have hx := num_lt x
    have hy := num_lt y
    rw [num_cons, num_cons, hl] at hn
    rw [hl] at hx
    have hab : a.toNat = b.toNat := by
      rcases Nat.lt_trichotomy a.toNat b.toNat with h1 | h1 | h1
      · have h3 : (a.toNat + 1) * 256 ^ y.length ≤ b.toNat * 256 ^ y.length := Nat.mul_le_mul_right _ h1
        rw [Nat.add_mul] at h3; omega
      · exact h1
      · have h3 : (b.toNat + 1) * 256 ^ y.length ≤ a.toNat * 256 ^ y.length := Nat.mul_le_mul_right _ h1
        rw [Nat.add_mul] at h3; omega
    rw [hab] at hn
    rw [UInt8.toNat_inj.1 hab, num_inj_len hl (by omega)]
theorem bytesLess_asymm (x y : List UInt8) (h : x.length = y.length) : num x < num y ∨ x = y ∨ num y < num x := by
  rcases Nat.lt_trichotomy (num x) (num y) with h1 | h1 | h1
  · exact .inl h1
  · exact .inr (.inl (num_inj_len h h1))
  · exact .inr (.inr h1)

/-- -1, 0 or 1. -/
def cmpN (a b : Nat) : Int := if a < b then -1 else if b < a then 1 else 0

theorem cmpNat_any (s t : ByteArray) (w : World) (h : s.size = t.size) :
    Calls Tryz.prog 81 #[.string s, .string t] w fun e w' => e = .returned (.int .i64 (cmpN (num s.data.toList) (num t.data.toList))) ∧ w = w' := by
  have h1 := Lib.hid (bytesLess_num s.data.toList t.data.toList h)
  have h2 := Lib.hid (bytesLess_num t.data.toList s.data.toList h.symm)
  have h3 := Lib.hid (bytesLess_asymm s.data.toList t.data.toList h)
  clear h
  go_enter Tryz.func81, Tryz.ntmps81
  go_wp2
  · have hl : Op.bytesLess s.toList t.toList = true := by assumption
    rw [Lib.toList_data, Lib.toList_data, h1.out] at hl
    have hn : num s.data.toList < num t.data.toList := of_decide_eq_true hl
    go_ret
    exact ⟨by unfold cmpN; rw [if_pos hn]; rfl, rfl⟩
  · have hl : Op.bytesLess s.toList t.toList = false := by assumption
    have he : (!(s.toList == t.toList)) = true := by assumption
    rw [Lib.toList_data, Lib.toList_data, h1.out] at hl
    rw [Lib.toList_data, Lib.toList_data] at he
    have hn : ¬ num s.data.toList < num t.data.toList := of_decide_eq_false hl
    have hne : s.data.toList ≠ t.data.toList := by simpa using he
    have hlt : num t.data.toList < num s.data.toList := by rcases h3.out with h | h | h; exact absurd h hn; exact absurd h hne; exact h
    go_ret
    exact ⟨by unfold cmpN; rw [if_neg hn, if_pos hlt]; rfl, rfl⟩
  · have he : (!(s.toList == t.toList)) = false := by assumption
    rw [Lib.toList_data, Lib.toList_data] at he
    have hne : s.data.toList = t.data.toList := by simpa using he
    go_ret
    exact ⟨by unfold cmpN; rw [hne, if_neg (by omega), if_neg (by omega)]; rfl, rfl⟩

theorem num_lt_of_len {a b : ByteArray} (hb : Rt b.data.toList) (h : a.size < b.size) : num a.data.toList < num b.data.toList := by
  have h1 := num_lt a.data.toList
  have hne : b.data.toList ≠ [] := by intro e; have := len_toList b; rw [e] at this; simp at this; omega
  have h2 := num_ge hb hne
  have h3 : 256 ^ a.data.toList.length ≤ 256 ^ (b.data.toList.length - 1) := Nat.pow_le_pow_right (by decide) (by rw [len_toList, len_toList]; omega)
  omega

theorem cmp_any (s t : ByteArray) (w : World) :
    Calls Tryz.prog 20 #[.string s, .string t] w fun e w' => e = .returned (.int .i64 (cmpN (num s.data.toList) (num t.data.toList))) ∧ w = w' := by
  have hn1 : num (bytesOf s).data.toList = num s.data.toList := num_canon _
  have hn2 : num (bytesOf t).data.toList = num t.data.toList := num_canon _
  have hr1 : Rt (bytesOf s).data.toList := rt_canon _
  have hr2 : Rt (bytesOf t).data.toList := rt_canon _
  generalize h1 : (bytesOf s) = a at hn1 hr1
  generalize h2 : (bytesOf t) = b at hn2 hr2
  have H1 := Lib.hid h1
  have H2 := Lib.hid h2
  have HN1 := Lib.hid hn1
  have HN2 := Lib.hid hn2
  have HR1 := Lib.hid hr1
  have HR2 := Lib.hid hr2
  clear h1 h2 hn1 hn2 hr1 hr2
  go_enter Tryz.func20, Tryz.ntmps20
  go_wp2_with fail
  refine (withoutZeros_any s _).mono ?_
  rintro e w' ⟨rfl, rfl⟩
  rw [show (⟨(canon s.data.toList).toArray⟩ : ByteArray) = a from H1.out]
  go_wp2_with fail
  refine (withoutZeros_any t _).mono ?_
  rintro e w' ⟨rfl, rfl⟩
  rw [show (⟨(canon t.data.toList).toArray⟩ : ByteArray) = b from H2.out]
  by_cases hl : a.size = b.size
  · have HL := Lib.hid hl
    have hb : ((a.size : Int) != (b.size : Int)) = false := by rw [bne_eq_false_iff_eq, hl]
    clear hl
    go_wp2_with fail
    refine (cmpNat_any a b _ HL.out).mono ?_
    rintro e w' ⟨rfl, rfl⟩
    go_wp2
    go_ret
    exact ⟨by rw [← HN1.out, ← HN2.out]; rfl, rfl⟩
  · have hb : ((a.size : Int) != (b.size : Int)) = true := by rw [bne_iff_ne]; omega
    have hc : Lib.compareInt (a.size : Int) (b.size : Int) = cmpN (num s.data.toList) (num t.data.toList) := by
      rw [← HN1.out, ← HN2.out]
      unfold Lib.compareInt cmpN
      rcases Nat.lt_or_gt_of_ne hl with h | h
      · rw [if_pos (by omega), if_pos (num_lt_of_len HR2.out h)]
      · have h2 := num_lt_of_len HR1.out h
        have h2' : num b.data.toList < num a.data.toList := h2
        rw [if_neg (by omega), if_pos (by omega), if_neg (by omega), if_pos h2']
    have HC := Lib.hid hc
    clear hc hl
    go_wp2_with fail
    refine (Tryz.cmp_Compare_int _ _ _).mono ?_
    rintro e w' ⟨rfl, rfl⟩
    go_wp2
    go_ret
    exact ⟨by rw [← HC.out]; rfl, rfl⟩
end Go.Proofs.YtoadjhmehgkeaaaGreatDoor
