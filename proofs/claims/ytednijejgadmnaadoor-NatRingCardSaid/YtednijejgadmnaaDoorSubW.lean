/- The contract of nat.subtractFrom: a slice of words is subtracted in place from another one that is not less. -/
import Derived.Test.YtednijejgadmnaaDoorAdd
import Derived.Shelf.Spec.BitsCarry
namespace Go.Proofs.YtednijejgadmnaaDoor
open Go.RowKit Mth

def subLo (x y c : Nat) : Nat := (x + W64 - y - c) % W64
def subHi (x y c : Nat) : Nat := if x < y + c then 1 else 0
theorem subLo_lt (x y c : Nat) : subLo x y c < W64 := Nat.mod_lt _ W64_pos
theorem subHi_le (x y c : Nat) : subHi x y c ≤ 1 := by unfold subHi; split <;> omega
theorem sub_split {x y c : Nat} (hx : x < W64) (hy : y < W64) (hc : c ≤ 1) : subLo x y c + y + c = x + W64 * subHi x y c := by
  unfold subLo subHi
  rw [W64_eq] at *
  split <;> omega
theorem sub64_run (x y c : Nat) (hc : c ≤ 1) (w : World) :
    (callFunc 57 #[.int .u64 (x : Int), .int .u64 (y : Int), .int .u64 (c : Int)]).run Tryd.prog w =
      .ok (.value (.tuple #[.int .u64 ((subLo x y c : Nat) : Int), .int .u64 ((subHi x y c : Nat) : Int)])) w := by
  rw [run_callFunc_extern Tryd.func57 (by kernel_rfl) (by kernel_rfl) (by kernel_rfl) (e := sub64Entry) (by kernel_rfl), run_sub64 x y c hc]
  rfl
theorem sub64_run0 (x c : Nat) (hc : c ≤ 1) (w : World) :
    (callFunc 57 #[.int .u64 (x : Int), .int .u64 0, .int .u64 (c : Int)]).run Tryd.prog w =
      .ok (.value (.tuple #[.int .u64 ((subLo x 0 c : Nat) : Int), .int .u64 ((subHi x 0 c : Nat) : Int)])) w := sub64_run x 0 c hc w

def SubInv (xs zs : List Nat) (off n Y i c : Nat) : Prop := Wrote xs zs off n ∧ Dg W64 zs ∧ c ≤ 1 ∧ (∀ j, i ≤ j → gt zs (off + j) = gt xs (off + j)) ∧ vs W64 zs off i + Y = vs W64 xs off i + W64 ^ i * c
theorem SubInv.next {xs zs : List Nat} {off n Y i c y : Nat} (h : SubInv xs zs off n Y i c) (hy : y < W64) (hi : i < n) (hx : off + n ≤ xs.length) : SubInv xs (zs.set (off + i) (subLo (gt zs (off + i)) y c)) off n (Y + W64 ^ i * y) (i + 1) (subHi (gt zs (off + i)) y c) := by
  obtain ⟨h1, h2, h3, h4, h5⟩ := h
  have hl : off + i < zs.length := by rw [h1.len]; omega
  refine ⟨h1.step (by omega) (by omega) (by omega), h2.set (subLo_lt _ _ _), subHi_le _ _ _, fun j hj => ?_, ?_⟩
  · rw [gt_set hl, if_neg (by omega)]; exact h4 j (by omega)
  · have hs := sub_split (h2 (off + i)) hy h3
    simp only [vs]
    rw [gt_set hl, if_pos rfl, vs_congr (ys := zs) (off' := off) (fun j hj => by rw [gt_set hl, if_neg (by omega)])]
    rw [h4 i (Nat.le_refl _)] at hs ⊢
    have e : W64 ^ i * subLo (gt xs (off + i)) y c + W64 ^ i * y + W64 ^ i * c = W64 ^ i * gt xs (off + i) + W64 ^ (i + 1) * subHi (gt xs (off + i)) y c := by
      rw [Nat.pow_succ, Nat.mul_assoc, ← Nat.mul_add, ← Nat.mul_add, hs, Nat.mul_add]
    omega
theorem SubInv.done {xs zs : List Nat} {off n Y i c : Nat} (h : SubInv xs zs off n Y i c) (hi : i ≤ n) (he : i = n ∨ c = 0) (hY : Y ≤ vs W64 xs off n) : Wrote xs zs off n ∧ Dg W64 zs ∧ vs W64 zs off n + Y = vs W64 xs off n := by
  obtain ⟨h1, h2, h3, h4, h5⟩ := h
  refine ⟨h1, h2, ?_⟩
  rcases he with rfl | rfl
  · have hlt := vs_lt (off := off) (n := i) h2
    have : c = 0 ∨ c = 1 := by omega
    rcases this with rfl | rfl
    · simpa using h5
    · omega
  · obtain ⟨m, rfl⟩ : ∃ m, n = i + m := ⟨n - i, by omega⟩
    rw [vs_split, vs_split, vs_congr (xs := zs) (ys := xs) (off' := off + i) (n := m) (fun j hj => by rw [Nat.add_assoc]; exact h4 (i + j) (by omega))]
    omega

theorem subtractFrom_any (b1 o1 n1 c1 b2 o2 n2 c2 : Nat) (xs ys : List Nat) (w : World) (hb : Blk .u64 57 w b1 xs) (hn : o1 + n1 ≤ xs.length) (hd : Dg W64 xs) (hm : n1 ≤ maxLen)
    (hb2 : Blk .u64 57 w b2 ys) (hn2 : o2 + n2 ≤ ys.length) (hd2 : Dg W64 ys) (hne : b2 ≠ b1) (hle : n2 ≤ n1) (hval : vs W64 ys o2 n2 ≤ vs W64 xs o1 n1) :
    Calls Tryd.prog 37 #[.slice (some ⟨b1, o1, none⟩) n1 c1, .slice (some ⟨b2, o2, none⟩) n2 c2] w fun e w' => e = .returned (.tuple #[]) ∧ ∃ zs, Blk .u64 57 w' b1 zs ∧ w.grownBy w' (some b1) ∧ Wrote xs zs o1 n1 ∧ Dg W64 zs ∧ vs W64 zs o1 n1 + vs W64 ys o2 n2 = vs W64 xs o1 n1 := by
  unfold maxLen at hm
  have ha := sub64_run
  have hy0 : SubInv xs xs o1 n1 (vs W64 ys o2 0) 0 0 := ⟨Wrote.refl _ _ _, hd, by omega, fun _ _ => rfl, by simp [vs]⟩
  have HV := Lib.hid hval
  clear hval
  go_enter Tryd.func37, Tryd.ntmps37
  go_wp2
  go_loopw [4, 10] (fun v j wr => ∃ (i t : Nat) (zs : List Nat), i ≤ n2 ∧ j = .int .i64 i ∧ v = .int .u64 t ∧ Blk .u64 57 wr b1 zs ∧ w.grownBy wr (some b1) ∧ SubInv xs zs o1 n1 (vs W64 ys o2 i) i t) (fun _ j _ => n2 - (intOf j).toNat)
  case atStart => exact ⟨0, 0, xs, Nat.zero_le _, rfl, rfl, hb, World.grownBy.refl _ _, hy0⟩
  case round =>
    obtain ⟨i, t, zs, hi, rfl, rfl, hbz, hg, hinv⟩ := hrel
    have hlz : zs.length = xs.length := hinv.1.len
    have ht : t ≤ 1 := hinv.2.2.1
    have hb2r := hb2.kept hg (by simpa using hne)
    by_cases hlt : i < n2
    · have hcell2 : wr.cell? ⟨b2, o2 + i, none⟩ = some (.int .u64 ((gt ys (o2 + i) : Nat) : Int)) := hb2r.cell (by omega)
      have hcell : wr.cell? ⟨b1, o1 + i, none⟩ = some (.int .u64 ((gt zs (o1 + i) : Nat) : Int)) := hbz.cell (by omega)
      have hfr : wr.frozen? ⟨b1, o1 + i, none⟩ = false := hbz.frozen _
      have hnx := hinv.next (hd2 (o2 + i)) (by omega : i < n1) hn
      go_wp2
      go_roundw
      case rel => exact ⟨i + 1, _, _, by omega, by go_num, rfl, hbz.set _ _, gr_trans hg (gr_set _ _ _ _) (.inr rfl) (.inr (.inl rfl)), hnx⟩
      case measure => simp [intOf]; omega
    · obtain rfl : i = n2 := by omega
      clear ha hlz
      have ha := sub64_run0
      obtain ⟨W1, rfl⟩ : ∃ W1, W1 = wr := ⟨_, rfl⟩
      go_wp2
      go_loopw [4, 7] (fun v j wr => ∃ (l t : Nat) (zs : List Nat), i ≤ l ∧ l ≤ n1 ∧ j = .int .i64 l ∧ v = .int .u64 t ∧ Blk .u64 57 wr b1 zs ∧ w.grownBy wr (some b1) ∧ SubInv xs zs o1 n1 (vs W64 ys o2 i) l t) (fun _ j _ => n1 - (intOf j).toNat)
      case atStart => exact ⟨i, t, zs, Nat.le_refl _, hle, rfl, rfl, hbz, hg, hinv⟩
      case round =>
        obtain ⟨l, t', zs', hil, hln, rfl, rfl, hbz', hg', hinv'⟩ := hrel
        have hlz : zs'.length = xs.length := hinv'.1.len
        have ht : t' ≤ 1 := hinv'.2.2.1
        have hcell : l < n1 → wr.cell? ⟨b1, o1 + l, none⟩ = some (.int .u64 ((gt zs' (o1 + l) : Nat) : Int)) := fun h => hbz'.cell (by omega)
        have hfr : wr.frozen? ⟨b1, o1 + l, none⟩ = false := hbz'.frozen _
        go_wp2
        · have hlt : l < n1 := by assumption
          have hnx := hinv'.next (y := 0) W64_pos hlt hn
          rw [Nat.mul_zero, Nat.add_zero] at hnx
          go_roundw
          case rel => exact ⟨l + 1, _, _, by omega, by omega, by go_num, rfl, hbz'.set _ _, gr_trans hg' (gr_set _ _ _ _) (.inr rfl) (.inr (.inl rfl)), hnx⟩
          case measure => simp [intOf]; omega
        · have hlt : l < n1 := by assumption
          have h0 : ¬ 0 < t' := by assumption
          go_end0
          have hd := hinv'.done hln (.inr (by omega)) HV.out
          exact ⟨rfl, zs', hbz', hg', hd⟩
        · have hlt : ¬ l < n1 := by assumption
          go_end0
          have hd := hinv'.done hln (.inl (by omega)) HV.out
          exact ⟨rfl, zs', hbz', hg', hd⟩
end Go.Proofs.YtednijejgadmnaaDoor
