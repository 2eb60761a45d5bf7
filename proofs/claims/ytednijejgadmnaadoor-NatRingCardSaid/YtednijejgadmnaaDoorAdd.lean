/- The contracts of nat.addWordTo and nat.addTo: a number is added in place, the carry out of the last word is dropped. -/
import Derived.Test.YtednijejgadmnaaDoorTrim
import Derived.Laws.Externs
namespace Go.Proofs.YtednijejgadmnaaDoor
open Go.RowKit Mth

theorem add64_run (x y c : Nat) (hc : c ≤ 1) (w : World) :
    (callFunc 75 #[.int .u64 (x : Int), .int .u64 (y : Int), .int .u64 (c : Int)]).run Tryd.prog w =
      .ok (.value (.tuple #[.int .u64 ((addLo x y c : Nat) : Int), .int .u64 ((addHi x y c : Nat) : Int)])) w := by
  rw [run_callFunc_extern Tryd.func75 (by kernel_rfl) (by kernel_rfl) (by kernel_rfl) (e := add64Entry) (by kernel_rfl), run_add64 x y c (by omega) (by omega) (by omega) (by omega)]
  simp only [Result.andThen, addLo, addHi, W64]
  congr 5 <;> omega
theorem add64_run0 (x y : Nat) (w : World) :
    (callFunc 75 #[.int .u64 (x : Int), .int .u64 (y : Int), .int .u64 0]).run Tryd.prog w =
      .ok (.value (.tuple #[.int .u64 ((addLo x y 0 : Nat) : Int), .int .u64 ((addHi x y 0 : Nat) : Int)])) w := add64_run x y 0 (by omega) w

/-- What a slice at (b, off, n) of numbers below the base has become, the rest of its block being as it was. -/
structure Wrote (xs zs : List Nat) (off n : Nat) : Prop where
  len : zs.length = xs.length
  out : ∀ i, (i < off ∨ off + n ≤ i) → gt zs i = gt xs i
theorem Wrote.refl (xs : List Nat) (off n : Nat) : Wrote xs xs off n := ⟨rfl, fun _ _ => rfl⟩
theorem Wrote.step {xs zs : List Nat} {off n : Nat} (h : Wrote xs zs off n) {i v : Nat} (h1 : off ≤ i) (h2 : i < off + n) (h3 : i < xs.length) : Wrote xs (zs.set i v) off n :=
  ⟨by simp [h.len], fun j hj => by rw [gt_set (by rw [h.len]; exact h3), if_neg (by omega)]; exact h.out j hj⟩
theorem Wrote.trans {xs ys zs : List Nat} {off n o1 n1 o2 n2 : Nat} (h : Wrote xs ys o1 n1) (g : Wrote ys zs o2 n2) (h1 : off ≤ o1) (h2 : o1 + n1 ≤ off + n) (h3 : off ≤ o2) (h4 : o2 + n2 ≤ off + n) : Wrote xs zs off n :=
  ⟨g.len.trans h.len, fun i hi => (g.out i (by omega)).trans (h.out i (by omega))⟩

def AddedW (xs zs : List Nat) (off n y : Nat) : Prop := Wrote xs zs off n ∧ Dg W64 zs ∧ ∃ k, vs W64 zs off n + W64 ^ n * k = vs W64 xs off n + y
/-- The loop of addWordTo: i rounds are over, y is still to be added. -/
def AddInv (xs zs : List Nat) (off n i y0 y : Nat) : Prop := Wrote xs zs off n ∧ Dg W64 zs ∧ y < W64 ∧ (∀ j, i ≤ j → gt zs (off + j) = gt xs (off + j)) ∧ vs W64 zs off i + W64 ^ i * y = vs W64 xs off i + y0
theorem AddInv.next {xs zs : List Nat} {off n i y0 y : Nat} (h : AddInv xs zs off n i y0 y) (hi : i < n) (hx : off + n ≤ xs.length) : AddInv xs (zs.set (off + i) (addLo (gt zs (off + i)) y 0)) off n (i + 1) y0 (addHi (gt zs (off + i)) y 0) := by
  obtain ⟨h1, h2, h3, h4, h5⟩ := h
  have hl : off + i < zs.length := by rw [h1.len]; omega
  have hhi := addHi_le (h2 (off + i)) h3 (Nat.zero_le 1)
  have h1W : 1 < W64 := by decide
  refine ⟨h1.step (by omega) (by omega) (by omega), h2.set (addLo_lt _ _ _), by omega, fun j hj => ?_, ?_⟩
  · rw [gt_set hl, if_neg (by omega)]; exact h4 j (by omega)
  · have hs := add_split (gt zs (off + i)) y 0
    simp only [vs]
    rw [gt_set hl, if_pos rfl, vs_congr (ys := zs) (off' := off) (fun j hj => by rw [gt_set hl, if_neg (by omega)])]
    rw [h4 i (Nat.le_refl _)] at hs ⊢
    have e : W64 ^ i * addLo (gt xs (off + i)) y 0 + W64 ^ (i + 1) * addHi (gt xs (off + i)) y 0 = W64 ^ i * gt xs (off + i) + W64 ^ i * y := by
      rw [Nat.pow_succ, Nat.mul_assoc, ← Nat.mul_add, hs, Nat.add_zero, Nat.mul_add]
    omega
theorem AddInv.done {xs zs : List Nat} {off n i y0 y : Nat} (h : AddInv xs zs off n i y0 y) (hi : i ≤ n) (he : i = n ∨ y = 0) : AddedW xs zs off n y0 := by
  obtain ⟨h1, h2, h3, h4, h5⟩ := h
  refine ⟨h1, h2, ?_⟩
  rcases he with rfl | rfl
  · exact ⟨y, h5⟩
  · refine ⟨0, ?_⟩
    obtain ⟨m, rfl⟩ : ∃ m, n = i + m := ⟨n - i, by omega⟩
    rw [vs_split, vs_split, vs_congr (xs := zs) (ys := xs) (off' := off + i) (n := m) (fun j hj => by rw [Nat.add_assoc]; exact h4 (i + j) (by omega))]
    omega

theorem addWordTo_any (b off n c y : Nat) (xs : List Nat) (w : World) (hb : Blk .u64 57 w b xs) (hn : off + n ≤ xs.length) (hd : Dg W64 xs) (hy : y < W64) (hm : n ≤ maxLen) :
    Calls Tryd.prog 82 #[.slice (some ⟨b, off, none⟩) n c, .int .u64 (y : Int)] w fun e w' => e = .returned (.tuple #[]) ∧ ∃ zs, Blk .u64 57 w' b zs ∧ w.grownBy w' (some b) ∧ AddedW xs zs off n y := by
  unfold maxLen at hm
  have ha := add64_run0
  have hy0 : AddInv xs xs off n 0 y y := ⟨Wrote.refl _ _ _, hd, hy, fun _ _ => rfl, by simp [vs]⟩
  go_enter Tryd.func82, Tryd.ntmps82
  go_wp2
  go_loopw [1, 4] (fun v j wr => ∃ (i t : Nat) (zs : List Nat), i ≤ n ∧ j = .int .i64 i ∧ v = .int .u64 t ∧ Blk .u64 57 wr b zs ∧ w.grownBy wr (some b) ∧ AddInv xs zs off n i y t) (fun _ j _ => n - (intOf j).toNat)
  case atStart => exact ⟨0, y, xs, Nat.zero_le _, rfl, rfl, hb, World.grownBy.refl _ _, hy0⟩
  case round =>
    obtain ⟨i, t, zs, hi, rfl, rfl, hbz, hg, hinv⟩ := hrel
    have hlz : zs.length = xs.length := hinv.1.len
    have hcell : i < n → wr.cell? ⟨b, off + i, none⟩ = some (.int .u64 ((gt zs (off + i) : Nat) : Int)) := fun h => hbz.cell (by omega)
    have hfr : wr.frozen? ⟨b, off + i, none⟩ = false := hbz.frozen _
    go_wp2
    · have hlt : i < n := by assumption
      have hnx := hinv.next hlt hn
      go_roundw
      case rel => exact ⟨i + 1, _, _, by omega, by go_num, rfl, hbz.set _ _, gr_trans hg (gr_set _ _ _ _) (.inr rfl) (.inr (.inl rfl)), hnx⟩
      case measure => simp [intOf]; omega
    · have hlt : i < n := by assumption
      have h0 : ¬ 0 < t := by assumption
      go_end0
      exact ⟨rfl, zs, hbz, hg, hinv.done hi (.inr (by omega))⟩
    · have hlt : ¬ i < n := by assumption
      go_end0
      exact ⟨rfl, zs, hbz, hg, hinv.done hi (.inl (by omega))⟩
end Go.Proofs.YtednijejgadmnaaDoor
