/- Contracts of package nat and of the reference, part 1: Trim, Add, AddTo, Arith. -/
import Derived.Test.YtoadjhmehgkeaaaDoorERing0
import Derived.Laws.Externs
import Derived.WalkKit
import Derived.Laws.Bits64b
namespace Go.Proofs.YtoadjhmehgkeaaaDoor
open Go.RowKit Mth

theorem trimmed_any (b off n c : Nat) (xs : List Nat) (w : World) (hb : Blk .u64 57 w b xs) (hn : off + n ≤ xs.length) (hc : n ≤ c) (hm : c ≤ maxLen) :
    Calls Tryd.prog 54 #[.slice (some ⟨b, off, none⟩) n c] w fun e w' => (∃ m, e = .returned (.slice (some ⟨b, off, none⟩) m c) ∧ m ≤ n ∧ (∀ i, m ≤ i → i < n → gt xs (off + i) = 0) ∧ (m = 0 ∨ gt xs (off + (m - 1)) ≠ 0)) ∧ w = w' := by
  unfold maxLen at hm
  go_enter Tryd.func54, Tryd.ntmps54
  go_wp2
  go_loop [0] (fun v => ∃ m : Nat, m ≤ n ∧ v = .slice (some ⟨b, off, none⟩) m c ∧ Hid (∀ i, m ≤ i → i < n → gt xs (off + i) = 0)) (fun v => lenOf v)
  case atStart => exact ⟨n, Nat.le_refl _, rfl, fun i h1 h2 => by omega⟩
  case round =>
    obtain ⟨m, hmn, rfl, hz⟩ := hrel
    have hcell : 0 < m → w.cell? ⟨b, off + (m - 1), none⟩ = some (.int .u64 ((gt xs (off + (m - 1)) : Nat) : Int)) := fun h => hb.cell (by omega)
    go_wp2
    · have h1 : 0 < m := by assumption
      have h2 : ((gt xs (off + (m - 1)) : Int) == 0) = true := by assumption
      have h0 : gt xs (off + (m - 1)) = 0 := by have := beq_iff_eq.1 h2; omega
      refine ⟨⟨m - 1, by omega, rfl, fun i h3 h4 => ?_⟩, by simp only [lenOf]; omega⟩
      by_cases e : i = m - 1
      · rw [e]; exact h0
      · exact hz.out i (by omega) h4
    · have h1 : 0 < m := by assumption
      have h2 : ((gt xs (off + (m - 1)) : Int) == 0) = false := by assumption
      have h0 : gt xs (off + (m - 1)) ≠ 0 := by intro e; rw [e] at h2; simp at h2
      go_ret
      exact ⟨⟨m, rfl, hmn, hz.out, .inr h0⟩, rfl⟩
    · have h1 : ¬ 0 < m := by assumption
      go_ret
      exact ⟨⟨m, rfl, hmn, hz.out, .inl (by omega)⟩, rfl⟩
end Go.Proofs.YtoadjhmehgkeaaaDoor
namespace Go.Proofs.YtoadjhmehgkeaaaDoor
open Go.RowKit Mth

theorem add64_run (x y c : Nat) (hc : c ≤ 1) (w : World) :
    (callFunc 75 #[.int .u64 (x : Int), .int .u64 (y : Int), .int .u64 (c : Int)]).run Tryd.prog w =
      .ok (.value (.tuple #[.int .u64 ((addLo x y c : Nat) : Int), .int .u64 ((addHi x y c : Nat) : Int)])) w := by
  rw [run_callFunc_extern Tryd.func75 (by kernel_rfl) (by kernel_rfl) (by kernel_rfl) (e := add64Entry) (by kernel_rfl), run_add64 x y c (by omega) (by omega) (by omega) (by omega)]
  simp only [Result.andThen, addLo, addHi, W64]
  congr 5 <;> omega
theorem add64_run0 (x y : Nat) (w : World) :
    (callFunc 75 #[.int .u64 (x : Int), .int .u64 (y : Int), .int .u64 0]).run Tryd.prog w =
      .ok (.value (.tuple #[.int .u64 ((addLo x y 0 : Nat) : Int), .int .u64 ((addHi x y 0 : Nat) : Int)])) w := add64_run x y 0 (by omega) w

/-- What a slice at (b, off, n) of numbers below the base has become, the rest of its block being as it was. -/
structure Wrote (xs zs : List Nat) (off n : Nat) : Prop where
  len : zs.length = xs.length
  out : ∀ i, (i < off ∨ off + n ≤ i) → gt zs i = gt xs i
theorem Wrote.refl (xs : List Nat) (off n : Nat) : Wrote xs xs off n := ⟨rfl, fun _ _ => rfl⟩
theorem Wrote.step {xs zs : List Nat} {off n : Nat} (h : Wrote xs zs off n) {i v : Nat} (h1 : off ≤ i) (h2 : i < off + n) (h3 : i < xs.length) : Wrote xs (zs.set i v) off n :=
  ⟨by simp [h.len], fun j hj => by rw [gt_set (by rw [h.len]; exact h3), if_neg (by omega)]; exact h.out j hj⟩
theorem Wrote.trans {xs ys zs : List Nat} {off n o1 n1 o2 n2 : Nat} (h : Wrote xs ys o1 n1) (g : Wrote ys zs o2 n2) (h1 : off ≤ o1) (h2 : o1 + n1 ≤ off + n) (h3 : off ≤ o2) (h4 : o2 + n2 ≤ off + n) : Wrote xs zs off n :=
  ⟨g.len.trans h.len, fun i hi => (g.out i (by omega)).trans (h.out i (by omega))⟩

def AddedW (xs zs : List Nat) (off n y : Nat) : Prop := Wrote xs zs off n ∧ Dg W64 zs ∧ ∃ k, vs W64 zs off n + W64 ^ n * k = vs W64 xs off n + y
/-- The loop of addWordTo: i rounds are over, y is still to be added. -/
def AddInv (xs zs : List Nat) (off n i y0 y : Nat) : Prop := Wrote xs zs off n ∧ Dg W64 zs ∧ y < W64 ∧ (∀ j, i ≤ j → gt zs (off + j) = gt xs (off + j)) ∧ vs W64 zs off i + W64 ^ i * y = vs W64 xs off i + y0
theorem AddInv.next {xs zs : List Nat} {off n i y0 y : Nat} (h : AddInv xs zs off n i y0 y) (hi : i < n) (hx : off + n ≤ xs.length) : AddInv xs (zs.set (off + i) (addLo (gt zs (off + i)) y 0)) off n (i + 1) y0 (addHi (gt zs (off + i)) y 0) := by
  obtain ⟨h1, h2, h3, h4, h5⟩ := h
  have hl : off + i < zs.length := by rw [h1.len]; omega
  have hhi := addHi_le (h2 (off + i)) h3 (Nat.zero_le 1)
  have h1W : 1 < W64 := by decide
  refine ⟨h1.step (by omega) (by omega) (by omega), h2.set (addLo_lt _ _ _), by omega, fun j hj => ?_, ?_⟩
  · rw [gt_set hl, if_neg (by omega)]; exact h4 j (by omega)
  · have hs := add_split (gt zs (off + i)) y 0
    simp only [vs]
    rw [gt_set hl, if_pos rfl, vs_congr (ys := zs) (off' := off) (fun j hj => by rw [gt_set hl, if_neg (by omega)])]
    rw [h4 i (Nat.le_refl _)] at hs ⊢
    have e : W64 ^ i * addLo (gt xs (off + i)) y 0 + W64 ^ (i + 1) * addHi (gt xs (off + i)) y 0 = W64 ^ i * gt xs (off + i) + W64 ^ i * y := by
      rw [Nat.pow_succ, Nat.mul_assoc, ← Nat.mul_add, hs, Nat.add_zero, Nat.mul_add]
    omega
theorem AddInv.done {xs zs : List Nat} {off n i y0 y : Nat} (h : AddInv xs zs off n i y0 y) (hi : i ≤ n) (he : i = n ∨ y = 0) : AddedW xs zs off n y0 := by
  obtain ⟨h1, h2, h3, h4, h5⟩ := h
  refine ⟨h1, h2, ?_⟩
  rcases he with rfl | rfl
  · exact ⟨y, h5⟩
  · refine ⟨0, ?_⟩
    obtain ⟨m, rfl⟩ : ∃ m, n = i + m := ⟨n - i, by omega⟩
    rw [vs_split, vs_split, vs_congr (xs := zs) (ys := xs) (off' := off + i) (n := m) (fun j hj => by rw [Nat.add_assoc]; exact h4 (i + j) (by omega))]
    omega

theorem addWordTo_any (b off n c y : Nat) (xs : List Nat) (w : World) (hb : Blk .u64 57 w b xs) (hn : off + n ≤ xs.length) (hd : Dg W64 xs) (hy : y < W64) (hm : n ≤ maxLen) :
    Calls Tryd.prog 82 #[.slice (some ⟨b, off, none⟩) n c, .int .u64 (y : Int)] w fun e w' => e = .returned (.tuple #[]) ∧ ∃ zs, Blk .u64 57 w' b zs ∧ w.grownBy w' (some b) ∧ AddedW xs zs off n y := by
  unfold maxLen at hm
  have ha := add64_run0
  have hy0 : AddInv xs xs off n 0 y y := ⟨Wrote.refl _ _ _, hd, hy, fun _ _ => rfl, by simp [vs]⟩
  go_enter Tryd.func82, Tryd.ntmps82
  go_wp2
  go_loopw [1, 4] (fun v j wr => ∃ (i t : Nat) (zs : List Nat), i ≤ n ∧ j = .int .i64 i ∧ v = .int .u64 t ∧ Blk .u64 57 wr b zs ∧ w.grownBy wr (some b) ∧ AddInv xs zs off n i y t) (fun _ j _ => n - (intOf j).toNat)
  case atStart => exact ⟨0, y, xs, Nat.zero_le _, rfl, rfl, hb, World.grownBy.refl _ _, hy0⟩
  case round =>
    obtain ⟨i, t, zs, hi, rfl, rfl, hbz, hg, hinv⟩ := hrel
    have hlz : zs.length = xs.length := hinv.1.len
    have hcell : i < n → wr.cell? ⟨b, off + i, none⟩ = some (.int .u64 ((gt zs (off + i) : Nat) : Int)) := fun h => hbz.cell (by omega)
    have hfr : wr.frozen? ⟨b, off + i, none⟩ = false := hbz.frozen _
    go_wp2
    · have hlt : i < n := by assumption
      have hnx := hinv.next hlt hn
      go_roundw
      case rel => exact ⟨i + 1, _, _, by omega, by go_num, rfl, hbz.set _ _, gr_trans hg (gr_set _ _ _ _) (.inr rfl) (.inr (.inl rfl)), hnx⟩
      case measure => simp [intOf]; omega
    · have hlt : i < n := by assumption
      have h0 : ¬ 0 < t := by assumption
      go_end0
      exact ⟨rfl, zs, hbz, hg, hinv.done hi (.inr (by omega))⟩
    · have hlt : ¬ i < n := by assumption
      go_end0
      exact ⟨rfl, zs, hbz, hg, hinv.done hi (.inl (by omega))⟩
end Go.Proofs.YtoadjhmehgkeaaaDoor
namespace Go.Proofs.YtoadjhmehgkeaaaDoor
open Go.RowKit Mth

def SumInv (xs ys zs : List Nat) (off n o2 i c : Nat) : Prop := Wrote xs zs off n ∧ Dg W64 zs ∧ c ≤ 1 ∧ (∀ j, i ≤ j → gt zs (off + j) = gt xs (off + j)) ∧ vs W64 zs off i + W64 ^ i * c = vs W64 xs off i + vs W64 ys o2 i
theorem SumInv.next {xs ys zs : List Nat} {off n o2 i c : Nat} (h : SumInv xs ys zs off n o2 i c) (hy : Dg W64 ys) (hi : i < n) (hx : off + n ≤ xs.length) : SumInv xs ys (zs.set (off + i) (addLo (gt zs (off + i)) (gt ys (o2 + i)) c)) off n o2 (i + 1) (addHi (gt zs (off + i)) (gt ys (o2 + i)) c) := by
  obtain ⟨h1, h2, h3, h4, h5⟩ := h
  have hl : off + i < zs.length := by rw [h1.len]; omega
  refine ⟨h1.step (by omega) (by omega) (by omega), h2.set (addLo_lt _ _ _), addHi_le (h2 _) (hy _) h3, fun j hj => ?_, ?_⟩
  · rw [gt_set hl, if_neg (by omega)]; exact h4 j (by omega)
  · have hs := add_split (gt zs (off + i)) (gt ys (o2 + i)) c
    simp only [vs]
    rw [gt_set hl, if_pos rfl, vs_congr (ys := zs) (off' := off) (fun j hj => by rw [gt_set hl, if_neg (by omega)])]
    rw [h4 i (Nat.le_refl _)] at hs ⊢
    have e : W64 ^ i * addLo (gt xs (off + i)) (gt ys (o2 + i)) c + W64 ^ (i + 1) * addHi (gt xs (off + i)) (gt ys (o2 + i)) c = W64 ^ i * gt xs (off + i) + W64 ^ i * gt ys (o2 + i) + W64 ^ i * c := by
      rw [Nat.pow_succ, Nat.mul_assoc, ← Nat.mul_add, hs, Nat.mul_add, Nat.mul_add]
    omega
theorem SumInv.done {xs ys zs us : List Nat} {off n o2 m c : Nat} (h : SumInv xs ys zs off n o2 m c) (hm : m ≤ n) (g : AddedW zs us (off + m) (n - m) c) : AddedW xs us off n (vs W64 ys o2 m) := by
  obtain ⟨h1, h2, h3, h4, h5⟩ := h
  obtain ⟨g1, g2, k, g3⟩ := g
  refine ⟨h1.trans g1 (Nat.le_refl _) (Nat.le_refl _) (by omega) (by omega), g2, k, ?_⟩
  obtain ⟨r, rfl⟩ : ∃ r, n = m + r := ⟨n - m, by omega⟩
  rw [Nat.add_sub_cancel_left] at g3
  rw [vs_split, vs_split, vs_congr (xs := us) (ys := zs) (off' := off) (n := m) (fun j hj => g1.out _ (by omega))]
  rw [vs_congr (xs := xs) (ys := zs) (off := off + m) (off' := off + m) (n := r) (fun j hj => by rw [Nat.add_assoc]; exact (h4 (m + j) (by omega)).symm)]
  have e : W64 ^ m * vs W64 us (off + m) r + W64 ^ (m + r) * k = W64 ^ m * vs W64 zs (off + m) r + W64 ^ m * c := by
    rw [Nat.pow_add, Nat.mul_assoc, ← Nat.mul_add, g3, Nat.mul_add]
  omega

theorem AddedW.move0 {xs zs : List Nat} {o o' c : Nat} (h : AddedW xs zs o 0 c) : AddedW xs zs o' 0 c := by
  obtain ⟨h1, h2, k, h3⟩ := h
  exact ⟨⟨h1.len, fun i _ => h1.out i (by omega)⟩, h2, k, by simpa [vs] using h3⟩

theorem addTo_any (b1 o1 n1 c1 b2 o2 n2 c2 : Nat) (xs ys : List Nat) (w : World) (hb : Blk .u64 57 w b1 xs) (hn : o1 + n1 ≤ xs.length) (hd : Dg W64 xs) (hc1 : n1 ≤ c1) (hm : c1 ≤ maxLen)
    (hb2 : Blk .u64 57 w b2 ys) (hn2 : o2 + n2 ≤ ys.length) (hd2 : Dg W64 ys) (hne : b2 ≠ b1) (hle : n2 ≤ n1) :
    Calls Tryd.prog 58 #[.slice (some ⟨b1, o1, none⟩) n1 c1, .slice (some ⟨b2, o2, none⟩) n2 c2] w fun e w' => e = .returned (.tuple #[]) ∧ ∃ zs, Blk .u64 57 w' b1 zs ∧ w.grownBy w' (some b1) ∧ AddedW xs zs o1 n1 (vs W64 ys o2 n2) := by
  unfold maxLen at hm
  have ha := add64_run
  have hy0 : SumInv xs ys xs o1 n1 o2 0 0 := ⟨Wrote.refl _ _ _, hd, by omega, fun _ _ => rfl, by simp [vs]⟩
  go_enter Tryd.func58, Tryd.ntmps58
  go_wp2
  go_loopw [4, 9] (fun v j wr => ∃ (i t : Nat) (zs : List Nat), i ≤ n2 ∧ j = .int .i64 i ∧ v = .int .u64 t ∧ Blk .u64 57 wr b1 zs ∧ w.grownBy wr (some b1) ∧ SumInv xs ys zs o1 n1 o2 i t) (fun _ j _ => n2 - (intOf j).toNat)
  case atStart => exact ⟨0, 0, xs, Nat.zero_le _, rfl, rfl, hb, World.grownBy.refl _ _, hy0⟩
  case round =>
    obtain ⟨i, t, zs, hi, rfl, rfl, hbz, hg, hinv⟩ := hrel
    have hlz : zs.length = xs.length := hinv.1.len
    have ht : t ≤ 1 := hinv.2.2.1
    have hb2r := hb2.kept hg (by simpa using hne)
    have hcell2 : i < n2 → wr.cell? ⟨b2, o2 + i, none⟩ = some (.int .u64 ((gt ys (o2 + i) : Nat) : Int)) := fun h => hb2r.cell (by omega)
    have hcell : i < n2 → wr.cell? ⟨b1, o1 + i, none⟩ = some (.int .u64 ((gt zs (o1 + i) : Nat) : Int)) := fun h => hbz.cell (by omega)
    have hfr : wr.frozen? ⟨b1, o1 + i, none⟩ = false := hbz.frozen _
    by_cases hlt : i < n2
    · have hnx := hinv.next hd2 (by omega : i < n1) hn
      go_wp2
      go_roundw
      case rel => exact ⟨i + 1, _, _, by omega, by go_num, rfl, hbz.set _ _, gr_trans hg (gr_set _ _ _ _) (.inr rfl) (.inr (.inl rfl)), hnx⟩
      case measure => simp [intOf]; omega
    · obtain rfl : i = n2 := by omega
      clear ha
      have htW : t < W64 := Nat.lt_of_le_of_lt ht (by decide)
      by_cases hcc : c1 = i
      · subst hcc
        obtain rfl : n1 = c1 := by omega
        go_wp2_with fail
        refine (addWordTo_any b1 o1 0 0 t zs wr hbz (by omega) hinv.2.1 htW (by unfold maxLen; omega)).mono ?_
        rintro e w' ⟨rfl, us, hu, hg2, hadd⟩
        have hfin := hinv.done (Nat.le_refl _) (by rw [Nat.sub_self]; exact hadd.move0)
        go_wp2
        go_end0
        exact ⟨rfl, us, hu, gr_trans hg hg2 (.inr rfl) (.inr (.inl rfl)), hfin⟩
      · go_wp2_with fail
        refine (addWordTo_any b1 (o1 + i) (n1 - i) (c1 - i) t zs wr hbz (by omega) hinv.2.1 htW (by unfold maxLen; omega)).mono ?_
        rintro e w' ⟨rfl, us, hu, hg2, hadd⟩
        have hfin := hinv.done hle hadd
        go_wp2
        go_end0
        exact ⟨rfl, us, hu, gr_trans hg hg2 (.inr rfl) (.inr (.inl rfl)), hfin⟩
end Go.Proofs.YtoadjhmehgkeaaaDoor
namespace Go.Proofs.YtoadjhmehgkeaaaDoor
open Go.RowKit Mth

theorem wrap_u64 (n : Nat) (h : n < W64) : IntKind.u64.wrap (n : Int) = (n : Int) := IntWalk.u64_in _ ⟨by omega, by rw [W64_eq] at h; omega⟩
theorem pow_cast (r : Nat) : (2 : Int) ^ (8 * r) = ((256 ^ r : Nat) : Int) := by
  rw [show (256 : Nat) = 2 ^ 8 from rfl, ← Nat.pow_mul]
  simp
theorem or_word (x d r : Nat) (hx : x < W64) (hd : d < 256) (hr : r < 8) :
    bits BinOp.or IntKind.u64 (x : Int) (IntKind.u64.wrap (IntKind.u64.wrap (d : Int) * (2 : Int) ^ (8 * r))) = ((x ||| d * 256 ^ r : Nat) : Int) := by
  have h1 : d * 256 ^ r < W64 := by
    have h2 : 256 ^ r ≤ 256 ^ 7 := Nat.pow_le_pow_right (by decide) (by omega)
    have h3 : d * 256 ^ r ≤ 255 * 256 ^ 7 := Nat.mul_le_mul (by omega) h2
    rw [W64_eq]; omega
  rw [wrap_u64 d (by rw [W64_eq]; omega), pow_cast, ← Int.natCast_mul, wrap_u64 _ h1]
  exact bits_or_u64_nat _ _ (by rw [W64_eq] at hx; exact hx) (by rw [W64_eq] at h1; exact h1)
theorem byte_word (g r : Nat) : ((g : Int) / (2 : Int) ^ (8 * r) % 256) = ((g / 256 ^ r % 256 : Nat) : Int) := by
  rw [pow_cast]; simp
end Go.Proofs.YtoadjhmehgkeaaaDoor
