/- The contract of nat.addTo: a slice of words is added to another one in place, the carry out of the last word is dropped. -/
import Derived.Test.YtednijejgadmnaaDoorAdd
namespace Go.Proofs.YtednijejgadmnaaDoor
open Go.RowKit Mth

def SumInv (xs ys zs : List Nat) (off n o2 i c : Nat) : Prop := Wrote xs zs off n ∧ Dg W64 zs ∧ c ≤ 1 ∧ (∀ j, i ≤ j → gt zs (off + j) = gt xs (off + j)) ∧ vs W64 zs off i + W64 ^ i * c = vs W64 xs off i + vs W64 ys o2 i
theorem SumInv.next {xs ys zs : List Nat} {off n o2 i c : Nat} (h : SumInv xs ys zs off n o2 i c) (hy : Dg W64 ys) (hi : i < n) (hx : off + n ≤ xs.length) : SumInv xs ys (zs.set (off + i) (addLo (gt zs (off + i)) (gt ys (o2 + i)) c)) off n o2 (i + 1) (addHi (gt zs (off + i)) (gt ys (o2 + i)) c) := by
  obtain ⟨h1, h2, h3, h4, h5⟩ := h
  have hl : off + i < zs.length := by rw [h1.len]; omega
  refine ⟨h1.step (by omega) (by omega) (by omega), h2.set (addLo_lt _ _ _), addHi_le (h2 _) (hy _) h3, fun j hj => ?_, ?_⟩
  · rw [gt_set hl, if_neg (by omega)]; exact h4 j (by omega)
  · have hs := add_split (gt zs (off + i)) (gt ys (o2 + i)) c
    simp only [vs]
    rw [gt_set hl, if_pos rfl, vs_congr (ys := zs) (off' := off) (fun j hj => by rw [gt_set hl, if_neg (by omega)])]
    rw [h4 i (Nat.le_refl _)] at hs ⊢
    have e : W64 ^ i * addLo (gt xs (off + i)) (gt ys (o2 + i)) c + W64 ^ (i + 1) * addHi (gt xs (off + i)) (gt ys (o2 + i)) c = W64 ^ i * gt xs (off + i) + W64 ^ i * gt ys (o2 + i) + W64 ^ i * c := by
      rw [Nat.pow_succ, Nat.mul_assoc, ← Nat.mul_add, hs, Nat.mul_add, Nat.mul_add]
    omega
theorem SumInv.done {xs ys zs us : List Nat} {off n o2 m c : Nat} (h : SumInv xs ys zs off n o2 m c) (hm : m ≤ n) (g : AddedW zs us (off + m) (n - m) c) : AddedW xs us off n (vs W64 ys o2 m) := by
  obtain ⟨h1, h2, h3, h4, h5⟩ := h
  obtain ⟨g1, g2, k, g3⟩ := g
  refine ⟨h1.trans g1 (Nat.le_refl _) (Nat.le_refl _) (by omega) (by omega), g2, k, ?_⟩
  obtain ⟨r, rfl⟩ : ∃ r, n = m + r := ⟨n - m, by omega⟩
  rw [Nat.add_sub_cancel_left] at g3
  rw [vs_split, vs_split, vs_congr (xs := us) (ys := zs) (off' := off) (n := m) (fun j hj => g1.out _ (by omega))]
  rw [vs_congr (xs := xs) (ys := zs) (off := off + m) (off' := off + m) (n := r) (fun j hj => by rw [Nat.add_assoc]; exact (h4 (m + j) (by omega)).symm)]
  have e : W64 ^ m * vs W64 us (off + m) r + W64 ^ (m + r) * k = W64 ^ m * vs W64 zs (off + m) r + W64 ^ m * c := by
    rw [Nat.pow_add, Nat.mul_assoc, ← Nat.mul_add, g3, Nat.mul_add]
  omega

theorem AddedW.move0 {xs zs : List Nat} {o o' c : Nat} (h : AddedW xs zs o 0 c) : AddedW xs zs o' 0 c := by
  obtain ⟨h1, h2, k, h3⟩ := h
  exact ⟨⟨h1.len, fun i _ => h1.out i (by omega)⟩, h2, k, by simpa [vs] using h3⟩

theorem addTo_any (b1 o1 n1 c1 b2 o2 n2 c2 : Nat) (xs ys : List Nat) (w : World) (hb : Blk .u64 57 w b1 xs) (hn : o1 + n1 ≤ xs.length) (hd : Dg W64 xs) (hc1 : n1 ≤ c1) (hm : c1 ≤ maxLen)
    (hb2 : Blk .u64 57 w b2 ys) (hn2 : o2 + n2 ≤ ys.length) (hd2 : Dg W64 ys) (hne : b2 ≠ b1) (hle : n2 ≤ n1) :
    Calls Tryd.prog 58 #[.slice (some ⟨b1, o1, none⟩) n1 c1, .slice (some ⟨b2, o2, none⟩) n2 c2] w fun e w' => e = .returned (.tuple #[]) ∧ ∃ zs, Blk .u64 57 w' b1 zs ∧ w.grownBy w' (some b1) ∧ AddedW xs zs o1 n1 (vs W64 ys o2 n2) := by
  unfold maxLen at hm
  have ha := add64_run
  have hy0 : SumInv xs ys xs o1 n1 o2 0 0 := ⟨Wrote.refl _ _ _, hd, by omega, fun _ _ => rfl, by simp [vs]⟩
  go_enter Tryd.func58, Tryd.ntmps58
  go_wp2
  go_loopw [4, 9] (fun v j wr => ∃ (i t : Nat) (zs : List Nat), i ≤ n2 ∧ j = .int .i64 i ∧ v = .int .u64 t ∧ Blk .u64 57 wr b1 zs ∧ w.grownBy wr (some b1) ∧ SumInv xs ys zs o1 n1 o2 i t) (fun _ j _ => n2 - (intOf j).toNat)
  case atStart => exact ⟨0, 0, xs, Nat.zero_le _, rfl, rfl, hb, World.grownBy.refl _ _, hy0⟩
  case round =>
    obtain ⟨i, t, zs, hi, rfl, rfl, hbz, hg, hinv⟩ := hrel
    have hlz : zs.length = xs.length := hinv.1.len
    have ht : t ≤ 1 := hinv.2.2.1
    have hb2r := hb2.kept hg (by simpa using hne)
    have hcell2 : i < n2 → wr.cell? ⟨b2, o2 + i, none⟩ = some (.int .u64 ((gt ys (o2 + i) : Nat) : Int)) := fun h => hb2r.cell (by omega)
    have hcell : i < n2 → wr.cell? ⟨b1, o1 + i, none⟩ = some (.int .u64 ((gt zs (o1 + i) : Nat) : Int)) := fun h => hbz.cell (by omega)
    have hfr : wr.frozen? ⟨b1, o1 + i, none⟩ = false := hbz.frozen _
    by_cases hlt : i < n2
    · have hnx := hinv.next hd2 (by omega : i < n1) hn
      go_wp2
      go_roundw
      case rel => exact ⟨i + 1, _, _, by omega, by go_num, rfl, hbz.set _ _, gr_trans hg (gr_set _ _ _ _) (.inr rfl) (.inr (.inl rfl)), hnx⟩
      case measure => simp [intOf]; omega
    · obtain rfl : i = n2 := by omega
      clear ha
      have htW : t < W64 := Nat.lt_of_le_of_lt ht (by decide)
      by_cases hcc : c1 = i
      · subst hcc
        obtain rfl : n1 = c1 := by omega
        go_wp2_with fail
        refine (addWordTo_any b1 o1 0 0 t zs wr hbz (by omega) hinv.2.1 htW (by unfold maxLen; omega)).mono ?_
        rintro e w' ⟨rfl, us, hu, hg2, hadd⟩
        have hfin := hinv.done (Nat.le_refl _) (by rw [Nat.sub_self]; exact hadd.move0)
        go_wp2
        go_end0
        exact ⟨rfl, us, hu, gr_trans hg hg2 (.inr rfl) (.inr (.inl rfl)), hfin⟩
      · go_wp2_with fail
        refine (addWordTo_any b1 (o1 + i) (n1 - i) (c1 - i) t zs wr hbz (by omega) hinv.2.1 htW (by unfold maxLen; omega)).mono ?_
        rintro e w' ⟨rfl, us, hu, hg2, hadd⟩
        have hfin := hinv.done hle hadd
        go_wp2
        go_end0
        exact ⟨rfl, us, hu, gr_trans hg hg2 (.inr rfl) (.inr (.inl rfl)), hfin⟩
end Go.Proofs.YtednijejgadmnaaDoor
