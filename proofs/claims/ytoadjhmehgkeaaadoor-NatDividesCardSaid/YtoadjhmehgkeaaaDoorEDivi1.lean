/- Contracts of package nat and of the reference, part 1: Str, Trim, Add, AddTo, Arith, MulW, SubW, SubM. -/
import Derived.Test.YtoadjhmehgkeaaaDoorEDivi0
import Derived.Test.YtoadjhmehgkeaaaDoorChecked
import Derived.WalkKit
import Derived.WalkSpells
import Derived.WalkLawsBesides
import Derived.Lib.IndexBytes
import Derived.Laws.Externs
import Derived.Laws.Bits64b
import Derived.Test.YtoadjhmehgkeaaaDoorShelf
import Derived.Shelf.Spec.BitsCarry
namespace Go.Proofs.YtoadjhmehgkeaaaDoor
open Go.RowKit Mth

theorem len_toList (t : ByteArray) : t.data.toList.length = t.size := rfl
def lenOf : Value → Nat | .slice _ n _ => n | _ => 0
def strOf : Value → ByteArray | .string t => t | _ => ByteArray.empty
theorem canon_skip (t : ByteArray) (h : 0 < t.size) (h0 : t[0] = 0) : canon (t.extract 1 t.size).data.toList = canon t.data.toList := by
  have e : t.data.toList = t[0] :: t.data.toList.drop 1 := by
    cases hl : t.data.toList with
    | nil => have : t.data.toList.length = t.size := by simp
             rw [hl] at this; simp at this; omega
    | cons d l =>
      have : t[0] = t.data.toList[0]'(by simp; omega) := rfl
      rw [this]; simp [hl]
  have e2 : (t.extract 1 t.size).data.toList = t.data.toList.drop 1 := by
    exact Lib.extract_to_end t 1
  rw [e2]
  conv => rhs; rw [e]
  rw [h0, canon, if_pos rfl]
theorem canon_stay (t : ByteArray) (h : 0 < t.size) (h0 : t[0] ≠ 0) : canon t.data.toList = t.data.toList := by
  have e : t.data.toList = t[0] :: t.data.toList.drop 1 := by
    cases hl : t.data.toList with
    | nil => have : t.data.toList.length = t.size := by simp
             rw [hl] at this; simp at this; omega
    | cons d l =>
      have : t[0] = t.data.toList[0]'(by simp; omega) := rfl
      rw [this]; simp [hl]
  conv => lhs; rw [e]
  conv => rhs; rw [e]
  rw [canon, if_neg h0]
theorem toArray_eq (t : ByteArray) {l : List UInt8} (h : l = t.data.toList) : (⟨l.toArray⟩ : ByteArray) = t := by
  subst h; simp

theorem withoutZeros_any (s : ByteArray) (w : World) :
    Calls Tryd.prog 35 #[.string s] w fun e w' => e = .returned (.string ⟨(canon s.data.toList).toArray⟩) ∧ w = w' := by
  go_enter Tryd.func35, Tryd.ntmps35
  go_wp2
  go_loop [0] (fun v => ∃ t : ByteArray, t.size ≤ s.size ∧ v = .string t ∧ canon t.data.toList = canon s.data.toList) (fun v => (strOf v).size)
  case atStart => exact ⟨s, Nat.le_refl _, rfl, rfl⟩
  case round =>
    obtain ⟨t, ht, rfl, hc⟩ := hrel
    have HC := Lib.hid hc
    clear hc
    go_wp2
    · have h1 : 0 < t.size := by assumption
      have h2 : ((t[0].toNat : Int) == 0) = true := by assumption
      have h0 : t[0] = 0 := UInt8.toNat_inj.1 (by have := beq_iff_eq.1 h2; simpa using this)
      refine ⟨⟨t.extract 1 t.size, by simp; omega, rfl, by rw [canon_skip t h1 h0]; exact HC.out⟩, ?_⟩
      simp [strOf]; omega
    · have h1 : 0 < t.size := by assumption
      have h2 : ((t[0].toNat : Int) == 0) = false := by assumption
      have h0 : t[0] ≠ 0 := by intro e; rw [e] at h2; simp at h2
      go_ret
      refine ⟨?_, rfl⟩
      rw [toArray_eq t (by rw [← HC.out]; exact canon_stay t h1 h0)]; rfl
    · have h1 : ¬ 0 < t.size := by assumption
      have hz : t.data.toList = [] := List.eq_nil_of_length_eq_zero (by have := len_toList t; omega)
      go_ret
      refine ⟨?_, rfl⟩
      rw [toArray_eq t (by rw [← HC.out, hz]; rfl)]; rfl
end Go.Proofs.YtoadjhmehgkeaaaDoor

namespace Go.Proofs.YtoadjhmehgkeaaaDoor
open Go.RowKit Mth

theorem trimmed_any (b off n c : Nat) (xs : List Nat) (w : World) (hb : Blk .u64 57 w b xs) (hn : off + n ≤ xs.length) (hc : n ≤ c) (hm : c ≤ maxLen) :
    Calls Tryd.prog 54 #[.slice (some ⟨b, off, none⟩) n c] w fun e w' => (∃ m, e = .returned (.slice (some ⟨b, off, none⟩) m c) ∧ m ≤ n ∧ (∀ i, m ≤ i → i < n → gt xs (off + i) = 0) ∧ (m = 0 ∨ gt xs (off + (m - 1)) ≠ 0)) ∧ w = w' := by
  unfold maxLen at hm
  go_enter Tryd.func54, Tryd.ntmps54
  go_wp2
  go_loop [0] (fun v => ∃ m : Nat, m ≤ n ∧ v = .slice (some ⟨b, off, none⟩) m c ∧ Hid (∀ i, m ≤ i → i < n → gt xs (off + i) = 0)) (fun v => lenOf v)
  case atStart => exact ⟨n, Nat.le_refl _, rfl, fun i h1 h2 => by omega⟩
  case round =>
    obtain ⟨m, hmn, rfl, hz⟩ := hrel
    have hcell : 0 < m → w.cell? ⟨b, off + (m - 1), none⟩ = some (.int .u64 ((gt xs (off + (m - 1)) : Nat) : Int)) := fun h => hb.cell (by omega)
    go_wp2
    · have h1 : 0 < m := by assumption
      have h2 : ((gt xs (off + (m - 1)) : Int) == 0) = true := by assumption
      have h0 : gt xs (off + (m - 1)) = 0 := by have := beq_iff_eq.1 h2; omega
      refine ⟨⟨m - 1, by omega, rfl, fun i h3 h4 => ?_⟩, by simp only [lenOf]; omega⟩
      by_cases e : i = m - 1
      · rw [e]; exact h0
      · exact hz.out i (by omega) h4
    · have h1 : 0 < m := by assumption
      have h2 : ((gt xs (off + (m - 1)) : Int) == 0) = false := by assumption
      have h0 : gt xs (off + (m - 1)) ≠ 0 := by intro e; rw [e] at h2; simp at h2
      go_ret
      exact ⟨⟨m, rfl, hmn, hz.out, .inr h0⟩, rfl⟩
    · have h1 : ¬ 0 < m := by assumption
      go_ret
      exact ⟨⟨m, rfl, hmn, hz.out, .inl (by omega)⟩, rfl⟩
end Go.Proofs.YtoadjhmehgkeaaaDoor

namespace Go.Proofs.YtoadjhmehgkeaaaDoor
open Go.RowKit Mth

theorem add64_run (x y c : Nat) (hc : c ≤ 1) (w : World) :
    (callFunc 75 #[.int .u64 (x : Int), .int .u64 (y : Int), .int .u64 (c : Int)]).run Tryd.prog w =
      .ok (.value (.tuple #[.int .u64 ((addLo x y c : Nat) : Int), .int .u64 ((addHi x y c : Nat) : Int)])) w := by
  rw [run_callFunc_extern Tryd.func75 (by kernel_rfl) (by kernel_rfl) (by kernel_rfl) (e := add64Entry) (by kernel_rfl), run_add64 x y c (by omega) (by omega) (by omega) (by omega)]
  simp only [Result.andThen, addLo, addHi, W64]
  congr 5 <;> omega
theorem add64_run0 (x y : Nat) (w : World) :
    (callFunc 75 #[.int .u64 (x : Int), .int .u64 (y : Int), .int .u64 0]).run Tryd.prog w =
      .ok (.value (.tuple #[.int .u64 ((addLo x y 0 : Nat) : Int), .int .u64 ((addHi x y 0 : Nat) : Int)])) w := add64_run x y 0 (by omega) w

/-- What a slice at (b, off, n) of numbers below the base has become, the rest of its block being as it was. -/
structure Wrote (xs zs : List Nat) (off n : Nat) : Prop where
  len : zs.length = xs.length
  out : ∀ i, (i < off ∨ off + n ≤ i) → gt zs i = gt xs i
theorem Wrote.refl (xs : List Nat) (off n : Nat) : Wrote xs xs off n := ⟨rfl, fun _ _ => rfl⟩
theorem Wrote.step {xs zs : List Nat} {off n : Nat} (h : Wrote xs zs off n) {i v : Nat} (h1 : off ≤ i) (h2 : i < off + n) (h3 : i < xs.length) : Wrote xs (zs.set i v) off n :=
  ⟨by simp [h.len], fun j hj => by rw [gt_set (by rw [h.len]; exact h3), if_neg (by omega)]; exact h.out j hj⟩
theorem Wrote.trans {xs ys zs : List Nat} {off n o1 n1 o2 n2 : Nat} (h : Wrote xs ys o1 n1) (g : Wrote ys zs o2 n2) (h1 : off ≤ o1) (h2 : o1 + n1 ≤ off + n) (h3 : off ≤ o2) (h4 : o2 + n2 ≤ off + n) : Wrote xs zs off n :=
  ⟨g.len.trans h.len, fun i hi => (g.out i (by omega)).trans (h.out i (by omega))⟩

def AddedW (xs zs : List Nat) (off n y : Nat) : Prop := Wrote xs zs off n ∧ Dg W64 zs ∧ ∃ k, vs W64 zs off n + W64 ^ n * k = vs W64 xs off n + y
/-- The loop of addWordTo: i rounds are over, y is still to be added. -/
def AddInv (xs zs : List Nat) (off n i y0 y : Nat) : Prop := Wrote xs zs off n ∧ Dg W64 zs ∧ y < W64 ∧ (∀ j, i ≤ j → gt zs (off + j) = gt xs (off + j)) ∧ vs W64 zs off i + W64 ^ i * y = vs W64 xs off i + y0
theorem AddInv.next {xs zs : List Nat} {off n i y0 y : Nat} (h : AddInv xs zs off n i y0 y) (hi : i < n) (hx : off + n ≤ xs.length) : AddInv xs (zs.set (off + i) (addLo (gt zs (off + i)) y 0)) off n (i + 1) y0 (addHi (gt zs (off + i)) y 0) := by
  obtain ⟨h1, h2, h3, h4, h5⟩ := h
  have hl : off + i < zs.length := by rw [h1.len]; omega
  have hhi := addHi_le (h2 (off + i)) h3 (Nat.zero_le 1)
  have h1W : 1 < W64 := by decide
  refine ⟨h1.step (by omega) (by omega) (by omega), h2.set (addLo_lt _ _ _), by omega, fun j hj => ?_, ?_⟩
  · rw [gt_set hl, if_neg (by omega)]; exact h4 j (by omega)
  · have hs := add_split (gt zs (off + i)) y 0
    simp only [vs]
    rw [gt_set hl, if_pos rfl, vs_congr (ys := zs) (off' := off) (fun j hj => by rw [gt_set hl, if_neg (by omega)])]
    rw [h4 i (Nat.le_refl _)] at hs ⊢
    have e : W64 ^ i * addLo (gt xs (off + i)) y 0 + W64 ^ (i + 1) * addHi (gt xs (off + i)) y 0 = W64 ^ i * gt xs (off + i) + W64 ^ i * y := by
      rw [Nat.pow_succ, Nat.mul_assoc, ← Nat.mul_add, hs, Nat.add_zero, Nat.mul_add]
    omega
theorem AddInv.done {xs zs : List Nat} {off n i y0 y : Nat} (h : AddInv xs zs off n i y0 y) (hi : i ≤ n) (he : i = n ∨ y = 0) : AddedW xs zs off n y0 := by
  obtain ⟨h1, h2, h3, h4, h5⟩ := h
  refine ⟨h1, h2, ?_⟩
  rcases he with rfl | rfl
  · exact ⟨y, h5⟩
  · refine ⟨0, ?_⟩
    obtain ⟨m, rfl⟩ : ∃ m, n = i + m := ⟨n - i, by omega⟩
    rw [vs_split, vs_split, vs_congr (xs := zs) (ys := xs) (off' := off + i) (n := m) (fun j hj => by rw [Nat.add_assoc]; exact h4 (i + j) (by omega))]
    omega

theorem addWordTo_any (b off n c y : Nat) (xs : List Nat) (w : World) (hb : Blk .u64 57 w b xs) (hn : off + n ≤ xs.length) (hd : Dg W64 xs) (hy : y < W64) (hm : n ≤ maxLen) :
    Calls Tryd.prog 82 #[.slice (some ⟨b, off, none⟩) n c, .int .u64 (y : Int)] w fun e w' => e = .returned (.tuple #[]) ∧ ∃ zs, Blk .u64 57 w' b zs ∧ w.grownBy w' (some b) ∧ AddedW xs zs off n y := by
  unfold maxLen at hm
  have ha := add64_run0
  have hy0 : AddInv xs xs off n 0 y y := ⟨Wrote.refl _ _ _, hd, hy, fun _ _ => rfl, by simp [vs]⟩
  go_enter Tryd.func82, Tryd.ntmps82
  go_wp2
  go_loopw [1, 4] (fun v j wr => ∃ (i t : Nat) (zs : List Nat), i ≤ n ∧ j = .int .i64 i ∧ v = .int .u64 t ∧ Blk .u64 57 wr b zs ∧ w.grownBy wr (some b) ∧ AddInv xs zs off n i y t) (fun _ j _ => n - (intOf j).toNat)
  case atStart => exact ⟨0, y, xs, Nat.zero_le _, rfl, rfl, hb, World.grownBy.refl _ _, hy0⟩
  case round =>
    obtain ⟨i, t, zs, hi, rfl, rfl, hbz, hg, hinv⟩ := hrel
    have hlz : zs.length = xs.length := hinv.1.len
    have hcell : i < n → wr.cell? ⟨b, off + i, none⟩ = some (.int .u64 ((gt zs (off + i) : Nat) : Int)) := fun h => hbz.cell (by omega)
    have hfr : wr.frozen? ⟨b, off + i, none⟩ = false := hbz.frozen _
    go_wp2
    · have hlt : i < n := by assumption
      have hnx := hinv.next hlt hn
      go_roundw
      case rel => exact ⟨i + 1, _, _, by omega, by go_num, rfl, hbz.set _ _, gr_trans hg (gr_set _ _ _ _) (.inr rfl) (.inr (.inl rfl)), hnx⟩
      case measure => simp [intOf]; omega
    · have hlt : i < n := by assumption
      have h0 : ¬ 0 < t := by assumption
      go_end0
      exact ⟨rfl, zs, hbz, hg, hinv.done hi (.inr (by omega))⟩
    · have hlt : ¬ i < n := by assumption
      go_end0
      exact ⟨rfl, zs, hbz, hg, hinv.done hi (.inl (by omega))⟩
end Go.Proofs.YtoadjhmehgkeaaaDoor

namespace Go.Proofs.YtoadjhmehgkeaaaDoor
open Go.RowKit Mth

def SumInv (xs ys zs : List Nat) (off n o2 i c : Nat) : Prop := Wrote xs zs off n ∧ Dg W64 zs ∧ c ≤ 1 ∧ (∀ j, i ≤ j → gt zs (off + j) = gt xs (off + j)) ∧ vs W64 zs off i + W64 ^ i * c = vs W64 xs off i + vs W64 ys o2 i
theorem SumInv.next {xs ys zs : List Nat} {off n o2 i c : Nat} (h : SumInv xs ys zs off n o2 i c) (hy : Dg W64 ys) (hi : i < n) (hx : off + n ≤ xs.length) : SumInv xs ys (zs.set (off + i) (addLo (gt zs (off + i)) (gt ys (o2 + i)) c)) off n o2 (i + 1) (addHi (gt zs (off + i)) (gt ys (o2 + i)) c) := by
  obtain ⟨h1, h2, h3, h4, h5⟩ := h
  have hl : off + i < zs.length := by rw [h1.len]; omega
  refine ⟨h1.step (by omega) (by omega) (by omega), h2.set (addLo_lt _ _ _), addHi_le (h2 _) (hy _) h3, fun j hj => ?_, ?_⟩
  · rw [gt_set hl, if_neg (by omega)]; exact h4 j (by omega)
  · have hs := add_split (gt zs (off + i)) (gt ys (o2 + i)) c
    simp only [vs]
    rw [gt_set hl, if_pos rfl, vs_congr (ys := zs) (off' := off) (fun j hj => by rw [gt_set hl, if_neg (by omega)])]
    rw [h4 i (Nat.le_refl _)] at hs ⊢
    have e : W64 ^ i * addLo (gt xs (off + i)) (gt ys (o2 + i)) c + W64 ^ (i + 1) * addHi (gt xs (off + i)) (gt ys (o2 + i)) c = W64 ^ i * gt xs (off + i) + W64 ^ i * gt ys (o2 + i) + W64 ^ i * c := by
      rw [Nat.pow_succ, Nat.mul_assoc, ← Nat.mul_add, hs, Nat.mul_add, Nat.mul_add]
    omega
theorem SumInv.done {xs ys zs us : List Nat} {off n o2 m c : Nat} (h : SumInv xs ys zs off n o2 m c) (hm : m ≤ n) (g : AddedW zs us (off + m) (n - m) c) : AddedW xs us off n (vs W64 ys o2 m) := by
  obtain ⟨h1, h2, h3, h4, h5⟩ := h
  obtain ⟨g1, g2, k, g3⟩ := g
  refine ⟨h1.trans g1 (Nat.le_refl _) (Nat.le_refl _) (by omega) (by omega), g2, k, ?_⟩
  obtain ⟨r, rfl⟩ : ∃ r, n = m + r := ⟨n - m, by omega⟩
  rw [Nat.add_sub_cancel_left] at g3
  rw [vs_split, vs_split, vs_congr (xs := us) (ys := zs) (off' := off) (n := m) (fun j hj => g1.out _ (by omega))]
  rw [vs_congr (xs := xs) (ys := zs) (off := off + m) (off' := off + m) (n := r) (fun j hj => by rw [Nat.add_assoc]; exact (h4 (m + j) (by omega)).symm)]
  have e : W64 ^ m * vs W64 us (off + m) r + W64 ^ (m + r) * k = W64 ^ m * vs W64 zs (off + m) r + W64 ^ m * c := by
    rw [Nat.pow_add, Nat.mul_assoc, ← Nat.mul_add, g3, Nat.mul_add]
  omega

theorem AddedW.move0 {xs zs : List Nat} {o o' c : Nat} (h : AddedW xs zs o 0 c) : AddedW xs zs o' 0 c := by
  obtain ⟨h1, h2, k, h3⟩ := h
  exact ⟨⟨h1.len, fun i _ => h1.out i (by omega)⟩, h2, k, by simpa [vs] using h3⟩

theorem addTo_any (b1 o1 n1 c1 b2 o2 n2 c2 : Nat) (xs ys : List Nat) (w : World) (hb : Blk .u64 57 w b1 xs) (hn : o1 + n1 ≤ xs.length) (hd : Dg W64 xs) (hc1 : n1 ≤ c1) (hm : c1 ≤ maxLen)
    (hb2 : Blk .u64 57 w b2 ys) (hn2 : o2 + n2 ≤ ys.length) (hd2 : Dg W64 ys) (hne : b2 ≠ b1) (hle : n2 ≤ n1) :
    Calls Tryd.prog 58 #[.slice (some ⟨b1, o1, none⟩) n1 c1, .slice (some ⟨b2, o2, none⟩) n2 c2] w fun e w' => e = .returned (.tuple #[]) ∧ ∃ zs, Blk .u64 57 w' b1 zs ∧ w.grownBy w' (some b1) ∧ AddedW xs zs o1 n1 (vs W64 ys o2 n2) := by
  unfold maxLen at hm
  have ha := add64_run
  have hy0 : SumInv xs ys xs o1 n1 o2 0 0 := ⟨Wrote.refl _ _ _, hd, by omega, fun _ _ => rfl, by simp [vs]⟩
  go_enter Tryd.func58, Tryd.ntmps58
  go_wp2
  go_loopw [4, 9] (fun v j wr => ∃ (i t : Nat) (zs : List Nat), i ≤ n2 ∧ j = .int .i64 i ∧ v = .int .u64 t ∧ Blk .u64 57 wr b1 zs ∧ w.grownBy wr (some b1) ∧ SumInv xs ys zs o1 n1 o2 i t) (fun _ j _ => n2 - (intOf j).toNat)
  case atStart => exact ⟨0, 0, xs, Nat.zero_le _, rfl, rfl, hb, World.grownBy.refl _ _, hy0⟩
  case round =>
    obtain ⟨i, t, zs, hi, rfl, rfl, hbz, hg, hinv⟩ := hrel
    have hlz : zs.length = xs.length := hinv.1.len
    have ht : t ≤ 1 := hinv.2.2.1
    have hb2r := hb2.kept hg (by simpa using hne)
    have hcell2 : i < n2 → wr.cell? ⟨b2, o2 + i, none⟩ = some (.int .u64 ((gt ys (o2 + i) : Nat) : Int)) := fun h => hb2r.cell (by omega)
    have hcell : i < n2 → wr.cell? ⟨b1, o1 + i, none⟩ = some (.int .u64 ((gt zs (o1 + i) : Nat) : Int)) := fun h => hbz.cell (by omega)
    have hfr : wr.frozen? ⟨b1, o1 + i, none⟩ = false := hbz.frozen _
    by_cases hlt : i < n2
    · have hnx := hinv.next hd2 (by omega : i < n1) hn
      go_wp2
      go_roundw
      case rel => exact ⟨i + 1, _, _, by omega, by go_num, rfl, hbz.set _ _, gr_trans hg (gr_set _ _ _ _) (.inr rfl) (.inr (.inl rfl)), hnx⟩
      case measure => simp [intOf]; omega
    · obtain rfl : i = n2 := by omega
      clear ha
      have htW : t < W64 := Nat.lt_of_le_of_lt ht (by decide)
      by_cases hcc : c1 = i
      · subst hcc
        obtain rfl : n1 = c1 := by omega
        go_wp2_with fail
        refine (addWordTo_any b1 o1 0 0 t zs wr hbz (by omega) hinv.2.1 htW (by unfold maxLen; omega)).mono ?_
        rintro e w' ⟨rfl, us, hu, hg2, hadd⟩
        have hfin := hinv.done (Nat.le_refl _) (by rw [Nat.sub_self]; exact hadd.move0)
        go_wp2
        go_end0
        exact ⟨rfl, us, hu, gr_trans hg hg2 (.inr rfl) (.inr (.inl rfl)), hfin⟩
      · go_wp2_with fail
        refine (addWordTo_any b1 (o1 + i) (n1 - i) (c1 - i) t zs wr hbz (by omega) hinv.2.1 htW (by unfold maxLen; omega)).mono ?_
        rintro e w' ⟨rfl, us, hu, hg2, hadd⟩
        have hfin := hinv.done hle hadd
        go_wp2
        go_end0
        exact ⟨rfl, us, hu, gr_trans hg hg2 (.inr rfl) (.inr (.inl rfl)), hfin⟩
end Go.Proofs.YtoadjhmehgkeaaaDoor

namespace Go.Proofs.YtoadjhmehgkeaaaDoor
open Go.RowKit Mth

theorem wrap_u64 (n : Nat) (h : n < W64) : IntKind.u64.wrap (n : Int) = (n : Int) := IntWalk.u64_in _ ⟨by omega, by rw [W64_eq] at h; omega⟩
theorem pow_cast (r : Nat) : (2 : Int) ^ (8 * r) = ((256 ^ r : Nat) : Int) := by
  rw [show (256 : Nat) = 2 ^ 8 from rfl, ← Nat.pow_mul]
  simp
theorem or_word (x d r : Nat) (hx : x < W64) (hd : d < 256) (hr : r < 8) :
    bits BinOp.or IntKind.u64 (x : Int) (IntKind.u64.wrap (IntKind.u64.wrap (d : Int) * (2 : Int) ^ (8 * r))) = ((x ||| d * 256 ^ r : Nat) : Int) := by
  have h1 : d * 256 ^ r < W64 := by
    have h2 : 256 ^ r ≤ 256 ^ 7 := Nat.pow_le_pow_right (by decide) (by omega)
    have h3 : d * 256 ^ r ≤ 255 * 256 ^ 7 := Nat.mul_le_mul (by omega) h2
    rw [W64_eq]; omega
  rw [wrap_u64 d (by rw [W64_eq]; omega), pow_cast, ← Int.natCast_mul, wrap_u64 _ h1]
  exact bits_or_u64_nat _ _ (by rw [W64_eq] at hx; exact hx) (by rw [W64_eq] at h1; exact h1)
theorem byte_word (g r : Nat) : ((g : Int) / (2 : Int) ^ (8 * r) % 256) = ((g / 256 ^ r % 256 : Nat) : Int) := by
  rw [pow_cast]; simp
end Go.Proofs.YtoadjhmehgkeaaaDoor

namespace Go.Proofs.YtoadjhmehgkeaaaDoor
open Go.RowKit Mth

def mulLo (x y : Nat) : Nat := x * y % W64
def mulHi (x y : Nat) : Nat := x * y / W64
theorem mul_split (x y : Nat) : mulLo x y + W64 * mulHi x y = x * y := Nat.mod_add_div _ _
theorem mulLo_lt (x y : Nat) : mulLo x y < W64 := Nat.mod_lt _ W64_pos
theorem mul64_run (x y : Nat) (hx : x < W64) (hy : y < W64) (w : World) :
    Calls Tryd.prog 74 #[.int .u64 (x : Int), .int .u64 (y : Int)] w fun e w' => e = .returned (.tuple #[.int .u64 ((mulHi x y : Nat) : Int), .int .u64 ((mulLo x y : Nat) : Int)]) ∧ w = w' :=
  (Tryd.bits_Mul64 x y hx hy w).mono fun _ _ ⟨h1, h2⟩ => ⟨h1, h2.symm⟩
/-- One step: the new digit and the new carry. -/
def stepLo (x f t c : Nat) : Nat := addLo (addLo (mulLo x f) t 0) c 0
def stepHi (x f t c : Nat) : Nat := mulHi x f + addHi (mulLo x f) t 0 + addHi (addLo (mulLo x f) t 0) c 0
theorem step_split (x f t c : Nat) : stepLo x f t c + W64 * stepHi x f t c = x * f + t + c := by
  have h1 := mul_split x f
  have h2 := add_split (mulLo x f) t 0
  have h3 := add_split (addLo (mulLo x f) t 0) c 0
  unfold stepLo stepHi
  rw [Nat.mul_add, Nat.mul_add]
  omega
theorem stepLo_lt (x f t c : Nat) : stepLo x f t c < W64 := addLo_lt _ _ _
theorem stepHi_lt {x f t c : Nat} (hx : x < W64) (hf : f < W64) (ht : t < W64) (hc : c < W64) : stepHi x f t c < W64 := by
  have h := step_split x f t c
  have h1 : x * f ≤ (W64 - 1) * (W64 - 1) := Nat.mul_le_mul (by omega) (by omega)
  have h2 : (W64 - 1) * (W64 - 1) + (W64 - 1) + (W64 - 1) < W64 * W64 := by decide
  refine Nat.lt_of_mul_lt_mul_left (a := W64) ?_
  omega
theorem carry_cast {a b c : Nat} (h : a + b + c < W64) : IntKind.u64.wrap (IntKind.u64.wrap ((a : Int) + (b : Int)) + (c : Int)) = ((a + b + c : Nat) : Int) := by
  rw [← Int.natCast_add, wrap_u64 (a + b) (by omega), ← Int.natCast_add, wrap_u64 _ h]

def MulInv (xs ys zs : List Nat) (off n o2 f i c : Nat) : Prop := Wrote xs zs off n ∧ Dg W64 zs ∧ c < W64 ∧ (∀ j, i ≤ j → gt zs (off + j) = gt xs (off + j)) ∧ vs W64 zs off i + W64 ^ i * c = vs W64 xs off i + vs W64 ys o2 i * f
theorem MulInv.next {xs ys zs : List Nat} {off n o2 f i c : Nat} (h : MulInv xs ys zs off n o2 f i c) (hy : Dg W64 ys) (hf : f < W64) (hi : i < n) (hx : off + n ≤ xs.length) :
    MulInv xs ys (zs.set (off + i) (stepLo (gt ys (o2 + i)) f (gt zs (off + i)) c)) off n o2 f (i + 1) (stepHi (gt ys (o2 + i)) f (gt zs (off + i)) c) := by
  obtain ⟨h1, h2, h3, h4, h5⟩ := h
  have hl : off + i < zs.length := by rw [h1.len]; omega
  refine ⟨h1.step (by omega) (by omega) (by omega), h2.set (stepLo_lt _ _ _ _), stepHi_lt (hy _) hf (h2 _) h3, fun j hj => ?_, ?_⟩
  · rw [gt_set hl, if_neg (by omega)]; exact h4 j (by omega)
  · have hs := step_split (gt ys (o2 + i)) f (gt zs (off + i)) c
    simp only [vs]
    rw [gt_set hl, if_pos rfl, vs_congr (ys := zs) (off' := off) (fun j hj => by rw [gt_set hl, if_neg (by omega)])]
    rw [h4 i (Nat.le_refl _)] at hs ⊢
    have e : W64 ^ i * stepLo (gt ys (o2 + i)) f (gt xs (off + i)) c + W64 ^ (i + 1) * stepHi (gt ys (o2 + i)) f (gt xs (off + i)) c = W64 ^ i * gt ys (o2 + i) * f + W64 ^ i * gt xs (off + i) + W64 ^ i * c := by
      rw [Nat.pow_succ, Nat.mul_assoc, ← Nat.mul_add, hs, Nat.mul_add, Nat.mul_add, Nat.mul_assoc]
    rw [Nat.add_mul]
    omega

/-- What addMultiple leaves. -/
def AddedM (xs zs : List Nat) (off n c y : Nat) : Prop := Wrote xs zs off n ∧ Dg W64 zs ∧ c < W64 ∧ vs W64 zs off n + W64 ^ n * c = vs W64 xs off n + y
theorem addMultiple_any (b1 o1 n1 c1 b2 o2 n2 c2 f : Nat) (xs ys : List Nat) (w : World) (hb : Blk .u64 57 w b1 xs) (hn : o1 + n1 ≤ xs.length) (hd : Dg W64 xs)
    (hb2 : Blk .u64 57 w b2 ys) (hn2 : o2 + n2 ≤ ys.length) (hd2 : Dg W64 ys) (hne : b2 ≠ b1) (hle : n2 ≤ n1) (hf : f < W64) (hm : n1 ≤ maxLen) :
    Calls Tryd.prog 56 #[.slice (some ⟨b1, o1, none⟩) n1 c1, .slice (some ⟨b2, o2, none⟩) n2 c2, .int .u64 (f : Int)] w fun e w' => ∃ c zs, e = .returned (.int .u64 ((c : Nat) : Int)) ∧ Blk .u64 57 w' b1 zs ∧ w.grownBy w' (some b1) ∧ AddedM xs zs o1 n2 c (vs W64 ys o2 n2 * f) := by
  unfold maxLen at hm
  have ha := add64_run0
  have hy0 : MulInv xs ys xs o1 n2 o2 f 0 0 := ⟨Wrote.refl _ _ _, hd, W64_pos, fun _ _ => rfl, by simp [vs]⟩
  go_enter Tryd.func56, Tryd.ntmps56
  go_wp2
  go_loopw [7, 15] (fun v j wr => ∃ (i t : Nat) (zs : List Nat), i ≤ n2 ∧ j = .int .i64 i ∧ v = .int .u64 t ∧ Blk .u64 57 wr b1 zs ∧ w.grownBy wr (some b1) ∧ MulInv xs ys zs o1 n2 o2 f i t) (fun _ j _ => n2 - (intOf j).toNat)
  case atStart => exact ⟨0, 0, xs, Nat.zero_le _, rfl, rfl, hb, World.grownBy.refl _ _, hy0⟩
  case round =>
    obtain ⟨i, t, zs, hi, rfl, rfl, hbz, hg, hinv⟩ := hrel
    have hlz : zs.length = xs.length := hinv.1.len
    have ht : t < W64 := hinv.2.2.1
    have hb2r := hb2.kept hg (by simpa using hne)
    have hcell2 : i < n2 → wr.cell? ⟨b2, o2 + i, none⟩ = some (.int .u64 ((gt ys (o2 + i) : Nat) : Int)) := fun h => hb2r.cell (by omega)
    have hcell : i < n2 → wr.cell? ⟨b1, o1 + i, none⟩ = some (.int .u64 ((gt zs (o1 + i) : Nat) : Int)) := fun h => hbz.cell (by omega)
    have hfr : wr.frozen? ⟨b1, o1 + i, none⟩ = false := hbz.frozen _
    have hyi := hd2 (o2 + i)
    have hzi := hinv.2.1 (o1 + i)
    by_cases hlt : i < n2
    · have hnx := hinv.next hd2 hf hlt (by omega : o1 + n2 ≤ xs.length)
      have hhi := stepHi_lt hyi hf hzi ht
      have HC := Lib.hid (carry_cast hhi)
      go_wp2_with fail
      refine (mul64_run _ _ hyi hf _).mono ?_
      rintro e w' ⟨rfl, rfl⟩
      go_wp2
      go_roundw
      case rel => exact ⟨i + 1, stepHi (gt ys (o2 + i)) f (gt zs (o1 + i)) t, _, by omega, by go_num, by rw [HC.out]; rfl, hbz.set _ _, gr_trans hg (gr_set _ _ _ _) (.inr rfl) (.inr (.inl rfl)), hnx⟩
      case measure => simp [intOf]; omega
    · obtain rfl : i = n2 := by omega
      go_wp2
      go_ret
      exact ⟨t, zs, rfl, hbz, hg, hinv.1, hinv.2.1, ht, hinv.2.2.2.2⟩
end Go.Proofs.YtoadjhmehgkeaaaDoor

namespace Go.Proofs.YtoadjhmehgkeaaaDoor
open Go.RowKit Mth

def subLo (x y c : Nat) : Nat := (x + W64 - y - c) % W64
def subHi (x y c : Nat) : Nat := if x < y + c then 1 else 0
theorem subLo_lt (x y c : Nat) : subLo x y c < W64 := Nat.mod_lt _ W64_pos
theorem subHi_le (x y c : Nat) : subHi x y c ≤ 1 := by unfold subHi; split <;> omega
theorem sub_split {x y c : Nat} (hx : x < W64) (hy : y < W64) (hc : c ≤ 1) : subLo x y c + y + c = x + W64 * subHi x y c := by
  unfold subLo subHi
  rw [W64_eq] at *
  split <;> omega
theorem sub64_run (x y c : Nat) (hc : c ≤ 1) (w : World) :
    (callFunc 57 #[.int .u64 (x : Int), .int .u64 (y : Int), .int .u64 (c : Int)]).run Tryd.prog w =
      .ok (.value (.tuple #[.int .u64 ((subLo x y c : Nat) : Int), .int .u64 ((subHi x y c : Nat) : Int)])) w := by
  rw [run_callFunc_extern Tryd.func57 (by kernel_rfl) (by kernel_rfl) (by kernel_rfl) (e := sub64Entry) (by kernel_rfl), run_sub64 x y c hc]
  rfl
theorem sub64_run0 (x c : Nat) (hc : c ≤ 1) (w : World) :
    (callFunc 57 #[.int .u64 (x : Int), .int .u64 0, .int .u64 (c : Int)]).run Tryd.prog w =
      .ok (.value (.tuple #[.int .u64 ((subLo x 0 c : Nat) : Int), .int .u64 ((subHi x 0 c : Nat) : Int)])) w := sub64_run x 0 c hc w

def SubInv (xs zs : List Nat) (off n Y i c : Nat) : Prop := Wrote xs zs off n ∧ Dg W64 zs ∧ c ≤ 1 ∧ (∀ j, i ≤ j → gt zs (off + j) = gt xs (off + j)) ∧ vs W64 zs off i + Y = vs W64 xs off i + W64 ^ i * c
theorem SubInv.next {xs zs : List Nat} {off n Y i c y : Nat} (h : SubInv xs zs off n Y i c) (hy : y < W64) (hi : i < n) (hx : off + n ≤ xs.length) : SubInv xs (zs.set (off + i) (subLo (gt zs (off + i)) y c)) off n (Y + W64 ^ i * y) (i + 1) (subHi (gt zs (off + i)) y c) := by
  obtain ⟨h1, h2, h3, h4, h5⟩ := h
  have hl : off + i < zs.length := by rw [h1.len]; omega
  refine ⟨h1.step (by omega) (by omega) (by omega), h2.set (subLo_lt _ _ _), subHi_le _ _ _, fun j hj => ?_, ?_⟩
  · rw [gt_set hl, if_neg (by omega)]; exact h4 j (by omega)
  · have hs := sub_split (h2 (off + i)) hy h3
    simp only [vs]
    rw [gt_set hl, if_pos rfl, vs_congr (ys := zs) (off' := off) (fun j hj => by rw [gt_set hl, if_neg (by omega)])]
    rw [h4 i (Nat.le_refl _)] at hs ⊢
    have e : W64 ^ i * subLo (gt xs (off + i)) y c + W64 ^ i * y + W64 ^ i * c = W64 ^ i * gt xs (off + i) + W64 ^ (i + 1) * subHi (gt xs (off + i)) y c := by
      rw [Nat.pow_succ, Nat.mul_assoc, ← Nat.mul_add, ← Nat.mul_add, hs, Nat.mul_add]
    omega
theorem SubInv.done {xs zs : List Nat} {off n Y i c : Nat} (h : SubInv xs zs off n Y i c) (hi : i ≤ n) (he : i = n ∨ c = 0) (hY : Y ≤ vs W64 xs off n) : Wrote xs zs off n ∧ Dg W64 zs ∧ vs W64 zs off n + Y = vs W64 xs off n := by
  obtain ⟨h1, h2, h3, h4, h5⟩ := h
  refine ⟨h1, h2, ?_⟩
  rcases he with rfl | rfl
  · have hlt := vs_lt (off := off) (n := i) h2
    have : c = 0 ∨ c = 1 := by omega
    rcases this with rfl | rfl
    · simpa using h5
    · omega
  · obtain ⟨m, rfl⟩ : ∃ m, n = i + m := ⟨n - i, by omega⟩
    rw [vs_split, vs_split, vs_congr (xs := zs) (ys := xs) (off' := off + i) (n := m) (fun j hj => by rw [Nat.add_assoc]; exact h4 (i + j) (by omega))]
    omega

theorem subtractFrom_any (b1 o1 n1 c1 b2 o2 n2 c2 : Nat) (xs ys : List Nat) (w : World) (hb : Blk .u64 57 w b1 xs) (hn : o1 + n1 ≤ xs.length) (hd : Dg W64 xs) (hm : n1 ≤ maxLen)
    (hb2 : Blk .u64 57 w b2 ys) (hn2 : o2 + n2 ≤ ys.length) (hd2 : Dg W64 ys) (hne : b2 ≠ b1) (hle : n2 ≤ n1) (hval : vs W64 ys o2 n2 ≤ vs W64 xs o1 n1) :
    Calls Tryd.prog 37 #[.slice (some ⟨b1, o1, none⟩) n1 c1, .slice (some ⟨b2, o2, none⟩) n2 c2] w fun e w' => e = .returned (.tuple #[]) ∧ ∃ zs, Blk .u64 57 w' b1 zs ∧ w.grownBy w' (some b1) ∧ Wrote xs zs o1 n1 ∧ Dg W64 zs ∧ vs W64 zs o1 n1 + vs W64 ys o2 n2 = vs W64 xs o1 n1 := by
  unfold maxLen at hm
  have ha := sub64_run
  have hy0 : SubInv xs xs o1 n1 (vs W64 ys o2 0) 0 0 := ⟨Wrote.refl _ _ _, hd, by omega, fun _ _ => rfl, by simp [vs]⟩
  have HV := Lib.hid hval
  clear hval
  go_enter Tryd.func37, Tryd.ntmps37
  go_wp2
  go_loopw [4, 10] (fun v j wr => ∃ (i t : Nat) (zs : List Nat), i ≤ n2 ∧ j = .int .i64 i ∧ v = .int .u64 t ∧ Blk .u64 57 wr b1 zs ∧ w.grownBy wr (some b1) ∧ SubInv xs zs o1 n1 (vs W64 ys o2 i) i t) (fun _ j _ => n2 - (intOf j).toNat)
  case atStart => exact ⟨0, 0, xs, Nat.zero_le _, rfl, rfl, hb, World.grownBy.refl _ _, hy0⟩
  case round =>
    obtain ⟨i, t, zs, hi, rfl, rfl, hbz, hg, hinv⟩ := hrel
    have hlz : zs.length = xs.length := hinv.1.len
    have ht : t ≤ 1 := hinv.2.2.1
    have hb2r := hb2.kept hg (by simpa using hne)
    by_cases hlt : i < n2
    · have hcell2 : wr.cell? ⟨b2, o2 + i, none⟩ = some (.int .u64 ((gt ys (o2 + i) : Nat) : Int)) := hb2r.cell (by omega)
      have hcell : wr.cell? ⟨b1, o1 + i, none⟩ = some (.int .u64 ((gt zs (o1 + i) : Nat) : Int)) := hbz.cell (by omega)
      have hfr : wr.frozen? ⟨b1, o1 + i, none⟩ = false := hbz.frozen _
      have hnx := hinv.next (hd2 (o2 + i)) (by omega : i < n1) hn
      go_wp2
      go_roundw
      case rel => exact ⟨i + 1, _, _, by omega, by go_num, rfl, hbz.set _ _, gr_trans hg (gr_set _ _ _ _) (.inr rfl) (.inr (.inl rfl)), hnx⟩
      case measure => simp [intOf]; omega
    · obtain rfl : i = n2 := by omega
      clear ha hlz
      have ha := sub64_run0
      obtain ⟨W1, rfl⟩ : ∃ W1, W1 = wr := ⟨_, rfl⟩
      go_wp2
      go_loopw [4, 7] (fun v j wr => ∃ (l t : Nat) (zs : List Nat), i ≤ l ∧ l ≤ n1 ∧ j = .int .i64 l ∧ v = .int .u64 t ∧ Blk .u64 57 wr b1 zs ∧ w.grownBy wr (some b1) ∧ SubInv xs zs o1 n1 (vs W64 ys o2 i) l t) (fun _ j _ => n1 - (intOf j).toNat)
      case atStart => exact ⟨i, t, zs, Nat.le_refl _, hle, rfl, rfl, hbz, hg, hinv⟩
      case round =>
        obtain ⟨l, t', zs', hil, hln, rfl, rfl, hbz', hg', hinv'⟩ := hrel
        have hlz : zs'.length = xs.length := hinv'.1.len
        have ht : t' ≤ 1 := hinv'.2.2.1
        have hcell : l < n1 → wr.cell? ⟨b1, o1 + l, none⟩ = some (.int .u64 ((gt zs' (o1 + l) : Nat) : Int)) := fun h => hbz'.cell (by omega)
        have hfr : wr.frozen? ⟨b1, o1 + l, none⟩ = false := hbz'.frozen _
        go_wp2
        · have hlt : l < n1 := by assumption
          have hnx := hinv'.next (y := 0) W64_pos hlt hn
          rw [Nat.mul_zero, Nat.add_zero] at hnx
          go_roundw
          case rel => exact ⟨l + 1, _, _, by omega, by omega, by go_num, rfl, hbz'.set _ _, gr_trans hg' (gr_set _ _ _ _) (.inr rfl) (.inr (.inl rfl)), hnx⟩
          case measure => simp [intOf]; omega
        · have hlt : l < n1 := by assumption
          have h0 : ¬ 0 < t' := by assumption
          go_end0
          have hd := hinv'.done hln (.inr (by omega)) HV.out
          exact ⟨rfl, zs', hbz', hg', hd⟩
        · have hlt : ¬ l < n1 := by assumption
          go_end0
          have hd := hinv'.done hln (.inl (by omega)) HV.out
          exact ⟨rfl, zs', hbz', hg', hd⟩
end Go.Proofs.YtoadjhmehgkeaaaDoor

namespace Go.Proofs.YtoadjhmehgkeaaaDoor
open Go.RowKit Mth

theorem sub64_runz (x y : Nat) (w : World) :
    (callFunc 57 #[.int .u64 (x : Int), .int .u64 (y : Int), .int .u64 0]).run Tryd.prog w =
      .ok (.value (.tuple #[.int .u64 ((subLo x y 0 : Nat) : Int), .int .u64 ((subHi x y 0 : Nat) : Int)])) w := sub64_run x y 0 (by omega) w
/-- One step: the new digit and the new borrow. -/
def smLo (x f t c : Nat) : Nat := subLo t (addLo (mulLo x f) c 0) 0
def smHi (x f t c : Nat) : Nat := mulHi x f + addHi (mulLo x f) c 0 + subHi t (addLo (mulLo x f) c 0) 0
theorem sm_split {x f t c : Nat} (ht : t < W64) : smLo x f t c + x * f + c = t + W64 * smHi x f t c := by
  have h1 := mul_split x f
  have h2 := add_split (mulLo x f) c 0
  have h3 := sub_split ht (addLo_lt (mulLo x f) c 0) (Nat.zero_le 1)
  unfold smLo smHi
  rw [Nat.mul_add, Nat.mul_add]
  omega
theorem smLo_lt (x f t c : Nat) : smLo x f t c < W64 := subLo_lt _ _ _
theorem smHi_lt {x f t c : Nat} (hx : x < W64) (hf : f < W64) (ht : t < W64) (hc : c < W64) : smHi x f t c < W64 := by
  have h := sm_split (x := x) (f := f) (c := c) ht
  have h0 := smLo_lt x f t c
  have h1 : x * f ≤ (W64 - 1) * (W64 - 1) := Nat.mul_le_mul (by omega) (by omega)
  have h2 : (W64 - 1) * (W64 - 1) + (W64 - 1) + (W64 - 1) < W64 * W64 := by decide
  refine Nat.lt_of_mul_lt_mul_left (a := W64) ?_
  omega

def SmInv (xs ys zs : List Nat) (off n o2 f i c : Nat) : Prop := Wrote xs zs off n ∧ Dg W64 zs ∧ c < W64 ∧ (∀ j, i ≤ j → gt zs (off + j) = gt xs (off + j)) ∧ vs W64 zs off i + vs W64 ys o2 i * f = vs W64 xs off i + W64 ^ i * c
theorem SmInv.next {xs ys zs : List Nat} {off n o2 f i c : Nat} (h : SmInv xs ys zs off n o2 f i c) (hy : Dg W64 ys) (hf : f < W64) (hi : i < n) (hx : off + n ≤ xs.length) :
    SmInv xs ys (zs.set (off + i) (smLo (gt ys (o2 + i)) f (gt zs (off + i)) c)) off n o2 f (i + 1) (smHi (gt ys (o2 + i)) f (gt zs (off + i)) c) := by
  obtain ⟨h1, h2, h3, h4, h5⟩ := h
  have hl : off + i < zs.length := by rw [h1.len]; omega
  refine ⟨h1.step (by omega) (by omega) (by omega), h2.set (smLo_lt _ _ _ _), smHi_lt (hy _) hf (h2 _) h3, fun j hj => ?_, ?_⟩
  · rw [gt_set hl, if_neg (by omega)]; exact h4 j (by omega)
  · have hs := sm_split (x := gt ys (o2 + i)) (f := f) (c := c) (h2 (off + i))
    simp only [vs]
    rw [gt_set hl, if_pos rfl, vs_congr (ys := zs) (off' := off) (fun j hj => by rw [gt_set hl, if_neg (by omega)])]
    rw [h4 i (Nat.le_refl _)] at hs ⊢
    have e : W64 ^ i * smLo (gt ys (o2 + i)) f (gt xs (off + i)) c + W64 ^ i * gt ys (o2 + i) * f + W64 ^ i * c = W64 ^ i * gt xs (off + i) + W64 ^ (i + 1) * smHi (gt ys (o2 + i)) f (gt xs (off + i)) c := by
      rw [Nat.pow_succ, Nat.mul_assoc, Nat.mul_assoc, ← Nat.mul_add, ← Nat.mul_add, hs, Nat.mul_add]
    rw [Nat.add_mul]
    omega

/-- What subtractMultiple leaves. -/
def SubbedM (xs zs : List Nat) (off n c y : Nat) : Prop := Wrote xs zs off n ∧ Dg W64 zs ∧ c < W64 ∧ vs W64 zs off n + y = vs W64 xs off n + W64 ^ n * c
theorem subtractMultiple_any (b1 o1 n1 c1 b2 o2 n2 c2 f : Nat) (xs ys : List Nat) (w : World) (hb : Blk .u64 57 w b1 xs) (hn : o1 + n1 ≤ xs.length) (hd : Dg W64 xs)
    (hb2 : Blk .u64 57 w b2 ys) (hn2 : o2 + n2 ≤ ys.length) (hd2 : Dg W64 ys) (hne : b2 ≠ b1) (hle : n2 ≤ n1) (hf : f < W64) (hm : n1 ≤ maxLen) :
    Calls Tryd.prog 85 #[.slice (some ⟨b1, o1, none⟩) n1 c1, .slice (some ⟨b2, o2, none⟩) n2 c2, .int .u64 (f : Int)] w fun e w' => ∃ c zs, e = .returned (.int .u64 ((c : Nat) : Int)) ∧ Blk .u64 57 w' b1 zs ∧ w.grownBy w' (some b1) ∧ SubbedM xs zs o1 n2 c (vs W64 ys o2 n2 * f) := by
  unfold maxLen at hm
  have ha := add64_run0
  have hs64 := sub64_runz
  have hy0 : SmInv xs ys xs o1 n2 o2 f 0 0 := ⟨Wrote.refl _ _ _, hd, W64_pos, fun _ _ => rfl, by simp [vs]⟩
  go_enter Tryd.func85, Tryd.ntmps85
  go_wp2
  go_loopw [7, 15] (fun v j wr => ∃ (i t : Nat) (zs : List Nat), i ≤ n2 ∧ j = .int .i64 i ∧ v = .int .u64 t ∧ Blk .u64 57 wr b1 zs ∧ w.grownBy wr (some b1) ∧ SmInv xs ys zs o1 n2 o2 f i t) (fun _ j _ => n2 - (intOf j).toNat)
  case atStart => exact ⟨0, 0, xs, Nat.zero_le _, rfl, rfl, hb, World.grownBy.refl _ _, hy0⟩
  case round =>
    obtain ⟨i, t, zs, hi, rfl, rfl, hbz, hg, hinv⟩ := hrel
    have hlz : zs.length = xs.length := hinv.1.len
    have ht : t < W64 := hinv.2.2.1
    have hb2r := hb2.kept hg (by simpa using hne)
    have hcell2 : i < n2 → wr.cell? ⟨b2, o2 + i, none⟩ = some (.int .u64 ((gt ys (o2 + i) : Nat) : Int)) := fun h => hb2r.cell (by omega)
    have hcell : i < n2 → wr.cell? ⟨b1, o1 + i, none⟩ = some (.int .u64 ((gt zs (o1 + i) : Nat) : Int)) := fun h => hbz.cell (by omega)
    have hfr : wr.frozen? ⟨b1, o1 + i, none⟩ = false := hbz.frozen _
    have hyi := hd2 (o2 + i)
    have hzi := hinv.2.1 (o1 + i)
    by_cases hlt : i < n2
    · have hnx := hinv.next hd2 hf hlt (by omega : o1 + n2 ≤ xs.length)
      have hhi := smHi_lt hyi hf hzi ht
      have HC := Lib.hid (carry_cast hhi)
      go_wp2_with fail
      refine (mul64_run _ _ hyi hf _).mono ?_
      rintro e w' ⟨rfl, rfl⟩
      go_wp2
      go_roundw
      case rel => exact ⟨i + 1, smHi (gt ys (o2 + i)) f (gt zs (o1 + i)) t, _, by omega, by go_num, by rw [HC.out]; rfl, hbz.set _ _, gr_trans hg (gr_set _ _ _ _) (.inr rfl) (.inr (.inl rfl)), hnx⟩
      case measure => simp [intOf]; omega
    · obtain rfl : i = n2 := by omega
      go_wp2
      go_ret
      exact ⟨t, zs, rfl, hbz, hg, hinv.1, hinv.2.1, ht, hinv.2.2.2.2⟩
end Go.Proofs.YtoadjhmehgkeaaaDoor
