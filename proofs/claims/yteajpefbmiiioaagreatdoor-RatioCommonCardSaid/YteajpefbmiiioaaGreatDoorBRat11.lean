/- Contracts of the program and of the reference, part 11: RefT, RefG, RefQ. -/
import Derived.Test.YteajpefbmiiioaaGreatDoorBRat10
import Derived.Deep.RegionWith
import Derived.Deep.Upon
namespace Go.Proofs.YteajpefbmiiioaaGreatDoor
open Go.RowKit Mth

theorem Acc.lsf {w0 w : World} {v : Value} {l : List Nat} (h : Acc .i64 3 w0 w v l) : ∃ a m c, v = .slice a m c ∧ Ls w a m c l ∧ ∀ g, a = some ⟨g, 0, none⟩ → w0.heap.size ≤ g := by
  obtain ⟨a, m, c, rfl, hl⟩ := h.ls
  refine ⟨a, m, c, rfl, hl, fun g hg => ?_⟩
  subst hg
  rcases h.fresh with e | ⟨g', e, e'⟩
  · cases e
  · simp only [Value.ownBlock, Option.some.injEq] at e; omega

set_option maxRecDepth 100000 in
theorem rtrim_any (a : Option Addr) (m c : Nat) (l : List Nat) (w : World) (h : Ls w a m c l) (hd : Dg D24 l) :
    Calls Tryz.prog 83 #[.slice a m c] w fun e w' => ∃ k, e = .returned (.slice a k c) ∧ Ls w a k c (dgt (val D24 l)) ∧ k ≤ m ∧ w = w' := by
  rcases Nat.eq_zero_or_pos m with h0 | h0
  · subst h0
    have : l = [] := List.eq_nil_of_length_eq_zero h.len.symm
    subst this
    go_enter Tryz.func83, Tryz.ntmps83
    go_wp2
    go_loop [0] (fun u => u = .slice a 0 c) (fun _ => 0)
    case atStart => rfl
    case round =>
      obtain rfl := hrel
      go_wp2
      go_ret
      exact ⟨0, rfl, ⟨by rw [val_nil, dgt_zero]; rfl, fun h => by omega⟩, by omega, rfl⟩
  · obtain ⟨g, zs, rfl, hb, hlz, hmc, hmx, htk⟩ := h.mem h0
    have hlm : m = l.length := h.len
    have HLM := Lib.hid hlm
    have HD := Lib.hid hd
    have hcell : ∀ i, i < m → w.cell? ⟨g, i, none⟩ = some (.int .i64 ((gt l i : Nat) : Int)) := fun i hi => by
      obtain ⟨g', e1, _, _, e2⟩ := h.at_ hi
      cases e1
      rw [Nat.zero_add] at e2; exact e2
    clear h hlm hd
    unfold maxLen at hmx
    go_enter Tryz.func83, Tryz.ntmps83
    go_wp2
    go_loop [0] (fun u => ∃ k, u = .slice (some ⟨g, 0, none⟩) k c ∧ k ≤ m ∧ Hid (∀ i, k ≤ i → i < l.length → gt l i = 0)) (fun u => match u with | .slice _ n _ => n | _ => 0)
    case atStart => exact ⟨m, rfl, Nat.le_refl _, Lib.hid (fun i h1 h2 => by have := HLM.out; omega)⟩
    case round =>
      obtain ⟨k, rfl, hk, HZ⟩ := hrel
      rcases k with _ | k
      · have hfin : Ls w (some ⟨g, 0, none⟩) 0 c (dgt (val D24 l)) := by
          have e := dgt_take_zeros (m := 0) HD.out (Nat.zero_le _) HZ.out (.inl rfl)
          exact ⟨by rw [← e]; simp, fun h => by omega⟩
        have HF := Lib.hid hfin
        clear hfin
        go_wp2
        go_ret
        exact ⟨0, rfl, HF.out, Nat.zero_le _, rfl⟩
      · have hc := hcell k (by omega)
        have hkc : (((k + 1 : Nat) : Int) - 1) = (k : Int) := by omega
        have hkle : k ≤ c := by omega
        have HLE := Lib.hid hmc
        by_cases hz : gt l k = 0
        · rw [hz] at hc
          have HNX := Lib.hid (show ∀ i, k ≤ i → i < l.length → gt l i = 0 from fun i h1 h2 => by
            rcases Nat.lt_or_ge k i with h3 | h3
            · exact HZ.out i (by omega) h2
            · obtain rfl : i = k := by omega
              exact hz)
          clear hz
          go_wp2
          exact ⟨⟨k, rfl, by omega, HNX⟩, by simp⟩
        · have hfin : Ls w (some ⟨g, 0, none⟩) (k + 1) c (dgt (val D24 l)) := by
            have e := dgt_take_zeros (m := k + 1) HD.out (by have := HLM.out; omega) HZ.out (.inr hz)
            refine ⟨by rw [← e]; simp; have := HLM.out; omega, fun _ => ⟨g, zs, rfl, hb, hlz, by omega, by unfold maxLen; omega, ?_⟩⟩
            rw [← e, ← htk, List.take_take]; congr 1; omega
          have HF := Lib.hid hfin
          have hnz : ((((gt l k : Nat) : Int)) == 0) = false := by rw [beq_eq_false_iff_ne]; omega
          clear hfin hz
          go_wp2
          go_ret
          exact ⟨k + 1, rfl, HF.out, hk, rfl⟩

set_option maxHeartbeats 2000000 in
set_option maxRecDepth 100000 in
theorem rtimes_any (a : Option Addr) (m c N d : Nat) (w : World) (h : Ls w a m c (dgt N)) (hd : d < D24) (hm : m ≤ 100000000000) :
    Calls Tryz.prog 86 #[.slice a m c, .int .i64 (d : Int)] w fun e w' => ∃ v, e = .returned v ∧ RN w' v (N * d) ∧ w.grownBy w' none := by
  obtain ⟨i0, hi, hz0, hz1, hz2⟩ := info_parts infoI
  have HD := Lib.hid hd
  have hd1 := dg_dgt N
  have hlen := h.len
  have HL := Lib.hid hlen
  have H := Lib.hid h
  have HT0 := Lib.hid (TimesInv.zero (dgt N) d)
  rw [D24_eq] at hd
  clear h hlen
  go_enter Tryz.func86, Tryz.ntmps86
  go_wp2
  go_loopw [5, 6, 7] (fun o cv kv wr => ∃ (k cc : Nat) (l : List Nat), k ≤ m ∧ kv = .int .i64 k ∧ cv = .int .i64 cc ∧ Acc .i64 3 w wr o l ∧ Hid (TimesInv (dgt N) d k l cc)) (fun _ _ kv _ => m - (intOf kv).toNat)
  case atStart => exact ⟨0, 0, [], Nat.zero_le _, rfl, rfl, .nil _ _ _, HT0⟩
  case round =>
    obtain ⟨k, cc, l, hk, rfl, rfl, hacc, HT⟩ := hrel
    have hcc := HT.out.2.2.1
    rw [D24_eq] at hcc
    have hll : l.length = k := HT.out.1
    have HLL := Lib.hid hll
    clear hll
    by_cases hlt : k < m
    · obtain ⟨g, rfl, hmc, hmx, hcell⟩ := (H.out.kept hacc.gr).at_ hlt
      rw [Nat.zero_add] at hcell
      have hx := hd1 k
      have hmul := times_lt hx HD.out HT.out.2.2.1
      have hnx := HT.out.next hd1 HD.out
      generalize gt (dgt N) k = X at hcell hx hmul hnx
      have hXY : (X : Int) * (d : Int) = ((X * d : Nat) : Int) := by simp
      generalize X * d = P at hXY hmul hnx
      have hP : P ≤ 281474976710656 := hmul.2
      have HNX := Lib.hid hnx
      have HQ := Lib.hid (show (((P : Int) + (cc : Int)) / 16777216) = (((P + cc) / D24 : Nat) : Int) by rw [D24_eq]; omega)
      obtain ⟨lo, hlo⟩ : ∃ lo, lo = (P + cc) % D24 := ⟨_, rfl⟩
      have HR := Lib.hid (show (((P : Int) + (cc : Int)) % 16777216) = (lo : Int) by rw [hlo, D24_eq]; omega)
      rw [← hlo] at HNX
      clear hx hmul hnx hlo
      go_wp2_with (at_builtin; rw [HR.out]; refine wpList_acc rfl (.tmp 23) (.tmp 26) 86 rfl .i64 3 i0 8 Tryz.underlying86 hi hz0 hz1 hz2 _ l [lo] hacc rfl rfl (by simp) ?_ ?_ ?_)
      case refine_1 => rw [HLL.out]; show k + 1 ≤ maxLen; unfold maxLen; omega
      case refine_2 => rw [HLL.out]; show (k + 1) * 8 ≤ _; omega
      intro v' w' hacc'
      clear hacc hi hz0 hz1 hz2
      go_wp2
      refine ⟨⟨k + 1, (P + cc) / D24, l ++ [lo], by omega, by go_num, by rw [HQ.out], hacc', HNX⟩, by simp [intOf]; omega⟩
    · obtain rfl : k = m := by omega
      have hlast := HT.out
      rw [HL.out] at hlast
      have HLAST := Lib.hid hlast.last
      clear hlast
      go_wp2_with (at_builtin; refine wpList_acc rfl (.tmp 30) (.tmp 32) 86 rfl .i64 3 i0 8 Tryz.underlying86 hi hz0 hz1 hz2 _ l [cc] hacc rfl rfl (by simp) ?_ ?_ ?_)
      case refine_1 => rw [HLL.out]; show k + 1 ≤ maxLen; unfold maxLen; omega
      case refine_2 => rw [HLL.out]; show (k + 1) * 8 ≤ _; omega
      intro v' w' hacc'
      obtain ⟨a', m', c', rfl, hls⟩ := hacc'.ls
      have HG := Lib.hid hacc'.gr
      have HLS := Lib.hid hls
      clear hacc hacc' hls hi hz0 hz1 hz2
      go_wp2_with fail
      refine (rtrim_any a' m' c' _ _ HLS.out HLAST.out.1).mono ?_
      rintro e w2 ⟨k2, rfl, hls2, _, rfl⟩
      rw [HLAST.out.2] at hls2
      have HLS2 := Lib.hid hls2
      clear hls2
      go_wp2
      go_ret
      exact ⟨_, rfl, ⟨_, _, _, rfl, HLS2.out⟩, HG.out⟩

set_option maxHeartbeats 4000000 in
set_option maxRecDepth 100000 in
theorem rminus_any (a : Option Addr) (m c M : Nat) (a2 : Option Addr) (m2 c2 N : Nat) (w : World) (h : Ls w a m c (dgt M)) (h2 : Ls w a2 m2 c2 (dgt N)) (hle : N ≤ M) (hm : m ≤ 100000000000) :
    Calls Tryz.prog 75 #[.slice a m c, .slice a2 m2 c2] w fun e w' => ∃ a' m' c', e = .returned (.slice a' m' c') ∧ Ls w' a' m' c' (dgt (M - N)) ∧ (∀ g, a' = some ⟨g, 0, none⟩ → w.heap.size ≤ g) ∧ w.grownBy w' none := by
  obtain ⟨i0, hi, hz0, hz1, hz2⟩ := info_parts infoI
  have hd1 := dg_dgt M
  have hd2 := dg_dgt N
  have HL := Lib.hid h.len
  have HL2 := Lib.hid h2.len
  have H := Lib.hid h
  have H2 := Lib.hid h2
  have HLE := Lib.hid hle
  have HT0 := Lib.hid (MinusInv.zero (dgt M) (dgt N))
  clear h h2 hle
  go_enter Tryz.func75, Tryz.ntmps75
  go_wp2
  go_loopw [5, 6, 7] (fun o cv kv wr => ∃ (k b : Nat) (l : List Nat), k ≤ m ∧ kv = .int .i64 k ∧ cv = .int .i64 b ∧ Acc .i64 3 w wr o l ∧ Hid (MinusInv (dgt M) (dgt N) k l b)) (fun _ _ kv _ => m - (intOf kv).toNat)
  case atStart => exact ⟨0, 0, [], Nat.zero_le _, rfl, rfl, .nil _ _ _, HT0⟩
  case round =>
    obtain ⟨k, b, l, hk, rfl, rfl, hacc, HT⟩ := hrel
    have hb := HT.out.2.2.1
    have hll : l.length = k := HT.out.1
    have HLL := Lib.hid hll
    clear hll
    by_cases hlt : k < m
    · obtain ⟨g, rfl, hmc, hmx, hcell⟩ := (H.out.kept hacc.gr).at_ hlt
      rw [Nat.zero_add] at hcell
      have hx := hd1 k
      have hy := hd2 k
      have hless := HT.out.less hd2
      have hmore := HT.out.more hd1
      by_cases hlt2 : k < m2
      · obtain ⟨g2, rfl, hmc2, hmx2, hcell2⟩ := (H2.out.kept hacc.gr).at_ hlt2
        rw [Nat.zero_add] at hcell2
        generalize gt (dgt M) k = X at hcell hx hless hmore
        generalize gt (dgt N) k = Y at hcell2 hy hless hmore
        rw [D24_eq] at hx hy
        by_cases hneg : X < b + Y
        · have HNX := Lib.hid (hless hneg)
          obtain ⟨lo, hlo⟩ : ∃ lo, lo = X + D24 - b - Y := ⟨_, rfl⟩
          have HR := Lib.hid (show ((X : Int) - (b : Int) - (Y : Int) + 16777216) = (lo : Int) by rw [hlo, D24_eq]; omega)
          have hc1 : (X : Int) - (b : Int) - (Y : Int) < 0 := by omega
          rw [← hlo] at HNX
          clear hless hmore hlo hneg
          go_wp2_with (at_builtin; rw [HR.out]; refine wpList_acc rfl (.tmp 35) (.tmp 37) 86 rfl .i64 3 i0 8 Tryz.underlying86 hi hz0 hz1 hz2 _ l [lo] hacc rfl rfl (by simp) ?_ ?_ ?_)
          case refine_1 => rw [HLL.out]; show k + 1 ≤ maxLen; unfold maxLen; omega
          case refine_2 => rw [HLL.out]; show (k + 1) * 8 ≤ _; omega
          intro v' w' hacc'
          clear hacc hi hz0 hz1 hz2
          go_wp2
          refine ⟨⟨k + 1, 1, l ++ [lo], by omega, by go_num, rfl, hacc', HNX⟩, by simp [intOf]; omega⟩
        · have HNX := Lib.hid (hmore (by omega))
          obtain ⟨lo, hlo⟩ : ∃ lo, lo = X - b - Y := ⟨_, rfl⟩
          have HR := Lib.hid (show ((X : Int) - (b : Int) - (Y : Int)) = (lo : Int) by rw [hlo]; omega)
          have hc1 : ¬ (X : Int) - (b : Int) - (Y : Int) < 0 := by omega
          rw [← hlo] at HNX
          clear hless hmore hlo hneg
          go_wp2_with (at_builtin; rw [HR.out]; refine wpList_acc rfl (.tmp 35) (.tmp 37) 86 rfl .i64 3 i0 8 Tryz.underlying86 hi hz0 hz1 hz2 _ l [lo] hacc rfl rfl (by simp) ?_ ?_ ?_)
          case refine_1 => rw [HLL.out]; show k + 1 ≤ maxLen; unfold maxLen; omega
          case refine_2 => rw [HLL.out]; show (k + 1) * 8 ≤ _; omega
          intro v' w' hacc'
          clear hacc hi hz0 hz1 hz2
          go_wp2
          refine ⟨⟨k + 1, 0, l ++ [lo], by omega, by go_num, rfl, hacc', HNX⟩, by simp [intOf]; omega⟩
      · have hy0 : gt (dgt N) k = 0 := gt_of_ge (by have := HL2.out; omega)
        rw [hy0] at hless hmore
        generalize gt (dgt M) k = X at hcell hx hless hmore
        rw [D24_eq] at hx
        clear hy hy0
        by_cases hneg : X < b
        · have HNX := Lib.hid (hless (by omega))
          obtain ⟨lo, hlo⟩ : ∃ lo, lo = X + D24 - b - 0 := ⟨_, rfl⟩
          have HR := Lib.hid (show ((X : Int) - (b : Int) + 16777216) = (lo : Int) by rw [hlo, D24_eq]; omega)
          have hc1 : (X : Int) - (b : Int) < 0 := by omega
          rw [← hlo] at HNX
          clear hless hmore hlo hneg
          go_wp2_with (at_builtin; rw [HR.out]; refine wpList_acc rfl (.tmp 35) (.tmp 37) 86 rfl .i64 3 i0 8 Tryz.underlying86 hi hz0 hz1 hz2 _ l [lo] hacc rfl rfl (by simp) ?_ ?_ ?_)
          case refine_1 => rw [HLL.out]; show k + 1 ≤ maxLen; unfold maxLen; omega
          case refine_2 => rw [HLL.out]; show (k + 1) * 8 ≤ _; omega
          intro v' w' hacc'
          clear hacc hi hz0 hz1 hz2
          go_wp2
          refine ⟨⟨k + 1, 1, l ++ [lo], by omega, by go_num, rfl, hacc', HNX⟩, by simp [intOf]; omega⟩
        · have HNX := Lib.hid (hmore (by omega))
          obtain ⟨lo, hlo⟩ : ∃ lo, lo = X - b - 0 := ⟨_, rfl⟩
          have HR := Lib.hid (show ((X : Int) - (b : Int)) = (lo : Int) by rw [hlo]; omega)
          have hc1 : ¬ (X : Int) - (b : Int) < 0 := by omega
          rw [← hlo] at HNX
          clear hless hmore hlo hneg
          go_wp2_with (at_builtin; rw [HR.out]; refine wpList_acc rfl (.tmp 35) (.tmp 37) 86 rfl .i64 3 i0 8 Tryz.underlying86 hi hz0 hz1 hz2 _ l [lo] hacc rfl rfl (by simp) ?_ ?_ ?_)
          case refine_1 => rw [HLL.out]; show k + 1 ≤ maxLen; unfold maxLen; omega
          case refine_2 => rw [HLL.out]; show (k + 1) * 8 ≤ _; omega
          intro v' w' hacc'
          clear hacc hi hz0 hz1 hz2
          go_wp2
          refine ⟨⟨k + 1, 0, l ++ [lo], by omega, by go_num, rfl, hacc', HNX⟩, by simp [intOf]; omega⟩
    · obtain rfl : k = m := by omega
      have hlast := HT.out
      rw [HL.out] at hlast
      have HLAST := Lib.hid (hlast.last HLE.out)
      obtain ⟨a', m', c', rfl, hls, hfr⟩ := hacc.lsf
      have HG := Lib.hid hacc.gr
      have HLS := Lib.hid hls
      clear hacc hls hi hz0 hz1 hz2 hlast
      go_wp2_with fail
      refine (rtrim_any a' m' c' _ _ HLS.out HLAST.out.1).mono ?_
      rintro e w2 ⟨k2, rfl, hls2, _, rfl⟩
      rw [HLAST.out.2] at hls2
      have HLS2 := Lib.hid hls2
      clear hls2
      go_wp2
      go_ret
      exact ⟨_, _, _, rfl, HLS2.out, hfr, HG.out⟩

set_option maxHeartbeats 2000000 in
set_option maxRecDepth 100000 in
theorem rcmp_any (a : Option Addr) (m c M : Nat) (a2 : Option Addr) (m2 c2 N : Nat) (w : World) (h : Ls w a m c (dgt M)) (h2 : Ls w a2 m2 c2 (dgt N)) (hm : m ≤ 100000000000) (hm2 : m2 ≤ 100000000000) :
    Calls Tryz.prog 84 #[.slice a m c, .slice a2 m2 c2] w fun e w' => ∃ z : Int, e = .returned (.int .i64 z) ∧ (z ≤ 0 ↔ M ≤ N) ∧ (0 ≤ z ↔ N ≤ M) ∧ w.grownBy w' none := by
  have hd1 := dg_dgt M
  have hd2 := dg_dgt N
  have HL := Lib.hid h.len
  have HL2 := Lib.hid h2.len
  rcases Nat.lt_trichotomy m m2 with hc | hc | hc
  · have hlt : M < N := lt_of_len (by rw [← HL.out, ← HL2.out]; exact hc)
    have HC := Lib.hid hlt
    have hne : ((m : Int) != (m2 : Int)) = true := by rw [bne_iff_ne]; omega
    clear h h2 hlt
    go_enter Tryz.func84, Tryz.ntmps84
    go_wp2
    go_ret
    have := HC.out
    exact ⟨_, rfl, by omega, by omega, World.grownBy.refl _ _⟩
  · subst hc
    have H := Lib.hid h
    have H2 := Lib.hid h2
    have he : (dgt M).length = (dgt N).length := by rw [← HL.out, ← HL2.out]
    have HE := Lib.hid he
    clear h h2 he
    have hneq : ((m : Int) != (m : Int)) = false := by simp
    go_enter Tryz.func84, Tryz.ntmps84
    go_wp2
    go_loopw [5] (fun kv wr => ∃ k : Nat, k ≤ m ∧ kv = .int .i64 ((k : Int) - 1) ∧ w.grownBy wr none ∧ Hid ((dgt M).drop k = (dgt N).drop k)) (fun kv _ => (intOf kv + 1).toNat)
    case atStart => exact ⟨m, Nat.le_refl _, rfl, World.grownBy.refl _ _, Lib.hid (by rw [List.drop_of_length_le (by rw [← HL.out]; exact Nat.le_refl _), List.drop_of_length_le (by rw [← HL2.out]; exact Nat.le_refl _)])⟩
    case round =>
      obtain ⟨k, hk, rfl, hg, HD⟩ := hrel
      rcases k with _ | k
      · have hfin : M = N := by
          have := HD.out
          rw [List.drop_zero, List.drop_zero] at this
          rw [← val_dgt M, this, val_dgt]
        have HF := Lib.hid hfin
        clear hfin
        go_wp2
        go_ret
        have := HF.out
        exact ⟨_, rfl, by omega, by omega, hg⟩
      · rw [show (((k + 1 : Nat) : Int) - 1) = (k : Int) by omega]
        obtain ⟨g, rfl, hmc, hmx, hcell⟩ := (H.out.kept hg).at_ (show k < m by omega)
        obtain ⟨g2, rfl, hmc2, hmx2, hcell2⟩ := (H2.out.kept hg).at_ (show k < m by omega)
        rw [Nat.zero_add] at hcell hcell2
        obtain ⟨s1, s2, s3⟩ := cmp_step HE.out (show k < (dgt M).length by rw [← HL.out]; omega) hd1 hd2 HD.out
        rw [val_dgt, val_dgt] at s1 s2
        have hx := hd1 k
        have hy := hd2 k
        rw [D24_eq] at hx hy
        generalize gt (dgt M) k = X at hcell hx s1 s2 s3
        generalize gt (dgt N) k = Y at hcell2 hy s1 s2 s3
        have hcd : wr.drew.cell? ⟨g, k, none⟩ = some (.int .i64 (X : Int)) := hcell
        have hcd2 : wr.drew.cell? ⟨g2, k, none⟩ = some (.int .i64 (Y : Int)) := hcell2
        have hce : wr.drew.drew.cell? ⟨g, k, none⟩ = some (.int .i64 (X : Int)) := hcell
        have hce2 : wr.drew.drew.cell? ⟨g2, k, none⟩ = some (.int .i64 (Y : Int)) := hcell2
        have hkm : k < m := by omega
        have hk0 : (0 : Int) ≤ (k : Int) := by omega
        rcases Nat.lt_trichotomy X Y with hxy | hxy | hxy
        · have hne : ((X : Int) != (Y : Int)) = true := by rw [bne_iff_ne]; omega
          have HS := Lib.hid (s1 hxy)
          clear s1 s2 s3
          go_wp2
          go_region
          go_wp2
          go_region
          go_wp2
          go_ret
          have := HS.out
          exact ⟨_, rfl, by omega, by omega, gr_then hg (gr_then (gr_drew _ none) (gr_drew _ none))⟩
        · subst hxy
          have HS := Lib.hid (s3 rfl)
          clear s1 s2 s3
          go_wp2
          go_region
          go_wp2
          exact ⟨⟨k, by omega, rfl, gr_then hg (gr_drew _ none), HS⟩, by simp [intOf]⟩
        · have hne : ((X : Int) != (Y : Int)) = true := by rw [bne_iff_ne]; omega
          have HS := Lib.hid (s2 hxy)
          clear s1 s2 s3
          go_wp2
          go_region
          go_wp2
          go_region
          go_wp2
          go_ret
          have := HS.out
          exact ⟨_, rfl, by omega, by omega, gr_then hg (gr_then (gr_drew _ none) (gr_drew _ none))⟩
  · have hlt : N < M := lt_of_len (by rw [← HL.out, ← HL2.out]; exact hc)
    have HC := Lib.hid hlt
    have hne : ((m : Int) != (m2 : Int)) = true := by rw [bne_iff_ne]; omega
    clear h h2 hlt
    go_enter Tryz.func84, Tryz.ntmps84
    go_wp2
    go_ret
    have := HC.out
    exact ⟨_, rfl, by omega, by omega, World.grownBy.refl _ _⟩
end Go.Proofs.YteajpefbmiiioaaGreatDoor
namespace Go.Proofs.YteajpefbmiiioaaGreatDoor
open Go.RowKit Mth

theorem dgt_mul_len {N d : Nat} (hd : d < D24) : (dgt (N * d)).length ≤ (dgt N).length + 1 := by
  refine dgt_len_le _ _ ?_
  rw [Nat.pow_succ]
  rcases Nat.eq_zero_or_pos d with h | h
  · subst h; rw [Nat.mul_zero]; exact Nat.mul_pos (Nat.pow_pos D24_pos) D24_pos
  · exact Nat.mul_lt_mul'' (dgt_lt N) hd
set_option maxHeartbeats 2000000 in
set_option maxRecDepth 100000 in
theorem rdigit_any (a : Option Addr) (m c M : Nat) (a2 : Option Addr) (m2 c2 N : Nat) (w : World) (h : Ls w a m c (dgt M)) (h2 : Ls w a2 m2 c2 (dgt N)) (hN : 0 < N) (hlt : M < N * D24) (hm : m ≤ 10000000000) (hm2 : m2 ≤ 10000000000) :
    Calls Tryz.prog 85 #[.slice a m c, .slice a2 m2 c2] w fun e w' => e = .returned (.int .i64 ((M / N : Nat) : Int)) ∧ w.grownBy w' none := by
  have H := Lib.hid h
  have H2 := Lib.hid h2
  have HM2 := Lib.hid h2.len
  have HB := Lib.hid hlt
  have HN := Lib.hid hN
  clear h h2 hlt hN
  go_enter Tryz.func85, Tryz.ntmps85
  go_wp2
  go_loopw [5, 6] (fun lv hv wr => ∃ lo hi : Nat, lv = .int .i64 lo ∧ hv = .int .i64 hi ∧ lo ≤ hi ∧ hi ≤ 16777215 ∧ w.grownBy wr none ∧ Hid (N * lo ≤ M ∧ M < N * (hi + 1))) (fun lv hv _ => (intOf hv - intOf lv).toNat)
  case atStart => exact ⟨0, 16777215, rfl, rfl, by omega, by omega, World.grownBy.refl _ _, Lib.hid ⟨by rw [Nat.mul_zero]; exact Nat.zero_le _, HB.out⟩⟩
  case round =>
    obtain ⟨lo, hi, rfl, rfl, hle, hhi, hg, HI⟩ := hrel
    by_cases hlt : lo < hi
    · obtain ⟨mid, hmid⟩ : ∃ mid, mid = (lo + hi + 1) / 2 := ⟨_, rfl⟩
      have HQ := Lib.hid (show ((lo : Int) + (hi : Int) + 1) / 2 = (mid : Int) by omega)
      have hml : lo < mid := by omega
      have hmh : mid ≤ hi := by omega
      have hmd : mid < D24 := by rw [D24_eq]; omega
      clear hmid
      go_wp2_with fail
      rw [HQ.out]
      refine (rtimes_any a2 m2 c2 N mid _ (H2.out.kept hg) hmd (by omega)).mono ?_
      rintro e w1 ⟨v1, rfl, hr1, h1⟩
      have hg1 := gr_then hg h1
      obtain ⟨a1, m1, c1, rfl, hs1⟩ := hr1
      have hm1 : m1 ≤ 100000000000 := by
        have e1 := hs1.len
        have e2 := dgt_mul_len (N := N) hmd
        have e3 := HM2.out
        omega
      have HS1 := Lib.hid hs1
      clear hs1 h1
      go_wp2_with fail
      refine (rcmp_any a1 m1 c1 (N * mid) a m c M _ HS1.out (H.out.kept hg1) hm1 (by omega)).mono ?_
      rintro e w2 ⟨z, rfl, hz1, _, h2⟩
      have hg2 := gr_then hg1 h2
      clear h2 hg1
      by_cases hz : z ≤ 0
      · have HNX := Lib.hid (show N * mid ≤ M ∧ M < N * (hi + 1) from ⟨hz1.1 hz, HI.out.2⟩)
        clear hz1
        go_wp2
        exact ⟨⟨mid, hi, rfl, rfl, hmh, hhi, hg2, HNX⟩, by simp [intOf]; omega⟩
      · have HNX := Lib.hid (show N * lo ≤ M ∧ M < N * (mid - 1 + 1) from ⟨HI.out.1, by rw [show mid - 1 + 1 = mid from by omega]; have := mt hz1.2 hz; omega⟩)
        clear hz1
        go_wp2
        exact ⟨⟨lo, mid - 1, rfl, by go_num, by omega, by omega, hg2, HNX⟩, by simp [intOf]; omega⟩
    · obtain rfl : lo = hi := by omega
      have hfin : M / N = lo := by
        refine Nat.div_eq_of_lt_le ?_ ?_
        · rw [Nat.mul_comm]; exact HI.out.1
        · rw [Nat.mul_comm]; exact HI.out.2
      have HF := Lib.hid hfin
      clear hfin
      go_wp2
      go_ret
      exact ⟨by rw [HF.out]; rfl, hg⟩
end Go.Proofs.YteajpefbmiiioaaGreatDoor
namespace Go.Proofs.YteajpefbmiiioaaGreatDoor
open Go.RowKit Mth

set_option maxRecDepth 100000 in
theorem rquo_none (s t : ByteArray) (w : World) (ht : t.size ≤ 1000000000000) (h0 : num t.data.toList = 0) :
    Calls Tryz.prog 27 #[.string s, .string t] w fun e w' => e = .returned (.tuple #[.string ⟨#[]⟩, .string ⟨#[]⟩, .bool false]) ∧ w.grownBy w' none := by
  have hc : (⟨(canon t.data.toList).toArray⟩ : ByteArray) = ⟨#[]⟩ := by
    rw [← enc_num_canon, h0, enc_zero]
  have HC := Lib.hid hc
  clear hc h0
  go_enter Tryz.func27, Tryz.ntmps27
  go_wp2_with fail
  refine (canon_any t _ ht).mono ?_
  rintro e w' ⟨rfl, rfl⟩
  rw [HC.out]
  go_wp2
  go_ret3
  exact ⟨rfl, World.grownBy.refl _ _⟩

theorem canon_enc (t : ByteArray) : (⟨(canon t.data.toList).toArray⟩ : ByteArray) = ⟨(enc (num t.data.toList)).toArray⟩ := by rw [enc_num_canon]
theorem enc_size_pos {n : Nat} (h : 0 < n) : 0 < (⟨(enc n).toArray⟩ : ByteArray).size := by
  show 0 < (enc n).toArray.size
  rcases Nat.eq_zero_or_pos (enc n).length with h1 | h1
  · have := num_enc n
    rw [List.eq_nil_of_length_eq_zero h1] at this
    simp [num] at this; omega
  · simpa using h1
theorem enc_size_le {t : ByteArray} : (⟨(enc (num t.data.toList)).toArray⟩ : ByteArray).size ≤ t.size := by
  rw [enc_num_canon]
  show (canon t.data.toList).toArray.size ≤ _
  have := canon_length_le t.data.toList
  rw [len_toList] at this
  simpa using this

set_option maxHeartbeats 400000 in
set_option maxRecDepth 100000 in
theorem rquo_small (s t : ByteArray) (w : World) (hs : s.size ≤ 1000000000000) (ht : t.size ≤ 1000000000000) (h0 : 0 < num t.data.toList) (h1 : num s.data.toList < 256 ^ 7) (h2 : num t.data.toList < 256 ^ 7) :
    Calls Tryz.prog 27 #[.string s, .string t] w fun e w' => e = .returned (.tuple #[.string ⟨(enc (num s.data.toList / num t.data.toList)).toArray⟩, .string ⟨(enc (num s.data.toList % num t.data.toList)).toArray⟩, .bool true]) ∧ w.grownBy w' none := by
  have hpos := enc_size_pos h0
  have hle := enc_size_le (t := t)
  have HC := Lib.hid (canon_enc t)
  have hnum : num (⟨(enc (num t.data.toList)).toArray⟩ : ByteArray).data.toList = num t.data.toList := by simp [num_enc]
  have H1 := Lib.hid h1
  have H2 := Lib.hid h2
  generalize hm : num s.data.toList = m at h1 H1
  generalize hn : num t.data.toList = n at h2 H2 h0 hpos hle hnum HC
  generalize (⟨(enc n).toArray⟩ : ByteArray) = u at hpos hle hnum HC
  have HM := Lib.hid hm
  have HN := Lib.hid hnum
  obtain ⟨Q, hQ⟩ : ∃ Q, Q = m / n := ⟨_, rfl⟩
  obtain ⟨R, hR⟩ : ∃ R, R = m % n := ⟨_, rfl⟩
  have hq : (m : Int) / (n : Int) = (Q : Int) := by rw [hQ]; simp
  have hr : (m : Int) % (n : Int) = (R : Int) := by rw [hR]; simp
  have hr2 : (m : Int).tmod (n : Int) = (R : Int) := by rw [hR]; rfl
  have hQb : Q ≤ 9223372036854775807 := by
    have : m / n ≤ m := Nat.div_le_self _ _
    omega
  have hRb : R ≤ 9223372036854775807 := by
    have : m % n ≤ m := Nat.mod_le _ _
    omega
  have hnz : ((u.size : Int) == 0) = false := by rw [beq_eq_false_iff_ne]; omega
  have hn0 : ¬ (n : Int) = 0 := by omega
  have hn1 : ¬ n = 0 := by omega
  have hwq : IntKind.i64.wrap (Q : Int) = (Q : Int) := by rw [IntKind.wrap_i64]; omega
  have hwr : IntKind.i64.wrap (R : Int) = (R : Int) := by rw [IntKind.wrap_i64]; omega
  have hmb : m ≤ 72057594037927935 := by omega
  have hnb : n ≤ 72057594037927935 := by omega
  rw [← hQ, ← hR]
  clear h1 h2 hm hn hQ hR hnum
  go_enter Tryz.func27, Tryz.ntmps27
  go_wp2_with fail
  refine (canon_any t _ ht).mono ?_
  rintro e w' ⟨rfl, rfl⟩
  rw [HC.out]
  go_wp2_with fail
  refine (small_yes s 7 (by omega) _ hs (by rw [HM.out]; exact H1.out)).mono ?_
  rintro e w1 ⟨rfl, rfl⟩
  rw [HM.out]
  go_wp2_with fail
  refine (small_yes u 7 (by omega) _ (by omega) (by rw [HN.out]; exact H2.out)).mono ?_
  rintro e w1 ⟨rfl, rfl⟩
  rw [HN.out]
  go_wp2_with fail
  go_region_with (first
    | (go_at_call 25; refine (rof_any _ _ (by first | exact hQb | exact hRb)).mono ?_; rintro e w5 ⟨rfl, h5⟩))
  all_goals
    go_wp2
    go_ret3
    exact ⟨rfl, gr_then (gr_drew w none) (gr_then ‹_› h5)⟩

theorem Ls.keptNe {w w' : World} {a : Option Addr} {m c G : Nat} {l : List Nat} (h : Ls w a m c l) (hg : w.grownBy w' (some G)) (hne : ∀ g, a = some ⟨g, 0, none⟩ → g ≠ G) : Ls w' a m c l := by
  refine ⟨h.len, fun h0 => ?_⟩
  obtain ⟨g, zs, h1, h2, h3⟩ := h.mem h0
  exact ⟨g, zs, h1, h2.kept hg (by have := hne g h1; simpa using this), h3⟩
/-- One number in front of a list. -/
theorem run_prepend {w : World} (t ty : TypeId) (i : TypeInfo) (ht : Tryz.prog.underlying t = some (.slice 3)) (hi : Tryz.prog.info? 3 = some i) (hz : i.zero = some (.int .i64 0)) (hsize : i.size = 1) (hby : i.bytes = 8)
    (x : Nat) (a : Option Addr) (m c : Nat) (l : List Nat) (hl : Ls w a m c l) (h63 : 1 + m ≤ maxLen) (hbytes : (1 + m) * 8 ≤ 140737488355328) :
    ∃ v' w', (Builtin.append_ #[t, t] ty #[.slice (some ⟨w.heap.size, 0, none⟩) 1 1, .slice a m c]).run Tryz.prog (w.alloc (.cells #[.int .i64 (x : Int)] 3)) = .ok v' w' ∧ Acc .i64 3 w w' v' (x :: l) := by
  have hb : Blk .i64 3 (w.alloc (.cells #[.int .i64 (x : Int)] 3)) w.heap.size [x] := heap_alloc_new w _
  have hown : Own .i64 3 (w.alloc (.cells #[.int .i64 (x : Int)] 3)) (.slice (some ⟨w.heap.size, 0, none⟩) 1 1) 1 [x] := .inr ⟨w.heap.size, rfl, hb, Nat.le_refl _, by unfold maxLen; simp⟩
  have hl' := hl.kept (gr_alloc w (.cells #[.int .i64 (x : Int)] 3) none)
  have hlen := hl.len
  rcases Nat.eq_zero_or_pos m with h0 | h0
  · subst h0
    obtain rfl : l = [] := List.eq_nil_of_length_eq_zero hlen.symm
    have hs : Src Tryz.prog i.size t (.slice a 0 c) 0 [] (w.alloc (.cells #[.int .i64 (x : Int)] 3)) := by
      cases a with
      | none => exact Src.ofNil _ ht c
      | some ad => exact Src.ofSlice _ ht ad 0 c [] (by simp) (fun j u h => by simp at h) (fun u h => by cases h)
    exact ⟨_, _, run_append_nothing _ t t ty 3 i ht hi _ 1 1 (Nat.le_refl _) _ hs, ⟨⟨[x], hown, rfl⟩, .inr ⟨_, rfl, Nat.le_refl _⟩, gr_alloc w _ none⟩⟩
  · obtain ⟨g, zs, rfl, hbl, hlz, hmc, hmx, htk⟩ := hl'.mem h0
    obtain ⟨v', w', us, hrun, ho', hg, happ, hblk⟩ := run_append_blk (P := Tryz.prog) .i64 3 t ty i 8 ht hi hz hsize hby _ 1 [x] hown g 0 m c l (fun j hj => by rw [Nat.zero_add]; rw [hbl.cell (by omega), ← htk, gt_take hj]) (by omega) h0 h63 hbytes
    refine ⟨v', w', hrun, ⟨⟨us, by rw [List.length_cons, ← hlen, Nat.add_comm]; exact ho', ?_⟩, ?_, ?_⟩⟩
    · have hlu : 1 + m ≤ us.length := by
        rcases ho' with ⟨_, h0, _⟩ | ⟨_, _, _, h1, _⟩
        · omega
        · exact h1
      apply gt_ext
      · simp; omega
      · intro j hj
        simp at hj
        rw [gt_take (by simp; omega)]
        rcases j with _ | j
        · rw [happ.old 0 (by omega)]; rfl
        · have := happ.new j (by omega)
          rw [Nat.zero_add, Nat.add_comm] at this
          rw [this]; rfl
    · refine .inr ?_
      rcases hblk with e1 | ⟨g', e1, e2⟩
      · exact ⟨w.heap.size, by rw [e1]; rfl, Nat.le_refl _⟩
      · exact ⟨g', e1, by simp at e2; omega⟩
    · exact gr_new (gr_alloc w _ none) hg (Nat.le_refl _)
theorem wpList_prepend {w : World} {ops : Array Oper} {rest : List Oper} {o : Oper} {act : Act} {Q : Exit → Act → World → Prop} (hgd : o.guard = none) (s y : Operand) (t : TypeId)
    (ho : o.op = .call { callee := .builtin .append, args := #[s, y], argTypes := #[t, t] })
    (i : TypeInfo) (ht : Tryz.prog.underlying t = some (.slice 3)) (hi : Tryz.prog.info? 3 = some i) (hz : i.zero = some (.int .i64 0)) (hsize : i.size = 1) (hby : i.bytes = 8)
    (x : Nat) (a : Option Addr) (m c : Nat) (l : List Nat) (hl : Ls w a m c l) (hs : act.eval s = .slice (some ⟨w.heap.size, 0, none⟩) 1 1) (hx : act.eval y = .slice a m c)
    (h63 : 1 + m ≤ maxLen) (hbytes : (1 + m) * 8 ≤ 140737488355328)
    (h : ∀ v' w', Acc .i64 3 w w' v' (x :: l) → wpList Tryz.prog ops Q rest (act.put o.dst v') w') : wpList Tryz.prog ops Q (o :: rest) act (w.alloc (.cells #[.int .i64 (x : Int)] 3)) := by
  refine wpList_plain hgd fun K hK => ?_
  obtain ⟨v', w', hr, h2⟩ := run_prepend t o.type i ht hi hz hsize hby x a m c l hl h63 hbytes
  unfold Oper.wp execOp
  simp only [ho, resolve, invoke, builtin, Sem.run_bind, Sem.run_pure, Result.andThen_ok, List.map_toArray, List.map_cons, List.map_nil, hs, hx, hr]
  exact hK _ _ (h v' w' h2)

set_option maxHeartbeats 8000000 in
set_option maxRecDepth 100000 in
theorem rquo_big (s t : ByteArray) (w : World) (hs : s.size ≤ 1000000000) (ht : t.size ≤ 1000000000) (h0 : 0 < num t.data.toList) (h : 256 ^ 7 ≤ num s.data.toList ∨ 256 ^ 7 ≤ num t.data.toList) :
    Calls Tryz.prog 27 #[.string s, .string t] w fun e w' => e = .returned (.tuple #[.string ⟨(enc (num s.data.toList / num t.data.toList)).toArray⟩, .string ⟨(enc (num s.data.toList % num t.data.toList)).toArray⟩, .bool true]) ∧ w.grownBy w' none := by
  obtain ⟨i0, hi, hz0, hz1, hz2⟩ := info_parts infoI
  have hpos := enc_size_pos h0
  have hle := enc_size_le (t := t)
  have HC := Lib.hid (canon_enc t)
  have hnum : num (⟨(enc (num t.data.toList)).toArray⟩ : ByteArray).data.toList = num t.data.toList := by simp [num_enc]
  have hl1 := dgt_bytes hs
  have hl2 := dgt_bytes ht
  obtain ⟨A, hA⟩ : ∃ A, A = num s.data.toList := ⟨_, rfl⟩
  generalize hB : num t.data.toList = B at h h0 hpos hle hnum HC hl2
  generalize (⟨(enc B).toArray⟩ : ByteArray) = u at hpos hle hnum HC
  have hu : u.size ≤ 1000000000 := by omega
  have hsm : (∃ x p, Calls Tryz.prog 78 #[.string s, .int .i64 7] w (fun e w' => e = .returned (.tuple #[.int .i64 x, .bool p]) ∧ w = w') ∧ (256 ^ 7 ≤ num s.data.toList → p = false)) := by
    rcases Nat.lt_or_ge (num s.data.toList) (256 ^ 7) with h1 | h1
    · exact ⟨_, _, small_yes s 7 (by omega) w (by omega) h1, fun h2 => by omega⟩
    · exact ⟨_, _, small_no s 7 w (by omega) h1, fun _ => rfl⟩
  have htm : (∃ x p, Calls Tryz.prog 78 #[.string u, .int .i64 7] w (fun e w' => e = .returned (.tuple #[.int .i64 x, .bool p]) ∧ w = w') ∧ (256 ^ 7 ≤ B → p = false)) := by
    rcases Nat.lt_or_ge (num u.data.toList) (256 ^ 7) with h1 | h1
    · exact ⟨_, _, small_yes u 7 (by omega) w (by omega) h1, fun h2 => by omega⟩
    · exact ⟨_, _, small_no u 7 w (by omega) h1, fun _ => rfl⟩
  obtain ⟨x, p, hx, hxp⟩ := hsm
  obtain ⟨y, q, hy, hyq⟩ := htm
  have hpq : p = false ∨ q = false := by
    rcases h with h | h
    · exact .inl (hxp h)
    · exact .inr (hyq h)
  have hnz : ((u.size : Int) == 0) = false := by rw [beq_eq_false_iff_ne]; omega
  rw [← hA] at hl1 ⊢
  have HA := Lib.hid hA
  have HB := Lib.hid hnum
  have HX := Lib.hid hx
  have HY := Lib.hid hy
  have H0 := Lib.hid h0
  clear hA hB hnum h h0 hxp hyq hx hy
  go_enter Tryz.func27, Tryz.ntmps27
  go_wp2_with fail
  refine (canon_any t _ (by omega)).mono ?_
  rintro e w' ⟨rfl, rfl⟩
  rw [HC.out]
  go_wp2_with fail
  refine HX.out.mono ?_
  rintro e w1 ⟨rfl, rfl⟩
  go_wp2_with fail
  refine HY.out.mono ?_
  rintro e w1 ⟨rfl, rfl⟩
  rcases (show (p = false) ∨ (p = true ∧ q = false) by cases p <;> simp_all) with rfl | ⟨rfl, rfl⟩
  all_goals clear hpq
  all_goals
    go_wp2_with fail
    refine (rdig_any s _ (by omega)).mono ?_
    rintro e w1 ⟨v1, rfl, hr1, h1⟩
    have hg := h1
    go_wp2_with fail
    refine (rdig_any u _ (by omega)).mono ?_
    rintro e w2 ⟨v2, rfl, hr2, h2⟩
    have hr1 := hr1.kept h2
    have hg := gr_then hg h2
    clear h1 h2
    rw [← HA.out] at hr1
    rw [HB.out] at hr2
    obtain ⟨a1, m1, c1, rfl, hs1⟩ := hr1
    obtain ⟨a2, m2, c2, rfl, hs2⟩ := hr2
    rw [← hs1.len] at hl1
    rw [← hs2.len] at hl2
    have HL1 := Lib.hid hs1.len
    have HL2 := Lib.hid hs2.len
    have HS1 := Lib.hid hs1
    have HS2 := Lib.hid hs2
    clear hs1 hs2
    go_wp2_with (at_make; refine wpList_make_full _ rfl _ _ 86 rfl 0 3 i0 (.int .i64 0) 1 Tryz.underlying86 hi hz0 hz1 .i64 .i64 _ _ m1 rfl rfl ?_ ?_ ?_ ?_ (Nat.zero_le _) ?_)
    case refine_1 => omega
    case refine_2 => omega
    case refine_3 => rw [hz2]; omega
    case refine_4 => unfold maxLen; omega
    intro w3 hown hgr
    have hb0 := blk_made' hown
    have hge := hg.size
    have hl0 : (List.replicate m1 0 : List Nat).length = m1 := List.length_replicate
    have hi0 := QuoInv.start A B
    rw [← HL1.out] at hi0
    generalize (List.replicate m1 0 : List Nat) = z0 at hb0 hl0 hi0
    generalize hG : w2.heap.size = G at hb0 hge
    have HG := Lib.hid hG
    have HI0 := Lib.hid hi0
    have hgr0 := gr_then (r := some G) hgr (World.grownBy.refl w3 (some G))
    have hstart : Ls w3 none 0 0 (dgt (A / D24 ^ m1 % B)) := by
      have e1 : A / D24 ^ m1 = 0 := Nat.div_eq_of_lt (by rw [HL1.out]; exact dgt_lt A)
      rw [e1, Nat.zero_mod, dgt_zero]
      exact ⟨rfl, fun h => by omega⟩
    have HST := Lib.hid hstart
    clear hown hG hi0 hstart
    go_wp2
    go_loopw [14, 15] (fun rv kv wr => ∃ (k : Nat) (zs : List Nat) (ar : Option Addr) (mr cr : Nat), k ≤ m1 ∧ kv = .int .i64 ((k : Int) - 1) ∧ rv = .slice ar mr cr ∧ Ls wr ar mr cr (dgt (A / D24 ^ k % B)) ∧ (∀ g, ar = some ⟨g, 0, none⟩ → g ≠ G) ∧ Blk .i64 3 wr G zs ∧ zs.length = m1 ∧ w2.grownBy wr (some G) ∧ Hid (QuoInv A B k zs)) (fun _ kv _ => (intOf kv + 1).toNat)
    case atStart => exact ⟨m1, z0, none, 0, 0, Nat.le_refl _, rfl, rfl, HST.out, (fun g h => by cases h), hb0, hl0, hgr0, HI0⟩
    case round =>
      obtain ⟨k, zs, ar, mr, cr, hk, rfl, rfl, hlsr, hfr, hbz, hlz, hgr, HINV⟩ := hrel
      rcases k with _ | k
      · have hinv := HINV.out.last
        have hls : Ls wr (some ⟨G, 0, none⟩) m1 m1 zs := ⟨hlz.symm, fun _ => ⟨G, zs, rfl, hbz, hlz, Nat.le_refl _, by unfold maxLen; omega, by rw [← hlz, List.take_length]⟩⟩
        rw [Nat.pow_zero, Nat.div_one] at hlsr
        have hmr : mr ≤ 100000000000 := by
          have e1 := hlsr.len
          have e2 := dgt_inj_len (Nat.le_of_lt (Nat.mod_lt A H0.out))
          have e3 := HL2.out
          omega
        have HLS := Lib.hid hls
        have HLR := Lib.hid hlsr
        have HV := Lib.hid hinv
        have HGR := Lib.hid (gr_new hg hgr hge)
        clear hinv hls hlsr hbz hlz
        go_wp2_with fail
        refine (rnumber_any _ _ _ zs _ HLS.out HV.out.1 (by omega)).mono ?_
        rintro e w5 ⟨rfl, h5⟩
        rw [HV.out.2]
        go_wp2_with fail
        refine (rnumber_any _ _ _ _ _ (HLR.out.kept h5) (dg_dgt _) hmr).mono ?_
        rintro e w6 ⟨rfl, h6⟩
        rw [val_dgt]
        go_wp2
        go_ret3
        exact ⟨rfl, gr_then (gr_then HGR.out h5) h6⟩
      · rw [show (((k + 1 : Nat) : Int) - 1) = (k : Int) from by omega]
        have hkm : k < m1 := by omega
        obtain ⟨g1, rfl, hmc1, hmx1, hcell1⟩ := (HS1.out.keptG hgr (by rw [HG.out]; exact Nat.le_refl _)).at_ hkm
        rw [Nat.zero_add] at hcell1
        have hX := dg_dgt A k
        obtain ⟨q1, q2, q3⟩ := quo_digit (A := A) (k := k) H0.out
        have hRl : (dgt (A / D24 ^ (k + 1) % B)).length ≤ m2 := by
          have e2 := dgt_inj_len (Nat.le_of_lt (Nat.mod_lt (A / D24 ^ (k + 1)) H0.out))
          rw [HL2.out]; exact e2
        have hmr : mr ≤ m2 := by rw [hlsr.len]; exact hRl
        have hcd := HINV.out
        generalize gt (dgt A) k = X at hcell1 hX q1 q2 q3
        generalize A / D24 ^ (k + 1) % B = R at hlsr q1 q2 q3 hRl
        obtain ⟨V, hV⟩ : ∃ V, V = X + D24 * R := ⟨_, rfl⟩
        rw [← hV] at q1 q2 q3
        have HV := Lib.hid hV
        have HX := Lib.hid hX
        have Q1 := Lib.hid q1
        have Q2 := Lib.hid q2
        have Q3 := Lib.hid q3
        have HQI := Lib.hid hcd
        have HLSR := Lib.hid hlsr
        have hGlt := hbz.lt
        clear hV hX q1 q2 q3 hcd hlsr hRl
        go_wp2_with (at_builtin; refine wpList_prepend rfl (.tmp 61) (.tmp 62) 86 rfl i0 Tryz.underlying86 hi hz0 hz1 hz2 X ar mr cr _ HLSR.out rfl rfl ?_ ?_ ?_)
        case refine_1 => unfold maxLen; omega
        case refine_2 => omega
        intro v' w4 hacc
        obtain ⟨a3, m3, c3, rfl, hls3, hfr3⟩ := hacc.lsf
        have HG4 := Lib.hid hacc.gr
        have HLS3 := Lib.hid hls3
        have hm3 : m3 ≤ mr + 1 := by rw [hls3.len, List.length_cons, ← HLSR.out.len]; exact Nat.le_refl _
        clear hacc hls3
        go_wp2_with fail
        refine (rtrim_any a3 m3 c3 _ _ HLS3.out (dg_consD HX.out)).mono ?_
        rintro e w5 ⟨k3, rfl, hls4, hk3, rfl⟩
        rw [val_consD, ← HV.out] at hls4
        have HLS4 := Lib.hid hls4
        have hg4 := gr_trans (r := some G) hgr HG4.out (.inr rfl) (.inl rfl)
        have hbz4 := hbz.kept HG4.out (by simp)
        clear hls4
        go_wp2_with fail
        refine (rcmp_any a3 k3 c3 V a2 m2 c2 B _ HLS4.out (HS2.out.keptG hg4 (by rw [HG.out]; exact Nat.le_refl _)) (by omega) (by omega)).mono ?_
        rintro e w6 ⟨z, rfl, _, hz, h6⟩
        have hg6 := gr_trans (r := some G) hg4 h6 (.inr rfl) (.inl rfl)
        have hbz6 := hbz4.kept h6 (by simp)
        have HLS6 := Lib.hid (HLS4.out.kept h6)
        by_cases hz0' : 0 ≤ z
        · have hBV := hz.1 hz0'
          have HBV := Lib.hid hBV
          clear hz hBV
          go_wp2_with fail
          refine (rdigit_any a3 k3 c3 V a2 m2 c2 B _ HLS6.out (HS2.out.keptG hg6 (by rw [HG.out]; exact Nat.le_refl _)) H0.out Q3.out (by omega) (by omega)).mono ?_
          rintro e w7 ⟨rfl, h7⟩
          have hg7 := gr_trans (r := some G) hg6 h7 (.inr rfl) (.inl rfl)
          have hbz7 := hbz6.kept h7 (by simp)
          have HLS7 := Lib.hid (HLS6.out.kept h7)
          obtain ⟨dq, hdq⟩ : ∃ dq, dq = V / B := ⟨_, rfl⟩
          have hdq24 : dq < D24 := by rw [hdq]; exact Nat.div_lt_of_lt_mul Q3.out
          rw [← hdq]
          have HDQ := Lib.hid hdq
          have hold : w7.cell? ⟨G, k, none⟩ = some (.int .i64 ((gt zs k : Nat) : Int)) := hbz7.cell (by omega)
          have hfrz := hbz7.frozen k
          have hb8 := hbz7.set k dq
          have hg8 := gr_set w7 G k (.int .i64 (dq : Int))
          have hc8 : (w7.setCell ⟨G, k, none⟩ (.int .i64 (dq : Int))).cell? ⟨G, k, none⟩ = some (.int .i64 (dq : Int)) := by
            have := hb8.cell (i := k) (by simp; omega)
            rwa [gt_set (by omega), if_pos rfl] at this
          have hne3 : ∀ g, a3 = some ⟨g, 0, none⟩ → g ≠ G := fun g e => by have := hfr3 g e; omega
          have HLS8 := Lib.hid (HLS7.out.keptNe hg8 hne3)
          have hg9 := gr_trans (r := some G) hg7 hg8 (.inr rfl) (.inr (.inl rfl))
          have HLEN8 := Lib.hid (show (zs.set k dq).length = m1 by rw [List.length_set]; exact hlz)
          clear hdq
          go_wp2_with fail
          refine (rtimes_any a2 m2 c2 B dq _ (HS2.out.keptG hg9 (by rw [HG.out]; exact Nat.le_refl _)) hdq24 (by omega)).mono ?_
          rintro e w10 ⟨v10, rfl, hr10, h10⟩
          obtain ⟨a5, m5, c5, rfl, hs5⟩ := hr10
          have HLS10 := Lib.hid (HLS8.out.kept h10)
          have hg10 := gr_trans (r := some G) hg9 h10 (.inr rfl) (.inl rfl)
          have hb10 := hb8.kept h10 (by simp)
          have hBq : B * dq ≤ V := by rw [HDQ.out]; exact Nat.mul_div_le V B
          go_wp2_with fail
          refine (rminus_any a3 k3 c3 V a5 m5 c5 (B * dq) _ HLS10.out hs5 hBq (by omega)).mono ?_
          rintro e w11 ⟨a6, m6, c6, rfl, hs6, hfr6, h11⟩
          have hV6 : V - B * dq = A / D24 ^ k % B := by
            rw [Q2.out, HDQ.out]
            have := Nat.div_add_mod V B
            omega
          rw [hV6] at hs6
          have hg11 := gr_trans (r := some G) hg10 h11 (.inr rfl) (.inl rfl)
          have hb11 := hb10.kept h11 (by simp)
          have hQN := HQI.out.next (by rw [← HL1.out]; exact hkm)
          rw [Q1.out, ← HDQ.out] at hQN
          have HQN := Lib.hid hQN
          have hG10 := hb10.lt
          clear hQN hV6
          go_wp2
          exact ⟨⟨k, zs.set k dq, a6, m6, c6, by omega, rfl, rfl, hs6, (fun g e => by have := hfr6 g e; omega), hb11, HLEN8.out, hg11, HQN⟩, by simp [intOf]⟩
        · have hVB : V < B := by have := mt hz.2 hz0'; omega
          have hQN := HQI.out.skip (by rw [Q1.out]; exact Nat.div_eq_of_lt hVB)
          have HQN := Lib.hid hQN
          have hls7 := HLS6.out
          have hV6 : V = A / D24 ^ k % B := by rw [Q2.out, Nat.mod_eq_of_lt hVB]
          rw [hV6] at hls7
          clear hz hQN hVB hV6
          go_wp2
          exact ⟨⟨k, zs, a3, k3, c3, by omega, rfl, rfl, hls7, (fun g e => by have := hfr3 g e; omega), hbz6, hlz, hg6, HQN⟩, by simp [intOf]⟩
end Go.Proofs.YteajpefbmiiioaaGreatDoor
