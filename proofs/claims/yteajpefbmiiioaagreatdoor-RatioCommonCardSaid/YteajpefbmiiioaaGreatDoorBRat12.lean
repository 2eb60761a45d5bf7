/- Contracts of the program and of the reference, part 12: RefA, RefP, Rb, Rg, Rf. -/
import Derived.Test.YteajpefbmiiioaaGreatDoorBRat11
namespace Go.Proofs.YteajpefbmiiioaaGreatDoor
open Go.RowKit Mth

theorem s_rquo (s t : ByteArray) (m n : Nat) (w : World) (hm : num s.data.toList = m) (hn : num t.data.toList = n) (h0 : 0 < n) (h1 : s.size ≤ 1000000000) (h2 : t.size ≤ 1000000000) : Gives 27 #[.string s, .string t] w (.tuple #[.string (S (m / n)), .string (S (m % n)), .bool true]) := by
  subst hm hn
  by_cases h : num s.data.toList < 256 ^ 7 ∧ num t.data.toList < 256 ^ 7
  · exact rquo_small s t w (by omega) (by omega) h0 h.1 h.2
  · exact rquo_big s t w h1 h2 h0 (by omega)
theorem s_rquo0 (s t : ByteArray) (w : World) (hn : num t.data.toList = 0) (h2 : t.size ≤ 1000000000) : Gives 27 #[.string s, .string t] w (.tuple #[.string ⟨#[]⟩, .string ⟨#[]⟩, .bool false]) := rquo_none s t w (by omega) hn
theorem s_rmul (s t : ByteArray) (m n : Nat) (w : World) (hm : num s.data.toList = m) (hn : num t.data.toList = n) (h1 : s.size ≤ 10000000000) (h2 : t.size ≤ 10000000000) : Gives 24 #[.string s, .string t] w (.string (S (m * n))) := by
  subst hm hn; exact rmul_any s t w h1 h2

set_option maxRecDepth 100000 in
theorem radd_small (s t : ByteArray) (w : World) (hs : s.size ≤ 1000000000000) (ht : t.size ≤ 1000000000000) (h1 : num s.data.toList < 256 ^ 7) (h2 : num t.data.toList < 256 ^ 7) :
    Calls Tryz.prog 19 #[.string s, .string t] w fun e w' => e = .returned (.string ⟨(enc (num s.data.toList + num t.data.toList)).toArray⟩) ∧ w.grownBy w' none := by
  have H1 := Lib.hid h1
  have H2 := Lib.hid h2
  generalize hm : num s.data.toList = m at h1 H1
  generalize hn : num t.data.toList = n at h2 H2
  have HM := Lib.hid hm
  have HN := Lib.hid hn
  obtain ⟨p, hp⟩ : ∃ p, p = m + n := ⟨_, rfl⟩
  have hc : (m : Int) + (n : Int) = (p : Int) := by omega
  have hpb : p ≤ 9223372036854775807 := by omega
  have hmb : m ≤ 72057594037927935 := by omega
  have hnb : n ≤ 72057594037927935 := by omega
  rw [← hp]
  clear h1 h2 hm hn hp
  go_enter Tryz.func19, Tryz.ntmps19
  go_wp2_with fail
  refine (small_yes s 7 (by omega) _ hs (by rw [HM.out]; exact H1.out)).mono ?_
  rintro e w1 ⟨rfl, rfl⟩
  rw [HM.out]
  go_wp2_with fail
  refine (small_yes t 7 (by omega) _ ht (by rw [HN.out]; exact H2.out)).mono ?_
  rintro e w1 ⟨rfl, rfl⟩
  rw [HN.out]
  go_wp2_with fail
  refine (rof_any p _ hpb).mono ?_
  rintro e w1 ⟨rfl, h3⟩
  go_wp2
  go_ret
  exact ⟨rfl, h3⟩

set_option maxHeartbeats 8000000 in
set_option maxRecDepth 100000 in
theorem radd_big (s t : ByteArray) (w : World) (hs : s.size ≤ 1000000000) (ht : t.size ≤ 1000000000) (h : 256 ^ 7 ≤ num s.data.toList ∨ 256 ^ 7 ≤ num t.data.toList) :
    Calls Tryz.prog 19 #[.string s, .string t] w fun e w' => e = .returned (.string ⟨(enc (num s.data.toList + num t.data.toList)).toArray⟩) ∧ w.grownBy w' none := by
  obtain ⟨i0, hi, hz0, hz1, hz2⟩ := info_parts infoI
  have hl1 := dgt_bytes hs
  have hl2 := dgt_bytes ht
  obtain ⟨M, hM⟩ : ∃ M, M = num s.data.toList := ⟨_, rfl⟩
  obtain ⟨N, hN⟩ : ∃ N, N = num t.data.toList := ⟨_, rfl⟩
  have hsm : (∃ x p, Calls Tryz.prog 78 #[.string s, .int .i64 7] w (fun e w' => e = .returned (.tuple #[.int .i64 x, .bool p]) ∧ w = w') ∧ (256 ^ 7 ≤ num s.data.toList → p = false)) := by
    rcases Nat.lt_or_ge (num s.data.toList) (256 ^ 7) with h1 | h1
    · exact ⟨_, _, small_yes s 7 (by omega) w (by omega) h1, fun h2 => by omega⟩
    · exact ⟨_, _, small_no s 7 w (by omega) h1, fun _ => rfl⟩
  have htm : (∃ x p, Calls Tryz.prog 78 #[.string t, .int .i64 7] w (fun e w' => e = .returned (.tuple #[.int .i64 x, .bool p]) ∧ w = w') ∧ (256 ^ 7 ≤ num t.data.toList → p = false)) := by
    rcases Nat.lt_or_ge (num t.data.toList) (256 ^ 7) with h1 | h1
    · exact ⟨_, _, small_yes t 7 (by omega) w (by omega) h1, fun h2 => by omega⟩
    · exact ⟨_, _, small_no t 7 w (by omega) h1, fun _ => rfl⟩
  obtain ⟨x, p, hx, hxp⟩ := hsm
  obtain ⟨y, q, hy, hyq⟩ := htm
  have hpq : p = false ∨ q = false := by
    rcases h with h | h
    · exact .inl (hxp h)
    · exact .inr (hyq h)
  rw [← hM] at hl1 ⊢
  rw [← hN] at hl2 ⊢
  have HM := Lib.hid hM
  have HN := Lib.hid hN
  have HX := Lib.hid hx
  have HY := Lib.hid hy
  clear hM hN h hxp hyq hx hy
  go_enter Tryz.func19, Tryz.ntmps19
  go_wp2_with fail
  refine HX.out.mono ?_
  rintro e w1 ⟨rfl, rfl⟩
  go_wp2_with fail
  refine HY.out.mono ?_
  rintro e w1 ⟨rfl, rfl⟩
  rcases (show (p = false) ∨ (p = true ∧ q = false) by cases p <;> simp_all) with rfl | ⟨rfl, rfl⟩
  all_goals clear hpq
  all_goals
    go_wp2_with fail
    refine (rdig_any s _ (by omega)).mono ?_
    rintro e w1 ⟨v1, rfl, hr1, h1⟩
    have hg := h1
    go_wp2_with fail
    refine (rdig_any t _ (by omega)).mono ?_
    rintro e w2 ⟨v2, rfl, hr2, h2⟩
    have hr1 := hr1.kept h2
    have hg := gr_then hg h2
    clear h1 h2
    rw [← HM.out] at hr1
    rw [← HN.out] at hr2
    obtain ⟨a1, m1, c1, rfl, hs1⟩ := hr1
    obtain ⟨a2, m2, c2, rfl, hs2⟩ := hr2
    rw [← hs1.len] at hl1
    rw [← hs2.len] at hl2
    have HL1 := Lib.hid hs1.len
    have HL2 := Lib.hid hs2.len
    have H1 := Lib.hid hs1
    have H2 := Lib.hid hs2
    have hd1 := dg_dgt M
    have hd2 := dg_dgt N
    have HT0 := Lib.hid (Mth.AddInv.zero (dgt M) (dgt N))
    have HG := Lib.hid hg
    obtain ⟨mx, hx1, hx2, hx3, hx4⟩ : ∃ mx, m1 ≤ mx ∧ m2 ≤ mx ∧ mx ≤ 1000000000 ∧ (mx ≤ m1 ∨ mx ≤ m2) := ⟨max m1 m2, by omega, by omega, by omega, by omega⟩
    have HX4 := Lib.hid hx4
    clear hs1 hs2 hx4
    go_wp2
    go_loopw [11, 12, 13] (fun o cv kv wr => ∃ (k cc : Nat) (l : List Nat), (k ≤ mx ∨ (k = mx + 1 ∧ cc = 0)) ∧ kv = .int .i64 k ∧ cv = .int .i64 cc ∧ Acc .i64 3 w2 wr o l ∧ Hid (Mth.AddInv (dgt M) (dgt N) k l cc)) (fun _ _ kv _ => mx + 1 - (intOf kv).toNat)
    case atStart => exact ⟨0, 0, [], .inl (Nat.zero_le _), rfl, rfl, .nil _ _ _, HT0⟩
    case round =>
      obtain ⟨k, cc, l, hkm, rfl, rfl, hacc, HT⟩ := hrel
      have hcc := HT.out.2.2.1
      have hll : l.length = k := HT.out.1
      have HLL := Lib.hid hll
      clear hll
      by_cases hu : k < m1
      · by_cases hv : k < m2
        · skip
          have hnx := HT.out.next hd1 hd2
          obtain ⟨g1, rfl, hmc1, hmx1, hcell1⟩ := (H1.out.kept hacc.gr).at_ hu
          rw [Nat.zero_add] at hcell1
          have hx := hd1 k
          generalize gt (dgt M) k = X at hcell1 hx hnx
          rw [D24_eq] at hx
          obtain ⟨g2, rfl, hmc2, hmx2, hcell2⟩ := (H2.out.kept hacc.gr).at_ hv
          rw [Nat.zero_add] at hcell2
          have hy := hd2 k
          generalize gt (dgt N) k = Y at hcell2 hy hnx
          rw [D24_eq] at hy
          obtain ⟨lo, hlo⟩ : ∃ lo, lo = (cc + X + Y) % D24 := ⟨_, rfl⟩
          obtain ⟨hi', hhi⟩ : ∃ hi', hi' = (cc + X + Y) / D24 := ⟨_, rfl⟩
          rw [← hlo, ← hhi] at hnx
          have HR := Lib.hid (show (((cc : Int) + (X : Int) + (Y : Int)) % 16777216) = (lo : Int) by rw [hlo, D24_eq]; omega)
          have HQ := Lib.hid (show (((cc : Int) + (X : Int) + (Y : Int)) / 16777216) = (hi' : Int) by rw [hhi, D24_eq]; omega)
          have HK := Lib.hid (show k + 1 ≤ mx ∨ (k + 1 = mx + 1 ∧ hi' = 0) by omega)
          have hkb : k ≤ mx := by omega
          have HNX := Lib.hid hnx
          clear hnx hlo hhi hkm
          go_wp2_with (at_builtin; rw [HR.out]; refine wpList_acc rfl (.tmp 74) (.tmp 77) 86 rfl .i64 3 i0 8 Tryz.underlying86 hi hz0 hz1 hz2 _ l [lo] hacc rfl rfl (by simp) ?_ ?_ ?_)
          case refine_1 => rw [HLL.out]; show k + 1 ≤ maxLen; unfold maxLen; omega
          case refine_2 => rw [HLL.out]; show (k + 1) * 8 ≤ _; omega
          intro v' w' hacc'
          clear hacc hi hz0 hz1 hz2
          go_wp2
          exact ⟨⟨k + 1, hi', l ++ [lo], HK.out, by go_num, by rw [HQ.out], hacc', HNX⟩, by simp [intOf]; omega⟩
        · skip
          have hnx := HT.out.next hd1 hd2
          obtain ⟨g1, rfl, hmc1, hmx1, hcell1⟩ := (H1.out.kept hacc.gr).at_ hu
          rw [Nat.zero_add] at hcell1
          have hx := hd1 k
          generalize gt (dgt M) k = X at hcell1 hx hnx
          rw [D24_eq] at hx
          have hy0 : gt (dgt N) k = 0 := gt_of_ge (by have := HL2.out; omega)
          rw [hy0] at hnx
          simp only [Nat.add_zero] at hnx
          clear hy0
          obtain ⟨lo, hlo⟩ : ∃ lo, lo = (cc + X) % D24 := ⟨_, rfl⟩
          obtain ⟨hi', hhi⟩ : ∃ hi', hi' = (cc + X) / D24 := ⟨_, rfl⟩
          rw [← hlo, ← hhi] at hnx
          have HR := Lib.hid (show (((cc : Int) + (X : Int)) % 16777216) = (lo : Int) by rw [hlo, D24_eq]; omega)
          have HQ := Lib.hid (show (((cc : Int) + (X : Int)) / 16777216) = (hi' : Int) by rw [hhi, D24_eq]; omega)
          have HK := Lib.hid (show k + 1 ≤ mx ∨ (k + 1 = mx + 1 ∧ hi' = 0) by omega)
          have hkb : k ≤ mx := by omega
          have HNX := Lib.hid hnx
          clear hnx hlo hhi hkm
          go_wp2_with (at_builtin; rw [HR.out]; refine wpList_acc rfl (.tmp 74) (.tmp 77) 86 rfl .i64 3 i0 8 Tryz.underlying86 hi hz0 hz1 hz2 _ l [lo] hacc rfl rfl (by simp) ?_ ?_ ?_)
          case refine_1 => rw [HLL.out]; show k + 1 ≤ maxLen; unfold maxLen; omega
          case refine_2 => rw [HLL.out]; show (k + 1) * 8 ≤ _; omega
          intro v' w' hacc'
          clear hacc hi hz0 hz1 hz2
          go_wp2
          exact ⟨⟨k + 1, hi', l ++ [lo], HK.out, by go_num, by rw [HQ.out], hacc', HNX⟩, by simp [intOf]; omega⟩
      · by_cases hv : k < m2
        · skip
          have hnx := HT.out.next hd1 hd2
          have hx0 : gt (dgt M) k = 0 := gt_of_ge (by have := HL1.out; omega)
          rw [hx0] at hnx
          simp only [Nat.add_zero] at hnx
          clear hx0
          obtain ⟨g2, rfl, hmc2, hmx2, hcell2⟩ := (H2.out.kept hacc.gr).at_ hv
          rw [Nat.zero_add] at hcell2
          have hy := hd2 k
          generalize gt (dgt N) k = Y at hcell2 hy hnx
          rw [D24_eq] at hy
          obtain ⟨lo, hlo⟩ : ∃ lo, lo = (cc + Y) % D24 := ⟨_, rfl⟩
          obtain ⟨hi', hhi⟩ : ∃ hi', hi' = (cc + Y) / D24 := ⟨_, rfl⟩
          rw [← hlo, ← hhi] at hnx
          have HR := Lib.hid (show (((cc : Int) + (Y : Int)) % 16777216) = (lo : Int) by rw [hlo, D24_eq]; omega)
          have HQ := Lib.hid (show (((cc : Int) + (Y : Int)) / 16777216) = (hi' : Int) by rw [hhi, D24_eq]; omega)
          have HK := Lib.hid (show k + 1 ≤ mx ∨ (k + 1 = mx + 1 ∧ hi' = 0) by omega)
          have hkb : k ≤ mx := by omega
          have HNX := Lib.hid hnx
          clear hnx hlo hhi hkm
          go_wp2_with (at_builtin; rw [HR.out]; refine wpList_acc rfl (.tmp 74) (.tmp 77) 86 rfl .i64 3 i0 8 Tryz.underlying86 hi hz0 hz1 hz2 _ l [lo] hacc rfl rfl (by simp) ?_ ?_ ?_)
          case refine_1 => rw [HLL.out]; show k + 1 ≤ maxLen; unfold maxLen; omega
          case refine_2 => rw [HLL.out]; show (k + 1) * 8 ≤ _; omega
          intro v' w' hacc'
          clear hacc hi hz0 hz1 hz2
          go_wp2
          exact ⟨⟨k + 1, hi', l ++ [lo], HK.out, by go_num, by rw [HQ.out], hacc', HNX⟩, by simp [intOf]; omega⟩
        · by_cases hc0 : 0 < cc
          · skip
            have hnx := HT.out.next hd1 hd2
            have hx0 : gt (dgt M) k = 0 := gt_of_ge (by have := HL1.out; omega)
            rw [hx0] at hnx
            simp only [Nat.add_zero] at hnx
            clear hx0
            have hy0 : gt (dgt N) k = 0 := gt_of_ge (by have := HL2.out; omega)
            rw [hy0] at hnx
            simp only [Nat.add_zero] at hnx
            clear hy0
            obtain ⟨lo, hlo⟩ : ∃ lo, lo = (cc) % D24 := ⟨_, rfl⟩
            obtain ⟨hi', hhi⟩ : ∃ hi', hi' = (cc) / D24 := ⟨_, rfl⟩
            rw [← hlo, ← hhi] at hnx
            have HR := Lib.hid (show (((cc : Int)) % 16777216) = (lo : Int) by rw [hlo, D24_eq]; omega)
            have HQ := Lib.hid (show (((cc : Int)) / 16777216) = (hi' : Int) by rw [hhi, D24_eq]; omega)
            have HK := Lib.hid (show k + 1 ≤ mx ∨ (k + 1 = mx + 1 ∧ hi' = 0) by right; refine ⟨by have := HX4.out; omega, ?_⟩; rw [hhi, D24_eq]; omega)
            have hkb : k ≤ mx := by omega
            have HNX := Lib.hid hnx
            clear hnx hlo hhi hkm
            go_wp2_with (at_builtin; rw [HR.out]; refine wpList_acc rfl (.tmp 74) (.tmp 77) 86 rfl .i64 3 i0 8 Tryz.underlying86 hi hz0 hz1 hz2 _ l [lo] hacc rfl rfl (by simp) ?_ ?_ ?_)
            case refine_1 => rw [HLL.out]; show k + 1 ≤ maxLen; unfold maxLen; omega
            case refine_2 => rw [HLL.out]; show (k + 1) * 8 ≤ _; omega
            intro v' w' hacc'
            clear hacc hi hz0 hz1 hz2
            go_wp2
            exact ⟨⟨k + 1, hi', l ++ [lo], HK.out, by go_num, by rw [HQ.out], hacc', HNX⟩, by simp [intOf]; omega⟩
          · obtain rfl : cc = 0 := by omega
            have hlast := HT.out.last (by rw [← HL1.out]; omega) (by rw [← HL2.out]; omega)
            obtain ⟨a', m', c', rfl, hls⟩ := hacc.ls
            have HG' := Lib.hid (gr_then HG.out hacc.gr)
            have hm' : m' ≤ 100000000000 := by rw [hls.len, HLL.out]; omega
            have HLS := Lib.hid hls
            have HLAST := Lib.hid hlast
            clear hls hacc hlast hi hz0 hz1 hz2
            go_wp2_with fail
            refine (rnumber_any _ _ _ _ _ HLS.out HLAST.out.1 hm').mono ?_
            rintro e w5 ⟨rfl, h5⟩
            rw [HLAST.out.2]
            go_wp2
            go_ret
            exact ⟨rfl, gr_then HG'.out h5⟩

theorem s_radd (s t : ByteArray) (m n : Nat) (w : World) (hm : num s.data.toList = m) (hn : num t.data.toList = n) (h1 : s.size ≤ 1000000000) (h2 : t.size ≤ 1000000000) : Gives 19 #[.string s, .string t] w (.string (S (m + n))) := by
  subst hm hn
  by_cases h : num s.data.toList < 256 ^ 7 ∧ num t.data.toList < 256 ^ 7
  · exact radd_small s t w (by omega) (by omega) h.1 h.2
  · exact radd_big s t w h1 h2 (by omega)

set_option maxHeartbeats 2000000 in
set_option maxRecDepth 100000 in
theorem s_rcmp (s t : ByteArray) (m n : Nat) (w : World) (hm : num s.data.toList = m) (hn : num t.data.toList = n) (h1 : s.size ≤ 1000000000) (h2 : t.size ≤ 1000000000) : Gives 21 #[.string s, .string t] w (.int .i64 (cmpN m n)) := by
  subst hm hn
  have hn1 : num (bytesOf s).data.toList = num s.data.toList := num_canon _
  have hn2 : num (bytesOf t).data.toList = num t.data.toList := num_canon _
  have hr1 : Rt (bytesOf s).data.toList := rt_canon _
  have hr2 : Rt (bytesOf t).data.toList := rt_canon _
  rw [← hn1, ← hn2]
  generalize h1' : (bytesOf s) = a at hn1 hr1
  generalize h2' : (bytesOf t) = b at hn2 hr2
  have H1 := Lib.hid h1'
  have H2 := Lib.hid h2'
  have hl : (a.size < b.size ∧ cmpN (num a.data.toList) (num b.data.toList) = -1) ∨ (b.size < a.size ∧ cmpN (num a.data.toList) (num b.data.toList) = 1) ∨ (a.size = b.size ∧ num a.data.toList < num b.data.toList) ∨ (a.size = b.size ∧ num a.data.toList = num b.data.toList) ∨ (a.size = b.size ∧ num b.data.toList < num a.data.toList) := by
    rcases Nat.lt_trichotomy a.size b.size with h | h | h
    · have h3 := num_lt_of_len hr2 h
      exact .inl ⟨h, by unfold cmpN; rw [if_pos h3]⟩
    · rcases Nat.lt_trichotomy (num a.data.toList) (num b.data.toList) with h3 | h3 | h3
      · exact .inr (.inr (.inl ⟨h, h3⟩))
      · exact .inr (.inr (.inr (.inl ⟨h, h3⟩)))
      · exact .inr (.inr (.inr (.inr ⟨h, h3⟩)))
    · have h3 := num_lt_of_len hr1 h
      exact .inr (.inl ⟨h, by unfold cmpN; rw [if_neg (by omega), if_pos h3]⟩)
  clear h1' h2' hn1 hn2 hr1 hr2
  go_enter Tryz.func21, Tryz.ntmps21
  go_wp2_with fail
  refine (canon_any s _ (by omega)).mono ?_
  rintro e w' ⟨rfl, rfl⟩
  rw [show (⟨(canon s.data.toList).toArray⟩ : ByteArray) = a from H1.out]
  go_wp2_with fail
  refine (canon_any t _ (by omega)).mono ?_
  rintro e w' ⟨rfl, rfl⟩
  rw [show (⟨(canon t.data.toList).toArray⟩ : ByteArray) = b from H2.out]
  rcases hl with ⟨hl, hc⟩ | ⟨hl, hc⟩ | ⟨hl, hc⟩ | ⟨hl, hc⟩ | ⟨hl, hc⟩
  · have hb : ((a.size : Int) != (b.size : Int)) = true := by rw [bne_iff_ne]; omega
    have HC := Lib.hid hc
    clear hc
    go_wp2
    go_ret
    exact ⟨by rw [HC.out]; rfl, World.grownBy.refl _ _⟩
  · have hb : ((a.size : Int) != (b.size : Int)) = true := by rw [bne_iff_ne]; omega
    have HC := Lib.hid hc
    clear hc
    go_wp2
    go_ret
    exact ⟨by rw [HC.out]; rfl, World.grownBy.refl _ _⟩
  · have hb : ((a.size : Int) != (b.size : Int)) = false := by rw [bne_eq_false_iff_eq, hl]
    have hlt : Op.bytesLess a.toList b.toList = true := by rw [Lib.toList_data, Lib.toList_data, bytesLess_num _ _ (by rw [len_toList, len_toList, hl])]; exact decide_eq_true hc
    have HC := Lib.hid (show cmpN (num a.data.toList) (num b.data.toList) = -1 by unfold cmpN; rw [if_pos hc])
    clear hc hl
    go_wp2
    go_ret
    exact ⟨by rw [HC.out]; rfl, World.grownBy.refl _ _⟩
  · have hb : ((a.size : Int) != (b.size : Int)) = false := by rw [bne_eq_false_iff_eq, hl]
    have hlt : Op.bytesLess a.toList b.toList = false := by rw [Lib.toList_data, Lib.toList_data, bytesLess_num _ _ (by rw [len_toList, len_toList, hl])]; exact decide_eq_false (by omega)
    have hgt : (a.toList == b.toList) = true := by rw [Lib.toList_data, Lib.toList_data, num_inj_len (by rw [len_toList, len_toList, hl]) hc]; simp
    have HC := Lib.hid (show cmpN (num a.data.toList) (num b.data.toList) = 0 by unfold cmpN; rw [if_neg (by omega), if_neg (by omega)])
    clear hc hl
    go_wp2
    go_ret
    exact ⟨by rw [HC.out]; rfl, World.grownBy.refl _ _⟩
  · have hb : ((a.size : Int) != (b.size : Int)) = false := by rw [bne_eq_false_iff_eq, hl]
    have hlt : Op.bytesLess a.toList b.toList = false := by rw [Lib.toList_data, Lib.toList_data, bytesLess_num _ _ (by rw [len_toList, len_toList, hl])]; exact decide_eq_false (by omega)
    have hgt : (a.toList == b.toList) = false := by
      rw [beq_eq_false_iff_ne, Lib.toList_data, Lib.toList_data]
      intro e
      rw [e] at hc
      omega
    have HC := Lib.hid (show cmpN (num a.data.toList) (num b.data.toList) = 1 by unfold cmpN; rw [if_neg (by omega), if_pos hc])
    clear hc hl
    go_wp2
    go_ret
    exact ⟨by rw [HC.out]; rfl, World.grownBy.refl _ _⟩

set_option maxHeartbeats 2000000 in
set_option maxRecDepth 100000 in
theorem s_rsub (s t : ByteArray) (m n : Nat) (w : World) (hm : num s.data.toList = m) (hn : num t.data.toList = n) (h1 : s.size ≤ 1000000000) (h2 : t.size ≤ 1000000000) (hle : n ≤ m) : Gives 17 #[.string s, .string t] w (.tuple #[.string (S (m - n)), .bool true]) := by
  have hl1 := dgt_bytes h1
  rw [hm] at hl1
  have HM := Lib.hid hm
  have HN := Lib.hid hn
  have HLE := Lib.hid hle
  have hz : ¬ cmpN m n < 0 := by unfold cmpN; rw [if_neg (by omega)]; split <;> decide
  generalize hzz : cmpN m n = z at hz
  have HZ := Lib.hid hzz
  clear hm hn hle hzz
  go_enter Tryz.func17, Tryz.ntmps17
  go_wp2_with fail
  refine (s_rcmp s t m n _ HM.out HN.out h1 h2).mono ?_
  rintro e w1 ⟨rfl, hg⟩
  rw [HZ.out]
  go_wp2_with fail
  refine (rdig_any s _ (by omega)).mono ?_
  rintro e w2 ⟨v2, rfl, hr2, h2'⟩
  have hg := gr_then hg h2'
  go_wp2_with fail
  refine (rdig_any t _ (by omega)).mono ?_
  rintro e w3 ⟨v3, rfl, hr3, h3'⟩
  have hr2 := hr2.kept h3'
  have hg := gr_then hg h3'
  clear h2' h3'
  rw [HM.out] at hr2
  rw [HN.out] at hr3
  obtain ⟨a1, m1, c1, rfl, hs1⟩ := hr2
  obtain ⟨a2, m2, c2, rfl, hs2⟩ := hr3
  have H1 := Lib.hid hs1
  have H2 := Lib.hid hs2
  have hmb : m1 ≤ 1000000000 := by rw [hs1.len]; exact hl1
  clear hs1 hs2
  go_wp2_with fail
  refine (rminus_any a1 m1 c1 m a2 m2 c2 n _ H1.out H2.out HLE.out (by omega)).mono ?_
  rintro e w4 ⟨a3, m3, c3, rfl, hs3, _, h4'⟩
  have hg := gr_then hg h4'
  have hmb3 : m3 ≤ 100000000000 := by
    have e1 := dgt_inj_len (Nat.sub_le m n)
    rw [hs3.len]; omega
  have H3 := Lib.hid hs3
  clear hs3 h4'
  go_wp2_with fail
  refine (rnumber_any _ _ _ _ _ H3.out (dg_dgt _) hmb3).mono ?_
  rintro e w5 ⟨rfl, h5⟩
  rw [val_dgt]
  go_wp2
  go_ret2
  exact ⟨rfl, gr_then hg h5⟩
set_option maxRecDepth 100000 in
theorem s_rsub0 (s t : ByteArray) (m n : Nat) (w : World) (hm : num s.data.toList = m) (hn : num t.data.toList = n) (h1 : s.size ≤ 1000000000) (h2 : t.size ≤ 1000000000) (hlt : m < n) : Gives 17 #[.string s, .string t] w (.tuple #[.string ⟨#[]⟩, .bool false]) := by
  have HC := Lib.hid (show cmpN m n = -1 by unfold cmpN; rw [if_pos hlt])
  have HM := Lib.hid hm
  have HN := Lib.hid hn
  clear hm hn hlt
  go_enter Tryz.func17, Tryz.ntmps17
  go_wp2_with fail
  refine (s_rcmp s t m n _ HM.out HN.out h1 h2).mono ?_
  rintro e w1 ⟨rfl, hg⟩
  rw [HC.out]
  go_wp2
  go_ret2
  exact ⟨rfl, hg⟩
end Go.Proofs.YteajpefbmiiioaaGreatDoor
namespace Go.Proofs.YteajpefbmiiioaaGreatDoor
open Go.RowKit Mth

def numOf : Value → Nat
  | .string s => num s.data.toList
  | _ => 0
theorem numOf_s (n : Nat) : numOf (.string (S n)) = n := s_num n
theorem s_len_pos {n : Nat} (h : 0 < n) : 0 < (S n).size := enc_size_pos h
theorem s_len_zero : (S 0).size = 0 := by rw [s_zero]; rfl
theorem s_size9 {n : Nat} (h : n < 256 ^ 200) : (S n).size ≤ 1000000000 := by
  have := enc_len 200 n h
  have e : (S n).size = (enc n).length := by unfold S; show (enc n).toArray.size = _; simp
  omega

set_option maxHeartbeats 2000000 in
set_option maxRecDepth 100000 in
theorem s_rgcd (s t : ByteArray) (m n : Nat) (w : World) (hm : num s.data.toList = m) (hn : num t.data.toList = n) (h1 : s.size ≤ 1000000000) (h2 : t.size ≤ 1000000000) (hm2 : m < 256 ^ 200) (hn2 : n < 256 ^ 200) : Gives 29 #[.string s, .string t] w (.string (S (Nat.gcd m n))) := by
  have HM := Lib.hid hm
  have HN := Lib.hid hn
  have HM2 := Lib.hid hm2
  have HN2 := Lib.hid hn2
  clear hm hn hm2 hn2
  go_enter Tryz.func29, Tryz.ntmps29
  go_wp2_with fail
  refine (s_canon s m _ HM.out (by omega)).mono ?_
  rintro e w1 ⟨rfl, hg1⟩
  go_wp2_with fail
  refine (s_canon t n _ HN.out (by omega)).mono ?_
  rintro e w2 ⟨rfl, hg2⟩
  have hg := gr_then hg1 hg2
  clear hg1 hg2
  go_wp2
  go_loopw [0, 1] (fun u v wr => ∃ x y : Nat, u = .string (S x) ∧ v = .string (S y) ∧ w.grownBy wr none ∧ Hid (Nat.gcd x y = Nat.gcd m n ∧ x < 256 ^ 200 ∧ y < 256 ^ 200)) (fun _ v _ => numOf v)
  case atStart => exact ⟨m, n, rfl, rfl, hg, Lib.hid ⟨rfl, HM2.out, HN2.out⟩⟩
  case round =>
    obtain ⟨x, y, rfl, rfl, hg, HI⟩ := hrel
    rcases Nat.eq_zero_or_pos y with h0 | h0
    · subst h0
      have hz := s_len_zero
      have HF := Lib.hid (show x = Nat.gcd m n by have := HI.out.1; rwa [Nat.gcd_zero_right] at this)
      go_wp2
      go_ret
      exact ⟨by rw [← HF.out]; rfl, hg⟩
    · have hp := s_len_pos h0
      have H0 := Lib.hid h0
      have HNX := Lib.hid (show Nat.gcd y (x % y) = Nat.gcd m n ∧ y < 256 ^ 200 ∧ x % y < 256 ^ 200 by
        refine ⟨?_, HI.out.2.2, Nat.lt_trans (Nat.mod_lt _ h0) HI.out.2.2⟩
        rw [← HI.out.1, Nat.gcd_comm y, ← Nat.gcd_rec, Nat.gcd_comm])
      clear h0
      go_wp2_with fail
      refine (s_rquo (S x) (S y) x y _ (s_num _) (s_num _) H0.out (s_size9 HI.out.2.1) (s_size9 HI.out.2.2)).mono ?_
      rintro e w3 ⟨rfl, h3⟩
      have hg := gr_then hg h3
      go_wp2
      refine ⟨⟨y, x % y, rfl, rfl, hg, HNX⟩, ?_⟩
      show numOf (.string (S (x % y))) < numOf (.string (S y))
      rw [numOf_s, numOf_s]
      exact Nat.mod_lt _ H0.out

theorem bit01 (d b : Nat) (hd : d < 256) : (bits BinOp.and IntKind.u8 ((d : Int) / (2 : Int) ^ b) 1 == 1) = decide (d / 2 ^ b % 2 = 1) := by
  have hpc : ((2 : Int) ^ b) = ((2 ^ b : Nat) : Int) := by simp
  rw [hpc, ← Int.natCast_ediv]
  have hlt : d / 2 ^ b < 256 := Nat.lt_of_le_of_lt (Nat.div_le_self _ _) hd
  generalize d / 2 ^ b = c at hlt
  have hm1 := bits_mask .u8 8 (by decide) wraps_u8 1 (by decide) (c : Int) (by omega) (by omega)
  rw [show ((2 : Int) ^ 1 - 1) = 1 from by decide] at hm1
  rw [hm1, Bool.eq_iff_iff, decide_eq_true_eq, beq_iff_eq]
  omega
/-- What the powers are after some bytes and bits of the exponent. -/
def powAt (A M E : Nat) : Nat := A ^ E % M
theorem powAt_sq (A M E : Nat) : powAt A M E * powAt A M E % M = powAt A M (2 * E) := by
  unfold powAt; rw [← Nat.mul_mod, ← Nat.pow_add]; congr 2; omega
theorem powAt_mul (A M E : Nat) : powAt A M E * (A % M) % M = powAt A M (E + 1) := by
  unfold powAt; rw [Nat.pow_succ, Nat.mul_mod, Nat.mod_mod, Nat.mod_mod, ← Nat.mul_mod]
theorem sz_sq {x M : Nat} (h : x < M) (hM : M < 256 ^ 90) : x * x < 256 ^ 200 := by
  have h2 : 256 ^ 90 * 256 ^ 90 ≤ 256 ^ 200 := by decide
  exact Nat.lt_of_lt_of_le (Nat.mul_lt_mul'' (Nat.lt_trans h hM) (Nat.lt_trans h hM)) h2
theorem sz_mm {x y M : Nat} (h : x < M) (h' : y < M) (hM : M < 256 ^ 90) : x * y < 256 ^ 200 := by
  have h2 : 256 ^ 90 * 256 ^ 90 ≤ 256 ^ 200 := by decide
  exact Nat.lt_of_lt_of_le (Nat.mul_lt_mul'' (Nat.lt_trans h hM) (Nat.lt_trans h' hM)) h2

set_option maxRecDepth 100000 in
theorem s_rpow0 (s t u : ByteArray) (w : World) (hu : num u.data.toList = 0) (h2 : u.size ≤ 1000000000) : Gives 31 #[.string s, .string t, .string u] w (.tuple #[.string ⟨#[]⟩, .bool false]) := by
  have HU := Lib.hid hu
  clear hu
  go_enter Tryz.func31, Tryz.ntmps31
  go_wp2_with fail
  refine (s_rquo0 s u _ HU.out h2).mono ?_
  rintro e w1 ⟨rfl, hg⟩
  go_wp2
  go_ret2
  exact ⟨rfl, hg⟩

set_option maxHeartbeats 4000000 in
set_option maxRecDepth 100000 in
theorem s_rpow (s t u : ByteArray) (A E M : Nat) (w : World) (hs : num s.data.toList = A) (ht : num t.data.toList = E) (hu : num u.data.toList = M) (h1 : s.size ≤ 1000000000) (h3 : t.size ≤ 1000000000) (h2 : u.size ≤ 1000000000) (h0 : 0 < M) (hM : M < 256 ^ 90) : Gives 31 #[.string s, .string t, .string u] w (.tuple #[.string (S (A ^ E % M)), .bool true]) := by
  have HS := Lib.hid hs
  have HT := Lib.hid ht
  have HU := Lib.hid hu
  have H0 := Lib.hid h0
  have HM := Lib.hid hM
  have HM2 := Lib.hid (Nat.lt_trans hM (Nat.pow_lt_pow_right (by decide) (by decide) : 256 ^ 90 < 256 ^ 200))
  clear hs ht hu h0 hM
  go_enter Tryz.func31, Tryz.ntmps31
  go_wp2_with fail
  refine (s_rquo s u A M _ HS.out HU.out H0.out h1 h2).mono ?_
  rintro e w1 ⟨rfl, hg1⟩
  go_wp2_with fail
  refine (rof_any 1 _ (by omega)).mono ?_
  rintro e w2 ⟨rfl, hg2⟩
  have hg := gr_then hg1 hg2
  clear hg1 hg2
  rw [show (⟨(enc 1).toArray⟩ : ByteArray) = S 1 from rfl]
  go_wp2_with fail
  refine (s_rquo (S 1) u 1 M _ (s_num _) HU.out H0.out (s_size9 (by decide)) h2).mono ?_
  rintro e w3 ⟨rfl, hg3⟩
  have hg := gr_then hg hg3
  clear hg3
  go_wp2
  go_loopw [12, 14] (fun ov kv wr => ∃ k : Nat, k ≤ t.size ∧ kv = .int .i64 k ∧ ov = .string (S (powAt A M (num (t.data.toList.take k)))) ∧ w.grownBy wr none) (fun _ kv _ => t.size - (intOf kv).toNat)
  case atStart => exact ⟨0, Nat.zero_le _, rfl, by unfold powAt; simp [num], hg⟩
  case round =>
    obtain ⟨k, hk, rfl, rfl, hg⟩ := hrel
    by_cases hlt : k < t.size
    · generalize hP : num (t.data.toList.take k) = P
      have HP := Lib.hid hP
      have HNX := Lib.hid (num_take_succ t hlt)
      clear hP
      go_wp2
      go_loopw [12, 15] (fun ov bv wr => ∃ b : Nat, b ≤ 8 ∧ bv = .int .i64 ((b : Int) - 1) ∧ ov = .string (S (powAt A M (P * 2 ^ (8 - b) + t[k].toNat / 2 ^ b))) ∧ w.grownBy wr none) (fun _ bv _ => (intOf bv + 1).toNat)
      case atStart => 
        refine ⟨8, by omega, rfl, ?_, hg⟩
        have hb := t[k].toNat_lt
        rw [Nat.div_eq_of_lt (show t[k].toNat < 2 ^ 8 by simpa using hb)]
        simp
      case round =>
        obtain ⟨b, hb, rfl, rfl, hg⟩ := hrel
        rcases b with _ | b
        · have HF := Lib.hid (show P * 2 ^ (8 - 0) + t[k].toNat / 2 ^ 0 = num (t.data.toList.take (k + 1)) by rw [HNX.out, HP.out, Nat.pow_zero, Nat.div_one]; omega)
          rw [HF.out]
          go_wp2
          exact ⟨⟨k + 1, by omega, by go_num, rfl, hg⟩, by simp [intOf]; omega⟩
        · rw [show ((b + 1 : Nat) : Int) - 1 = (b : Int) from by omega]
          generalize hX : P * 2 ^ (8 - (b + 1)) + t[k].toNat / 2 ^ (b + 1) = X
          have hx := Nat.mod_lt (A ^ X) H0.out
          have HXL := Lib.hid (show powAt A M X < M from hx)
          have hx2 := Nat.mod_lt (A ^ (2 * X)) H0.out
          have HX2 := Lib.hid (show powAt A M (2 * X) < M from hx2)
          have hnext : P * 2 ^ (8 - b) + t[k].toNat / 2 ^ b = 2 * X + t[k].toNat / 2 ^ b % 2 := by
            rw [← hX, show 8 - b = (8 - (b + 1)) + 1 from by omega, Nat.pow_succ, Nat.pow_succ, ← Nat.div_div_eq_div_mul, Nat.mul_add, ← Nat.mul_assoc P]
            omega
          have HN := Lib.hid hnext
          have hb0 : (0 : Int) ≤ (b : Int) := by omega
          clear hX hx hx2 hnext
          go_wp2_with fail
          refine (s_rmul (S (powAt A M X)) (S (powAt A M X)) _ _ _ (s_num _) (s_num _) (by have := s_size9 (Nat.lt_trans HXL.out HM2.out); omega) (by have := s_size9 (Nat.lt_trans HXL.out HM2.out); omega)).mono ?_
          rintro e w5 ⟨rfl, h5⟩
          have hg := gr_then hg h5
          clear h5
          go_wp2_with fail
          refine (s_rquo (S (powAt A M X * powAt A M X)) u _ M _ (s_num _) HU.out H0.out (s_size9 (sz_sq HXL.out HM.out)) h2).mono ?_
          rintro e w6 ⟨rfl, h6⟩
          have hg := gr_then hg h6
          clear h6
          rw [powAt_sq]
          have hd8 := t[k].toNat_lt
          have hbit := bit01 t[k].toNat b hd8
          by_cases hq : t[k].toNat / 2 ^ b % 2 = 1
          · rw [decide_eq_true hq] at hbit
            have HB := Lib.hid (show 2 * X + 1 = P * 2 ^ (8 - b) + t[k].toNat / 2 ^ b by rw [HN.out, hq])
            clear hq hd8
            go_wp2_with fail
            refine (s_rmul (S (powAt A M (2 * X))) (S (A % M)) _ _ _ (s_num _) (s_num _) (by have := s_size9 (Nat.lt_trans HX2.out HM2.out); omega) (by have := s_size9 (Nat.lt_trans (Nat.mod_lt A H0.out) HM2.out); omega)).mono ?_
            rintro e w7 ⟨rfl, h7⟩
            have hg := gr_then hg h7
            clear h7
            go_wp2_with fail
            refine (s_rquo (S (powAt A M (2 * X) * (A % M))) u _ M _ (s_num _) HU.out H0.out (s_size9 (sz_mm HX2.out (Nat.mod_lt A H0.out) HM.out)) h2).mono ?_
            rintro e w8 ⟨rfl, h8⟩
            have hg := gr_then hg h8
            clear h8
            rw [powAt_mul, HB.out]
            go_wp2
            exact ⟨⟨b, by omega, rfl, rfl, hg⟩, by simp [intOf]⟩
          · rw [decide_eq_false hq] at hbit
            have HB := Lib.hid (show 2 * X = P * 2 ^ (8 - b) + t[k].toNat / 2 ^ b by rw [HN.out]; omega)
            clear hq hd8
            rw [HB.out]
            go_wp2
            exact ⟨⟨b, by omega, rfl, rfl, hg⟩, by simp [intOf]⟩
    · obtain rfl : k = t.size := by omega
      have hfin : powAt A M (num (t.data.toList.take t.size)) = A ^ E % M := by
        rw [List.take_of_length_le (by rw [len_toList]; omega), HT.out]; rfl
      have HF := Lib.hid hfin
      clear hfin
      rw [HF.out]
      go_wp2
      go_ret2
      exact ⟨rfl, hg⟩
end Go.Proofs.YteajpefbmiiioaaGreatDoor
namespace Go.Proofs.YteajpefbmiiioaaGreatDoor
open Go.RowKit Mth Go.Lib

theorem s_rright (n : Nat) (w : World) : Calls Tryz.prog 23 #[.string (S n)] w fun e w' => e = .returned (.bool true) ∧ w = w' := by
  refine (rright_any (S n) w).mono ?_
  rintro e w' ⟨rfl, rfl⟩
  refine ⟨?_, rfl⟩
  rw [rtB_of_rt]
  unfold S
  simpa using rt_enc n
theorem s_rof (n : Nat) (w : World) (h : n ≤ 9223372036854775807) : Gives 25 #[.int .i64 (n : Int)] w (.string (S n)) := rof_any n w h
theorem rlow_zero (b : Bool) (n : Nat) (w : World) : Gives 101 #[.bool b, .string (S 0), .string (S n)] w (RV 0) := by
  have hz : RV 0 = .agg #[.bool false, .string ⟨#[]⟩, .string (S 1)] := by unfold RV RW; rw [← s_zero]; rfl
  rw [hz, s_zero]
  clear hz
  have hT := Three.new w (.bool false) (.string ⟨#[]⟩) (.string ⟨#[]⟩) 49
  go_enter Tryz.func101, Tryz.ntmps101
  go_wp2_with fail
  refine (s_rof 1 _ (by decide)).mono ?_
  rintro e w1 ⟨rfl, hg⟩
  have hT := hT.kept hg
  have f0 := hT.fr 0
  have f1 := hT.fr 1
  have f2 := hT.fr 2
  have c0 := hT.c0
  have c1 := hT.c1
  have c2 := hT.c2
  go_wp2
  exact bodyPost_ret (v := .agg #[.bool false, .string ⟨#[]⟩, .string (S 1)]) (by simp [results, Tryz.results101, go_sem, c0, c1, c2]) rfl ⟨rfl, gr_setn (gr_setn (gr_setn (gr_one hg) (Nat.le_refl _)) (Nat.le_refl _)) (Nat.le_refl _)⟩
set_option maxRecDepth 100000 in
theorem rlow_pos (b : Bool) (m n : Nat) (w : World) (hm : 0 < m) (_h0 : 0 < n) (h1 : m < 256 ^ 200) (h2 : n < 256 ^ 200) : Gives 101 #[.bool b, .string (S m), .string (S n)] w (RW b (m / Nat.gcd m n) (n / Nat.gcd m n)) := by
  have hg0 : 0 < Nat.gcd m n := Nat.gcd_pos_of_pos_left _ hm
  have hne := tl_ne (n := m) (by omega)
  have hne2 := tl_emp (n := m) (by omega)
  have H1 := s_size9 h1
  have H2 := s_size9 h2
  have H3 := s_size9 (Nat.lt_of_le_of_lt (Nat.gcd_le_left n hm) h1)
  have HG := Lib.hid (fun w => s_rgcd (S m) (S n) m n w (s_num _) (s_num _) H1 H2 h1 h2)
  have HA := Lib.hid (fun w => s_rquo (S m) (S (Nat.gcd m n)) m (Nat.gcd m n) w (s_num _) (s_num _) hg0 H1 H3)
  have HB := Lib.hid (fun w => s_rquo (S n) (S (Nat.gcd m n)) n (Nat.gcd m n) w (s_num _) (s_num _) hg0 H2 H3)
  generalize Nat.gcd m n = g at HG HA HB
  generalize S (m % g) = ra at HA
  generalize S (n % g) = rb at HB
  generalize S g = sg at HG HA HB
  unfold RW
  generalize S (m / g) = xa at HA ⊢
  generalize S (n / g) = xb at HB ⊢
  clear hg0 H1 H2 H3 h1 h2 hm
  have hT := Three.new w (.bool false) (.string ⟨#[]⟩) (.string ⟨#[]⟩) 49
  go_enter Tryz.func101, Tryz.ntmps101
  go_wp2_with fail
  refine (HG.out _).mono ?_
  rintro e w1 ⟨rfl, hg⟩
  have hT := hT.kept hg
  have G := Lib.hid (gr_one hg)
  clear hg
  go_wp2_with fail
  refine (HA.out _).mono ?_
  rintro e w2 ⟨rfl, hg⟩
  have hT := hT.kept hg
  have G := Lib.hid (gr_then G.out hg)
  clear hg
  go_wp2_with fail
  refine (HB.out _).mono ?_
  rintro e w3 ⟨rfl, hg⟩
  have hT := hT.kept hg
  have G := Lib.hid (gr_then G.out hg)
  clear hg
  have f0 := hT.fr 0
  have f1 := hT.fr 1
  have f2 := hT.fr 2
  have c0 := hT.c0
  have c1 := hT.c1
  have c2 := hT.c2
  go_wp2
  exact bodyPost_ret (v := .agg #[.bool b, .string xa, .string xb]) (by simp [results, Tryz.results101, go_sem, c0, c1, c2]) rfl ⟨rfl, gr_setn (gr_setn (gr_setn G.out (Nat.le_refl _)) (Nat.le_refl _)) (Nat.le_refl _)⟩
theorem rlow_any (b : Bool) (m n : Nat) (w : World) (h0 : 0 < n) (h1 : m < 256 ^ 200) (h2 : n < 256 ^ 200) : Gives 101 #[.bool b, .string (S m), .string (S n)] w (RV (mkRat (sg b m) n)) := by
  rcases Nat.eq_zero_or_pos m with h | h
  · subst h
    have : mkRat (sg b 0) n = 0 := by
      have : sg b 0 = 0 := by unfold sg; cases b <;> rfl
      rw [this, Rat.zero_mkRat]
    rw [this]
    exact rlow_zero b n w
  · have := rlow_pos b m n w h h0 h1 h2
    rw [← rv_low b m (by omega : n ≠ 0)]
    have e : (b && decide (m ≠ 0)) = b := by simp; omega
    rw [e]; exact this
theorem bd200 {k : Nat} {q : Rat} (h : Bd k q) (hk : k ≤ 200) : q.num.natAbs < 256 ^ 200 ∧ q.den < 256 ^ 200 := ⟨lt_le256 h.1 hk, lt_le256 h.2 hk⟩
theorem rright_zero (w : World) : Gives 120 #[RV 0] w (.bool true) := by
  have hz : RV 0 = .agg #[.bool false, .string (S 0), .string (S 1)] := rfl
  rw [hz]
  clear hz
  have HC := Lib.hid (fun w => s_rcmp (S 1) (S 1) 1 1 w (s_num _) (s_num _) (s_size9 (by decide)) (s_size9 (by decide)))
  rw [show cmpN 1 1 = 0 from rfl] at HC
  have HO := Lib.hid (fun w => s_rof 1 w (by decide))
  have HR0 := Lib.hid (s_rright 0)
  have HR1 := Lib.hid (s_rright 1)
  have e1 := tl_ne (n := 1) (by decide)
  have e2 := tl_emp (n := 1) (by decide)
  have e3 := tl_zero
  have e4 : (S 0).toList.isEmpty = true := by rw [tl_zero]; rfl
  generalize S 0 = x at *
  generalize S 1 = y at *
  have A0 := Three.new w (.bool false) (.string x) (.string y) 49
  have G0 := gr_alloc w (.cells #[.bool false, .string x, .string y] 49) none
  go_enter Tryz.func120, Tryz.ntmps120
  go_wp2_with fail
  refine (HR0.out _).mono ?_
  rintro e w1 ⟨rfl, rfl⟩
  go_wp2_with fail
  refine (HR1.out _).mono ?_
  rintro e w1 ⟨rfl, rfl⟩
  go_wp2_with fail
  have A0 := A0.drew
  have G0 := gr_dr G0
  go_region_held3 (fun w' => w'.cell? ⟨w.heap.size, 0, none⟩ = some (.bool false) ∧ w'.cell? ⟨w.heap.size, 2, none⟩ = some (.string y)) (first | exact ⟨Three.c0 (by assumption), Three.c2 (by assumption)⟩ | go_keep)
    (first
      | (go_at_call_of 25 (Value.int IntKind.i64 1); refine (HO.out _).mono ?_; rintro e v1 ⟨rfl, gv1⟩; have hAv1 : Three v1 (w.heap.size) (.bool false) (.string x) (.string y) 49 := Three.kept (by assumption) gv1; have Gv1 : w.grownBy v1 none := gr_then (by assumption) gv1)
      | (go_at_call_of 21 (Value.string y); refine (HC.out _).mono ?_; rintro e v2 ⟨rfl, gv2⟩; have hAv2 : Three v2 (w.heap.size) (.bool false) (.string x) (.string y) 49 := Three.kept (by assumption) gv2; have Gv2 : w.grownBy v2 none := gr_then (by assumption) gv2))
  all_goals
    go_wp2
    go_ret
    exact ⟨rfl, by assumption⟩
theorem rright_pos (q : Rat) (k : Nat) (w : World) (h0 : q ≠ 0) (hq : Bd k q) (hk : k ≤ 200) : Gives 120 #[RV q] w (.bool true) := by
  obtain ⟨b1, b2⟩ := bd200 hq hk
  have z1 := s_size9 b1
  have z2 := s_size9 b2
  have HC := Lib.hid (fun w => s_rcmp (S 1) (S 1) 1 1 w (s_num _) (s_num _) (s_size9 (by decide)) (s_size9 (by decide)))
  rw [show cmpN 1 1 = 0 from rfl] at HC
  have HG := Lib.hid (fun w => s_rgcd (S q.num.natAbs) (S q.den) q.num.natAbs q.den w (s_num _) (s_num _) z1 z2 b1 b2)
  rw [show Nat.gcd q.num.natAbs q.den = 1 from q.reduced] at HG
  have HO := Lib.hid (fun w => s_rof 1 w (by decide))
  have HR0 := Lib.hid (s_rright q.num.natAbs)
  have HR1 := Lib.hid (s_rright q.den)
  have hn : q.num.natAbs ≠ 0 := fun e => h0 (num_abs_zero.1 e)
  have e1 := tl_ne q.den_nz
  have e2 := tl_emp q.den_nz
  have e3 := tl_ne hn
  have e4 := tl_emp hn
  unfold RV RW
  clear h0 hq hk b1 b2 z1 z2 hn
  generalize decide (q.num < 0) = a at *
  generalize S q.num.natAbs = x at *
  generalize S q.den = y at *
  generalize S 1 = o at *
  have A0 := Three.new w (.bool a) (.string x) (.string y) 49
  have G0 := gr_alloc w (.cells #[.bool a, .string x, .string y] 49) none
  go_enter Tryz.func120, Tryz.ntmps120
  go_wp2_with fail
  refine (HR0.out _).mono ?_
  rintro e w1 ⟨rfl, rfl⟩
  go_wp2_with fail
  refine (HR1.out _).mono ?_
  rintro e w1 ⟨rfl, rfl⟩
  go_wp2_with fail
  refine (HG.out _).mono ?_
  rintro e w1 ⟨rfl, g1⟩
  go_wp2_with fail
  refine (HO.out _).mono ?_
  rintro e w2 ⟨rfl, g2⟩
  go_wp2_with fail
  refine (HC.out _).mono ?_
  rintro e w3 ⟨rfl, g3⟩
  go_wp2
  go_ret
  exact ⟨rfl, gr_then (gr_then (gr_one g1) g2) g3⟩
end Go.Proofs.YteajpefbmiiioaaGreatDoor
namespace Go.Proofs.YteajpefbmiiioaaGreatDoor
open Go.RowKit Mth Go.Lib

section
variable {w : World} {b b' : Nat} {x y z x' y' z' : Value} {t : TypeId}
theorem Three.all (h : Three w b x y z t) (x' y' z' : Value) : Three (((w.setCell ⟨b, 0, none⟩ x').setCell ⟨b, 1, none⟩ y').setCell ⟨b, 2, none⟩ z') b x' y' z' t := ((h.s0 _).s1 _).s2 _
theorem Three.oth3 (h : Three w b x y z t) (hne : b ≠ b') (x' y' z' : Value) : Three (((w.setCell ⟨b', 0, none⟩ x').setCell ⟨b', 1, none⟩ y').setCell ⟨b', 2, none⟩ z') b x y z t := ((h.other hne).other hne).other hne
theorem gr_set3 {a w : World} (h : a.grownBy w none) (hb : a.heap.size ≤ b) (x' y' z' : Value) : a.grownBy (((w.setCell ⟨b, 0, none⟩ x').setCell ⟨b, 1, none⟩ y').setCell ⟨b, 2, none⟩ z') none := gr_setn (gr_setn (gr_setn h hb) hb) hb
end
theorem rright_rv (q : Rat) (k : Nat) (w : World) (hq : Bd k q) (hk : k ≤ 200) : Gives 120 #[RV q] w (.bool true) := by
  by_cases h : q = 0
  · subst h; exact rright_zero w
  · exact rright_pos q k w h hq hk
theorem rvalue_rv (q : Rat) (k : Nat) (w : World) (h : Bd k q) (hk : k ≤ 200) : Gives 104 #[RV q] w (RV q) := by
  have HM := Lib.hid (fun w => rright_rv q k w h hk)
  unfold RV RW at *
  generalize decide (q.num < 0) = a at *
  generalize S q.num.natAbs = x at *
  generalize S q.den = y at *
  clear h hk
  have hN := Three.new1 w (.cells #[.bool a, .string x, .string y] 49) (.bool false) (.string ⟨#[]⟩) (.string ⟨#[]⟩) 49
  have hO := (Three.new w (.bool a) (.string x) (.string y) 49).alloc (.cells #[.bool false, .string ⟨#[]⟩, .string ⟨#[]⟩] 49)
  go_enter Tryz.func104, Tryz.ntmps104
  go_wp2_with fail
  refine (HM.out _).mono ?_
  rintro e w1 ⟨rfl, g1⟩
  have hN := hN.kept g1
  have hO := hO.kept g1
  have c0 := hO.c0
  have c1 := hO.c1
  have c2 := hO.c2
  have f0 := hN.fr 0
  have f1 := hN.fr 1
  have f2 := hN.fr 2
  have k0 := hN.c0
  have k1 := hN.c1
  have k2 := hN.c2
  go_wp2
  exact bodyPost_ret (v := .agg #[.bool a, .string x, .string y]) (by simp [results, Tryz.results104, go_sem, k0, k1, k2]) rfl ⟨rfl, gr_set3 (gr_two g1) (by omega) _ _ _⟩
set_option maxRecDepth 100000 in
theorem rmake_yes (b : Bool) (m n : Nat) (w : World) (hn : n ≠ 0) (h1 : m < 256 ^ 200) (h2 : n < 256 ^ 200) : Gives 54 #[.bool b, .string (S m), .string (S n)] w (.tuple #[RV (mkRat (sg b m) n), .bool true]) := by
  have HR0 := Lib.hid (s_rright m)
  have HR1 := Lib.hid (s_rright n)
  have HL := Lib.hid (fun w => rlow_any b m n w (by omega) h1 h2)
  have e1 := tl_ne hn
  have e2 := tl_emp hn
  generalize mkRat (sg b m) n = q at *
  unfold RV RW at *
  generalize decide (q.num < 0) = a at *
  generalize S q.num.natAbs = x at *
  generalize S q.den = y at *
  generalize S m = sm at *
  generalize S n = sn at *
  clear h1 h2 hn
  have hN := Three.new w (.bool false) (.string ⟨#[]⟩) (.string ⟨#[]⟩) 49
  go_enter Tryz.func54, Tryz.ntmps54
  go_wp2_with fail
  refine (HR0.out _).mono ?_
  rintro e w1 ⟨rfl, rfl⟩
  go_wp2_with fail
  refine (HR1.out _).mono ?_
  rintro e w1 ⟨rfl, rfl⟩
  go_wp2_with fail
  refine (HL.out _).mono ?_
  rintro e w1 ⟨rfl, g1⟩
  have hN := hN.kept g1
  have f0 := hN.fr 0
  have f1 := hN.fr 1
  have f2 := hN.fr 2
  have k0 := hN.c0
  have k1 := hN.c1
  have k2 := hN.c2
  go_wp2
  exact bodyPost_ret (v := .tuple #[.agg #[.bool a, .string x, .string y], .bool true]) (by simp [results, Tryz.results54, go_sem, k0, k1, k2]) rfl ⟨rfl, gr_set3 (gr_one g1) (by omega) _ _ _⟩
theorem rofq_nat (n : Nat) (w : World) (h : n ≤ 9223372036854775807) : Gives 57 #[.int .i64 (n : Int)] w (RW false n 1) := by
  have HN := Lib.hid (fun w => s_rof n w h)
  have HW := Lib.hid (fun w => s_rof 1 w (by decide))
  unfold RW at *
  generalize S n = x at *
  generalize S 1 = y at *
  have C0 := Three.new w (.bool false) (.string ⟨#[]⟩) (.string ⟨#[]⟩) 49
  have hn : decide ((0 : Int) ≤ (n : Int)) = true := by simp
  go_enter Tryz.func57, Tryz.ntmps57
  go_wp2_with fail
  refine (HN.out _).mono ?_
  rintro e v1 ⟨rfl, g1⟩
  have C1 := C0.kept g1
  go_wp2_with fail
  refine (HW.out _).mono ?_
  rintro e v2 ⟨rfl, g2⟩
  have C2 := C1.kept g2
  have k0 := C2.c0
  have k1 := C2.c1
  have k2 := C2.c2
  have f0 := C2.fr 0
  have f1 := C2.fr 1
  have f2 := C2.fr 2
  go_wp2
  exact bodyPost_ret (v := .agg #[.bool false, .string x, .string y]) (by simp [results, Tryz.results57, go_sem, k0, k1, k2]) rfl ⟨rfl, gr_set3 (gr_then (gr_one g1) g2) (Nat.le_refl _) _ _ _⟩
theorem rsignq_any (q : Rat) (k : Nat) (w : World) (hq : Bd k q) (hk : k ≤ 200) : Gives 50 #[RV q] w (.int .i64 (sgnQ q)) := by
  have HV := Lib.hid (fun w => rvalue_rv q k w hq hk)
  have hcase : (q.num.natAbs = 0 ∧ sgnQ q = 0 ∧ (S q.num.natAbs).toList = [] ∧ (S q.num.natAbs).toList.isEmpty = true) ∨ (decide (q.num < 0) = true ∧ sgnQ q = -1 ∧ ¬ (S q.num.natAbs).toList = [] ∧ (S q.num.natAbs).toList.isEmpty = false) ∨ (decide (q.num < 0) = false ∧ sgnQ q = 1 ∧ ¬ (S q.num.natAbs).toList = [] ∧ (S q.num.natAbs).toList.isEmpty = false) := by
    unfold sgnQ
    by_cases h0 : q.num = 0
    · have h1 : q.num.natAbs = 0 := by omega
      exact .inl ⟨h1, by rw [if_neg (by omega), if_pos h0], by rw [h1]; exact tl_zero, by rw [h1, tl_zero]; rfl⟩
    · have h1 : q.num.natAbs ≠ 0 := by omega
      by_cases h2 : q.num < 0
      · exact .inr (.inl ⟨by simpa using h2, by rw [if_pos h2], tl_ne h1, tl_emp h1⟩)
      · exact .inr (.inr ⟨by simpa using h2, by rw [if_neg h2, if_neg h0], tl_ne h1, tl_emp h1⟩)
  clear hq hk
  unfold RV RW at *
  generalize sgnQ q = z at *
  generalize decide (q.num < 0) = b at *
  generalize S q.num.natAbs = qn at *
  generalize S q.den = qd at *
  have A0 := Three.new w (.bool b) (.string qn) (.string qd) 49
  rcases hcase with ⟨_, rfl, e1, e2⟩ | ⟨rfl, rfl, e1, e2⟩ | ⟨rfl, rfl, e1, e2⟩
  all_goals
    go_enter Tryz.func50, Tryz.ntmps50
    go_wp2_with fail
    refine (HV.out _).mono ?_
    rintro e v1 ⟨rfl, g1⟩
    have A1 := A0.kept g1
    have a0 := A1.c0
    have a1 := A1.c1
    have a2 := A1.c2
    have f0 := A1.fr 0
    have f1 := A1.fr 1
    have f2 := A1.fr 2
    go_wp2
    go_ret
    exact ⟨rfl, gr_set3 (gr_one g1) (Nat.le_refl _) _ _ _⟩
end Go.Proofs.YteajpefbmiiioaaGreatDoor
namespace Go.Proofs.YteajpefbmiiioaaGreatDoor
open Go.RowKit Mth Go.Lib

theorem after2 {w v u : World} {A B C : Nat} {x y z x1 y1 z1 x2 y2 z2 : Value} {t : TypeId} (hC : Three v C x y z t) (hG : w.grownBy v none) (hA : w.heap.size ≤ A) (hB : w.heap.size ≤ B) (nA : C ≠ A) (nB : C ≠ B) (g : ((((((v.setCell ⟨A, 0, none⟩ x1).setCell ⟨A, 1, none⟩ y1).setCell ⟨A, 2, none⟩ z1).setCell ⟨B, 0, none⟩ x2).setCell ⟨B, 1, none⟩ y2).setCell ⟨B, 2, none⟩ z2).grownBy u none) : Three u C x y z t ∧ w.grownBy u none :=
  ⟨((hC.oth3 nA _ _ _).oth3 nB _ _ _).kept g, gr_then (gr_set3 (gr_set3 hG hA _ _ _) hB _ _ _) g⟩
set_option maxHeartbeats 3000000 in
set_option maxRecDepth 100000 in
theorem quoq_dev (p q : Rat) (k : Nat) (w : World) (h0 : q ≠ 0) (hp : Bd k p) (hq : Bd k q) (hk : k ≤ 1000) : Gives 39 #[RV p, RV q] w (.tuple #[RV (p / q), .bool true]) := by
  have HV1 := Lib.hid (fun w => value_rv p k w hp (by omega))
  have HV2 := Lib.hid (fun w => value_rv q k w hq (by omega))
  have HS := Lib.hid (fun w => productq_any p q⁻¹ k w hp (bd_inv hq h0) hk)
  rw [show p * q⁻¹ = p / q from (Rat.div_def p q).symm] at HS
  have hi : RV q⁻¹ = RW (decide (q.num < 0)) q.den q.num.natAbs := by
    obtain ⟨i1, i2, _⟩ := inv_parts h0
    unfold RV; rw [inv_neg h0, i1, i2]
  rw [hi] at HS
  have hn : q.num.natAbs ≠ 0 := fun e => h0 (num_abs_zero.1 e)
  have e1 := tl_ne hn
  have e2 := tl_emp hn
  clear hk hp hq h0 hn hi
  unfold RV RW at *
  generalize S (p / q).num.natAbs = zs at *
  generalize S (p / q).den = zd at *
  generalize decide ((p / q).num < 0) = c at *
  generalize decide (p.num < 0) = a at *
  generalize decide (q.num < 0) = b at *
  generalize S p.num.natAbs = pn at *
  generalize S p.den = pd at *
  generalize S q.num.natAbs = qn at *
  generalize S q.den = qd at *
  have n01 : w.heap.size ≠ w.heap.size + 1 := by omega
  have n10 : w.heap.size + 1 ≠ w.heap.size := by omega
  have n02 : w.heap.size ≠ w.heap.size + 1 + 1 := by omega
  have n20 : w.heap.size + 1 + 1 ≠ w.heap.size := by omega
  have n12 : w.heap.size + 1 ≠ w.heap.size + 1 + 1 := by omega
  have n21 : w.heap.size + 1 + 1 ≠ w.heap.size + 1 := by omega
  have hA0 := (((Three.new w (.bool a) (.string pn) (.string pd) 49).alloc (.cells #[.bool b, .string qn, .string qd] 49)).alloc (.cells #[.bool false, .string ⟨#[]⟩, .string ⟨#[]⟩] 49)).drew
  have hB0 := ((Three.new1 w (.cells #[.bool a, .string pn, .string pd] 49) (.bool b) (.string qn) (.string qd) 49).alloc (.cells #[.bool false, .string ⟨#[]⟩, .string ⟨#[]⟩] 49)).drew
  have hC0 := (Three.new2 w (.cells #[.bool a, .string pn, .string pd] 49) (.cells #[.bool b, .string qn, .string qd] 49) (.bool false) (.string ⟨#[]⟩) (.string ⟨#[]⟩) 49).drew
  have G0 : w.grownBy ((((w.alloc (.cells #[.bool a, .string pn, .string pd] 49)).alloc (.cells #[.bool b, .string qn, .string qd] 49)).alloc (.cells #[.bool false, .string ⟨#[]⟩, .string ⟨#[]⟩] 49)).drew) none := gr_dr (gr_al (gr_al (gr_al (gr_rfl _))))
  go_enter Tryz.func39, Tryz.ntmps39
  go_wp2_with fail
  have a0 := hA0.c0
  have b0 := hB0.c0
  have a1 := hA0.c1
  have b1 := hB0.c1
  have a2 := hA0.c2
  have b2 := hB0.c2
  go_region_with (first
    | (go_at_call_of 102 ((Value.agg #[Value.bool a, Value.string pn, Value.string pd])); refine (HV1.out _).mono ?_; rintro e v1 ⟨rfl, gv1⟩; have hAv1 : Three v1 (w.heap.size) (.bool a) (.string pn) (.string pd) 49 := Three.kept (by assumption) gv1; have hBv1 : Three v1 (w.heap.size + 1) (.bool b) (.string qn) (.string qd) 49 := Three.kept (by assumption) gv1; have hCv1 : Three v1 (w.heap.size + 1 + 1) (.bool false) (.string ⟨#[]⟩) (.string ⟨#[]⟩) 49 := Three.kept (by assumption) gv1; have Gv1 : w.grownBy v1 none := gr_then (by assumption) gv1; have fa0v1 := hAv1.fr 0; have fb0v1 := hBv1.fr 0; have xa0v1 := hAv1.c0; have xb0v1 := hBv1.c0; have fa1v1 := hAv1.fr 1; have fb1v1 := hBv1.fr 1; have xa1v1 := hAv1.c1; have xb1v1 := hBv1.c1; have fa2v1 := hAv1.fr 2; have fb2v1 := hBv1.fr 2; have xa2v1 := hAv1.c2; have xb2v1 := hBv1.c2)
    | (go_at_call_of 102 ((Value.agg #[Value.bool b, Value.string qn, Value.string qd])); refine (HV2.out _).mono ?_; rintro e v2 ⟨rfl, gv2⟩; have hAv2 : Three v2 (w.heap.size) (.bool a) (.string pn) (.string pd) 49 := Three.kept (by assumption) gv2; have hBv2 : Three v2 (w.heap.size + 1) (.bool b) (.string qn) (.string qd) 49 := Three.kept (by assumption) gv2; have hCv2 : Three v2 (w.heap.size + 1 + 1) (.bool false) (.string ⟨#[]⟩) (.string ⟨#[]⟩) 49 := Three.kept (by assumption) gv2; have Gv2 : w.grownBy v2 none := gr_then (by assumption) gv2; have fa0v2 := hAv2.fr 0; have fb0v2 := hBv2.fr 0; have xa0v2 := hAv2.c0; have xb0v2 := hBv2.c0; have fa1v2 := hAv2.fr 1; have fb1v2 := hBv2.fr 1; have xa1v2 := hAv2.c1; have xb1v2 := hBv2.c1; have fa2v2 := hAv2.fr 2; have fb2v2 := hBv2.fr 2; have xa2v2 := hAv2.c2; have xb2v2 := hBv2.c2))
  all_goals
    clear a0 b0 a1 b1 a2 b2 hA0 hB0 hC0
    go_wp2_with fail
    refine (HS.out _).mono ?_
    rintro e v3 ⟨rfl, g3⟩
    have hGC : Three v3 (w.heap.size + 1 + 1) (.bool false) (.string ⟨#[]⟩) (.string ⟨#[]⟩) 49 ∧ w.grownBy v3 none := by
      first
      | with_reducible exact after2 hCv2 Gv2 (Nat.le_refl _) (Nat.le_succ _) n20 n21 g3
      | with_reducible exact after2 hCv1 Gv1 (Nat.le_refl _) (Nat.le_succ _) n20 n21 g3
    obtain ⟨hC3, G3⟩ := hGC
    have k0 := hC3.c0
    have k1 := hC3.c1
    have k2 := hC3.c2
    have f0 := hC3.fr 0
    have f1 := hC3.fr 1
    have f2 := hC3.fr 2
    go_wp2
    exact bodyPost_ret (v := .tuple #[.agg #[.bool c, .string zs, .string zd], .bool true]) (by simp [results, Tryz.results39, go_sem, k0, k1, k2]) rfl ⟨rfl, gr_set3 G3 (by omega) _ _ _⟩
end Go.Proofs.YteajpefbmiiioaaGreatDoor
