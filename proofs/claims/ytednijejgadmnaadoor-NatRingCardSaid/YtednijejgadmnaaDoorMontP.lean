/- Montgomery's product. -/
import Derived.Test.YtednijejgadmnaaDoorMontM
import Derived.Test.YtednijejgadmnaaDoorEven
namespace Go.Proofs.YtednijejgadmnaaDoor
open Go.RowKit Mth

theorem geq_cmpN (T M : Nat) : decide (0 ≤ cmpN T M) = decide (M ≤ T) := by
  unfold cmpN
  by_cases h : T < M
  · rw [if_pos h, decide_eq_false (by omega), decide_eq_false (by omega)]
  · rw [if_neg h, decide_eq_true (by split <;> omega), decide_eq_true (by omega)]
theorem vs_low {us : List Nat} {i : Nat} (h : vs W64 us i (i + 1) < W64 ^ i) : vs W64 us i i = vs W64 us i (i + 1) := by
  simp only [vs] at h ⊢
  rcases Nat.eq_zero_or_pos (gt us (i + i)) with h0 | h0
  · rw [h0]; simp
  · have := Nat.le_mul_of_pos_right (W64 ^ i) h0
    omega

set_option maxHeartbeats 8000000 in
set_option maxRecDepth 100000 in
theorem mprod_any (bm om n cm inv M : Nat) (ms : List Nat) (ba oa ca : Nat) (xs : List Nat) (bb ob cb : Nat) (ys : List Nat) (A : Nat) (w : World)
    (hm : NumAt w bm om n cm ms M) (hsm : n < 1099511627776) (hinv : (M * inv + 1) % W64 = 0)
    (hba : Blk .u64 57 w ba xs) (hna : oa + n ≤ xs.length) (hda : Dg W64 xs) (hA : vs W64 xs oa n = A) (hAM : A < M)
    (hbb : Blk .u64 57 w bb ys) (hnb : ob + n ≤ ys.length) (hdb : Dg W64 ys) :
    Calls Tryd.prog 71 #[mval (.slice (some ⟨bm, om, none⟩) n cm) inv, .slice (some ⟨ba, oa, none⟩) n ca, .slice (some ⟨bb, ob, none⟩) n cb] w fun e w' => ∃ g us, e = .returned (.slice (some ⟨g, n, none⟩) n (n + 1)) ∧ w.heap.size ≤ g ∧ Blk .u64 57 w' g us ∧ us.length = 2 * n + 1 ∧ Dg W64 us ∧ vs W64 us n n < M ∧ (vs W64 us n n * W64 ^ n) % M = (A * vs W64 ys ob n) % M ∧ w.grownBy w' none := by
  obtain ⟨i0, hi, hz0, hz1, hz2⟩ := info_parts infoW
  unfold mval
  go_enter Tryd.func71, Tryd.ntmps71
  go_wp2_with (at_make; refine wpList_make_full _ rfl _ _ 51 rfl 0 57 i0 (.int .u64 0) 1 Tryd.underlying51 hi hz0 hz1 .i64 .i64 _ _ (2 * n + 1) rfl rfl ?_ ?_ ?_ ?_ (Nat.zero_le _) ?_)
  case refine_1 => omega
  case refine_2 => omega
  case refine_3 => rw [hz2]; omega
  case refine_4 => unfold maxLen; omega
  intro w1 hown hgr
  have hb0 := blk_made' hown
  have hg1 := gr_then (gr_alloc w (.cells #[.slice (some ⟨bm, om, none⟩) n cm, .int .u64 (inv : Int)] 89) none) hgr
  have hl0 : (List.replicate (2 * n + 1) 0 : List Nat).length = 2 * n + 1 := List.length_replicate
  have hz := gt_rep0 (2 * n + 1)
  have hbx : (w.alloc (.cells #[.slice (some ⟨bm, om, none⟩) n cm, .int .u64 (inv : Int)] 89)).heap[w.heap.size]? = some (.cells #[.slice (some ⟨bm, om, none⟩) n cm, .int .u64 (inv : Int)] 89 (0, 0)) := heap_alloc_new _ _
  have hbx1 : w1.heap[w.heap.size]? = some (.cells #[.slice (some ⟨bm, om, none⟩) n cm, .int .u64 (inv : Int)] 89 (0, 0)) := by rw [hgr.block _ (by simp) (by simp)]; exact hbx
  have hi0 : MontInv A M ys (List.replicate (2 * n + 1) 0) n ob 0 := ⟨hl0, fun j => by rw [hz]; exact W64_pos, fun j hj => hz j, 0, by simp, by rw [vs_zero (fun j _ => hz _)]; simp [vs]⟩
  have HI0 := Lib.hid hi0
  generalize (List.replicate (2 * n + 1) 0 : List Nat) = z0 at hb0 HI0
  clear hown hi hz0 hz1 hz2 hl0 hz hi0 hbx hgr
  go_wp2
  go_loopw [21] (fun j wr => ∃ (i : Nat) (zs : List Nat), i ≤ n ∧ j = .int .i64 i ∧ Blk .u64 57 wr (w.heap.size + 1) zs ∧ w1.grownBy wr (some (w.heap.size + 1)) ∧ Hid (MontInv A M ys zs n ob i)) (fun j _ => n - (intOf j).toNat)
  case atStart => exact ⟨0, z0, Nat.zero_le _, rfl, hb0, World.grownBy.refl _ _, HI0⟩
  case round =>
    obtain ⟨i, zs, hile, rfl, hbz, hg, HI⟩ := hrel
    have hgw : w.grownBy wr none := gr_new hg1 hg (by omega)
    have hbxr : wr.heap[w.heap.size]? = some (.cells #[.slice (some ⟨bm, om, none⟩) n cm, .int .u64 (inv : Int)] 89 (0, 0)) := by rw [hg.block _ (Array.getElem?_eq_some_iff.1 hbx1).1 (by simp)]; exact hbx1
    have hba' := hba.kept hgw (by simp)
    have hbb' := hbb.kept hgw (by simp)
    have hm' := hm.kept hgw (by simp)
    have hba1 : ba ≠ w.heap.size + 1 := by have := hba.lt; omega
    have hbm1 : bm ≠ w.heap.size + 1 := by have := hm.blk.lt; omega
    clear hb0 HI0
    by_cases hlt : i < n
    · have hcell2 : wr.cell? ⟨bb, ob + i, none⟩ = some (.int .u64 ((gt ys (ob + i) : Nat) : Int)) := hbb'.cell (by omega)
      have hc0 : wr.cell? ⟨w.heap.size, 0, none⟩ = some (.slice (some ⟨bm, om, none⟩) n cm) := by rw [cell_of_row wr _ 0 _ _ _ hbxr]; rfl
      have hc1 : wr.cell? ⟨w.heap.size, 1, none⟩ = some (.int .u64 (inv : Int)) := by rw [cell_of_row wr _ 1 _ _ _ hbxr]; rfl
      have hlz := HI.out.len
      have hdz := HI.out.dg
      have hdy := hdb (ob + i)
      have hcut : ¬ 2 * n + 1 = i := by omega
      have hcut2 : ¬ 2 * n + 1 = i + n := by omega
      have HLZ := Lib.hid hlz
      obtain ⟨y, hy⟩ : ∃ y, y = gt ys (ob + i) := ⟨_, rfl⟩
      rw [← hy] at hcell2 hdy
      have HY := Lib.hid hy
      have HA := Lib.hid hA
      clear hlz hy hA
      have hf0 : IntKind.i64.wrap ((i : Int) + (n : Int)) = (i : Int) + (n : Int) := by rw [IntKind.wrap_i64]; omega
      have hf1 : (0 : Int) ≤ (i : Int) + (n : Int) := by omega
      have hf2 : (i : Int) + (n : Int) ≤ 2 * (n : Int) + 1 := by omega
      have hf3 : (i : Int) ≤ 2 * (n : Int) + 1 := by omega
      have hf4 : ((i : Int) + (n : Int)).toNat = i + n := by omega
      go_wp2_with fail
      go_cut [] from 26 to 37 (fun wx => ∃ us zs' c, Blk .u64 57 wx (w.heap.size + 1) zs' ∧ wr.grownBy wx (some (w.heap.size + 1)) ∧ Hid (AddedM zs us i n c (A * y)) ∧ Hid (AddedW us zs' (i + n) (n + 1 - i) c))
      case first =>
        go_region_with (first
          | (go_at_call 56; refine (addMultiple_any (w.heap.size + 1) i (2 * n + 1 - i) (2 * n + 1 - i) ba oa n ca y zs xs _ (by exact hbz) (by rw [HLZ.out]; omega) hdz (by exact hba') hna hda hba1 (by omega) hdy (by unfold maxLen; omega)).mono ?_; rintro e w5 ⟨c, us, rfl, hu, hg5, hadd⟩; rw [HA.out] at hadd; have HADD := Lib.hid hadd; clear hadd)
          | (go_at_call 82; refine (addWordTo_any (w.heap.size + 1) (i + n) (2 * n + 1 - (i + n)) (2 * n + 1 - (i + n)) c us _ (by exact hu) (by rw [HADD.out.1.len, HLZ.out]; omega) HADD.out.2.1 HADD.out.2.2.1 (by unfold maxLen; omega)).mono ?_; rintro e w6 ⟨rfl, zs', hz6, hg6, hadd6⟩; have HADD6 := Lib.hid hadd6; clear hadd6))
        all_goals
          go_wp2
          go_meet
          exact ⟨us, zs', c, hz6, gr_then (gr_drew wr none) (gr_trans hg5 hg6 (.inr rfl) (.inr (.inl rfl))), HADD, by rw [show n + 1 - i = 2 * n + 1 - (i + n) from by omega]; exact HADD6⟩
      case rest =>
        obtain ⟨us, zs', c, hzc, hgc, HADD, HADDW⟩ := hcut
        have hlc : zs'.length = 2 * n + 1 := by rw [HADDW.out.1.len, HADD.out.1.len, HLZ.out]
        have HLC := Lib.hid hlc
        have hdc := HADDW.out.2.1
        have hbxc : wc.heap[w.heap.size]? = some (.cells #[.slice (some ⟨bm, om, none⟩) n cm, .int .u64 (inv : Int)] 89 (0, 0)) := by rw [hgc.block _ (Array.getElem?_eq_some_iff.1 hbxr).1 (by simp)]; exact hbxr
        have hcc0 : wc.cell? ⟨w.heap.size, 0, none⟩ = some (.slice (some ⟨bm, om, none⟩) n cm) := by rw [cell_of_row wc _ 0 _ _ _ hbxc]; rfl
        have hcc1 : wc.cell? ⟨w.heap.size, 1, none⟩ = some (.int .u64 (inv : Int)) := by rw [cell_of_row wc _ 1 _ _ _ hbxc]; rfl
        obtain ⟨t, ht⟩ : ∃ t, t = gt zs' i := ⟨_, rfl⟩
        have hct : wc.cell? ⟨w.heap.size + 1, i, none⟩ = some (.int .u64 (t : Int)) := by rw [ht]; exact hzc.cell (by omega)
        obtain ⟨q, hq⟩ : ∃ q, q = t * inv % W64 := ⟨_, rfl⟩
        have hqw : IntKind.u64.wrap ((t : Int) * (inv : Int)) = (q : Int) := by rw [wrap_mod, hq, W64_eq]; omega
        have hqlt : q < W64 := by rw [hq]; exact Nat.mod_lt _ W64_pos
        have HQ := Lib.hid (show q = gt zs' i * inv % W64 from by rw [hq, ht])
        have hmc := hm'.kept hgc (by simpa using hbm1)
        have HG := Lib.hid (hmc.val)
        have hif : (i : Int) < 2 * (n : Int) + 1 := by omega
        clear ht hq hlc hc0 hc1 hcell2
        go_wp2_with fail
        go_region_with (first
          | (go_at_call 56; refine (addMultiple_any (w.heap.size + 1) i (2 * n + 1 - i) (2 * n + 1 - i) bm om n cm q zs' ms _ (by exact hzc) (by rw [HLC.out]; omega) hdc (by exact hmc.blk) hmc.fit hmc.dg hbm1 (by omega) hqlt (by unfold maxLen; omega)).mono ?_; rintro e w5 ⟨c', vs', rfl, hu, hg5, hadd⟩; rw [HG.out] at hadd; have HADD5 := Lib.hid hadd; clear hadd)
          | (go_at_call 82; refine (addWordTo_any (w.heap.size + 1) (i + n) (2 * n + 1 - (i + n)) (2 * n + 1 - (i + n)) c' vs' _ (by exact hu) (by rw [HADD5.out.1.len, HLC.out]; omega) HADD5.out.2.1 HADD5.out.2.2.1 (by unfold maxLen; omega)).mono ?_; rintro e w6 ⟨rfl, ws, hz6, hg6, hadd6⟩; have HADD6 := Lib.hid hadd6; clear hadd6))
        all_goals
          go_wp2
          refine ⟨⟨i + 1, ws, by omega, by go_num, hz6, gr_trans hg (gr_trans hgc (gr_then (gr_drew wc none) (gr_trans hg5 hg6 (.inr rfl) (.inr (.inl rfl)))) (.inr rfl) (.inr (.inl rfl))) (.inr rfl) (.inr (.inl rfl)), ?_⟩, by simp [intOf]; omega⟩
          have hM : M < W64 ^ n := by rw [← hm.val]; exact vs_lt hm.dg
          exact HI.out.next hAM hM hlt hdb HY.out hinv HADD.out HADDW.out HQ.out HADD5.out (by rw [show n + 1 - i = 2 * n + 1 - (i + n) from by omega]; exact HADD6.out)
    · obtain rfl : i = n := by omega
      obtain ⟨hT, HQ⟩ := HI.out.done hAM hdb
      have hlz := HI.out.len
      have hdz := HI.out.dg
      obtain ⟨T, hTe⟩ : ∃ T, T = vs W64 zs i (i + 1) := ⟨_, rfl⟩
      rw [← hTe] at hT HQ
      have HT := Lib.hid hTe
      have HQQ := Lib.hid HQ
      have HTM := Lib.hid hT
      have HLZ := Lib.hid hlz
      have HA := Lib.hid hA
      have hc0 : wr.cell? ⟨w.heap.size, 0, none⟩ = some (.slice (some ⟨bm, om, none⟩) i cm) := by rw [cell_of_row wr _ 0 _ _ _ hbxr]; rfl
      have hcut : ¬ 2 * i + 1 = i := by omega
      have hf3 : (i : Int) ≤ 2 * (i : Int) + 1 := by omega
      have hlen : 2 * i + 1 - i = i + 1 := by omega
      have HG := Lib.hid hm'.val
      clear hTe HQ hT hlz hA
      have HBZ := Lib.hid hbz
      go_wp2_with fail
      go_cut [66] from 61 to 66 (fun v wx => v = .bool (decide (M ≤ T)) ∧ wr.grownBy wx none)
      case first =>
        go_region_with (first
          | (go_at_call 54; refine (trimmed_num (w.heap.size + 1) i (i + 1) (i + 1) zs _ (by exact HBZ.out) (by rw [HLZ.out]; omega) hdz (Nat.le_refl _) (by unfold maxLen; omega) (by omega)).mono ?_; rintro e w5 ⟨⟨m5, rfl, hm5⟩, rfl⟩; rw [← HT.out] at hm5; have HM5 := Lib.hid hm5; clear hm5)
          | (go_at_call 59; refine (compare_any (w.heap.size + 1) i m5 (i + 1) bm om i cm zs ms _ (by exact HM5.out.blk) HM5.out.fit (by exact hm'.blk) hm'.fit hdz hm'.dg HM5.out.small HM5.out.top hm'.top).mono ?_; rintro e w6 ⟨rfl, hq6⟩; rw [HM5.out.val, HG.out]; have HQ6 := Lib.hid hq6; clear hq6))
        all_goals
          go_wp2
          go_meet
          exact ⟨by rw [geq_cmpN], gr_then (gr_drew wr none) (HQ6.out.gr none)⟩
      case rest =>
        obtain ⟨rfl, hgc⟩ := hcut
        have hmW : M < W64 ^ i := by rw [← hm.val]; exact vs_lt hm.dg
        have hzc := HBZ.out.kept hgc (by simp)
        have hmc := hm'.kept hgc (by simp)
        have hcc0 : wc.cell? ⟨w.heap.size, 0, none⟩ = some (.slice (some ⟨bm, om, none⟩) i cm) := hgc.cell hc0 (by simp)
        have HMW := Lib.hid hmW
        have hgwc : w.grownBy wc none := gr_then hgw hgc
        clear hmW hc0
        by_cases hMT : M ≤ T
        · have hd : decide (M ≤ T) = true := decide_eq_true hMT
          have HMT := Lib.hid hMT
          clear hMT
          go_wp2_with fail
          refine (subtractFrom_any (w.heap.size + 1) i (i + 1) (i + 1) bm om i cm zs ms wc hzc (by rw [HLZ.out]; omega) hdz (by unfold maxLen; omega) hmc.blk hmc.fit hmc.dg hbm1 (by omega) (by rw [hmc.val, ← HT.out]; exact HMT.out)).mono ?_
          rintro e w7 ⟨rfl, us, hu, hg7, hwr, hdu, hvu⟩
          rw [HG.out, ← HT.out] at hvu
          have HU := Lib.hid (And.intro hwr.len (And.intro hdu hvu))
          have hgf : w.grownBy w7 none := gr_new hgwc hg7 (by omega)
          clear hwr hdu hvu hg7
          go_wp2
          go_ret
          refine ⟨w.heap.size + 1, us, rfl, by omega, hu, by rw [HU.out.1, HLZ.out], HU.out.2.1, ?_⟩
          have hlt : vs W64 us i (i + 1) < M := by have := HU.out.2.2; have := HTM.out; omega
          have hv := vs_low (by have := HMW.out; omega : vs W64 us i (i + 1) < W64 ^ i)
          refine ⟨by rw [hv]; exact hlt, ?_, hgf⟩
          obtain ⟨Q, hQ⟩ := HQQ.out
          rw [hv, ← Nat.add_mul_mod_self_left (A * vs W64 ys ob i) M Q, ← hQ, ← HU.out.2.2, Nat.add_mul, Nat.add_mul_mod_self_left]
        · have hd : decide (M ≤ T) = false := decide_eq_false hMT
          have HMT := Lib.hid hMT
          clear hMT
          go_wp2
          go_ret
          refine ⟨w.heap.size + 1, zs, rfl, by omega, hzc, HLZ.out, hdz, ?_⟩
          have hlt : vs W64 zs i (i + 1) < M := by rw [← HT.out]; have := HMT.out; omega
          have hv := vs_low (by have := HMW.out; omega : vs W64 zs i (i + 1) < W64 ^ i)
          refine ⟨by rw [hv]; exact hlt, ?_, hgwc⟩
          obtain ⟨Q, hQ⟩ := HQQ.out
          rw [hv, ← HT.out, hQ, Nat.add_mul_mod_self_left]
end Go.Proofs.YtednijejgadmnaaDoor
