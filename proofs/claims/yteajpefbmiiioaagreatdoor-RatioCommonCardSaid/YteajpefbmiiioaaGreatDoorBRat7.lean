/- Contracts of the program and of the reference, part 7: MontP, Concat, Image, MontW, MontB, Number. -/
import Derived.Test.YteajpefbmiiioaaGreatDoorBRat6
import Derived.Lib.AppendZeros
namespace Go.Proofs.YteajpefbmiiioaaGreatDoor
open Go.RowKit Mth

theorem geq_cmpN (T M : Nat) : decide (0 ≤ cmpN T M) = decide (M ≤ T) := by
  unfold cmpN
  by_cases h : T < M
  · rw [if_pos h, decide_eq_false (by omega), decide_eq_false (by omega)]
  · rw [if_neg h, decide_eq_true (by split <;> omega), decide_eq_true (by omega)]
theorem vs_low {us : List Nat} {i : Nat} (h : vs W64 us i (i + 1) < W64 ^ i) : vs W64 us i i = vs W64 us i (i + 1) := by
  simp only [vs] at h ⊢
  rcases Nat.eq_zero_or_pos (gt us (i + i)) with h0 | h0
  · rw [h0]; simp
  · have := Nat.le_mul_of_pos_right (W64 ^ i) h0
    omega

set_option maxHeartbeats 8000000 in
set_option maxRecDepth 100000 in
theorem mprod_any (bm om n cm inv M : Nat) (ms : List Nat) (ba oa ca : Nat) (xs : List Nat) (bb ob cb : Nat) (ys : List Nat) (A : Nat) (w : World)
    (hm : NumAt w bm om n cm ms M) (hsm : n < 1099511627776) (hinv : (M * inv + 1) % W64 = 0)
    (hba : Blk .u64 96 w ba xs) (hna : oa + n ≤ xs.length) (hda : Dg W64 xs) (hA : vs W64 xs oa n = A) (hAM : A < M)
    (hbb : Blk .u64 96 w bb ys) (hnb : ob + n ≤ ys.length) (hdb : Dg W64 ys) :
    Calls Tryz.prog 141 #[mval (.slice (some ⟨bm, om, none⟩) n cm) inv, .slice (some ⟨ba, oa, none⟩) n ca, .slice (some ⟨bb, ob, none⟩) n cb] w fun e w' => ∃ g us, e = .returned (.slice (some ⟨g, n, none⟩) n (n + 1)) ∧ w.heap.size ≤ g ∧ Blk .u64 96 w' g us ∧ us.length = 2 * n + 1 ∧ Dg W64 us ∧ vs W64 us n n < M ∧ (vs W64 us n n * W64 ^ n) % M = (A * vs W64 ys ob n) % M ∧ w.grownBy w' none := by
  obtain ⟨i0, hi, hz0, hz1, hz2⟩ := info_parts infoW
  unfold mval
  go_enter Tryz.func141, Tryz.ntmps141
  go_wp2_with (at_make; refine wpList_make_full _ rfl _ _ 81 rfl 0 96 i0 (.int .u64 0) 1 Tryz.underlying81 hi hz0 hz1 .i64 .i64 _ _ (2 * n + 1) rfl rfl ?_ ?_ ?_ ?_ (Nat.zero_le _) ?_)
  case refine_1 => omega
  case refine_2 => omega
  case refine_3 => rw [hz2]; omega
  case refine_4 => unfold maxLen; omega
  intro w1 hown hgr
  have hb0 := blk_made' hown
  have hg1 := gr_then (gr_alloc w (.cells #[.slice (some ⟨bm, om, none⟩) n cm, .int .u64 (inv : Int)] 140) none) hgr
  have hl0 : (List.replicate (2 * n + 1) 0 : List Nat).length = 2 * n + 1 := List.length_replicate
  have hz := gt_rep0 (2 * n + 1)
  have hbx : (w.alloc (.cells #[.slice (some ⟨bm, om, none⟩) n cm, .int .u64 (inv : Int)] 140)).heap[w.heap.size]? = some (.cells #[.slice (some ⟨bm, om, none⟩) n cm, .int .u64 (inv : Int)] 140 (0, 0)) := heap_alloc_new _ _
  have hbx1 : w1.heap[w.heap.size]? = some (.cells #[.slice (some ⟨bm, om, none⟩) n cm, .int .u64 (inv : Int)] 140 (0, 0)) := by rw [hgr.block _ (by simp) (by simp)]; exact hbx
  have hi0 : MontInv A M ys (List.replicate (2 * n + 1) 0) n ob 0 := ⟨hl0, fun j => by rw [hz]; exact W64_pos, fun j hj => hz j, 0, by simp, by rw [vs_zero (fun j _ => hz _)]; simp [vs]⟩
  have HI0 := Lib.hid hi0
  generalize (List.replicate (2 * n + 1) 0 : List Nat) = z0 at hb0 HI0
  clear hown hi hz0 hz1 hz2 hl0 hz hi0 hbx hgr
  go_wp2
  go_loopw [21] (fun j wr => ∃ (i : Nat) (zs : List Nat), i ≤ n ∧ j = .int .i64 i ∧ Blk .u64 96 wr (w.heap.size + 1) zs ∧ w1.grownBy wr (some (w.heap.size + 1)) ∧ Hid (MontInv A M ys zs n ob i)) (fun j _ => n - (intOf j).toNat)
  case atStart => exact ⟨0, z0, Nat.zero_le _, rfl, hb0, World.grownBy.refl _ _, HI0⟩
  case round =>
    obtain ⟨i, zs, hile, rfl, hbz, hg, HI⟩ := hrel
    have hgw : w.grownBy wr none := gr_new hg1 hg (by omega)
    have hbxr : wr.heap[w.heap.size]? = some (.cells #[.slice (some ⟨bm, om, none⟩) n cm, .int .u64 (inv : Int)] 140 (0, 0)) := by rw [hg.block _ (Array.getElem?_eq_some_iff.1 hbx1).1 (by simp)]; exact hbx1
    have hba' := hba.kept hgw (by simp)
    have hbb' := hbb.kept hgw (by simp)
    have hm' := hm.kept hgw (by simp)
    have hba1 : ba ≠ w.heap.size + 1 := by have := hba.lt; omega
    have hbm1 : bm ≠ w.heap.size + 1 := by have := hm.blk.lt; omega
    clear hb0 HI0
    by_cases hlt : i < n
    · have hcell2 : wr.cell? ⟨bb, ob + i, none⟩ = some (.int .u64 ((gt ys (ob + i) : Nat) : Int)) := hbb'.cell (by omega)
      have hc0 : wr.cell? ⟨w.heap.size, 0, none⟩ = some (.slice (some ⟨bm, om, none⟩) n cm) := by rw [cell_of_row wr _ 0 _ _ _ hbxr]; rfl
      have hc1 : wr.cell? ⟨w.heap.size, 1, none⟩ = some (.int .u64 (inv : Int)) := by rw [cell_of_row wr _ 1 _ _ _ hbxr]; rfl
      have hlz := HI.out.len
      have hdz := HI.out.dg
      have hdy := hdb (ob + i)
      have hcut : ¬ 2 * n + 1 = i := by omega
      have hcut2 : ¬ 2 * n + 1 = i + n := by omega
      have HLZ := Lib.hid hlz
      obtain ⟨y, hy⟩ : ∃ y, y = gt ys (ob + i) := ⟨_, rfl⟩
      rw [← hy] at hcell2 hdy
      have HY := Lib.hid hy
      have HA := Lib.hid hA
      clear hlz hy hA
      have hf0 : IntKind.i64.wrap ((i : Int) + (n : Int)) = (i : Int) + (n : Int) := by rw [IntKind.wrap_i64]; omega
      have hf1 : (0 : Int) ≤ (i : Int) + (n : Int) := by omega
      have hf2 : (i : Int) + (n : Int) ≤ 2 * (n : Int) + 1 := by omega
      have hf3 : (i : Int) ≤ 2 * (n : Int) + 1 := by omega
      have hf4 : ((i : Int) + (n : Int)).toNat = i + n := by omega
      go_wp2_with fail
      go_cut [] from 26 to 37 (fun wx => ∃ us zs' c, Blk .u64 96 wx (w.heap.size + 1) zs' ∧ wr.grownBy wx (some (w.heap.size + 1)) ∧ Hid (AddedM zs us i n c (A * y)) ∧ Hid (AddedW us zs' (i + n) (n + 1 - i) c))
      case first =>
        go_region_with (first
          | (go_at_call 163; refine (addMultiple_any (w.heap.size + 1) i (2 * n + 1 - i) (2 * n + 1 - i) ba oa n ca y zs xs _ (by exact hbz) (by rw [HLZ.out]; omega) hdz (by exact hba') hna hda hba1 (by omega) hdy (by unfold maxLen; omega)).mono ?_; rintro e w5 ⟨c, us, rfl, hu, hg5, hadd⟩; rw [HA.out] at hadd; have HADD := Lib.hid hadd; clear hadd)
          | (go_at_call 156; refine (addWordTo_any (w.heap.size + 1) (i + n) (2 * n + 1 - (i + n)) (2 * n + 1 - (i + n)) c us _ (by exact hu) (by rw [HADD.out.1.len, HLZ.out]; omega) HADD.out.2.1 HADD.out.2.2.1 (by unfold maxLen; omega)).mono ?_; rintro e w6 ⟨rfl, zs', hz6, hg6, hadd6⟩; have HADD6 := Lib.hid hadd6; clear hadd6))
        all_goals
          go_wp2
          go_meet
          exact ⟨us, zs', c, hz6, gr_then (gr_drew wr none) (gr_trans hg5 hg6 (.inr rfl) (.inr (.inl rfl))), HADD, by rw [show n + 1 - i = 2 * n + 1 - (i + n) from by omega]; exact HADD6⟩
      case rest =>
        obtain ⟨us, zs', c, hzc, hgc, HADD, HADDW⟩ := hcut
        have hlc : zs'.length = 2 * n + 1 := by rw [HADDW.out.1.len, HADD.out.1.len, HLZ.out]
        have HLC := Lib.hid hlc
        have hdc := HADDW.out.2.1
        have hbxc : wc.heap[w.heap.size]? = some (.cells #[.slice (some ⟨bm, om, none⟩) n cm, .int .u64 (inv : Int)] 140 (0, 0)) := by rw [hgc.block _ (Array.getElem?_eq_some_iff.1 hbxr).1 (by simp)]; exact hbxr
        have hcc0 : wc.cell? ⟨w.heap.size, 0, none⟩ = some (.slice (some ⟨bm, om, none⟩) n cm) := by rw [cell_of_row wc _ 0 _ _ _ hbxc]; rfl
        have hcc1 : wc.cell? ⟨w.heap.size, 1, none⟩ = some (.int .u64 (inv : Int)) := by rw [cell_of_row wc _ 1 _ _ _ hbxc]; rfl
        obtain ⟨t, ht⟩ : ∃ t, t = gt zs' i := ⟨_, rfl⟩
        have hct : wc.cell? ⟨w.heap.size + 1, i, none⟩ = some (.int .u64 (t : Int)) := by rw [ht]; exact hzc.cell (by omega)
        obtain ⟨q, hq⟩ : ∃ q, q = t * inv % W64 := ⟨_, rfl⟩
        have hqw : IntKind.u64.wrap ((t : Int) * (inv : Int)) = (q : Int) := by rw [wrap_mod, hq, W64_eq]; omega
        have hqlt : q < W64 := by rw [hq]; exact Nat.mod_lt _ W64_pos
        have HQ := Lib.hid (show q = gt zs' i * inv % W64 from by rw [hq, ht])
        have hmc := hm'.kept hgc (by simpa using hbm1)
        have HG := Lib.hid (hmc.val)
        have hif : (i : Int) < 2 * (n : Int) + 1 := by omega
        clear ht hq hlc hc0 hc1 hcell2
        go_wp2_with fail
        go_region_with (first
          | (go_at_call 163; refine (addMultiple_any (w.heap.size + 1) i (2 * n + 1 - i) (2 * n + 1 - i) bm om n cm q zs' ms _ (by exact hzc) (by rw [HLC.out]; omega) hdc (by exact hmc.blk) hmc.fit hmc.dg hbm1 (by omega) hqlt (by unfold maxLen; omega)).mono ?_; rintro e w5 ⟨c', vs', rfl, hu, hg5, hadd⟩; rw [HG.out] at hadd; have HADD5 := Lib.hid hadd; clear hadd)
          | (go_at_call 156; refine (addWordTo_any (w.heap.size + 1) (i + n) (2 * n + 1 - (i + n)) (2 * n + 1 - (i + n)) c' vs' _ (by exact hu) (by rw [HADD5.out.1.len, HLC.out]; omega) HADD5.out.2.1 HADD5.out.2.2.1 (by unfold maxLen; omega)).mono ?_; rintro e w6 ⟨rfl, ws, hz6, hg6, hadd6⟩; have HADD6 := Lib.hid hadd6; clear hadd6))
        all_goals
          go_wp2
          refine ⟨⟨i + 1, ws, by omega, by go_num, hz6, gr_trans hg (gr_trans hgc (gr_then (gr_drew wc none) (gr_trans hg5 hg6 (.inr rfl) (.inr (.inl rfl)))) (.inr rfl) (.inr (.inl rfl))) (.inr rfl) (.inr (.inl rfl)), ?_⟩, by simp [intOf]; omega⟩
          have hM : M < W64 ^ n := by rw [← hm.val]; exact vs_lt hm.dg
          exact HI.out.next hAM hM hlt hdb HY.out hinv HADD.out HADDW.out HQ.out HADD5.out (by rw [show n + 1 - i = 2 * n + 1 - (i + n) from by omega]; exact HADD6.out)
    · obtain rfl : i = n := by omega
      obtain ⟨hT, HQ⟩ := HI.out.done hAM hdb
      have hlz := HI.out.len
      have hdz := HI.out.dg
      obtain ⟨T, hTe⟩ : ∃ T, T = vs W64 zs i (i + 1) := ⟨_, rfl⟩
      rw [← hTe] at hT HQ
      have HT := Lib.hid hTe
      have HQQ := Lib.hid HQ
      have HTM := Lib.hid hT
      have HLZ := Lib.hid hlz
      have HA := Lib.hid hA
      have hc0 : wr.cell? ⟨w.heap.size, 0, none⟩ = some (.slice (some ⟨bm, om, none⟩) i cm) := by rw [cell_of_row wr _ 0 _ _ _ hbxr]; rfl
      have hcut : ¬ 2 * i + 1 = i := by omega
      have hf3 : (i : Int) ≤ 2 * (i : Int) + 1 := by omega
      have hlen : 2 * i + 1 - i = i + 1 := by omega
      have HG := Lib.hid hm'.val
      clear hTe HQ hT hlz hA
      have HBZ := Lib.hid hbz
      go_wp2_with fail
      go_cut [66] from 61 to 66 (fun v wx => v = .bool (decide (M ≤ T)) ∧ wr.grownBy wx none)
      case first =>
        go_region_with (first
          | (go_at_call 125; refine (trimmed_num (w.heap.size + 1) i (i + 1) (i + 1) zs _ (by exact HBZ.out) (by rw [HLZ.out]; omega) hdz (Nat.le_refl _) (by unfold maxLen; omega) (by omega)).mono ?_; rintro e w5 ⟨⟨m5, rfl, hm5⟩, rfl⟩; rw [← HT.out] at hm5; have HM5 := Lib.hid hm5; clear hm5)
          | (go_at_call 130; refine (compare_any (w.heap.size + 1) i m5 (i + 1) bm om i cm zs ms _ (by exact HM5.out.blk) HM5.out.fit (by exact hm'.blk) hm'.fit hdz hm'.dg HM5.out.small HM5.out.top hm'.top).mono ?_; rintro e w6 ⟨rfl, hq6⟩; rw [HM5.out.val, HG.out]; have HQ6 := Lib.hid hq6; clear hq6))
        all_goals
          go_wp2
          go_meet
          exact ⟨by rw [geq_cmpN], gr_then (gr_drew wr none) (HQ6.out.gr none)⟩
      case rest =>
        obtain ⟨rfl, hgc⟩ := hcut
        have hmW : M < W64 ^ i := by rw [← hm.val]; exact vs_lt hm.dg
        have hzc := HBZ.out.kept hgc (by simp)
        have hmc := hm'.kept hgc (by simp)
        have hcc0 : wc.cell? ⟨w.heap.size, 0, none⟩ = some (.slice (some ⟨bm, om, none⟩) i cm) := hgc.cell hc0 (by simp)
        have HMW := Lib.hid hmW
        have hgwc : w.grownBy wc none := gr_then hgw hgc
        clear hmW hc0
        by_cases hMT : M ≤ T
        · have hd : decide (M ≤ T) = true := decide_eq_true hMT
          have HMT := Lib.hid hMT
          clear hMT
          go_wp2_with fail
          refine (subtractFrom_any (w.heap.size + 1) i (i + 1) (i + 1) bm om i cm zs ms wc hzc (by rw [HLZ.out]; omega) hdz (by unfold maxLen; omega) hmc.blk hmc.fit hmc.dg hbm1 (by omega) (by rw [hmc.val, ← HT.out]; exact HMT.out)).mono ?_
          rintro e w7 ⟨rfl, us, hu, hg7, hwr, hdu, hvu⟩
          rw [HG.out, ← HT.out] at hvu
          have HU := Lib.hid (And.intro hwr.len (And.intro hdu hvu))
          have hgf : w.grownBy w7 none := gr_new hgwc hg7 (by omega)
          clear hwr hdu hvu hg7
          go_wp2
          go_ret
          refine ⟨w.heap.size + 1, us, rfl, by omega, hu, by rw [HU.out.1, HLZ.out], HU.out.2.1, ?_⟩
          have hlt : vs W64 us i (i + 1) < M := by have := HU.out.2.2; have := HTM.out; omega
          have hv := vs_low (by have := HMW.out; omega : vs W64 us i (i + 1) < W64 ^ i)
          refine ⟨by rw [hv]; exact hlt, ?_, hgf⟩
          obtain ⟨Q, hQ⟩ := HQQ.out
          rw [hv, ← Nat.add_mul_mod_self_left (A * vs W64 ys ob i) M Q, ← hQ, ← HU.out.2.2, Nat.add_mul, Nat.add_mul_mod_self_left]
        · have hd : decide (M ≤ T) = false := decide_eq_false hMT
          have HMT := Lib.hid hMT
          clear hMT
          go_wp2
          go_ret
          refine ⟨w.heap.size + 1, zs, rfl, by omega, hzc, HLZ.out, hdz, ?_⟩
          have hlt : vs W64 zs i (i + 1) < M := by rw [← HT.out]; have := HMT.out; omega
          have hv := vs_low (by have := HMW.out; omega : vs W64 zs i (i + 1) < W64 ^ i)
          refine ⟨by rw [hv]; exact hlt, ?_, hgwc⟩
          obtain ⟨Q, hQ⟩ := HQQ.out
          rw [hv, ← HT.out, hQ, Nat.add_mul_mod_self_left]
end Go.Proofs.YteajpefbmiiioaaGreatDoor
namespace Go.Proofs.YteajpefbmiiioaaGreatDoor
open Go.RowKit Mth

/-- append into room. -/
theorem wpList_append_room_blk {P : Program} {w : World} {ops : Array Oper} {rest : List Oper} {o : Oper} {a : Act} {Q : Exit → Act → World → Prop} (hgd : o.guard = none) (s x : Operand) (t : TypeId)
    (ho : o.op = .call { callee := .builtin .append, args := #[s, x], argTypes := #[t, t] })
    (k : IntKind) (e : TypeId) (i : TypeInfo) (ht : P.underlying t = some (.slice e)) (hi : P.info? e = some i) (hsize : i.size = 1)
    (g n : Nat) (zs : List Nat) (hs : a.eval s = .slice (some ⟨g, 0, none⟩) n zs.length) (hb : Blk k e w g zs) (b off m c : Nat) (xs : List Nat) (hx : a.eval x = .slice (some ⟨b, off, none⟩) m c)
    (hcell : ∀ j, j < m → w.cell? ⟨b, off + j, none⟩ = some (.int k ((gt xs (off + j) : Nat) : Int))) (hm : off + m ≤ xs.length) (hroom : n + m ≤ zs.length)
    (h : ∀ w' us, us.length = zs.length → Blk k e w' g us → w.grownBy w' (some g) → Apped zs us xs n m off → wpList P ops Q rest (a.put o.dst (.slice (some ⟨g, 0, none⟩) (n + m) zs.length)) w') : wpList P ops Q (o :: rest) a w := by
  refine wpList_plain hgd fun K hK => ?_
  have hnl : (cellsOf k ((xs.drop off).take m)).length = m := by rw [length_cellsOf]; simp; omega
  have hl : (cellsOf k ((xs.drop off).take m)).length = m * i.size := by rw [hsize, hnl, Nat.mul_one]
  have hnews : ∀ j u, (cellsOf k ((xs.drop off).take m))[j]? = some u → w.cell? ((⟨b, off, none⟩ : Addr).add j) = some u := by
    intro j u hu
    have hj : j < m := by have := (List.getElem?_eq_some_iff.1 hu).1; omega
    rw [Addr.add_lit, hcell j hj]
    rw [cellsOf_get k _ _ (by simp; omega), gt_take hj, gt_drop] at hu
    exact hu
  have hone : ∀ u ∈ cellsOf k ((xs.drop off).take m), u.oneCell' = true := by
    intro u hu
    simp only [cellsOf, List.mem_map] at hu
    obtain ⟨_, _, rfl⟩ := hu
    rfl
  have hr := run_append_room (P := P) w t o.type e i ht hi g n zs.length (cellsOf k zs).toArray hb ⟨b, off, none⟩ m c _ hl hnews hone hroom (by rw [hsize, hnl]; simp [length_cellsOf]; omega)
  have hcells : (((cellsOf k zs).toArray.toList.take (n * i.size) ++ cellsOf k ((xs.drop off).take m) ++ (cellsOf k zs).toArray.toList.drop (n * i.size + (cellsOf k ((xs.drop off).take m)).length)).toArray) = (cellsOf k (zs.take n ++ (xs.drop off).take m ++ zs.drop (n + m))).toArray := by
    rw [hsize, hnl, Nat.mul_one]; simp [cellsOf, List.map_take, List.map_drop]
  rw [hcells] at hr
  have hlen : (zs.take n ++ (xs.drop off).take m ++ zs.drop (n + m)).length = zs.length := by simp; omega
  have hfin := h _ _ hlen (setRow_heap w g _ _ e _ hb) ⟨rfl, rfl, rfl, by simp, fun k _ hk => setRow_other w g k _ (fun e => hk (by simp [e]))⟩ (apped_room hroom hm)
  unfold Oper.wp execOp
  simp only [ho, resolve, invoke, builtin, Sem.run_bind, Sem.run_pure, Result.andThen_ok, List.map_toArray, List.map_cons, List.map_nil, hs, hx, hr]
  exact hK _ _ hfin

set_option maxRecDepth 100000 in
theorem grow_nil (n : Nat) (w : World) (h0 : 0 < n) (hn : n ≤ 8796093022208) :
    Calls Tryz.prog 175 #[.slice none 0 0, .int .i64 n] w fun e w' => ∃ zs, e = .returned (.slice (some ⟨w.heap.size, 0, none⟩) 0 zs.length) ∧ Blk .u64 96 w' w.heap.size zs ∧ n ≤ zs.length ∧ zs.length ≤ maxLen ∧ Dg W64 zs ∧ w.grownBy w' none := by
  obtain ⟨i0, hi, hz0, hz1, hz2⟩ := info_parts infoW
  have hr := Lib.run_append_nil_zeros (P := Tryz.prog) w 81 3 81 96 i0 (.int .u64 0) .i64 .i64 Tryz.underlying81 Tryz.underlying3 hi hz0 n h0 (by omega) (by omega) (by rw [hz2]; omega)
  have hge := grownCap_ge w n 0 96
  have hle := grownCap_le_maxLen w n 0 96 (by unfold maxLen; omega)
  have hzz : Builtin.zeroCells (Value.int .u64 0).cells n ++ Builtin.zeroCells (Value.int .u64 0).cells (grownCap w n 0 96 - n) = (cellsOf .u64 (List.replicate (grownCap w n 0 96) 0)).toArray := by
    have hzc : ∀ q, (Builtin.zeroCells (Value.int .u64 0).cells q) = (cellsOf .u64 (List.replicate q 0)).toArray := fun q => by rw [← zeroCells_int, Array.toArray_toList]
    rw [hzc, hzc, List.append_toArray, ← cellsOf_append, List.replicate_append_replicate, show n + (grownCap w n 0 96 - n) = grownCap w n 0 96 from by omega]
  rw [hzz] at hr
  have hln : (List.replicate (grownCap w n 0 96) 0 : List Nat).length = grownCap w n 0 96 := List.length_replicate
  have hgz := gt_rep0 (grownCap w n 0 96)
  have hblk : Blk .u64 96 (w.drew.alloc (.cells (cellsOf .u64 (List.replicate (grownCap w n 0 96) 0)).toArray 96)) w.heap.size (List.replicate (grownCap w n 0 96) 0) := heap_alloc_new w.drew _
  have hgr : w.grownBy (w.drew.alloc (.cells (cellsOf .u64 (List.replicate (grownCap w n 0 96) 0)).toArray 96)) none := gr_then (gr_drew w none) (gr_alloc _ _ _)
  generalize hZ : (List.replicate (grownCap w n 0 96) 0 : List Nat) = zs at *
  rw [← hln] at hr hge hle
  have HR := Lib.hid hr
  have HB := Lib.hid hblk
  have HG := Lib.hid hgz
  generalize w.drew.alloc (.cells (cellsOf .u64 zs).toArray 96) = w2 at *
  clear hr hblk hgz hzz hZ hln hi hz0 hz1 hz2
  go_enter Tryz.func175, Tryz.ntmps175
  go_wp2_with (at_builtin; refine Lib.wpList_append_run _ rfl (.tmp 20) (.tmp 21) 81 3 rfl _ _ rfl rfl _ _ HR.out ?_)
  go_wp2
  go_ret
  exact ⟨zs, rfl, HB.out, hge, hle, fun i => by rw [HG.out]; exact W64_pos, hgr⟩

def sz2 (n1 n2 : Nat) : Nat → Nat
  | 0 => 0
  | 1 => n1
  | _ => n1 + n2

set_option maxHeartbeats 4000000 in
set_option maxRecDepth 100000 in
theorem concat_two (gs : Nat) (cs : Nat) (b1 o1 n1 c1 b2 o2 n2 c2 : Nat) (xs ys : List Nat) (w : World) (hgs : w.heap[gs]? = some (.cells #[.slice (some ⟨b1, o1, none⟩) n1 c1, .slice (some ⟨b2, o2, none⟩) n2 c2] 81 (0, 0)))
    (hb1 : Blk .u64 96 w b1 xs) (hn1 : o1 + n1 ≤ xs.length) (hd1 : Dg W64 xs) (hb2 : Blk .u64 96 w b2 ys) (hn2 : o2 + n2 ≤ ys.length) (hd2 : Dg W64 ys) (h0 : 0 < n1) (hs1 : n1 ≤ 1099511627776) (hs2 : n2 ≤ 1099511627776) :
    Calls Tryz.prog 162 #[.slice (some ⟨gs, 0, none⟩) 2 cs] w fun e w' => ∃ g us, e = .returned (.slice (some ⟨g, 0, none⟩) (n1 + n2) us.length) ∧ w.heap.size ≤ g ∧ Blk .u64 96 w' g us ∧ n1 + n2 ≤ us.length ∧ us.length ≤ maxLen ∧ Dg W64 us ∧ vs W64 us 0 (n1 + n2) = vs W64 xs o1 n1 + W64 ^ n1 * vs W64 ys o2 n2 ∧ w.grownBy w' none := by
  obtain ⟨i0, hi, hz0, hz1, hz2⟩ := info_parts infoW
  have hlt1 := hb1.lt
  have hlt2 := hb2.lt
  have hltg : gs < w.heap.size := (Array.getElem?_eq_some_iff.1 hgs).1
  have hc0 : w.cell? ⟨gs, 0, none⟩ = some (.slice (some ⟨b1, o1, none⟩) n1 c1) := by rw [cell_of_row w _ 0 _ _ _ hgs]; rfl
  have hc1 : w.cell? ⟨gs, 1, none⟩ = some (.slice (some ⟨b2, o2, none⟩) n2 c2) := by rw [cell_of_row w _ 1 _ _ _ hgs]; rfl
  go_enter Tryz.func162, Tryz.ntmps162
  go_wp2
  go_loopw [3, 11] (fun s j wr => ∃ i, i ≤ 2 ∧ j = .int .i64 (i : Nat) ∧ s = .int .i64 ((sz2 n1 n2 i : Nat) : Int) ∧ wr = w) (fun _ j _ => 2 - (intOf j).toNat)
  case atStart => exact ⟨0, by omega, rfl, rfl, rfl⟩
  case round =>
    obtain ⟨i, hile, rfl, rfl, rfl⟩ := hrel
    rcases i with _ | _ | _ | i
    · have hnn : ¬ ((n1 : Int) < 0) := by omega
      rw [show sz2 n1 n2 0 = 0 from rfl]
      go_wp2
      exact ⟨⟨1, by omega, rfl, rfl, trivial⟩, by decide⟩
    · rw [show sz2 n1 n2 (0 + 1) = n1 from rfl]
      have hnn : ¬ ((n1 : Int) + (n2 : Int) < 0) := by omega
      go_wp2
      exact ⟨⟨2, by omega, rfl, by simp [sz2], trivial⟩, by decide⟩
    · rw [show sz2 n1 n2 (0 + 1 + 1) = n1 + n2 from rfl]
      obtain ⟨wz, rfl⟩ : ∃ wz, wz = wr := ⟨_, rfl⟩
      go_wp2_with fail
      rw [show ((n1 : Int) + (n2 : Int)) = ((n1 + n2 : Nat) : Int) from by omega]
      refine (grow_nil (n1 + n2) wz (by omega) (by omega)).mono ?_
      rintro e w2 ⟨z0, rfl, hbz, hz1', hz2', hdz, hg2⟩
      have hgs2 : w2.heap[gs]? = some (.cells #[.slice (some ⟨b1, o1, none⟩) n1 c1, .slice (some ⟨b2, o2, none⟩) n2 c2] 81 (0, 0)) := by rw [hg2.block _ hltg (by simp)]; exact hgs
      have hltw2 : wz.heap.size < w2.heap.size := hbz.lt
      obtain ⟨L, hL⟩ : ∃ L, L = z0.length := ⟨_, rfl⟩
      rw [← hL] at hz1' hz2' ⊢
      have HL := Lib.hid hL
      obtain ⟨G, hG⟩ : ∃ G, G = wz.heap.size := ⟨_, rfl⟩
      rw [← hG] at hbz hltw2 ⊢
      have hlt1' : b1 < G := by omega
      have hlt2' : b2 < G := by omega
      have hltg' : gs < G := by omega
      have HG := Lib.hid hG
      clear hL hG hc0 hc1
      go_wp2
      go_loopw [6, 27] (fun v j wq => ∃ i us, i ≤ 2 ∧ j = .int .i64 (i : Nat) ∧ v = .slice (some ⟨G, 0, none⟩) (sz2 n1 n2 i) L ∧ Blk .u64 96 wq G us ∧ w2.grownBy wq (some G) ∧ Hid (us.length = L ∧ Dg W64 us ∧ (1 ≤ i → ∀ j, j < n1 → gt us j = gt xs (o1 + j)) ∧ (2 ≤ i → ∀ j, j < n2 → gt us (n1 + j) = gt ys (o2 + j)))) (fun _ j _ => 2 - (intOf j).toNat)
      case atStart => exact ⟨0, z0, by omega, rfl, rfl, hbz, World.grownBy.refl _ _, ⟨HL.out.symm, hdz, fun h => by omega, fun h => by omega⟩⟩
      case round =>
        obtain ⟨i, us, hile, rfl, rfl, hbu, hgu, HU⟩ := hrel
        have hgsq : wr.heap[gs]? = some (.cells #[.slice (some ⟨b1, o1, none⟩) n1 c1, .slice (some ⟨b2, o2, none⟩) n2 c2] 81 (0, 0)) := by rw [hgu.block _ (by omega) (by simp; omega)]; exact hgs2
        have hc0 : wr.cell? ⟨gs, 0, none⟩ = some (.slice (some ⟨b1, o1, none⟩) n1 c1) := by rw [cell_of_row wr _ 0 _ _ _ hgsq]; rfl
        have hc1 : wr.cell? ⟨gs, 1, none⟩ = some (.slice (some ⟨b2, o2, none⟩) n2 c2) := by rw [cell_of_row wr _ 1 _ _ _ hgsq]; rfl
        have hb1r := (hb1.kept hg2 (by simp)).kept hgu (by simp; omega)
        have hb2r := (hb2.kept hg2 (by simp)).kept hgu (by simp; omega)
        rcases i with _ | _ | _ | i
        · rw [show sz2 n1 n2 0 = 0 from rfl]
          obtain ⟨hlu, hdu, _, _⟩ := HU.out
          have HLU := Lib.hid hlu
          clear hlu
          go_wp2_with (at_builtin; refine wpList_append_room_blk rfl (.tmp 31) (.tmp 32) 81 rfl .u64 96 i0 Tryz.underlying81 hi hz1 G 0 us (by rw [HLU.out]; rfl) hbu b1 o1 n1 c1 xs rfl ?_ hn1 ?_ ?_)
          case refine_1 => intro j hj; exact hb1r.cell (by omega)
          case refine_2 => rw [HLU.out]; omega
          intro w3 vs3 hl3 hb3 hg3 hap
          rw [HLU.out] at hl3 ⊢
          have HAP := Lib.hid hap
          have HL3 := Lib.hid hl3
          clear hap hl3
          go_wp2
          refine ⟨⟨1, vs3, by omega, rfl, rfl, hb3, gr_trans hgu hg3 (.inr rfl) (.inr (.inl rfl)), HL3.out, HAP.out.dg W64_pos hdu hd1, fun _ j hj => by have := HAP.out.new j hj; rwa [Nat.zero_add] at this, fun h => by omega⟩, by decide⟩
        · rw [show sz2 n1 n2 (0 + 1) = n1 from rfl]
          obtain ⟨hlu, hdu, hold, _⟩ := HU.out
          have HLU := Lib.hid hlu
          have HOLD := Lib.hid hold
          clear hlu hold
          go_wp2_with (at_builtin; refine wpList_append_room_blk rfl (.tmp 31) (.tmp 32) 81 rfl .u64 96 i0 Tryz.underlying81 hi hz1 G n1 us (by rw [HLU.out]; rfl) hbu b2 o2 n2 c2 ys rfl ?_ hn2 ?_ ?_)
          case refine_1 => intro j hj; exact hb2r.cell (by omega)
          case refine_2 => rw [HLU.out]; omega
          intro w3 vs3 hl3 hb3 hg3 hap
          rw [HLU.out] at hl3 ⊢
          have HAP := Lib.hid hap
          have HL3 := Lib.hid hl3
          clear hap hl3
          go_wp2
          refine ⟨⟨2, vs3, by omega, rfl, rfl, hb3, gr_trans hgu hg3 (.inr rfl) (.inr (.inl rfl)), HL3.out, HAP.out.dg W64_pos hdu hd2, fun _ j hj => by rw [HAP.out.old j hj]; exact HOLD.out (by omega) j hj, fun _ j hj => HAP.out.new j hj⟩, by decide⟩
        · rw [show sz2 n1 n2 (0 + 1 + 1) = n1 + n2 from rfl]
          have hgf : wz.grownBy wr none := gr_new hg2 hgu (by rw [HG.out]; exact Nat.le_refl _)
          go_wp2
          go_ret
          obtain ⟨hlu, hdu, hx, hy⟩ := HU.out
          refine ⟨G, us, by rw [hlu]; rfl, by rw [HG.out]; exact Nat.le_refl _, hbu, by omega, by omega, hdu, ?_, hgf⟩
          rw [vs_split, vs_congr (ys := xs) (off' := o1) (fun j hj => by rw [Nat.zero_add]; exact hx (by omega) j hj), Nat.zero_add, vs_congr (xs := us) (ys := ys) (off := n1) (off' := o2) (fun j hj => hy (by omega) j hj)]
        · omega
    · omega
end Go.Proofs.YteajpefbmiiioaaGreatDoor
namespace Go.Proofs.YteajpefbmiiioaaGreatDoor
open Go.RowKit Mth

set_option maxHeartbeats 8000000 in
set_option maxRecDepth 100000 in
theorem image_any (bm om n cm inv M : Nat) (ms : List Nat) (ba oa na ca A : Nat) (xs : List Nat) (w : World) (hm : NumAt w bm om n cm ms M) (hM0 : 0 < M) (ha : NumAt w ba oa na ca xs A) (hna : na ≤ 137438953473) (hn : n ≤ 137438953473) :
    Calls Tryz.prog 140 #[mval (.slice (some ⟨bm, om, none⟩) n cm) inv, .slice (some ⟨ba, oa, none⟩) na ca] w fun e w' => ∃ g us, e = .returned (.slice (some ⟨g, 0, none⟩) n n) ∧ w.heap.size ≤ g ∧ Row w' g n (A * W64 ^ n % M) us ∧ w.grownBy w' none := by
  obtain ⟨i0, hi, hz0, hz1, hz2⟩ := info_parts infoW
  unfold mval
  have hbx : (w.alloc (.cells #[.slice (some ⟨bm, om, none⟩) n cm, .int .u64 (inv : Int)] 140)).heap[w.heap.size]? = some (.cells #[.slice (some ⟨bm, om, none⟩) n cm, .int .u64 (inv : Int)] 140 (0, 0)) := heap_alloc_new _ _
  go_enter Tryz.func140, Tryz.ntmps140
  have hg0 := gr_alloc w (.cells #[.slice (some ⟨bm, om, none⟩) n cm, .int .u64 (inv : Int)] 140) none
  have hm1 := hm.kept hg0 (by simp)
  have ha1 := ha.kept hg0 (by simp)
  have hc0 : (w.alloc (.cells #[.slice (some ⟨bm, om, none⟩) n cm, .int .u64 (inv : Int)] 140)).cell? ⟨w.heap.size, 0, none⟩ = some (.slice (some ⟨bm, om, none⟩) n cm) := by rw [cell_of_row _ _ 0 _ _ _ hbx]; rfl
  go_wp2_with fail
  generalize w.alloc (.cells #[.slice (some ⟨bm, om, none⟩) n cm, .int .u64 (inv : Int)] 140) = w1 at *
  obtain ⟨w2, hmk, hown, hg2⟩ := run_make_full (P := Tryz.prog) w1.drew 0 81 96 i0 (.int .u64 0) 1 Tryz.underlying81 hi hz0 hz1 .i64 .i64 n (by rw [hz2]; omega) (by unfold maxLen; omega) (Nat.zero_le _)
  have hb2 := blk_made hown
  have hl2 : (List.replicate n 0 : List Nat).length = n := List.length_replicate
  have HZ := Lib.hid (gt_rep0 n)
  have hn0 : 0 < n := by
    rcases Nat.eq_zero_or_pos n with h | h
    · subst h; have := hm.val; simp [vs] at this; omega
    · exact h
  obtain ⟨G, hG⟩ : ∃ G, G = w1.drew.heap.size := ⟨_, rfl⟩
  rw [← hG] at hmk hb2
  have HG := Lib.hid hG
  generalize (List.replicate n 0 : List Nat) = z0 at *
  have hcd : w1.drew.cell? ⟨w.heap.size, 0, none⟩ = some (.slice (some ⟨bm, om, none⟩) n cm) := hc0
  have hc2 := hg2.cell hcd (by simp)
  have hm2 := (hm1.kept (gr_drew w1 none) (by simp)).kept hg2 (by simp)
  have ha2 := (ha1.kept (gr_drew w1 none) (by simp)).kept hg2 (by simp)
  have hg3 := gr_alloc w2 (.cells #[.slice (some ⟨G, 0, none⟩) n n, .slice (some ⟨ba, oa, none⟩) na ca] 81) none
  have hc3 := hg3.cell hc2 (by simp)
  have hm3 := hm2.kept hg3 (by simp)
  have ha3 := ha2.kept hg3 (by simp)
  have hb3 := hb2.kept hg3 (by simp)
  have hgs : (w2.alloc (.cells #[.slice (some ⟨G, 0, none⟩) n n, .slice (some ⟨ba, oa, none⟩) na ca] 81)).heap[w2.heap.size]? = some (.cells #[.slice (some ⟨G, 0, none⟩) n n, .slice (some ⟨ba, oa, none⟩) na ca] 81 (0, 0)) := heap_alloc_new _ _
  have HGS := Lib.hid hgs
  have HB3 := Lib.hid hb3
  have HA3 := Lib.hid ha3
  have HM3 := Lib.hid hm3
  have HL2 := Lib.hid hl2
  clear hgs hb3 ha3 hm3 hl2 hG hown hb2 hm2 ha2 ha1 hm1
  go_cut [5, 6] from 7 to 20 (fun q r wx => Num wx r (A * W64 ^ n % M) ∧ w1.grownBy wx none)
  case first =>
    go_region_with (first
      | (go_at_call 162; refine (concat_two w2.heap.size 2 G 0 n n ba oa na ca z0 xs _ HGS.out HB3.out (by rw [HL2.out]; omega) (fun i => by rw [HZ.out]; exact W64_pos) HA3.out.blk HA3.out.fit HA3.out.dg hn0 (by omega) (by omega)).mono ?_; rintro e w4 ⟨g4, us, rfl, hlt4, hb4, hlen4, hmax4, hd4, hv4, hg4⟩; have hc4 := hg4.cell hc3 (by simp); have HU := Lib.hid (And.intro hlen4 (And.intro hmax4 (And.intro hd4 hv4))); have HM4 := Lib.hid (HM3.out.kept hg4 (by simp)); clear hlen4 hmax4 hd4 hv4)
      | (go_at_call 125; refine (trimmed_num g4 0 (n + na) us.length us w4 hb4 (by have := HU.out.1; omega) HU.out.2.2.1 HU.out.1 HU.out.2.1 (by omega)).mono ?_; rintro e w5 ⟨⟨m5, rfl, hm5⟩, rfl⟩; have HM5 := Lib.hid hm5; clear hm5)
      | (go_at_call 82; refine (divide_all _ _ (vs W64 us 0 (n + na)) M w4 ⟨g4, 0, m5, us.length, us, rfl, HM5.out⟩ ⟨bm, om, n, cm, ms, rfl, HM4.out⟩ hM0).mono ?_; rintro e w6 ⟨q, r, rfl, hq, hr, hg6⟩; have HQ := Lib.hid hq; have HR := Lib.hid hr; clear hq hr))
    all_goals
      go_wp2
      go_meet
      refine ⟨?_, gr_then (gr_drew w1 none) (gr_then hg2 (gr_then hg3 (gr_then hg4 hg6)))⟩
      have h := HR.out
      rw [HU.out.2.2.2, vs_zero (fun i _ => HZ.out _), Nat.zero_add, HA3.out.val, Nat.mul_comm] at h
      exact h
  case rest =>
    obtain ⟨hr, hgc⟩ := hcut
    have hbc : wc.heap[w.heap.size]? = some (.cells #[.slice (some ⟨bm, om, none⟩) n cm, .int .u64 (inv : Int)] 140 (0, 0)) := by rw [hgc.block _ (Array.getElem?_eq_some_iff.1 hbx).1 (by simp)]; exact hbx
    have hcc0 : wc.cell? ⟨w.heap.size, 0, none⟩ = some (.slice (some ⟨bm, om, none⟩) n cm) := by rw [cell_of_row _ _ 0 _ _ _ hbc]; rfl
    have hcc1 : wc.cell? ⟨w.heap.size, 1, none⟩ = some (.int .u64 (inv : Int)) := by rw [cell_of_row _ _ 1 _ _ _ hbc]; rfl
    have hgw : w.grownBy wc none := gr_then hg0 hgc
    obtain ⟨g6, o6, m6, c6, zs6, rfl, h6⟩ := hr
    have H6 := Lib.hid h6
    clear h6
    have hle : m6 ≤ n := H6.out.len_le (by
      have h1 : M < W64 ^ n := by rw [← hm.val]; exact vs_lt hm.dg
      have h2 := Nat.mod_lt (A * W64 ^ n) hM0
      omega)
    go_wp2_with fail
    refine (padded_any (some ⟨bm, om, none⟩) n cm inv g6 o6 m6 c6 zs6 wc H6.out.blk H6.out.fit H6.out.dg hle (by omega)).mono ?_
    rintro e w7 ⟨g7, us7, rfl, hlt7, hrow7, hg7⟩
    rw [H6.out.val] at hrow7
    have HR7 := Lib.hid hrow7
    clear hrow7
    go_wp2
    go_ret
    exact ⟨g7, us7, rfl, by have := hgw.size; omega, HR7.out, gr_then hgw hg7⟩

theorem mod_cancel {a b c M : Nat} (h : (a * c) % M = (b * c) % M) (hc : Nat.Coprime M c) : a % M = b % M := by
  have key : ∀ a b : Nat, a ≤ b → (a * c) % M = (b * c) % M → a % M = b % M := by
    intro a b hab h
    have h1 : (b * c - a * c) % M = 0 := Nat.sub_mod_eq_zero_of_mod_eq h.symm
    rw [← Nat.sub_mul] at h1
    have h2 : M ∣ b - a := hc.dvd_of_dvd_mul_right (Nat.dvd_of_mod_eq_zero h1)
    obtain ⟨k, hk⟩ := h2
    have : b = a + M * k := by omega
    rw [this, Nat.add_mul_mod_self_left]
  rcases Nat.le_total a b with hab | hab
  · exact key a b hab h
  · exact (key b a hab h.symm).symm
theorem coprime_W {M inv : Nat} (h : (M * inv + 1) % W64 = 0) (n : Nat) : Nat.Coprime M (W64 ^ n) := by
  refine Nat.Coprime.pow_right n ?_
  obtain ⟨k, hk⟩ := Nat.dvd_of_mod_eq_zero h
  have h1 : Nat.gcd M W64 ∣ M * inv + 1 := by rw [hk]; exact Nat.dvd_trans (Nat.gcd_dvd_right _ _) (Nat.dvd_mul_right _ _)
  have h2 : Nat.gcd M W64 ∣ M * inv := Nat.dvd_trans (Nat.gcd_dvd_left _ _) (Nat.dvd_mul_right _ _)
  have h3 : Nat.gcd M W64 ∣ 1 := (Nat.dvd_add_right h2).1 h1
  exact Nat.dvd_one.1 h3

/-- v is the image, in n words, of r modulo M. -/
def ImgOf (w : World) (v : Value) (n M r : Nat) : Prop := ∃ g o c us, v = .slice (some ⟨g, o, none⟩) n c ∧ Blk .u64 96 w g us ∧ o + n ≤ us.length ∧ Dg W64 us ∧ vs W64 us o n = r * W64 ^ n % M
theorem ImgOf.kept {w w' : World} {v : Value} {n M r : Nat} (h : ImgOf w v n M r) (hg : w.grownBy w' none) : ImgOf w' v n M r := by
  obtain ⟨g, o, c, us, rfl, h1, h2⟩ := h
  exact ⟨g, o, c, us, rfl, h1.kept hg (by simp), h2⟩
theorem ImgOf.congr {w : World} {v : Value} {n M r s : Nat} (h : ImgOf w v n M r) (e : r % M = s % M) : ImgOf w v n M s := by
  obtain ⟨g, o, c, us, rfl, h1, h2, h3, h4⟩ := h
  refine ⟨g, o, c, us, rfl, h1, h2, h3, ?_⟩
  rw [h4, Nat.mul_mod, e, ← Nat.mul_mod]

theorem mont_times (bm om n cm inv M : Nat) (ms : List Nat) (va vb : Value) (a b : Nat) (w : World) (hm : NumAt w bm om n cm ms M) (hsm : n < 1099511627776) (hM0 : 0 < M) (hinv : (M * inv + 1) % W64 = 0) (ha : ImgOf w va n M a) (hb : ImgOf w vb n M b) :
    Calls Tryz.prog 141 #[mval (.slice (some ⟨bm, om, none⟩) n cm) inv, va, vb] w fun e w' => ∃ r, e = .returned r ∧ ImgOf w' r n M (a * b % M) ∧ w.grownBy w' none := by
  obtain ⟨g1, o1, c1, us1, rfl, h11, h12, h13, h14⟩ := ha
  obtain ⟨g2, o2, c2, us2, rfl, h21, h22, h23, h24⟩ := hb
  refine (mprod_any bm om n cm inv M ms g1 o1 c1 us1 g2 o2 c2 us2 _ w hm hsm hinv h11 h12 h13 h14 (Nat.mod_lt _ hM0) h21 h22 h23).mono ?_
  rintro e w' ⟨g, us, rfl, hlt, hbu, hlu, hdu, hltM, hval, hg⟩
  refine ⟨_, rfl, ⟨g, n, n + 1, us, rfl, hbu, by rw [hlu]; omega, hdu, ?_⟩, hg⟩
  rw [h24] at hval
  have h1 : (a * W64 ^ n % M * (b * W64 ^ n % M)) % M = (a * b % M * W64 ^ n * W64 ^ n) % M := by
    rw [← Nat.mul_mod, Nat.mul_mul_mul_comm, ← Nat.mul_assoc, Nat.mul_mod (a * b * W64 ^ n), Nat.mul_mod (a * b), Nat.mul_mod (a * b % M * W64 ^ n), Nat.mul_mod (a * b % M) (W64 ^ n) M, Nat.mod_mod]
  rw [h1] at hval
  have h2 := mod_cancel hval (coprime_W hinv n)
  rw [Nat.mod_eq_of_lt hltM] at h2
  exact h2
end Go.Proofs.YteajpefbmiiioaaGreatDoor
namespace Go.Proofs.YteajpefbmiiioaaGreatDoor
open Go.RowKit Go.Shelf Mth

theorem img_own {W W' : World} {v : Value} {n M r : Nat} {row : Option Nat} (h : ImgOf W v n M r) (hg : W.grownBy W' row) (hrow : ∀ r, row = some r → ∃ o : Obj, W.heap[r]? = some o ∧ o.isCells = false) : ImgOf W' v n M r := by
  obtain ⟨g, o, c, us, rfl, hb, h⟩ := h
  refine ⟨g, o, c, us, rfl, hb.kept hg ?_, h⟩
  intro e
  obtain ⟨o, ho, hc⟩ := hrow g e.symm
  unfold Blk at hb
  rw [hb] at ho
  obtain rfl := Option.some.inj ho
  simp [Obj.isCells] at hc
theorem numAt_own {W W' : World} {g off m c N : Nat} {xs : List Nat} {row : Option Nat} (h : NumAt W g off m c xs N) (hg : W.grownBy W' row) (hrow : ∀ r, row = some r → ∃ o : Obj, W.heap[r]? = some o ∧ o.isCells = false) : NumAt W' g off m c xs N := by
  refine h.kept hg ?_
  intro e
  obtain ⟨o, ho, hc⟩ := hrow g e.symm
  have hb := h.blk
  unfold Blk at hb
  rw [hb] at ho
  obtain rfl := Option.some.inj ho
  simp [Obj.isCells] at hc
theorem img_set {W : World} {x v : Value} {n M r K B n' M' : Nat} (h : ImgOf W x n M r) (hx : ImgOf W v n' M' K) (hv : W.cell? ⟨B, 0, none⟩ = some v) (u : Value) : ImgOf (W.setCell ⟨B, 0, none⟩ u) x n M r := by
  obtain ⟨_, _, _, _, rfl, _⟩ := hx
  obtain ⟨g, o, c, us, rfl, hb, h⟩ := h
  exact ⟨g, o, c, us, rfl, hb.kept (gr_set _ _ _ _) (by have := blk_ne hb hv; simpa using this), h⟩
theorem numAt_set {W : World} {v : Value} {g off m c N K B n' M' : Nat} {xs : List Nat} (h : NumAt W g off m c xs N) (hx : ImgOf W v n' M' K) (hv : W.cell? ⟨B, 0, none⟩ = some v) (u : Value) : NumAt (W.setCell ⟨B, 0, none⟩ u) g off m c xs N := by
  obtain ⟨_, _, _, _, rfl, _⟩ := hx
  exact h.kept (gr_set _ _ _ _) (by have := blk_ne h.blk hv; simpa using this)

attribute [local go_sem] Oper.semAt_some
set_option maxRecDepth 100000 in
set_option maxHeartbeats 2000000 in
theorem power_mont (vb vo : Value) (bm om n cm inv M : Nat) (ms : List Nat) (b : Nat) (e : ByteArray) (w : World) (hb : ImgOf w vb n M b) (ho : ImgOf w vo n M 1) (hm : NumAt w bm om n cm ms M) (hsm : n < 1099511627776) (hM0 : 0 < M) (hinv : (M * inv + 1) % W64 = 0) (hsz : e.size ≤ 1000000000000) :
    Calls Tryz.prog 139 #[vb, vo, .string e, .func (.func 141) #[mval (.slice (some ⟨bm, om, none⟩) n cm) inv] #[]] w fun x w' => ∃ r, x = .returned r ∧ ImgOf w' r n M (accP M b (bitsTop (num e.data.toList) (bitsN (num e.data.toList)))) ∧ w.grownBy w' none := by
  obtain ⟨g1, o1, c1, xs, rfl, hb⟩ := hb
  obtain ⟨g2, o2, c2, ys, rfl, ho⟩ := ho
  have HB := Lib.hid hb
  have HO := Lib.hid ho
  have HM := Lib.hid hm
  clear hb ho hm
  refine (callsIn_wide (n := 5)).1 ?_
  refine callsIn_of_wp_marks Tryz.func139 rfl trivial ?_ rfl
  simp only [Tryz.ntmps139, List.size_toArray, List.length_cons, List.length_nil, Nat.reduceAdd, Nat.reduceSub, Array.replicate_succ, Array.replicate_zero, List.push_toArray, List.append_toArray, List.nil_append, List.cons_append]
  gi_wp2
  refine ⟨trivial, (callsIn_wide.2 (bitsFromTop_any _ _)).mono ?_⟩
  rintro e' w' ⟨rfl, rfl⟩
  obtain ⟨W0, hW0⟩ : ∃ W0, W0 = (((w.alloc (Obj.cells #[Value.slice (some ⟨g1, o1, none⟩) n c1] 81)).alloc (Obj.cells #[(.func (.func 141) #[mval (.slice (some ⟨bm, om, none⟩) n cm) inv] #[] : Value)] 89)).alloc (Obj.cells #[Value.slice (some ⟨g2, o2, none⟩) n c2] 81)).alloc (Obj.cells #[.string e] 24) := ⟨_, rfl⟩
  obtain ⟨hs0, k0, k1, k2, k3, f2, hg0⟩ := boxes4 w _ _ _ _ _ _ _ _ W0 hW0
  rw [← hW0]
  simp only [World.size_alloc]
  clear hW0
  gi_wp2
  have hn1 : ImgOf W0 (.slice (some ⟨g1, o1, none⟩) n c1) n M b := ⟨g1, o1, c1, xs, rfl, HB.out.1.kept hg0 (by simp), HB.out.2⟩
  have hn2 : ImgOf W0 (.slice (some ⟨g2, o2, none⟩) n c2) n M 1 := ⟨g2, o2, c2, ys, rfl, HO.out.1.kept hg0 (by simp), HO.out.2⟩
  have hnm : NumAt W0 bm om n cm ms M := HM.out.kept hg0 (by simp)
  have hbb : Below w.heap.size w W0 := ⟨hg0.os, hg0.tape, hg0.output, hg0.size, fun k hk => hg0.block k hk (by simp)⟩
  refine wpIn_rangeFunc_ownF rfl (by omega) (gf := 174) (lb := #[.pointer (some ⟨w.heap.size + 1 + 1 + 1, 0, none⟩)]) rfl trivial (enters_of Tryz.func174 (by kernel_rfl) rfl)
    (bits_stops 4 (w.heap.size + 1 + 1 + 1) e W0 k3 hsz) (fun h k v hv => k v (h v hv)) (fun W l o o' _ hl ho _ v hv => ?_) (Below.refl _ _) (fun _ => rfl)
    (fun pre W => (∃ v, W.cell? ⟨w.heap.size + 1 + 1, 0, none⟩ = some v ∧ W.frozen? ⟨w.heap.size + 1 + 1, 0, none⟩ = false ∧ ImgOf W v n M (accP M b pre) ∧ W.cell? ⟨w.heap.size, 0, none⟩ = some (.slice (some ⟨g1, o1, none⟩) n c1) ∧ ImgOf W (.slice (some ⟨g1, o1, none⟩) n c1) n M b ∧ W.cell? ⟨w.heap.size + 1, 0, none⟩ = some (.func (.func 141) #[mval (.slice (some ⟨bm, om, none⟩) n cm) inv] #[]) ∧ NumAt W bm om n cm ms M) ∧ Below w.heap.size w W)
    (fun _ _ _ => False)
    (OwnFrom.and (Own.from (fun s A B row hs hg hr => by obtain ⟨v, q1, q2, q3, q4, q5, q6, q8⟩ := hs; exact ⟨v, cell_kept q1 hg hr, (frozen_kept q1 hg hr).trans q2, img_own q3 hg hr, cell_kept q4 hg hr, img_own q5 hg hr, cell_kept q6 hg hr, numAt_own q8 hg hr⟩) _) (ownFrom_below (Nat.le_refl _) (by omega)))
    (fun _ _ _ _ _ hs _ _ => hs)
    ⟨⟨_, k2, f2, hn2.congr (by rw [show accP M b [] = 1 % M from rfl, Nat.mod_mod]), k0, hn1, k1, hnm⟩, hbb⟩
    (fun x => { tmps := #[.slice (some ⟨g1, o1, none⟩) n c1, .slice (some ⟨g2, o2, none⟩) n c2, .string e, .func (.func 141) #[mval (.slice (some ⟨bm, om, none⟩) n cm) inv] #[], .pointer (some ⟨w.heap.size, 0, none⟩), undef, undef, .pointer (some ⟨w.heap.size + 1, 0, none⟩), .slice none 0 0, .pointer (some ⟨w.heap.size + 1 + 1, 0, none⟩), .bool x, .slice (some ⟨g2, o2, none⟩) n c2, .string e, .func (.func 174) #[] #[.pointer (some ⟨w.heap.size + 1 + 1 + 1, 0, none⟩)], .bool x, undef, undef, undef, undef, undef, undef, undef, undef, undef, undef], defers := [] }) ?assign ?body ?done ?stop
  case assign =>
    intro l x W K hK
    gi_wp2
    exact hK
  case body =>
    rintro l pre x W ⟨⟨v, q1, q2, q3, q4, q5, q6, q8⟩, hB⟩ _
    have hne0 : w.heap.size ≠ w.heap.size + 1 + 1 := by omega
    have hne1 : w.heap.size + 1 ≠ w.heap.size + 1 + 1 := by omega
    have hne3 : w.heap.size + 1 + 1 + 1 ≠ w.heap.size + 1 + 1 := by omega
    have HI := Lib.hid (And.intro q3 (And.intro q5 q8))
    clear q3 q5 q8 k0 k1 k2 k3 f2 hn1 hn2 hnm hbb hg0 hs0
    gi_wp2
    refine ⟨trivial, (CallsIn.inRound l (callsIn_wide.2 (mont_times bm om n cm inv M ms v v _ _ W HI.out.2.2 hsm hM0 hinv HI.out.1 HI.out.1))).mono ?_⟩
    rintro e' W1 ⟨r, rfl, hr, hg1⟩
    obtain ⟨sg, so, sc, ss, rfl, hr⟩ := hr
    have p1 := hg1.cell q1 (by simp)
    have p2 : W1.frozen? ⟨w.heap.size + 1 + 1, 0, none⟩ = false := (World.frozen?_of_block (hg1.block _ (World.block_lt_of_cell? W _ q1) (by simp))).trans q2
    have p4 := hg1.cell q4 (by simp)
    have p6 := hg1.cell q6 (by simp)
    have hv1 := HI.out.1.kept hg1
    have hb1 := HI.out.2.1.kept hg1
    have hm1 := HI.out.2.2.kept hg1 (by simp)
    have hr : ImgOf W1 (.slice (some ⟨sg, so, none⟩) n sc) n M _ := ⟨sg, so, sc, ss, rfl, hr⟩
    have HR := Lib.hid (And.intro hr (And.intro hv1 (And.intro hb1 hm1)))
    clear hr hv1 hb1 hm1 q1 q2 q4 q6
    cases x with
    | false =>
      gi_wp2
      refine ⟨(KeepsOthers.of_grownBy hg1 (by simp)).trans (KeepsOthers.setCell _ _ _), fun u hu => (gr_set _ _ _ _).cell (hg1.cell hu (by simp)) (by simp), ⟨_, World.cell?_setCell_same' _ _ _ (by rw [p1]; rfl), by rw [World.frozen?_setCell]; exact p2, ?_, (gr_set _ _ _ _).cell p4 (by simp; omega), img_set HR.out.2.2.1 HR.out.2.1 p1 _, (gr_set _ _ _ _).cell p6 (by simp), numAt_set HR.out.2.2.2 HR.out.2.1 p1 _⟩, (hB.grown hg1 hB.size (by simp)).setCell (p := ⟨w.heap.size + 1 + 1, 0, none⟩) (by simp; omega) _⟩
      rw [accP_snoc, if_neg (by decide)]
      exact img_set HR.out.1 HR.out.2.1 p1 _
    | true =>
      gi_wp2
      have n1 := img_set HR.out.1 HR.out.2.1 p1 (.slice (some ⟨sg, so, none⟩) n sc)
      have n3 := img_set HR.out.2.2.1 HR.out.2.1 p1 (.slice (some ⟨sg, so, none⟩) n sc)
      have n4 := numAt_set HR.out.2.2.2 HR.out.2.1 p1 (.slice (some ⟨sg, so, none⟩) n sc)
      have s1 : (W1.setCell ⟨w.heap.size + 1 + 1, 0, none⟩ (.slice (some ⟨sg, so, none⟩) n sc)).cell? ⟨w.heap.size + 1 + 1, 0, none⟩ = some (.slice (some ⟨sg, so, none⟩) n sc) := World.cell?_setCell_same' _ _ _ (by rw [p1]; rfl)
      have s2 : (W1.setCell ⟨w.heap.size + 1 + 1, 0, none⟩ (.slice (some ⟨sg, so, none⟩) n sc)).frozen? ⟨w.heap.size + 1 + 1, 0, none⟩ = false := by rw [World.frozen?_setCell]; exact p2
      have s4 := (gr_set W1 (w.heap.size + 1 + 1) 0 (.slice (some ⟨sg, so, none⟩) n sc)).cell p4 (by simp; omega)
      have s6 := (gr_set W1 (w.heap.size + 1 + 1) 0 (.slice (some ⟨sg, so, none⟩) n sc)).cell p6 (by simp)
      have sB := (hB.grown hg1 hB.size (by simp)).setCell (p := ⟨w.heap.size + 1 + 1, 0, none⟩) (by simp; omega) (.slice (some ⟨sg, so, none⟩) n sc)
      have sK : KeepsOthers W (W1.setCell ⟨w.heap.size + 1 + 1, 0, none⟩ (.slice (some ⟨sg, so, none⟩) n sc)) := (KeepsOthers.of_grownBy hg1 (by simp)).trans (KeepsOthers.setCell _ _ _)
      have sP : KpBox (w.heap.size + 1 + 1 + 1) W (W1.setCell ⟨w.heap.size + 1 + 1, 0, none⟩ (.slice (some ⟨sg, so, none⟩) n sc)) := fun u hu => (gr_set _ _ _ _).cell (hg1.cell hu (by simp)) (by simp)
      generalize W1.setCell ⟨w.heap.size + 1 + 1, 0, none⟩ (.slice (some ⟨sg, so, none⟩) n sc) = W2 at *
      have HN := Lib.hid (And.intro n1 (And.intro n3 n4))
      have HSK := Lib.hid (And.intro sK sP)
      clear n1 n3 n4 HR p1 p2 p4 p6 hg1 sK sP
      refine ⟨trivial, (CallsIn.inRound l (callsIn_wide.2 (mont_times bm om n cm inv M ms _ _ _ _ W2 HN.out.2.2 hsm hM0 hinv HN.out.1 HN.out.2.1))).mono ?_⟩
      rintro e' W3 ⟨r3, rfl, hr3, hg3⟩
      obtain ⟨tg, tof, tc, ts, rfl, hr3⟩ := hr3
      have t1 := hg3.cell s1 (by simp)
      have t2 : W3.frozen? ⟨w.heap.size + 1 + 1, 0, none⟩ = false := (World.frozen?_of_block (hg3.block _ (World.block_lt_of_cell? W2 _ s1) (by simp))).trans s2
      have t4 := hg3.cell s4 (by simp)
      have t6 := hg3.cell s6 (by simp)
      have hr3' : ImgOf W3 (.slice (some ⟨tg, tof, none⟩) n tc) n M _ := ⟨tg, tof, tc, ts, rfl, hr3⟩
      have HR3 := Lib.hid (And.intro hr3' (And.intro (HN.out.1.kept hg3) (And.intro (HN.out.2.1.kept hg3) (HN.out.2.2.kept hg3 (by simp)))))
      clear hr3 hr3' s1 s2 s4 s6
      gi_wp2
      refine ⟨HSK.out.1.trans ((KeepsOthers.of_grownBy hg3 (by simp)).trans (KeepsOthers.setCell _ _ _)), fun u hu => (gr_set _ _ _ _).cell (hg3.cell (HSK.out.2 u hu) (by simp)) (by simp), ⟨_, World.cell?_setCell_same' _ _ _ (by rw [t1]; rfl), by rw [World.frozen?_setCell]; exact t2, ?_, (gr_set _ _ _ _).cell t4 (by simp; omega), img_set HR3.out.2.2.1 HR3.out.2.1 t1 _, (gr_set _ _ _ _).cell t6 (by simp), numAt_set HR3.out.2.2.2 HR3.out.2.1 t1 _⟩, (sB.grown hg3 sB.size (by simp)).setCell (p := ⟨w.heap.size + 1 + 1, 0, none⟩) (by simp; omega) _⟩
      rw [accP_snoc, if_pos rfl]
      exact img_set HR3.out.1 HR3.out.2.1 t1 _
  case done =>
    rintro D ys' W hD rfl ⟨⟨v, q1, q2, q3, q4, q5, q6, q8⟩, hB⟩ hK
    have hBK := hB.trans (belowK_b (w := w) (Nat.le_refl _) W D _ (.deferred none) (by omega) hK rfl rfl)
    have hnv := img_own q3 (grownBy_putObj' W D (.deferred none)) (fun r e => by cases e; exact ⟨_, hK, rfl⟩)
    clear q3 q5 q8
    gi_wp2
    refine ⟨by simp, .inl ⟨_, _, rfl, run_takeDeferred hK, ?_⟩⟩
    exact ⟨_, results_tmp rfl _ _ _, v, rfl, hnv, below_gr hBK⟩
  case stop =>
    rintro D c pre W _ _ h _
    exact h.elim
  exact cell_kept hv (grownBy_putObj' W l o') (fun r e => by cases e; exact ⟨o, hl, ho⟩)
end Go.Proofs.YteajpefbmiiioaaGreatDoor
namespace Go.Proofs.YteajpefbmiiioaaGreatDoor
open Go.RowKit Mth

theorem inv_step {m x x' q d D W : Int} (h : d ∣ m * x - 1) (hD : D ∣ d * d) (hW : D ∣ W) (hx : x' = x * (2 - m * x) + W * q) : D ∣ m * x' - 1 := by
  obtain ⟨t, ht⟩ := h
  obtain ⟨s, hs⟩ := hD
  obtain ⟨u, hu⟩ := hW
  refine ⟨u * q * m - s * (t * t), ?_⟩
  subst hx hu
  have h1 : m * x = 1 + d * t := by omega
  have e1 : m * (x * (2 - m * x)) = 1 - d * d * (t * t) := by
    rw [← Int.mul_assoc, h1]
    grind
  grind

/-- How many bits are right after j rounds. -/
def rb : Nat → Nat
  | 0 => 3
  | 1 => 6
  | 2 => 12
  | 3 => 24
  | 4 => 48
  | _ => 96
def rd (j : Nat) : Int := if j < 5 then 2 ^ rb j else 18446744073709551616
theorem rd_step (j : Nat) (h : j < 5) : rd (j + 1) ∣ rd j * rd j ∧ rd (j + 1) ∣ 18446744073709551616 := by
  rcases j with _ | _ | _ | _ | _ | j
  · decide
  · decide
  · decide
  · decide
  · exact ⟨⟨4294967296, by decide⟩, ⟨1, by decide⟩⟩
  · omega
theorem odd_eight {m : Nat} (h : m % 2 = 1) : rd 0 ∣ (m : Int) * m - 1 := by
  have h8 : ((m : Int) * m - 1) % 8 = 0 := by
    have : (m : Int) % 8 = 1 ∨ (m : Int) % 8 = 3 ∨ (m : Int) % 8 = 5 ∨ (m : Int) % 8 = 7 := by omega
    rw [Int.sub_emod, Int.mul_emod]
    rcases this with h | h | h | h <;> rw [h] <;> decide
  exact Int.dvd_of_emod_eq_zero h8
theorem inv_end {M m x y z : Nat} (hM : M = m + W64 * z) (h : rd 5 ∣ (m : Int) * (x : Int) - 1) (hy : -(x : Int) % 18446744073709551616 = (y : Int)) : (M * y + 1) % W64 = 0 := by
  obtain ⟨t, ht⟩ := h
  rw [show rd 5 = 18446744073709551616 from rfl] at ht
  have hq := Int.emod_add_mul_ediv (-(x : Int)) 18446744073709551616
  rw [hy] at hq
  generalize -(x : Int) / 18446744073709551616 = q at hq
  have hM' : (M : Int) = m + 18446744073709551616 * z := by rw [hM, W64_eq]; simp
  have hd : (18446744073709551616 : Int) ∣ (M : Int) * y + 1 := by
    refine ⟨-t - m * q + z * y, ?_⟩
    have hy2 : (y : Int) = -x - 18446744073709551616 * q := by omega
    rw [hM']
    have e : (m : Int) * x = 1 + 18446744073709551616 * t := by omega
    grind
  have h2 : ((M * y + 1 : Nat) : Int) % 18446744073709551616 = 0 := by
    have := Int.emod_eq_zero_of_dvd hd
    simpa using this
  rw [W64_eq]
  omega

set_option maxHeartbeats 4000000 in
set_option maxRecDepth 100000 in
theorem montgomeryBy_any (bm om n cm M : Nat) (ms : List Nat) (w : World) (hm : NumAt w bm om n cm ms M) (hodd : gt ms om % 2 = 1) (hn0 : 0 < n) :
    Calls Tryz.prog 137 #[.slice (some ⟨bm, om, none⟩) n cm] w fun e w' => ∃ inv, e = .returned (mval (.slice (some ⟨bm, om, none⟩) n cm) inv) ∧ (M * inv + 1) % W64 = 0 ∧ w.grownBy w' none := by
  obtain ⟨m, hmv⟩ : ∃ m, m = gt ms om := ⟨_, rfl⟩
  rw [← hmv] at hodd
  have hfit := hm.fit
  have hcell : w.cell? ⟨bm, om, none⟩ = some (.int .u64 (m : Int)) := by rw [hmv]; exact hm.blk.cell (by omega)
  have h0 : rd 0 ∣ (m : Int) * (m : Int) - 1 := odd_eight hodd
  have hmW : m < W64 := by rw [hmv]; exact hm.dg _
  have HMV := Lib.hid hmv
  clear hmv
  go_enter Tryz.func137, Tryz.ntmps137
  have hcell1 := (gr_alloc w (.cells #[.slice none 0 0, .int .u64 0] 140) none).cell hcell (by simp)
  have hg1 := gr_alloc w (.cells #[.slice none 0 0, .int .u64 0] 140) none
  have hbx : (w.alloc (.cells #[.slice none 0 0, .int .u64 0] 140)).heap[w.heap.size]? = some (.cells #[.slice none 0 0, .int .u64 0] 140 (0, 0)) := heap_alloc_new _ _
  go_wp2_with fail
  obtain ⟨w1, hw1⟩ : ∃ w1, w1 = w.alloc (.cells #[.slice none 0 0, .int .u64 0] 140) := ⟨_, rfl⟩
  rw [← hw1] at hcell1 hg1 hbx ⊢
  have HW1 := Lib.hid hw1
  clear hw1
  go_loopw [3, 4] (fun v i wr => ∃ j x : Nat, j ≤ 5 ∧ i = .int .i64 ((rb j : Nat) : Int) ∧ v = .int .u64 (x : Int) ∧ wr = w1 ∧ Hid (rd j ∣ (m : Int) * (x : Int) - 1)) (fun _ i _ => 96 - (intOf i).toNat)
  case atStart => exact ⟨0, m, by omega, rfl, rfl, rfl, h0⟩
  case round =>
    obtain ⟨j, x, hj, rfl, rfl, rfl, HI⟩ := hrel
    by_cases hj5 : j < 5
    · obtain ⟨x', hx'⟩ : ∃ x' : Nat, (x' : Int) = ((x : Int) * (2 - (m : Int) * (x : Int))) % 18446744073709551616 := ⟨(((x : Int) * (2 - (m : Int) * (x : Int))) % 18446744073709551616).toNat, by omega⟩
      have hnext : rd (j + 1) ∣ (m : Int) * (x' : Int) - 1 := inv_step (W := 18446744073709551616) (q := -(((x : Int) * (2 - (m : Int) * (x : Int))) / 18446744073709551616)) HI.out (rd_step j hj5).1 (rd_step j hj5).2 (by rw [hx']; have := Int.emod_add_mul_ediv ((x : Int) * (2 - (m : Int) * (x : Int))) 18446744073709551616; omega)
      have HN := Lib.hid hnext
      have HX := Lib.hid hx'
      clear hx' hnext
      have hb64 : ((rb j : Nat) : Int) < 64 := by rcases j with _ | _ | _ | _ | _ | j <;> simp [rb] <;> omega
      have hb2 : ((rb j : Nat) : Int) * 2 = ((rb (j + 1) : Nat) : Int) := by rcases j with _ | _ | _ | _ | _ | j <;> simp [rb] <;> omega
      have hwr : IntKind.u64.wrap ((x : Int) * IntKind.u64.wrap (2 - IntKind.u64.wrap ((m : Int) * (x : Int)))) = (x' : Int) := by
        rw [wrap_mod, wrap_mod, wrap_mod, HX.out]
        have e1 : (2 - (m : Int) * (x : Int) % 18446744073709551616) % 18446744073709551616 = (2 - (m : Int) * (x : Int)) % 18446744073709551616 := by omega
        rw [e1, Int.mul_emod, Int.emod_emod_of_dvd _ (Int.dvd_refl _), ← Int.mul_emod]
      have hms : 96 - (intOf (Value.int IntKind.i64 ((rb (j + 1) : Nat) : Int))).toNat < 96 - (intOf (Value.int IntKind.i64 ((rb j : Nat) : Int))).toNat := by
        rcases j with _ | _ | _ | _ | _ | j
        · decide
        · decide
        · decide
        · decide
        · decide
        · omega
      have HWR := Lib.hid hwr
      clear hwr
      go_wp2
      exact ⟨⟨j + 1, x', by omega, rfl, by rw [HWR.out], trivial, HN⟩, hms⟩
    · obtain rfl : j = 5 := by omega
      rw [show rb 5 = 96 from rfl]
      have k0 : wr.cell? ⟨w.heap.size, 0, none⟩ = some (.slice none 0 0) := by rw [cell_of_row _ _ 0 _ _ _ hbx]; rfl
      have k1 : wr.cell? ⟨w.heap.size, 1, none⟩ = some (.int .u64 0) := by rw [cell_of_row _ _ 1 _ _ _ hbx]; rfl
      have f0 : wr.frozen? ⟨w.heap.size, 0, none⟩ = false := by unfold World.frozen?; rw [hbx]; rfl
      have f1 : wr.frozen? ⟨w.heap.size, 1, none⟩ = false := by unfold World.frozen?; rw [hbx]; rfl
      obtain ⟨y, hy⟩ : ∃ y : Nat, IntKind.u64.wrap (-(x : Int)) = (y : Int) := ⟨(IntKind.u64.wrap (-(x : Int))).toNat, by rw [wrap_mod]; omega⟩
      have hyv := hy
      rw [wrap_mod] at hyv
      have HY := Lib.hid hyv
      clear hyv
      have k1' : (wr.setCell ⟨w.heap.size, 0, none⟩ (.slice (some ⟨bm, om, none⟩) n cm)).cell? ⟨w.heap.size, 1, none⟩ = some (.int .u64 0) := by rw [World.cell?_setCell_other _ _ _ _ (by simp)]; exact k1
      have f1' : (wr.setCell ⟨w.heap.size, 0, none⟩ (.slice (some ⟨bm, om, none⟩) n cm)).frozen? ⟨w.heap.size, 1, none⟩ = false := by rw [World.frozen?_setCell]; exact f1
      go_wp2
      have hfin : (M * y + 1) % W64 = 0 := by
        refine inv_end (m := m) (x := x) (z := vs W64 ms (om + 1) (n - 1)) ?_ HI.out HY.out
        obtain ⟨k, rfl⟩ : ∃ k, n = k + 1 := ⟨n - 1, by omega⟩
        have hv := hm.val
        rw [vs_left, ← HMV.out] at hv
        rw [show k + 1 - 1 = k from rfl]
        exact hv.symm
      have r0 : ((wr.setCell ⟨w.heap.size, 0, none⟩ (.slice (some ⟨bm, om, none⟩) n cm)).setCell ⟨w.heap.size, 1, none⟩ (.int .u64 (y : Int))).cell? ⟨w.heap.size, 0, none⟩ = some (.slice (some ⟨bm, om, none⟩) n cm) := by rw [World.cell?_setCell_other _ _ _ _ (by simp)]; exact World.cell?_setCell_same' _ _ _ (by rw [k0]; rfl)
      have r1 : ((wr.setCell ⟨w.heap.size, 0, none⟩ (.slice (some ⟨bm, om, none⟩) n cm)).setCell ⟨w.heap.size, 1, none⟩ (.int .u64 (y : Int))).cell? ⟨w.heap.size, 1, none⟩ = some (.int .u64 (y : Int)) := World.cell?_setCell_same' _ _ _ (by rw [k1']; rfl)
      have hgf : w.grownBy ((wr.setCell ⟨w.heap.size, 0, none⟩ (.slice (some ⟨bm, om, none⟩) n cm)).setCell ⟨w.heap.size, 1, none⟩ (.int .u64 (y : Int))) none := gr_new (gr_new hg1 (gr_set _ _ _ _) (Nat.le_refl _)) (gr_set _ _ _ _) (Nat.le_refl _)
      refine bodyPost_ret (v := .agg #[.slice (some ⟨bm, om, none⟩) n cm, .int .u64 (y : Int)]) (by simp [results, Tryz.f137, go_sem, r0, r1]) rfl ⟨y, rfl, hfin, hgf⟩
end Go.Proofs.YteajpefbmiiioaaGreatDoor
namespace Go.Proofs.YteajpefbmiiioaaGreatDoor
open Go.RowKit Mth

set_option maxHeartbeats 8000000 in
set_option maxRecDepth 100000 in
theorem number_any (bm om n cm inv M : Nat) (ms : List Nat) (v : Value) (r : Nat) (w : World) (hm : NumAt w bm om n cm ms M) (hsm : n < 1099511627776) (hM0 : 0 < M) (hinv : (M * inv + 1) % W64 = 0) (hv : ImgOf w v n M r) :
    Calls Tryz.prog 138 #[mval (.slice (some ⟨bm, om, none⟩) n cm) inv, v] w fun e w' => ∃ g o c us, e = .returned (.slice (some ⟨g, o, none⟩) n c) ∧ n ≤ c ∧ c ≤ maxLen ∧ Blk .u64 96 w' g us ∧ o + n ≤ us.length ∧ Dg W64 us ∧ vs W64 us o n = r % M ∧ w.grownBy w' none := by
  obtain ⟨g1, o1, c1, us1, rfl, h11, h12, h13, h14⟩ := hv
  have hn0 : 0 < n := by
    rcases Nat.eq_zero_or_pos n with h | h
    · subst h; have := hm.val; simp [vs] at this; omega
    · exact h
  unfold mval
  have hbx : (w.alloc (.cells #[.slice (some ⟨bm, om, none⟩) n cm, .int .u64 (inv : Int)] 140)).heap[w.heap.size]? = some (.cells #[.slice (some ⟨bm, om, none⟩) n cm, .int .u64 (inv : Int)] 140 (0, 0)) := heap_alloc_new _ _
  have hg0 := gr_alloc w (.cells #[.slice (some ⟨bm, om, none⟩) n cm, .int .u64 (inv : Int)] 140) none
  have hsz1 : (w.alloc (.cells #[.slice (some ⟨bm, om, none⟩) n cm, .int .u64 (inv : Int)] 140)).heap.size = w.heap.size + 1 := by simp
  go_enter Tryz.func138, Tryz.ntmps138
  have hm1 := hm.kept hg0 (by simp)
  have h1 := h11.kept hg0 (by simp)
  have hc0 : (w.alloc (.cells #[.slice (some ⟨bm, om, none⟩) n cm, .int .u64 (inv : Int)] 140)).cell? ⟨w.heap.size, 0, none⟩ = some (.slice (some ⟨bm, om, none⟩) n cm) := by rw [cell_of_row _ _ 0 _ _ _ hbx]; rfl
  have hc1 : (w.alloc (.cells #[.slice (some ⟨bm, om, none⟩) n cm, .int .u64 (inv : Int)] 140)).cell? ⟨w.heap.size, 1, none⟩ = some (.int .u64 (inv : Int)) := by rw [cell_of_row _ _ 1 _ _ _ hbx]; rfl
  go_wp2_with fail
  generalize w.alloc (.cells #[.slice (some ⟨bm, om, none⟩) n cm, .int .u64 (inv : Int)] 140) = w1 at *
  have hg2 := gr_alloc w1.drew (.cells #[.int .u64 1] 96) none
  have hd0 : w1.drew.cell? ⟨w.heap.size, 0, none⟩ = some (.slice (some ⟨bm, om, none⟩) n cm) := hc0
  have hd1 : w1.drew.cell? ⟨w.heap.size, 1, none⟩ = some (.int .u64 (inv : Int)) := hc1
  have he0 := hg2.cell hd0 (by simp)
  have he1 := hg2.cell hd1 (by simp)
  have hb2 : Blk .u64 96 (w1.drew.alloc (.cells #[.int .u64 1] 96)) w1.drew.heap.size [1] := blk_one w1.drew .u64 96 1
  have hszd : w1.drew.heap.size = w.heap.size + 1 := hsz1
  rw [hszd] at hb2
  have HB2 := Lib.hid hb2
  have HM2 := Lib.hid ((hm1.kept (gr_drew w1 none) (by simp)).kept hg2 (by simp))
  have HV2 := Lib.hid ((h1.kept (gr_drew w1 none) (by simp)).kept hg2 (by simp))
  clear hb2 hm1 h1 hszd
  go_region_with (first
    | (go_at_call 160; refine (padded_any (some ⟨bm, om, none⟩) n cm inv (w.heap.size + 1) 0 1 1 [1] _ HB2.out (by simp) (dg_one (by decide)) (by omega) (by omega)).mono ?_; rintro e w3 ⟨g3, us3, rfl, hlt3, hrow3, hg3⟩; have hf0 := hg3.cell he0 (by simp); have hf1 := hg3.cell he1 (by simp); have HR3 := Lib.hid hrow3; clear hrow3)
    | (go_at_call 141; refine (mprod_any bm om n cm inv M ms g1 o1 c1 us1 g3 0 n us3 (r * W64 ^ n % M) w3 (HM2.out.kept hg3 (by simp)) hsm hinv (HV2.out.kept hg3 (by simp)) h12 h13 h14 (Nat.mod_lt _ hM0) HR3.out.blk (by rw [HR3.out.len]; omega) HR3.out.dg).mono ?_; rintro e w4 ⟨g4, us4, rfl, hlt4, hb4, hl4, hd4, hltM, hval, hg4⟩; have HU := Lib.hid (And.intro hl4 (And.intro hd4 (And.intro hltM hval))); clear hl4 hd4 hltM hval))
  all_goals
    go_wp2
    go_ret
    refine ⟨g4, n, n + 1, us4, rfl, by omega, by unfold maxLen; omega, hb4, by rw [HU.out.1]; omega, HU.out.2.1, ?_, gr_then hg0 (gr_then (gr_drew w1 none) (gr_then hg2 (gr_then hg3 hg4)))⟩
    have hval := HU.out.2.2.2
    rw [HR3.out.val, vs_one, Nat.mul_one, Nat.mod_mod] at hval
    have h2 := mod_cancel hval (coprime_W hinv n)
    rw [Nat.mod_eq_of_lt HU.out.2.2.1] at h2
    exact h2
end Go.Proofs.YteajpefbmiiioaaGreatDoor
