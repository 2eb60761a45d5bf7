/- Contracts of package nat and of the reference, part 4: Shift, Long, App, Div, Quo. -/
import Derived.Test.YtoadjhmehgkeaaaDoorEDivi3
namespace Go.Proofs.YtoadjhmehgkeaaaDoor
open Go.RowKit Mth

theorem shl_cast (x s : Nat) : IntKind.u64.wrap ((x : Int) * (2 : Int) ^ s) = ((x * 2 ^ s % W64 : Nat) : Int) := by
  rw [wrap_mod, W64_eq]
  simp
theorem or_cast {x y : Nat} (hx : x < W64) (hy : y < W64) : bits BinOp.or IntKind.u64 (x : Int) (y : Int) = ((x ||| y : Nat) : Int) :=
  bits_or_u64_nat _ _ (by rw [W64_eq] at hx; exact hx) (by rw [W64_eq] at hy; exact hy)

set_option maxHeartbeats 2000000 in
theorem shiftedLeft_any (b o n c s : Nat) (xs : List Nat) (w : World) (hb : Blk .u64 57 w b xs) (hn : o + n ≤ xs.length) (hd : Dg W64 xs) (hm : n ≤ 1099511627776) (hs : s ≤ 63) :
    Calls Tryd.prog 62 #[.slice (some ⟨b, o, none⟩) n c, .int .i64 (s : Int)] w fun e w' => ∃ g zs, e = .returned (.slice (some ⟨g, 0, none⟩) (n + 1) (n + 1)) ∧ w.heap.size ≤ g ∧ Blk .u64 57 w' g zs ∧ w.grownBy w' none ∧ Dg W64 zs ∧ zs.length = n + 1 ∧ vs W64 zs 0 (n + 1) = vs W64 xs o n * 2 ^ s := by
  obtain ⟨i0, hi, hz0, hz1, hz2⟩ := info_parts infoW
  go_enter Tryd.func62, Tryd.ntmps62
  go_wp2_with (at_make; refine wpList_make_full _ rfl _ _ 51 rfl 0 57 i0 (.int .u64 0) 1 Tryd.underlying51 hi hz0 hz1 .i64 .i64 _ _ (n + 1) rfl rfl ?_ ?_ ?_ ?_ (Nat.zero_le _) ?_)
  case refine_1 => omega
  case refine_2 => omega
  case refine_3 => rw [hz2]; omega
  case refine_4 => unfold maxLen; omega
  intro w1 hown hgr
  have hb0 := blk_made' hown
  have hl0 : (List.replicate (n + 1) 0 : List Nat).length = n + 1 := List.length_replicate
  have hz : ∀ j, gt (List.replicate (n + 1) 0) j = 0 := fun j => by simp [gt, List.getD, List.getElem?_replicate]; split <;> rfl
  have hi0 : ShlInv xs (List.replicate (n + 1) 0) o n s 0 := by
    refine ⟨hl0, fun j => by rw [hz]; exact W64_pos, fun j _ => hz j, by rw [hz]; exact Nat.pow_pos (by decide), ?_⟩
    simp [vs, hz]
  have HI0 := Lib.hid hi0
  generalize (List.replicate (n + 1) 0 : List Nat) = z0 at hb0 HI0
  clear hown hi hz0 hz1 hz2 hl0 hz hi0
  go_wp2
  go_loopw [14] (fun j wr => ∃ (i : Nat) (zs : List Nat), i ≤ n ∧ j = .int .i64 i ∧ Blk .u64 57 wr w.heap.size zs ∧ w.grownBy wr none ∧ Hid (ShlInv xs zs o n s i)) (fun j _ => n - (intOf j).toNat)
  case atStart => exact ⟨0, z0, Nat.zero_le _, rfl, hb0, hgr, HI0⟩
  case round =>
    obtain ⟨i, zs, hile, rfl, hbz, hg, HI⟩ := hrel
    have hbr := hb.kept hg (by simp)
    have hne : b ≠ w.heap.size := by have := hb.lt; omega
    have hlz := HI.out.len
    by_cases hlt : i < n
    · have hcell2 : wr.cell? ⟨b, o + i, none⟩ = some (.int .u64 ((gt xs (o + i) : Nat) : Int)) := hbr.cell (by omega)
      have hcell : wr.cell? ⟨w.heap.size, i, none⟩ = some (.int .u64 ((gt zs i : Nat) : Int)) := hbz.cell (by omega)
      have hfr : wr.frozen? ⟨w.heap.size, i, none⟩ = false := hbz.frozen _
      have hcell3 : wr.cell? ⟨w.heap.size, i + 1, none⟩ = some (.int .u64 ((gt zs (i + 1) : Nat) : Int)) := hbz.cell (by omega)
      have hfr3 : wr.frozen? ⟨w.heap.size, i + 1, none⟩ = false := hbz.frozen _
      have HN := Lib.hid (HI.out.next hs hlt (hd (o + i)))
      clear hb0
      go_wp2
      have hor := shl_word (x := gt xs (o + i)) (by omega : s ≤ 64) HI.out.low
      have hlt2 : gt xs (o + i) * 2 ^ s % W64 < W64 := Nat.mod_lt _ W64_pos
      have HO := Lib.hid (or_cast (HI.out.dg i) hlt2)
      have HS := Lib.hid (shl_cast (gt xs (o + i)) s)
      have HR := Lib.hid (show ((gt xs (o + i) : Nat) : Int) / 2 ^ (64 - s) = ((gt xs (o + i) / 2 ^ (64 - s) : Nat) : Int) from by rw [Int.natCast_ediv, Int.natCast_pow]; rfl)
      clear hor hlt2
      go_region
      go_wp2
      refine ⟨⟨i + 1, _, by omega, by go_num, ?_, ?_, HN⟩, by simp [intOf]; omega⟩
      · rw [HS.out, HO.out, HR.out]
        exact ((hbz.set _ _).set _ _).drew
      · exact gr_then (gr_new (gr_new hg (gr_set _ _ _ _) (Nat.le_refl _)) (gr_set _ _ _ _) (Nat.le_refl _)) (gr_drew _ none)
    · obtain rfl : i = n := by omega
      have hfin := HI.out
      have HV := Lib.hid hfin.val
      have HD := Lib.hid hfin.dg
      clear hfin hb0
      go_wp2
      go_ret
      exact ⟨w.heap.size, zs, rfl, Nat.le_refl _, hbz, hg, HD.out, hlz, HV.out⟩

set_option maxHeartbeats 2000000 in
theorem shiftRight_any (b n c s : Nat) (xs : List Nat) (w : World) (hb : Blk .u64 57 w b xs) (hn : n = xs.length) (hd : Dg W64 xs) (hm : n ≤ 1099511627777) (hs : s ≤ 63) :
    Calls Tryd.prog 64 #[.slice (some ⟨b, 0, none⟩) n c, .int .i64 (s : Int)] w fun e w' => e = .returned (.tuple #[]) ∧ ∃ zs, Blk .u64 57 w' b zs ∧ w.grownBy w' (some b) ∧ zs.length = n ∧ Dg W64 zs ∧ vs W64 zs 0 n = vs W64 xs 0 n / 2 ^ s := by
  obtain ⟨X, hX⟩ : ∃ X, X = vs W64 xs 0 xs.length := ⟨_, rfl⟩
  have hi0 : ShrInv X xs xs s 0 := ⟨rfl, hd, fun j hj => by omega, fun _ _ => rfl⟩
  have HI0 := Lib.hid hi0
  have HX := Lib.hid hX
  have HNL := Lib.hid hn
  clear hi0 hX hn
  go_enter Tryd.func64, Tryd.ntmps64
  go_wp2
  go_loopw [7] (fun j wr => ∃ (i : Nat) (zs : List Nat), i ≤ n ∧ j = .int .i64 i ∧ Blk .u64 57 wr b zs ∧ w.grownBy wr (some b) ∧ Hid (ShrInv X xs zs s i)) (fun j _ => n - (intOf j).toNat)
  case atStart => exact ⟨0, xs, Nat.zero_le _, rfl, hb, World.grownBy.refl _ _, HI0⟩
  case round =>
    obtain ⟨i, zs, hile, rfl, hbz, hg, HI⟩ := hrel
    by_cases hlt : i < n
    · have hlz : zs.length = n := HI.out.len.trans HNL.out.symm
      have hix : i < xs.length := by rw [← HNL.out]; exact hlt
      have hcell : wr.cell? ⟨b, i, none⟩ = some (.int .u64 ((gt zs i : Nat) : Int)) := hbz.cell (by omega)
      have hfr : wr.frozen? ⟨b, i, none⟩ = false := hbz.frozen _
      have HR := Lib.hid (show ((gt zs i : Nat) : Int) / 2 ^ s = ((gt zs i / 2 ^ s : Nat) : Int) from by rw [Int.natCast_ediv, Int.natCast_pow]; rfl)
      by_cases hl2 : i + 1 < n
      · have hcell3 : wr.cell? ⟨b, i + 1, none⟩ = some (.int .u64 ((gt zs (i + 1) : Nat) : Int)) := hbz.cell (by omega)
        have hx : gt zs (i + 1) = gt xs (i + 1) := HI.out.rest _ (by omega)
        have HN := Lib.hid (HI.out.next (by omega) HX.out hd hix hx)
        have HW := Lib.hid (shr_word (x := gt zs (i + 1)) (s := s) (by omega) (HI.out.dg i))
        have hlt2 : gt zs (i + 1) * 2 ^ (64 - s) % W64 < W64 := Nat.mod_lt _ W64_pos
        have hlt3 : gt zs i / 2 ^ s < W64 := Nat.lt_of_le_of_lt (Nat.div_le_self _ _) (HI.out.dg i)
        have HO := Lib.hid (or_cast hlt3 hlt2)
        have HS := Lib.hid (shl_cast (gt zs (i + 1)) (64 - s))
        clear hlt2 hlt3 hx
        go_wp2
        go_region
        go_wp2
        refine ⟨⟨i + 1, _, by omega, by go_num, ?_, gr_trans hg (gr_trans (gr_trans (gr_set _ _ _ _) (gr_set _ _ _ _) (.inr rfl) (.inr (.inl rfl))) (gr_drew _ none) (.inr rfl) (.inl rfl)) (.inr rfl) (.inr (.inl rfl)), HN.out.2⟩, by simp [intOf]; omega⟩
        rw [HR.out, HS.out, HO.out, HW.out.1]
        have h2 := (hbz.set i (gt zs i / 2 ^ s)).set i (gt zs i / 2 ^ s + gt zs (i + 1) * 2 ^ (64 - s) % W64)
        rw [List.set_set] at h2
        exact h2.drew
      · have hx : 0 = gt xs (i + 1) := by rw [gt_of_ge (by rw [← HNL.out]; omega)]
        have HN := Lib.hid (HI.out.next (by omega) HX.out hd hix hx)
        clear hx
        go_wp2
        refine ⟨⟨i + 1, _, by omega, by go_num, ?_, gr_trans hg (gr_set _ _ _ _) (.inr rfl) (.inr (.inl rfl)), HN.out.2⟩, by simp [intOf]; omega⟩
        rw [HR.out, Nat.zero_mul, Nat.zero_mod, Nat.add_zero]
        exact hbz.set _ _
    · obtain rfl : i = n := by omega
      have hv := HI.out
      rw [HNL.out] at hv
      have hv2 := hv.all HX.out hd
      have HV := Lib.hid (And.intro (hv.len.trans HNL.out.symm) (And.intro hv.dg hv2))
      clear hv hv2
      go_wp2
      go_end0
      refine ⟨rfl, zs, hbz, hg, HV.out.1, HV.out.2.1, ?_⟩
      rw [HNL.out, HV.out.2.2, HX.out]
end Go.Proofs.YtoadjhmehgkeaaaDoor

namespace Go.Proofs.YtoadjhmehgkeaaaDoor
open Go.RowKit Mth

/-- What the three steps at one place come to. -/
theorem place_steps {zs us : List Nat} {i n U V d c : Nat} (hU : vs W64 zs i (n + 1) = U) (hV0 : 0 < V) (hVn : V ≤ W64 ^ n) (h1 : U / V ≤ d) (h2 : d ≤ U / V + 1)
    (hlen : i + n < zs.length) (hsub : SubbedM zs us i n c (V * d)) :
    (us.set (i + n) (subLo (gt us (i + n)) c 0)).length = zs.length ∧ Dg W64 (us.set (i + n) (subLo (gt us (i + n)) c 0)) ∧ (∀ j, (j < i ∨ i + (n + 1) ≤ j) → gt (us.set (i + n) (subLo (gt us (i + n)) c 0)) j = gt zs j) ∧
      (subHi (gt us (i + n)) c 0 = 0 → d = U / V ∧ vs W64 (us.set (i + n) (subLo (gt us (i + n)) c 0)) i (n + 1) = U % V) ∧
      (subHi (gt us (i + n)) c 0 = 1 → 0 < d ∧ ∀ ws, AddedW (us.set (i + n) (subLo (gt us (i + n)) c 0)) ws i (n + 1) V → 0 < d ∧ d - 1 = U / V ∧ vs W64 ws i (n + 1) = U % V) := by
  obtain ⟨s1, s2, s3, s4⟩ := hsub
  have hl : i + n < us.length := by rw [s1.len]; exact hlen
  have hp : gt us (i + n) = gt zs (i + n) := s1.out _ (by omega)
  have hsp := sub_split (s2 (i + n)) s3 (Nat.zero_le 1)
  have hdz : Dg W64 (us.set (i + n) (subLo (gt us (i + n)) c 0)) := s2.set (subLo_lt _ _ _)
  have hval : vs W64 (us.set (i + n) (subLo (gt us (i + n)) c 0)) i (n + 1) + V * d = U + W64 ^ (n + 1) * subHi (gt us (i + n)) c 0 := by
    rw [← hU]
    simp only [vs]
    rw [gt_set hl, if_pos rfl, vs_congr (ys := us) (off' := i) (n := n) (fun j hj => by rw [gt_set hl, if_neg (by omega)])]
    rw [← hp]
    generalize gt us (i + n) = p at *
    have e : W64 ^ n * subLo p c 0 + W64 ^ n * c = W64 ^ n * p + W64 ^ (n + 1) * subHi p c 0 := by
      rw [Nat.pow_succ, Nat.mul_assoc, ← Nat.mul_add, ← Nat.mul_add]
      congr 1
    omega
  refine ⟨by rw [List.length_set]; exact s1.len, hdz, fun j hj => ?_, fun h0 => ?_, fun h0 => ⟨?_, fun ws hadd => ?_⟩⟩
  · rw [gt_set hl, if_neg (by omega)]; exact s1.out j (by omega)
  · rw [h0, Nat.mul_zero, Nat.add_zero] at hval
    exact step_zero hV0 h1 h2 hval
  · rw [h0, Nat.mul_one] at hval
    rcases Nat.eq_zero_or_pos d with e | e
    · rw [e, Nat.mul_zero] at hval
      have := vs_lt (off := i) (n := n + 1) hdz
      omega
    · exact e
  · rw [h0, Nat.mul_one] at hval
    obtain ⟨a1, a2, k, a3⟩ := hadd
    have hle : W64 ^ n ≤ W64 ^ (n + 1) := Nat.pow_le_pow_right W64_pos (by omega)
    exact step_one hV0 (Nat.le_trans hVn hle) h1 h2 (vs_lt hdz) (vs_lt a2) hval a3

theorem top_ne {ys : List Nat} {n V : Nat} (hd : Dg W64 ys) (hV : vs W64 ys 0 n = V) (h : W64 ^ (n - 1) ≤ V) (hn : 0 < n) : gt ys (0 + (n - 1)) ≠ 0 := by
  intro e
  obtain ⟨k, rfl⟩ : ∃ k, n = k + 1 := ⟨n - 1, by omega⟩
  rw [Nat.add_sub_cancel] at e h
  simp only [vs] at hV
  rw [e] at hV
  have := vs_lt (off := 0) (n := k) hd
  omega

set_option maxHeartbeats 4000000 in
set_option maxRecDepth 100000 in
theorem divideLong_any (b1 n1 c1 b2 n c2 m V R0 : Nat) (xs ys : List Nat) (w : World) (hb1 : Blk .u64 57 w b1 xs) (hl1 : xs.length = n1) (hd1 : Dg W64 xs) (hc1 : c1 = n1) (hb2 : Blk .u64 57 w b2 ys) (hn2 : n ≤ ys.length) (hd2 : Dg W64 ys) (hm1 : n1 ≤ 1099511627777) (hn40 : n ≤ 1099511627776)
    (hne : b2 ≠ b1) (hn : 2 ≤ n) (hm : n1 = m + n) (hV : vs W64 ys 0 n = V) (htop : W64 ^ (n - 1) ≤ V) (hR : vs W64 xs 0 n1 = R0) (hsm : vs W64 xs m n < V) :
    Calls Tryd.prog 63 #[.slice (some ⟨b1, 0, none⟩) n1 c1, .slice (some ⟨b2, 0, none⟩) n c2] w fun e w' => ∃ g qs zs, e = .returned (.slice (some ⟨g, 0, none⟩) m m) ∧ w.heap.size ≤ g ∧ Blk .u64 57 w' g qs ∧ qs.length = m ∧ Dg W64 qs ∧ vs W64 qs 0 m = R0 / V ∧ Blk .u64 57 w' b1 zs ∧ zs.length = n1 ∧ Dg W64 zs ∧ vs W64 zs 0 n1 = R0 % V ∧ w.grownBy w' (some b1) := by
  subst hc1
  subst hm
  obtain ⟨i0, hi, hz0, hz1, hz2⟩ := info_parts infoW
  have HT := Lib.hid (top_ne hd2 hV htop (by omega))
  have hV0 : 0 < V := Nat.lt_of_lt_of_le (Nat.pow_pos W64_pos) htop
  have hVn : V ≤ W64 ^ n := by rw [← hV]; exact Nat.le_of_lt (vs_lt hd2)
  have HVN := Lib.hid hVn
  have HVV := Lib.hid hV
  have hs64 := sub64_runz
  have hlt1 := hb1.lt
  have hi0 : ∀ qs : List Nat, qs.length = m → Dg W64 qs → LongInv R0 V xs qs n m m := fun qs h1 h2 => ⟨by omega, h1, hd1, h2, hsm, fun j hj => gt_of_ge (by omega), by rw [Nat.sub_self]; simp only [vs, Nat.mul_zero, Nat.zero_mul, Nat.zero_add]; exact hR.symm⟩
  have HI0 := Lib.hid hi0
  clear hi0 hsm hR hV htop hVn
  go_enter Tryd.func63, Tryd.ntmps63
  go_wp2_with (at_make; refine wpList_make_full _ rfl _ _ 51 rfl 0 57 i0 (.int .u64 0) 1 Tryd.underlying51 hi hz0 hz1 .i64 .i64 _ _ m rfl rfl ?_ ?_ ?_ ?_ (Nat.zero_le _) ?_)
  case refine_1 => omega
  case refine_2 => omega
  case refine_3 => rw [hz2]; omega
  case refine_4 => unfold maxLen; omega
  intro w1 hown hgr
  have hb0 := blk_made' hown
  have hl0 : (List.replicate m 0 : List Nat).length = m := List.length_replicate
  have hz : ∀ j, gt (List.replicate m 0) j = 0 := fun j => by simp [gt, List.getD, List.getElem?_replicate]; split <;> rfl
  have HI := Lib.hid (HI0.out _ hl0 (fun j => by rw [hz]; exact W64_pos))
  generalize (List.replicate m 0 : List Nat) = q0 at hb0 HI
  have hb1' := hb1.kept hgr (by simp)
  clear hown hi hz0 hz1 hz2 hl0 hz HI0
  go_wp2
  go_loopw [7] (fun j wr => ∃ (i : Nat) (zs qs : List Nat), i ≤ m ∧ j = .int .i64 ((i : Int) - 1) ∧ Blk .u64 57 wr b1 zs ∧ Blk .u64 57 wr w.heap.size qs ∧ w.grownBy wr (some b1) ∧ Hid (LongInv R0 V zs qs n m i)) (fun j _ => (intOf j + 1).toNat)
  case atStart => exact ⟨m, xs, q0, Nat.le_refl _, rfl, hb1', hb0, gr_then hgr (World.grownBy.refl _ _), HI⟩
  case round =>
    obtain ⟨i, zs, qs, hile, rfl, hbz, hbq, hg, HI⟩ := hrel
    have hb2r := hb2.kept hg (by simpa using hne)
    have hneq : w.heap.size ≠ b1 := by omega
    rcases i with _ | i
    · have HF := Lib.hid (HI.out.done hV0)
      have HL := Lib.hid HI.out
      clear hb0 hb1'
      go_wp2
      go_ret
      refine ⟨w.heap.size, qs, zs, rfl, Nat.le_refl _, hbq, HL.out.qlen, HL.out.qdg, HF.out.1, hbz, HL.out.len, HL.out.dg, HF.out.2, hg⟩
    · rw [show (((i + 1 : Nat) : Int) - 1) = (i : Int) from by omega]
      obtain ⟨U, hU⟩ : ∃ U, vs W64 zs i (n + 1) = U := ⟨_, rfl⟩
      have hUlt := HI.out.u_lt
      rw [hU] at hUlt
      have hlz := HI.out.len
      have hdz := HI.out.dg
      have hlq := HI.out.qlen
      have hcut : ¬ m + n = i := by omega
      have HU := Lib.hid hU
      have HLT := Lib.hid hUlt
      have HLZ := Lib.hid hlz
      clear hb0 hb1' hU hUlt hlz
      go_wp2_with fail
      rw [show i + n + 1 - i = n + 1 from by omega]
      refine (estimateDigit_any b1 i n (m + n - i) b2 0 c2 U V zs ys wr hbz (by rw [HLZ.out]; omega) hdz hb2r (by omega) hd2 (by omega) hn HU.out HVV.out HT.out HLT.out).mono ?_
      rintro e w2 ⟨d, rfl, hq1, hq2, hdW, k, rfl⟩
      have HQ := Lib.hid (And.intro hq1 hq2)
      have hbzk : Blk .u64 57 (wr.drewN k) b1 zs := hbz
      have hbqk : Blk .u64 57 (wr.drewN k) w.heap.size qs := hbq
      have hb2k : Blk .u64 57 (wr.drewN k) b2 ys := hb2r
      have hgk : w.grownBy (wr.drewN k) (some b1) := gr_trans hg (gr_drewN _ _ none) (.inr rfl) (.inl rfl)
      generalize wr.drewN k = wk at *
      clear hq1 hq2
      go_wp2_with fail
      refine (subtractMultiple_any b1 i (n + 1) (m + n - i) b2 0 n c2 d zs ys wk hbzk (by rw [HLZ.out]; omega) hdz hb2k (by omega) hd2 hne (by omega) hdW (by unfold maxLen; omega)).mono ?_
      rintro e w3 ⟨c, us, rfl, hu, hg3, hsub⟩
      rw [HVV.out] at hsub
      have hpl := place_steps HU.out hV0 HVN.out HQ.out.1 HQ.out.2 (by rw [HLZ.out]; omega) hsub
      have hlu : us.length = m + n := hsub.1.len.trans HLZ.out
      have hcp : w3.cell? ⟨b1, i + n, none⟩ = some (.int .u64 ((gt us (i + n) : Nat) : Int)) := hu.cell (by omega)
      have hfp : w3.frozen? ⟨b1, i + n, none⟩ = false := hu.frozen _
      have hsub1 := subHi_le (gt us (i + n)) c 0
      have hus := fun v => hu.set (i + n) v
      have hbq3 : Blk .u64 57 w3 w.heap.size qs := hbqk.kept hg3 (by simpa using hneq)
      have hb23 : Blk .u64 57 w3 b2 ys := hb2k.kept hg3 (by simpa using hne)
      have HLU := Lib.hid hlu
      clear hsub hlu hu
      obtain ⟨lo, hlo⟩ : ∃ lo, lo = subLo (gt us (i + n)) c 0 := ⟨_, rfl⟩
      obtain ⟨hi, hhi⟩ : ∃ hi, hi = subHi (gt us (i + n)) c 0 := ⟨_, rfl⟩
      have hs3 := hs64 (gt us (i + n)) c
      rw [← hlo, ← hhi] at hs3
      rw [← hlo, ← hhi] at hpl
      rw [← hhi] at hsub1
      have HPL := Lib.hid hpl
      have husl := hus lo
      clear hpl hlo hhi hs64 hus
      have hgs : w.grownBy (w3.setCell ⟨b1, i + n, none⟩ (.int .u64 (lo : Int))) (some b1) := gr_trans (gr_trans hgk hg3 (.inr rfl) (.inr (.inl rfl))) (gr_set _ _ _ _) (.inr rfl) (.inr (.inl rfl))
      have hbq4 : Blk .u64 57 (w3.setCell ⟨b1, i + n, none⟩ (.int .u64 (lo : Int))) w.heap.size qs := hbq3.setOther hneq _ _
      have hb24 : Blk .u64 57 (w3.setCell ⟨b1, i + n, none⟩ (.int .u64 (lo : Int))) b2 ys := hb23.setOther hne _ _
      rcases Nat.lt_or_ge 0 hi with h1 | h0
      · obtain rfl : hi = 1 := by omega
        have hstep := HPL.out.2.2.2.2 rfl
        have hd0 := hstep.1
        have HST := Lib.hid hstep.2
        have hwr : IntKind.u64.wrap ((d : Int) - 1) = ((d - 1 : Nat) : Int) := by
          rw [show (d : Int) - 1 = ((d - 1 : Nat) : Int) from by omega]; exact wrap_u64 _ (by omega)
        clear hstep
        go_wp2_with fail
        refine (addTo_any b1 i (n + 1) (m + n - i) b2 0 n c2 (us.set (i + n) lo) ys _ husl (by rw [HPL.out.1, HLZ.out]; omega) HPL.out.2.1 (by omega) (by unfold maxLen; omega) hb24 (by omega) hd2 hne (by omega)).mono ?_
        rintro e w5 ⟨rfl, ws, hws, hg5, hadd⟩
        rw [HVV.out] at hadd
        have hfin := HST.out ws hadd
        have HN := Lib.hid (HI.out.next (d := d - 1) (us := ws) (by omega) HVN.out hV0 (hadd.1.len.trans HPL.out.1) (fun j hj => (hadd.1.out j (by omega)).trans (HPL.out.2.2.1 j hj)) hadd.2.1 (by rw [HU.out]; exact hfin.2.1) (by omega) (by rw [HU.out]; exact hfin.2.2))
        have hbq5 : Blk .u64 57 w5 w.heap.size qs := hbq4.kept hg5 (by simpa using hneq)
        have hcq : w5.cell? ⟨w.heap.size, i, none⟩ = some (.int .u64 ((gt qs i : Nat) : Int)) := hbq5.cell (by omega)
        have hfq : w5.frozen? ⟨w.heap.size, i, none⟩ = false := hbq5.frozen _
        have hgs5 : w.grownBy w5 (some b1) := gr_trans hgs hg5 (.inr rfl) (.inr (.inl rfl))
        clear hfin hadd
        go_wp2
        refine ⟨⟨i, _, _, by omega, rfl, hws.setOther (fun e => hneq e.symm) _ _, by first | exact hbq5.set _ _ | (rw [hwr]; exact hbq5.set _ _), gr_trans hgs5 (gr_set _ _ _ _) (.inr rfl) (.inr (.inr fun k e => by cases e; exact Nat.le_refl _)), HN⟩, by simp [intOf]⟩
      · obtain rfl : hi = 0 := by omega
        have hfin := HPL.out.2.2.2.1 rfl
        have HN := Lib.hid (HI.out.next (by omega) HVN.out hV0 HPL.out.1 HPL.out.2.2.1 HPL.out.2.1 (by rw [HU.out]; exact hfin.1) hdW (by rw [HU.out]; exact hfin.2))
        have hcq : (w3.setCell ⟨b1, i + n, none⟩ (.int .u64 (lo : Int))).cell? ⟨w.heap.size, i, none⟩ = some (.int .u64 ((gt qs i : Nat) : Int)) := hbq4.cell (by omega)
        have hfq : (w3.setCell ⟨b1, i + n, none⟩ (.int .u64 (lo : Int))).frozen? ⟨w.heap.size, i, none⟩ = false := hbq4.frozen _
        clear hfin
        go_wp2
        refine ⟨⟨i, _, _, by omega, rfl, husl.setOther (fun e => hneq e.symm) _ _, hbq4.set _ _, gr_trans hgs (gr_set _ _ _ _) (.inr rfl) (.inr (.inr fun k e => by cases e; exact Nat.le_refl _)), HN⟩, by simp [intOf]⟩
end Go.Proofs.YtoadjhmehgkeaaaDoor

namespace Go.Proofs.YtoadjhmehgkeaaaDoor
open Go.RowKit Mth

theorem zeroCells_int (k : IntKind) (n : Nat) : (Builtin.zeroCells (Value.int k 0).cells n).toList = cellsOf k (List.replicate n 0) := by
  simp only [Builtin.zeroCells, Value.cells, cellsOf]
  apply List.ext_getElem
  · simp
  · intro i h1 h2
    simp [Nat.mod_one]

/-- A slice that the call owns: nil, or the head of a block of numbers. -/
def Own (k : IntKind) (e : TypeId) (w : World) (v : Value) (n : Nat) (zs : List Nat) : Prop :=
  (v = .slice none 0 0 ∧ n = 0 ∧ zs = []) ∨ (∃ g, v = .slice (some ⟨g, 0, none⟩) n zs.length ∧ Blk k e w g zs ∧ n ≤ zs.length ∧ zs.length ≤ maxLen)
theorem Own.nil (k : IntKind) (e : TypeId) (w : World) : Own k e w (.slice none 0 0) 0 [] := .inl ⟨rfl, rfl, rfl⟩
theorem Own.kept {k : IntKind} {e : TypeId} {w w' : World} {v : Value} {n : Nat} {zs : List Nat} {r : Option Nat} (h : Own k e w v n zs) (hg : w.grownBy w' r) (hne : v.ownBlock = none ∨ v.ownBlock ≠ r) : Own k e w' v n zs := by
  rcases h with h | ⟨g, rfl, hb, h1, h2⟩
  · exact .inl h
  · exact .inr ⟨g, rfl, hb.kept hg (by simpa [Value.ownBlock] using hne), h1, h2⟩

/-- What append leaves: the n old numbers, the m new ones. -/
structure Apped (zs us xs : List Nat) (n m off : Nat) : Prop where
  old : ∀ i, i < n → gt us i = gt zs i
  new : ∀ i, i < m → gt us (n + i) = gt xs (off + i)
  rest : ∀ i, gt us i = 0 ∨ (∃ j, gt us i = gt zs j) ∨ (∃ j, gt us i = gt xs j)

theorem apped_grow {zs xs : List Nat} {n m off r : Nat} (hn : n ≤ zs.length) (hm : off + m ≤ xs.length) : Apped zs (zs.take n ++ (xs.drop off).take m ++ List.replicate r 0) xs n m off := by
  have h1 : (zs.take n).length = n := by simp; omega
  have h2 : ((xs.drop off).take m).length = m := by simp; omega
  have h3 : (zs.take n ++ (xs.drop off).take m).length = n + m := by rw [List.length_append, h1, h2]
  refine ⟨fun i hi => ?_, fun i hi => ?_, fun i => ?_⟩
  · rw [gt_append_left (by omega), gt_append_left (by omega), gt_take hi]
  · rw [gt_append_left (by omega), gt_append_right (by omega), h1, Nat.add_sub_cancel_left, gt_take hi, gt_drop]
  · by_cases ha : i < n
    · right; left; exact ⟨i, by rw [gt_append_left (by omega), gt_append_left (by omega), gt_take ha]⟩
    · by_cases hb : i < n + m
      · right; right; exact ⟨off + (i - n), by rw [gt_append_left (by omega), gt_append_right (by omega), h1, gt_take (by omega), gt_drop]⟩
      · left; rw [gt_append_right (by omega)]; simp [gt, List.getD, List.getElem?_replicate]; split <;> rfl
theorem apped_room {zs xs : List Nat} {n m off : Nat} (hn : n + m ≤ zs.length) (hm : off + m ≤ xs.length) : Apped zs (zs.take n ++ (xs.drop off).take m ++ zs.drop (n + m)) xs n m off := by
  have h1 : (zs.take n).length = n := by simp; omega
  have h2 : ((xs.drop off).take m).length = m := by simp; omega
  have h3 : (zs.take n ++ (xs.drop off).take m).length = n + m := by rw [List.length_append, h1, h2]
  refine ⟨fun i hi => ?_, fun i hi => ?_, fun i => ?_⟩
  · rw [gt_append_left (by omega), gt_append_left (by omega), gt_take hi]
  · rw [gt_append_left (by omega), gt_append_right (by omega), h1, Nat.add_sub_cancel_left, gt_take hi, gt_drop]
  · by_cases ha : i < n
    · right; left; exact ⟨i, by rw [gt_append_left (by omega), gt_append_left (by omega), gt_take ha]⟩
    · by_cases hb : i < n + m
      · right; right; exact ⟨off + (i - n), by rw [gt_append_left (by omega), gt_append_right (by omega), h1, gt_take (by omega), gt_drop]⟩
      · right; left; exact ⟨n + m + (i - (n + m)), by rw [gt_append_right (by omega), h3, gt_drop]⟩
theorem Apped.dg {zs us xs : List Nat} {n m off b : Nat} (h : Apped zs us xs n m off) (hb : 0 < b) (h1 : Dg b zs) (h2 : Dg b xs) : Dg b us := by
  intro i
  rcases h.rest i with h | ⟨j, h⟩ | ⟨j, h⟩
  · rw [h]; exact hb
  · rw [h]; exact h1 j
  · rw [h]; exact h2 j

theorem run_append_blk {P : Program} {w : World} (k : IntKind) (e : TypeId) (t ty : TypeId) (i : TypeInfo) (bytes : Nat) (ht : P.underlying t = some (.slice e)) (hi : P.info? e = some i) (hz : i.zero = some (.int k 0)) (hsize : i.size = 1) (hby : i.bytes = bytes)
    (v : Value) (n : Nat) (zs : List Nat) (hown : Own k e w v n zs) (b off m c : Nat) (xs : List Nat) (hcell : ∀ j, j < m → w.cell? ⟨b, off + j, none⟩ = some (.int k ((gt xs (off + j) : Nat) : Int))) (hm : off + m ≤ xs.length) (hm0 : 0 < m)
    (h63 : n + m ≤ maxLen) (hbytes : (n + m) * bytes ≤ 140737488355328) :
    ∃ v' w' us, (Builtin.append_ #[t, t] ty #[v, .slice (some ⟨b, off, none⟩) m c]).run P w = .ok v' w' ∧ Own k e w' v' (n + m) us ∧ w.grownBy w' v.ownBlock ∧ Apped zs us xs n m off ∧ (v'.ownBlock = v.ownBlock ∨ ∃ g, v'.ownBlock = some g ∧ w.heap.size ≤ g) := by
  have hsmall : n + m ≤ 9223372036854775807 := by simp only [maxLen] at h63; omega
  have hnl : (cellsOf k ((xs.drop off).take m)).length = m := by rw [length_cellsOf]; simp; omega
  have hl : (cellsOf k ((xs.drop off).take m)).length = m * i.size := by rw [hsize, hnl, Nat.mul_one]
  have hnews : ∀ j u, (cellsOf k ((xs.drop off).take m))[j]? = some u → w.cell? ((⟨b, off, none⟩ : Addr).add j) = some u := by
    intro j u hu
    have hj : j < m := by have := (List.getElem?_eq_some_iff.1 hu).1; omega
    rw [Addr.add_lit, hcell j hj]
    rw [cellsOf_get k _ _ (by simp; omega), gt_take hj, gt_drop] at hu
    exact hu
  have hone : ∀ u ∈ cellsOf k ((xs.drop off).take m), u.oneCell' = true := by
    intro u hu
    simp only [cellsOf, List.mem_map] at hu
    obtain ⟨_, _, rfl⟩ := hu
    rfl
  have hzc : ∀ q, (Builtin.zeroCells (Value.int k 0).cells q) = (cellsOf k (List.replicate q 0)).toArray := fun q => by rw [← zeroCells_int, Array.toArray_toList]
  rcases hown with ⟨rfl, rfl, rfl⟩ | ⟨g, rfl, hb, hn, hmx⟩
  · have hr := run_append_nil (P := P) w t ty e i (.int k 0) ht hi hz ⟨b, off, none⟩ m c _ hl hnews hm0 (by omega) (by rw [hby]; simp only [Nat.zero_add] at hbytes; omega)
    have hge := grownCap_ge w m 0 e
    refine ⟨_, _, (xs.drop off).take m ++ List.replicate (grownCap w m 0 e - m) 0, hr, .inr ⟨w.heap.size, ?_, ?_, ?_, ?_⟩, ⟨rfl, rfl, rfl, by simp, fun k hk _ => heap_alloc_old w.drew _ hk⟩, ?_, .inr ⟨w.heap.size, rfl, Nat.le_refl _⟩⟩
    · simp; congr 1; omega
    · unfold Blk
      rw [hzc]
      refine (heap_alloc_new w.drew _).trans ?_
      simp [cellsOf]
    · simp; omega
    · have := grownCap_le_maxLen w m 0 e (by omega)
      simp; omega
    · have := apped_grow (zs := []) (xs := xs) (n := 0) (m := m) (off := off) (r := grownCap w m 0 e - m) (Nat.le_refl _) hm
      simpa using this
  · have hnz : (cellsOf k (zs.take n)).length = n * i.size := by rw [hsize, length_cellsOf]; simp; omega
    by_cases hroom : n + m ≤ zs.length
    · have hr := run_append_room (P := P) w t ty e i ht hi g n zs.length (cellsOf k zs).toArray hb ⟨b, off, none⟩ m c _ hl hnews hone hroom (by rw [hsize, hnl]; simp [length_cellsOf]; omega)
      have hcells : (((cellsOf k zs).toArray.toList.take (n * i.size) ++ cellsOf k ((xs.drop off).take m) ++ (cellsOf k zs).toArray.toList.drop (n * i.size + (cellsOf k ((xs.drop off).take m)).length)).toArray) = (cellsOf k (zs.take n ++ (xs.drop off).take m ++ zs.drop (n + m))).toArray := by
        rw [hsize, hnl, Nat.mul_one]; simp [cellsOf, List.map_take, List.map_drop]
      rw [hcells] at hr
      have hlen : (zs.take n ++ (xs.drop off).take m ++ zs.drop (n + m)).length = zs.length := by simp; omega
      refine ⟨_, _, zs.take n ++ (xs.drop off).take m ++ zs.drop (n + m), hr, .inr ⟨g, by rw [hlen], setRow_heap w g _ _ e _ hb, by rw [hlen]; exact hroom, by rw [hlen]; exact hmx⟩, ⟨rfl, rfl, rfl, by simp, fun k _ hk => setRow_other w g k _ (fun e => hk (by simp [Value.ownBlock, e]))⟩, apped_room hroom hm, .inl rfl⟩
    · have holds : ∀ j u, (cellsOf k (zs.take n))[j]? = some u → w.cell? ((⟨g, 0, none⟩ : Addr).add j) = some u := by
        intro j u hu
        have hj : j < n := by have := (List.getElem?_eq_some_iff.1 hu).1; rw [length_cellsOf] at this; simp at this; omega
        rw [Addr.add_lit, Nat.zero_add, hb.cell (by omega)]
        rw [cellsOf_get k _ _ (by simp; omega), gt_take hj] at hu
        exact hu
      have hr := run_append_grow (P := P) w t ty e i (.int k 0) ht hi hz ⟨g, 0, none⟩ n zs.length (cellsOf k (zs.take n)) hnz holds ⟨b, off, none⟩ m c _ hl hnews (by omega) (by omega) (growslice_fits (by omega) (by rw [hby]; exact hbytes))
      have hge := grownCap_ge w (n + m) zs.length e
      refine ⟨_, _, zs.take n ++ (xs.drop off).take m ++ List.replicate (grownCap w (n + m) zs.length e - (n + m)) 0, hr, .inr ⟨w.heap.size, ?_, ?_, ?_, ?_⟩, ⟨rfl, rfl, rfl, by simp, fun k hk _ => heap_alloc_old w.drew _ hk⟩, apped_grow hn hm, .inr ⟨w.heap.size, rfl, Nat.le_refl _⟩⟩
      · simp; congr 1; omega
      · unfold Blk
        rw [hzc]
        refine (heap_alloc_new w.drew _).trans ?_
        simp [cellsOf]
      · simp; omega
      · have := grownCap_le_maxLen w (n + m) zs.length e h63
        simp; omega

theorem wpList_append_blk {P : Program} {w : World} {ops : Array Oper} {rest : List Oper} {o : Oper} {a : Act} {Q : Exit → Act → World → Prop} (hgd : o.guard = none) (s x : Operand) (t : TypeId)
    (ho : o.op = .call { callee := .builtin .append, args := #[s, x], argTypes := #[t, t] })
    (k : IntKind) (e : TypeId) (i : TypeInfo) (bytes : Nat) (ht : P.underlying t = some (.slice e)) (hi : P.info? e = some i) (hz : i.zero = some (.int k 0)) (hsize : i.size = 1) (hby : i.bytes = bytes)
    (v : Value) (n : Nat) (zs : List Nat) (hs : a.eval s = v) (hown : Own k e w v n zs) (b off m c : Nat) (xs : List Nat) (hx : a.eval x = .slice (some ⟨b, off, none⟩) m c)
    (hcell : ∀ j, j < m → w.cell? ⟨b, off + j, none⟩ = some (.int k ((gt xs (off + j) : Nat) : Int))) (hm : off + m ≤ xs.length) (hm0 : 0 < m)
    (h63 : n + m ≤ maxLen) (hbytes : (n + m) * bytes ≤ 140737488355328)
    (h : ∀ v' w' us, Own k e w' v' (n + m) us → w.grownBy w' v.ownBlock → Apped zs us xs n m off → (v'.ownBlock = v.ownBlock ∨ ∃ g, v'.ownBlock = some g ∧ w.heap.size ≤ g) → wpList P ops Q rest (a.put o.dst v') w') : wpList P ops Q (o :: rest) a w := by
  refine wpList_plain hgd fun K hK => ?_
  obtain ⟨v', w', us, hr, h2, h3, h4, h5⟩ := run_append_blk (P := P) (w := w) k e t o.type i bytes ht hi hz hsize hby v n zs hown b off m c xs hcell hm hm0 h63 hbytes
  unfold Oper.wp execOp
  simp only [ho, resolve, invoke, builtin, Sem.run_bind, Sem.run_pure, Result.andThen_ok, List.map_toArray, List.map_cons, List.map_nil, hs, hx, hr]
  exact hK _ _ (h v' w' us h2 h3 h4 h5)
end Go.Proofs.YtoadjhmehgkeaaaDoor

namespace Go.Proofs.YtoadjhmehgkeaaaDoor
open Go.RowKit Mth

theorem clone_any (b off n c : Nat) (xs : List Nat) (w : World) (hb : Blk .u64 57 w b xs) (hn : off + n ≤ xs.length) (hm : n ≤ 1099511627776) (hn0 : 0 < n) (hd : Dg W64 xs) :
    Calls Tryd.prog 60 #[.slice (some ⟨b, off, none⟩) n c] w fun e w' => ∃ g us, e = .returned (.slice (some ⟨g, 0, none⟩) n us.length) ∧ w.heap.size ≤ g ∧ Blk .u64 57 w' g us ∧ n ≤ us.length ∧ us.length ≤ maxLen ∧ w.grownBy w' none ∧ Dg W64 us ∧ (∀ i, i < n → gt us i = gt xs (off + i)) := by
  obtain ⟨i0, hi, hz0, hz1, hz2⟩ := info_parts infoW
  have hnil := fun (w : World) (a : Addr) (n c : Nat) => Lib.run_eql_slice_nil (P := Tryd.prog) w 51 57 (some a) n c 0 0 Tryd.underlying51
  go_enter Tryd.func60, Tryd.ntmps60
  have hempty : Blk .u64 57 (w.alloc (.cells #[] 57)) w.heap.size [] := by unfold Blk; rw [heap_alloc_new]; simp [cellsOf]
  have hb1 := hb.alloc (.cells #[] 57)
  have hown0 : Own .u64 57 (w.alloc (.cells #[] 57)) (.slice (some ⟨w.heap.size, 0, none⟩) 0 0) 0 [] := .inr ⟨w.heap.size, rfl, hempty, Nat.le_refl _, by decide⟩
  have HO := Lib.hid hown0
  clear hown0 hempty
  go_wp2_with (at_builtin; refine wpList_append_blk rfl (.tmp 5) (.tmp 6) 51 rfl .u64 57 i0 8 Tryd.underlying51 hi hz0 hz1 hz2 _ 0 [] rfl HO.out b off n c xs rfl ?_ hn hn0 ?_ ?_ ?_)
  case refine_1 => intro j hj; exact hb1.cell (by omega)
  case refine_2 => unfold maxLen; omega
  case refine_3 => omega
  intro v' w1 us hown hg happ hblk
  rcases hown with ⟨_, h0, _⟩ | ⟨g, rfl, hbg, h1, h2⟩
  · omega
  have hge : w.heap.size ≤ g := by
    rcases hblk with h | ⟨g', h, h'⟩
    · simp only [Value.ownBlock, Option.some.injEq] at h; omega
    · simp only [Value.ownBlock, Option.some.injEq] at h
      have : (w.alloc (.cells #[] 57)).heap.size = w.heap.size + 1 := by simp
      omega
  have hdu : Dg W64 us := happ.dg W64_pos (fun i => by simp [gt]; exact W64_pos) hd
  have hnew := happ.new
  have HN := Lib.hid hnew
  clear hnew happ hi hz0 hz1 hz2 HO
  go_wp2
  go_ret
  refine ⟨g, us, rfl, hge, hbg, h1, h2, ?_, hdu, fun i hi => by have := HN.out i hi; rw [Nat.zero_add] at this; exact this⟩
  exact gr_new (gr_alloc w _ none) (by simpa [Value.ownBlock] using hg) (Nat.le_refl _)

/-- A slice of trimmed words with the value N. -/
structure NumAt (w : World) (g off m c : Nat) (xs : List Nat) (N : Nat) : Prop where
  blk : Blk .u64 57 w g xs
  fit : off + m ≤ xs.length
  dg : Dg W64 xs
  val : vs W64 xs off m = N
  top : m = 0 ∨ gt xs (off + (m - 1)) ≠ 0
  cap : m ≤ c
  max : c ≤ maxLen
  small : m ≤ 1099511627776
def Num (w : World) (v : Value) (N : Nat) : Prop := ∃ g off m c xs, v = .slice (some ⟨g, off, none⟩) m c ∧ NumAt w g off m c xs N
theorem NumAt.kept {w w' : World} {g off m c N : Nat} {xs : List Nat} (h : NumAt w g off m c xs N) {r : Option Nat} (hg : w.grownBy w' r) (hne : some g ≠ r) : NumAt w' g off m c xs N :=
  ⟨h.blk.kept hg hne, h.fit, h.dg, h.val, h.top, h.cap, h.max, h.small⟩
theorem Num.kept {w w' : World} {v : Value} {N : Nat} (h : Num w v N) (hg : w.grownBy w' none) : Num w' v N := by
  obtain ⟨g, off, m, c, xs, rfl, h⟩ := h
  exact ⟨g, off, m, c, xs, rfl, h.kept hg (by simp)⟩
theorem NumAt.of_words {w : World} {b : Nat} {xs : List Nat} {N : Nat} (hb : Blk .u64 57 w b xs) (hw : Words xs N) (hs : xs.length ≤ 1099511627776) : NumAt w b 0 xs.length xs.length xs N :=
  ⟨hb, by omega, hw.dg, hw.val, by rw [Nat.zero_add]; exact hw.top, Nat.le_refl _, by unfold maxLen; omega, hs⟩
theorem Num.of_words {w : World} {b : Nat} {xs : List Nat} {N : Nat} (hb : Blk .u64 57 w b xs) (hw : Words xs N) (hs : xs.length ≤ 1099511627776) : Num w (.slice (some ⟨b, 0, none⟩) xs.length xs.length) N :=
  ⟨b, 0, _, _, xs, rfl, .of_words hb hw hs⟩

theorem trimmed_num (b off n c : Nat) (xs : List Nat) (w : World) (hb : Blk .u64 57 w b xs) (hn : off + n ≤ xs.length) (hd : Dg W64 xs) (hc : n ≤ c) (hm : c ≤ maxLen) (hs : n ≤ 1099511627776) :
    Calls Tryd.prog 54 #[.slice (some ⟨b, off, none⟩) n c] w fun e w' => (∃ m, e = .returned (.slice (some ⟨b, off, none⟩) m c) ∧ NumAt w b off m c xs (vs W64 xs off n)) ∧ w = w' := by
  refine (trimmed_any b off n c xs w hb hn hc hm).mono ?_
  rintro e w' ⟨⟨m, rfl, hmn, hz, htop⟩, rfl⟩
  refine ⟨⟨m, rfl, hb, by omega, hd, ?_, htop, by omega, hm, by omega⟩, rfl⟩
  obtain ⟨k, rfl⟩ : ∃ k, n = m + k := ⟨n - m, by omega⟩
  rw [vs_split, vs_zero (n := k) (fun i hi => by rw [Nat.add_assoc]; exact hz _ (by omega) (by omega))]; simp

theorem trimmed_nil (w : World) : Calls Tryd.prog 54 #[.slice none 0 0] w fun e w' => e = .returned (.slice none 0 0) ∧ w = w' := by
  go_enter Tryd.func54, Tryd.ntmps54
  go_wp2
  go_loop [0] (fun v => v = .slice none 0 0) (fun _ => 0)
  case atStart => rfl
  case round =>
    subst hrel
    go_wp2
    go_ret
    exact ⟨rfl, rfl⟩
theorem natOf_nil (w : World) : Calls Tryd.prog 29 #[.slice none 0 0] w fun e w' => e = .returned (.string ⟨#[]⟩) ∧ w = w' := by
  go_enter Tryd.func29, Tryd.ntmps29
  go_wp2_with fail
  refine (trimmed_nil _).mono ?_
  rintro e w' ⟨rfl, rfl⟩
  go_wp2
  go_ret
  exact ⟨rfl, rfl⟩
/-- A quotient: a number, or nil for 0. -/
def NumQ (w : World) (v : Value) (N : Nat) : Prop := (v = .slice none 0 0 ∧ N = 0) ∨ Num w v N
theorem natOf_num (v : Value) (N : Nat) (w : World) (h : NumQ w v N) :
    Calls Tryd.prog 29 #[v] w fun e w' => e = .returned (.string ⟨(enc N).toArray⟩) ∧ w.grownBy w' none := by
  rcases h with ⟨rfl, rfl⟩ | ⟨g, off, m, c, xs, rfl, h⟩
  · refine (natOf_nil w).mono ?_
    rintro e w' ⟨rfl, rfl⟩
    exact ⟨by rw [enc_zero], World.grownBy.refl _ _⟩
  · have := natOf_any g off m c xs w h.blk h.fit h.dg h.cap h.max h.small
    rwa [h.val] at this

/-- What divide returns. -/
def DivOut (w w' : World) (e : Ending) (N M : Nat) : Prop := ∃ q r, e = .returned (.tuple #[q, r]) ∧ NumQ w' q (N / M) ∧ Num w' r (N % M) ∧ w.grownBy w' none

theorem divide_less (b1 o1 n1 c1 b2 o2 n2 c2 N M : Nat) (xs ys : List Nat) (w : World) (h1 : NumAt w b1 o1 n1 c1 xs N) (h2 : NumAt w b2 o2 n2 c2 ys M) (hlt : N < M) :
    Calls Tryd.prog 39 #[.slice (some ⟨b1, o1, none⟩) n1 c1, .slice (some ⟨b2, o2, none⟩) n2 c2] w fun e w' => DivOut w w' e N M := by
  have hc : cmpN (vs W64 xs o1 n1) (vs W64 ys o2 n2) = -1 := by rw [h1.val, h2.val]; unfold cmpN; rw [if_pos hlt]
  have HC := Lib.hid hc
  have H1 := Lib.hid h1
  have HLT := Lib.hid hlt
  clear hc hlt
  go_enter Tryd.func39, Tryd.ntmps39
  go_wp2_with fail
  refine (compare_any b1 o1 n1 c1 b2 o2 n2 c2 xs ys w h1.blk h1.fit h2.blk h2.fit h1.dg h2.dg h1.small h1.top h2.top).mono ?_
  rintro e w1 ⟨rfl, hq1⟩
  rw [HC.out]
  go_wp2
  go_ret2
  refine ⟨.slice none 0 0, .slice (some ⟨b1, o1, none⟩) n1 c1, rfl, .inl ⟨rfl, Nat.div_eq_of_lt HLT.out⟩, ⟨b1, o1, n1, c1, xs, rfl, ?_⟩, hq1.gr none⟩
  rw [Nat.mod_eq_of_lt HLT.out]
  exact H1.out.kept (hq1.gr none) (by simp)

/-- What divide returns for a divisor of one word. -/
theorem divide_one (b1 o1 n1 c1 b2 o2 c2 N y : Nat) (xs ys : List Nat) (w : World) (h1 : NumAt w b1 o1 n1 c1 xs N) (h2 : NumAt w b2 o2 1 c2 ys y) (hle : y ≤ N) :
    Calls Tryd.prog 39 #[.slice (some ⟨b1, o1, none⟩) n1 c1, .slice (some ⟨b2, o2, none⟩) 1 c2] w fun e w' => DivOut w w' e N y := by
  have hyv : gt ys o2 = y := by have := h2.val; simpa [vs] using this
  have hy0 : 0 < y := by have := h2.top; simp at this; omega
  have hcmp : cmpN (vs W64 xs o1 n1) (vs W64 ys o2 1) = cmpN N y := by rw [h1.val, h2.val]
  obtain ⟨cc, hcc⟩ : ∃ cc, cmpN N y = cc := ⟨_, rfl⟩
  have hc0 : decide (cc < 0) = false := by rw [decide_eq_false_iff_not, ← hcc]; unfold cmpN; rw [if_neg (by omega)]; split <;> omega
  have hc1 : ¬ cc < 0 := of_decide_eq_false hc0
  have HC := Lib.hid (hcmp.trans hcc)
  have hyW : y < W64 := hyv ▸ h2.dg o2
  have hpos : 0 < n1 := by
    rcases Nat.eq_zero_or_pos n1 with h | h
    · have := h1.val; rw [h] at this; simp [vs] at this; omega
    · exact h
  have hsm := h1.small
  have hcell2 : w.cell? ⟨b2, o2, none⟩ = some (.int .u64 (y : Int)) := by rw [h2.blk.cell (by have := h2.fit; omega), hyv]
  clear hcc hcmp hle hyv
  go_enter Tryd.func39, Tryd.ntmps39
  go_wp2_with fail
  refine (compare_any b1 o1 n1 c1 b2 o2 1 c2 xs ys w h1.blk h1.fit h2.blk h2.fit h1.dg h2.dg h1.small h1.top h2.top).mono ?_
  rintro e w1 ⟨rfl, hq1⟩
  rw [HC.out]
  have hcell2' : w1.cell? ⟨b2, o2, none⟩ = some (.int .u64 (y : Int)) := by obtain ⟨k, rfl⟩ := hq1; exact hcell2
  have hb' := h1.blk.kept (hq1.gr none) (by simp)
  go_wp2_with fail
  refine (clone_any b1 o1 n1 c1 xs w1 hb' h1.fit hsm hpos h1.dg).mono ?_
  rintro e w2 ⟨g, us, rfl, hge, hbg, hlu, hmu, hg2, hdu, heq⟩
  have hval : vs W64 us 0 n1 = N := by rw [← h1.val]; exact vs_congr (fun i hi => by rw [Nat.zero_add]; exact heq i hi)
  have HVAL := Lib.hid hval
  have hcell3 : w2.cell? ⟨b2, o2, none⟩ = some (.int .u64 (y : Int)) := hg2.cell hcell2' (by simp)
  clear heq hval
  go_wp2_with fail
  refine (divideInPlace_any g 0 n1 us.length y us w2 hbg (by omega) hdu hsm hy0 hyW).mono ?_
  rintro e w3 ⟨r, zs, rfl, hbz, hg3, hdv⟩
  obtain ⟨d1, d2, d3, d4⟩ := hdv
  rw [HVAL.out] at d4
  have hlz : zs.length = us.length := d1.len
  have hq : vs W64 zs 0 n1 = N / y := by
    have := Nat.div_mod_unique hy0 (a := N) (d := vs W64 zs 0 n1) (c := r)
    exact (this.2 ⟨by omega, d3⟩).1.symm
  have hr : r = N % y := by
    have := Nat.div_mod_unique hy0 (a := N) (d := vs W64 zs 0 n1) (c := r)
    exact (this.2 ⟨by omega, d3⟩).2.symm
  have HQ := Lib.hid hq
  have HR := Lib.hid hr
  have hfit : 0 + n1 ≤ zs.length := by omega
  have hg3b := hg3
  clear d4 hq hr hlz d1
  go_wp2_with fail
  refine (trimmed_num g 0 n1 us.length zs _ (hbz.alloc _) hfit d2 hlu hmu hsm).mono ?_
  rintro e w4 ⟨⟨m, rfl, hm4⟩, rfl⟩
  go_wp2_with fail
  refine (trimmed_num w3.heap.size 0 1 1 [r] _ (blk_one w3 .u64 57 r) (by simp) (dg_one (by omega)) (Nat.le_refl _) (by decide) (by omega)).mono ?_
  rintro e w5 ⟨⟨m', rfl, hm5⟩, rfl⟩
  rw [HQ.out] at hm4
  rw [vs_one, HR.out] at hm5
  have HM4 := Lib.hid hm4
  have HM5 := Lib.hid hm5
  clear hm4 hm5
  go_wp2
  go_ret2
  refine ⟨.slice (some ⟨g, 0, none⟩) m us.length, .slice (some ⟨w3.heap.size, 0, none⟩) m' 1, rfl, .inr ⟨g, 0, m, us.length, zs, rfl, ?_⟩, ⟨w3.heap.size, 0, m', 1, [r], rfl, ?_⟩, ?_⟩
  · rw [← HR.out] at *; exact HM4.out
  · have := HM5.out
    rw [← HR.out] at this ⊢
    exact this
  · have := (hq1.gr none)
    exact gr_then (gr_new (gr_then this hg2) hg3b (by have := (hq1.gr none).size; omega)) (gr_alloc _ _ _)
end Go.Proofs.YtoadjhmehgkeaaaDoor

namespace Go.Proofs.YtoadjhmehgkeaaaDoor
open Go.RowKit Mth

theorem NumAt.len_one {w : World} {g off m c N : Nat} {xs : List Nat} (h : NumAt w g off m c xs N) (h0 : 0 < N) (h1 : N < W64) : m = 1 := by
  have hm0 : m ≠ 0 := by intro e; have := h.val; rw [e] at this; simp [vs] at this; omega
  rcases Nat.lt_or_ge 1 m with h2 | h2
  · obtain ⟨k, rfl⟩ : ∃ k, m = k + 1 := ⟨m - 1, by omega⟩
    have h3 : gt xs (off + k) ≠ 0 := by rcases h.top with h | h; omega; simpa using h
    have h4 := h.val
    simp only [vs] at h4
    have h5 : W64 ^ k * 1 ≤ W64 ^ k * gt xs (off + k) := Nat.mul_le_mul_left _ (by omega)
    have h6 : W64 ^ 1 ≤ W64 ^ k := Nat.pow_le_pow_right W64_pos (by omega)
    rw [Nat.pow_one] at h6
    omega
  · omega
theorem divide_num (v1 v2 : Value) (N M : Nat) (w : World) (h1 : Num w v1 N) (h2 : Num w v2 M) (h0 : 0 < M) (hs : N < M ∨ M < W64) :
    Calls Tryd.prog 39 #[v1, v2] w fun e w' => DivOut w w' e N M := by
  obtain ⟨g1, o1, m1, c1, xs, rfl, h1⟩ := h1
  obtain ⟨g2, o2, m2, c2, ys, rfl, h2⟩ := h2
  rcases Nat.lt_or_ge N M with h | h
  · exact divide_less g1 o1 m1 c1 g2 o2 m2 c2 N M xs ys w h1 h2 h
  · have hM : M < W64 := by omega
    obtain rfl := h2.len_one h0 hM
    exact divide_one g1 o1 m1 c1 g2 o2 c2 N M xs ys w h1 h2 h

theorem quo_any (s t : ByteArray) (w : World) (hs : s.size ≤ 1000000000000) (ht : t.size ≤ 1000000000000) (h0 : 0 < num t.data.toList) (hsm : num s.data.toList < num t.data.toList ∨ num t.data.toList < W64) :
    Calls Tryd.prog 23 #[.string s, .string t] w fun e w' => e = .returned (.tuple #[.string ⟨(enc (num s.data.toList / num t.data.toList)).toArray⟩, .string ⟨(enc (num s.data.toList % num t.data.toList)).toArray⟩, .bool true]) ∧ w.grownBy w' none := by
  have H0 := Lib.hid h0
  have HS := Lib.hid hsm
  clear h0 hsm
  go_enter Tryd.func23, Tryd.ntmps23
  go_wp2_with fail
  refine (wordsOf_any t w (by omega)).mono ?_
  rintro e w1 ⟨b1, ys, rfl, hlt1, hb1, hg1, hw1, hsz1⟩
  have hpos : 0 < ys.length := by
    rcases Nat.eq_zero_or_pos ys.length with h | h
    · have := words_nil hw1 h; have := H0.out; omega
    · exact h
  have hb0 : ((ys.length : Int) == 0) = false := by rw [beq_eq_false_iff_ne]; omega
  go_wp2_with fail
  refine (wordsOf_any s w1 (by omega)).mono ?_
  rintro e w2 ⟨b2, xs, rfl, hlt2, hb2, hg2, hw2, hsz2⟩
  have hn1 := (Num.of_words hb1 hw1 (by omega)).kept hg2
  have hn2 := Num.of_words hb2 hw2 (by omega)
  have HN1 := Lib.hid hn1
  have HN2 := Lib.hid hn2
  clear hn1 hn2
  go_wp2_with fail
  refine (divide_num _ _ _ _ w2 HN2.out HN1.out H0.out HS.out).mono ?_
  rintro e w3 ⟨q, r, rfl, hq, hr, hg3⟩
  have HQ := Lib.hid hq
  have HR := Lib.hid hr
  clear hq hr
  go_wp2_with fail
  refine (natOf_num q _ w3 HQ.out).mono ?_
  rintro e w4 ⟨rfl, hg4⟩
  go_wp2_with fail
  refine (natOf_num r _ w4 (.inr (HR.out.kept hg4))).mono ?_
  rintro e w5 ⟨rfl, hg5⟩
  generalize hsq : (⟨(enc (num s.data.toList / num t.data.toList)).toArray⟩ : ByteArray) = sq
  generalize hsr : (⟨(enc (num s.data.toList % num t.data.toList)).toArray⟩ : ByteArray) = sr
  have HSQ := Lib.hid hsq
  have HSR := Lib.hid hsr
  clear hsq hsr
  go_wp2
  go_ret3
  refine ⟨?_, gr_then hg1 (gr_then hg2 (gr_then hg3 (gr_then hg4 hg5)))⟩
  rw [HSQ.out, HSR.out]; rfl
end Go.Proofs.YtoadjhmehgkeaaaDoor
