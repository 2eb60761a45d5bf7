/- The contracts of nat.sum and nat.Add. -/
import Derived.Test.YtednijejgadmnaaDoorAddTo
import Derived.Test.YtednijejgadmnaaDoorNatOf
import Derived.Test.YtednijejgadmnaaDoorCopy
namespace Go.Proofs.YtednijejgadmnaaDoor
open Go.RowKit Mth

theorem sum_any (b1 o1 n1 c1 b2 o2 n2 c2 : Nat) (xs ys : List Nat) (w : World) (hb : Blk .u64 57 w b1 xs) (hn : o1 + n1 ≤ xs.length) (hd : Dg W64 xs)
    (hb2 : Blk .u64 57 w b2 ys) (hn2 : o2 + n2 ≤ ys.length) (hd2 : Dg W64 ys) (hs1 : n1 ≤ 1099511627775) (hs2 : n2 ≤ 1099511627775) :
    Calls Tryd.prog 38 #[.slice (some ⟨b1, o1, none⟩) n1 c1, .slice (some ⟨b2, o2, none⟩) n2 c2] w fun e w' => ∃ b zs, e = .returned (.slice (some ⟨b, 0, none⟩) zs.length zs.length) ∧ w.heap.size ≤ b ∧ Blk .u64 57 w' b zs ∧ w.grownBy w' none ∧ Dg W64 zs ∧ zs.length = max n1 n2 + 1 ∧ vs W64 zs 0 zs.length = vs W64 xs o1 n1 + vs W64 ys o2 n2 := by
  obtain ⟨i0, hi, hz0, hz1, hz2⟩ := info_parts infoW
  obtain ⟨T, hT⟩ : ∃ T, T = max n1 n2 + 1 := ⟨_, rfl⟩
  have hT1 : n1 + 1 ≤ T := by omega
  have hT2 : n2 + 1 ≤ T := by omega
  have hT3 : T ≤ 1099511627776 := by omega
  have HT := Lib.hid hT
  clear hT
  go_enter Tryd.func38, Tryd.ntmps38
  go_wp2_with (at_make; refine wpList_make_full _ rfl _ _ 51 rfl 0 57 i0 (.int .u64 0) 1 Tryd.underlying51 hi hz0 hz1 .i64 .i64 _ _ T rfl rfl ?_ ?_ ?_ ?_ (Nat.zero_le _) ?_)
  case refine_1 => have := HT.out; omega
  case refine_2 => have := HT.out; omega
  case refine_3 => rw [hz2]; omega
  case refine_4 => unfold maxLen; omega
  intro w1 hown hgr
  have hb0 := blk_made' hown
  have hl0 : (List.replicate T 0 : List Nat).length = T := List.length_replicate
  have hzz : ∀ j, gt (List.replicate T 0) j = 0 := fun j => by simp [gt, List.getD, List.getElem?_replicate]; split <;> rfl
  have HLZ := Lib.hid hl0
  have HZZ := Lib.hid hzz
  generalize (List.replicate T 0 : List Nat) = z0 at hb0 HLZ HZZ
  clear hown hi hz0 hz1 hz2 hl0 hzz
  have hbr := hb.kept hgr (by simp)
  have hb2r := hb2.kept hgr (by simp)
  have hlt1 := hb.lt
  have hlt2 := hb2.lt
  have hmin : Nat.min n1 T = n1 := Nat.min_eq_left (by omega)
  have HMIN := Lib.hid hmin
  clear hmin
  go_wp2_with (with_reducible refine wpList_copy_blk rfl (.tmp 13) (.tmp 14) 51 51 rfl 57 Tryd.underlying51 (by kernel_rfl) .u64 57 w.heap.size 0 T T b1 o1 n1 c1 z0 xs rfl rfl hb0 hbr hn ?_ ?_)
  case refine_1 => rw [HLZ.out]; omega
  intro w2 hb3 hg2
  have hl1 : o1 + Nat.min n1 T ≤ xs.length := by rw [HMIN.out]; exact hn
  have hl2 : 0 + Nat.min n1 T ≤ z0.length := by rw [HMIN.out, HLZ.out]; omega
  have hlc := (length_copied hl2 hl1).trans HLZ.out
  have hgc := gt_copied hl2 hl1
  rw [HMIN.out] at hgc hlc hb3
  have HLC := Lib.hid hlc
  have HGC := Lib.hid hgc
  generalize copied z0 xs 0 o1 n1 = us at hb3 HLC HGC
  clear hl1 hl2 hlc hgc
  have hdu : Dg W64 us := by
    intro i
    rw [HGC.out]
    split
    · exact hd _
    · rw [HZZ.out]; exact W64_pos
  have hb2r2 := hb2r.kept hg2 (by simp; omega)
  have hvu : vs W64 us 0 T = vs W64 xs o1 n1 := by
    obtain ⟨k, rfl⟩ : ∃ k, T = n1 + k := ⟨T - n1, by omega⟩
    rw [vs_split, vs_zero (off := 0 + n1) (n := k) (fun i _ => by rw [HGC.out, if_neg (by omega)]; exact HZZ.out _)]
    rw [vs_congr (ys := xs) (off' := o1) (n := n1) (fun i hi => by rw [HGC.out, if_pos (by omega)]; congr 1; omega)]
    simp
  have HVU := Lib.hid hvu
  clear hvu
  go_wp2_with fail
  refine (addTo_any w.heap.size 0 T T b2 o2 n2 c2 us ys w2 hb3 (by rw [HLC.out]; omega) hdu (Nat.le_refl _) (by unfold maxLen; omega) hb2r2 hn2 hd2 (by omega) (by omega)).mono ?_
  rintro e w3 ⟨rfl, vv, hv, hg3, hadd⟩
  obtain ⟨a1, a2, κ, a3⟩ := hadd
  have hlv : vv.length = T := a1.len.trans HLC.out
  have hB : vs W64 xs o1 n1 + vs W64 ys o2 n2 < W64 ^ T := by
    have h1 := vs_lt (off := o1) (n := n1) hd
    have h2 := vs_lt (off := o2) (n := n2) hd2
    obtain ⟨M, hM⟩ : ∃ M, T = M + 1 := ⟨T - 1, by omega⟩
    have h3 : W64 ^ n1 ≤ W64 ^ M := Nat.pow_le_pow_right W64_pos (by omega)
    have h4 : W64 ^ n2 ≤ W64 ^ M := Nat.pow_le_pow_right W64_pos (by omega)
    rw [hM, Nat.pow_succ, W64_eq]
    rw [W64_eq] at h1 h2 h3 h4
    omega
  have hκ : κ = 0 := by
    rw [HVU.out] at a3
    rcases Nat.eq_zero_or_pos κ with h | h
    · exact h
    · have h5 : W64 ^ T * 1 ≤ W64 ^ T * κ := Nat.mul_le_mul_left _ h
      omega
  have hfin : vs W64 vv 0 vv.length = vs W64 xs o1 n1 + vs W64 ys o2 n2 := by
    rw [HVU.out, hκ] at a3
    rw [hlv]; simpa using a3
  have HFIN := Lib.hid hfin
  have HLV := Lib.hid hlv
  clear hfin hlv hκ hB a3
  go_wp2
  go_ret
  exact ⟨w.heap.size, vv, by rw [HLV.out]; rfl, Nat.le_refl _, hv, gr_new (gr_new hgr hg2 (Nat.le_refl _)) hg3 (Nat.le_refl _), a2, HLV.out.trans HT.out, HFIN.out⟩

theorem add_any (s t : ByteArray) (w : World) (hs : s.size ≤ 1000000000000) (ht : t.size ≤ 1000000000000) :
    Calls Tryd.prog 21 #[.string s, .string t] w fun e w' => e = .returned (.string ⟨(enc (num s.data.toList + num t.data.toList)).toArray⟩) ∧ w.grownBy w' none := by
  go_enter Tryd.func21, Tryd.ntmps21
  go_wp2_with fail
  refine (wordsOf_any s w (by omega)).mono ?_
  rintro e w1 ⟨b1, xs, rfl, hlt1, hb1, hg1, hw1, hsz1⟩
  go_wp2_with fail
  refine (wordsOf_any t w1 (by omega)).mono ?_
  rintro e w2 ⟨b2, ys, rfl, hlt2, hb2, hg2, hw2, hsz2⟩
  go_wp2_with fail
  refine (sum_any b1 0 xs.length xs.length b2 0 ys.length ys.length xs ys w2 (hb1.kept hg2 (by simp)) (by omega) hw1.dg hb2 (by omega) hw2.dg (by omega) (by omega)).mono ?_
  rintro e w3 ⟨b3, zs, rfl, hlt3, hb3, hg3, hd3, hl3, hv3⟩
  rw [hw1.val, hw2.val] at hv3
  have HV := Lib.hid hv3
  have hls : zs.length ≤ 1099511627776 := by omega
  clear hv3 hl3
  go_wp2_with fail
  refine (natOf_any b3 0 zs.length zs.length zs w3 hb3 (by omega) hd3 (Nat.le_refl _) (by unfold maxLen; omega) hls).mono ?_
  rintro e w4 ⟨rfl, hg4⟩
  go_wp2
  go_ret
  exact ⟨by rw [HV.out]; rfl, gr_then hg1 (gr_then hg2 (gr_then hg3 hg4))⟩
end Go.Proofs.YtednijejgadmnaaDoor
