/- nat.powerByOdd. -/
import Derived.Test.YtednijejgadmnaaDoorMontW
import Derived.Test.YtednijejgadmnaaDoorMontB
import Derived.Test.YtednijejgadmnaaDoorNumber
import Derived.Deep.RegionHeld3
namespace Go.Proofs.YtednijejgadmnaaDoor
open Go.RowKit Mth

theorem Row.img {w : World} {g n M A : Nat} {us : List Nat} (h : Row w g n (A * W64 ^ n % M) us) : ImgOf w (.slice (some ⟨g, 0, none⟩) n n) n M A := ⟨g, 0, n, us, rfl, h.blk, by rw [h.len]; omega, h.dg, h.val⟩

theorem numAt_one (w : World) : NumAt (w.alloc (.cells #[.int .u64 1] 57)) w.heap.size 0 1 1 [1] 1 :=
  ⟨blk_one w .u64 57 1, by simp, dg_one (by decide), vs_one _ _, .inr (by simp [gt]), Nat.le_refl _, by decide, by omega⟩

set_option maxHeartbeats 16000000 in
set_option maxRecDepth 100000 in
theorem powerByOdd_any (bm om n cm M : Nat) (ms : List Nat) (ba oa na ca A : Nat) (xs : List Nat) (e : ByteArray) (w : World) (hm : NumAt w bm om n cm ms M) (hodd : gt ms om % 2 = 1) (hn0 : 0 < n) (hM1 : M < W64) (ha : NumAt w ba oa na ca xs A) (hna : na ≤ 137438953473) (hn : n ≤ 137438953473) (hsz : e.size ≤ 1000000000000) :
    Calls Tryd.prog 42 #[.slice (some ⟨ba, oa, none⟩) na ca, .string e, .slice (some ⟨bm, om, none⟩) n cm] w fun x w' => ∃ g o c us, x = .returned (.slice (some ⟨g, o, none⟩) n c) ∧ n ≤ c ∧ c ≤ maxLen ∧ Blk .u64 57 w' g us ∧ o + n ≤ us.length ∧ Dg W64 us ∧ vs W64 us o n = accP M A (bitsTop (num e.data.toList) (bitsN (num e.data.toList))) % M ∧ w.grownBy w' none := by
  have hM0 : 0 < M := hm.pos hn0
  go_enter Tryd.func42, Tryd.ntmps42
  go_wp2_with fail
  refine (montgomeryBy_any bm om n cm M ms w hm hodd hn0).mono ?_
  rintro x w1 ⟨inv, rfl, hinv, hg1⟩
  unfold mval
  go_wp2_with fail
  obtain ⟨W2, hW2⟩ : ∃ W2, W2 = w1.alloc (.cells #[.slice (some ⟨bm, om, none⟩) n cm, .int .u64 (inv : Int)] 89) := ⟨_, rfl⟩
  have hbx : W2.heap[w1.heap.size]? = some (.cells #[.slice (some ⟨bm, om, none⟩) n cm, .int .u64 (inv : Int)] 89 (0, 0)) := by rw [hW2]; exact heap_alloc_new _ _
  have hg2 : w1.grownBy W2 none := by rw [hW2]; exact gr_alloc _ _ _
  rw [← hW2]
  clear hW2
  have hc0 : W2.drew.cell? ⟨w1.heap.size, 0, none⟩ = some (.slice (some ⟨bm, om, none⟩) n cm) := by rw [cell_of_row _ _ 0 _ _ _ (show W2.drew.heap[w1.heap.size]? = _ from hbx)]; rfl
  have hc1 : W2.drew.cell? ⟨w1.heap.size, 1, none⟩ = some (.int .u64 (inv : Int)) := by rw [cell_of_row _ _ 1 _ _ _ (show W2.drew.heap[w1.heap.size]? = _ from hbx)]; rfl
  have hgd : w.grownBy W2.drew none := gr_then hg1 (gr_then hg2 (gr_drew _ _))
  have HMd := Lib.hid (hm.kept hgd (by simp))
  have HAd := Lib.hid (ha.kept hgd (by simp))
  have hgo : W2.drew.grownBy (W2.alloc (.cells #[.int .u64 1] 57)).drew none := gr_alloc W2.drew (.cells #[.int .u64 1] 57) none
  have hone : NumAt (W2.alloc (.cells #[.int .u64 1] 57)).drew W2.heap.size 0 1 1 [1] 1 := numAt_one W2.drew
  have HONE0 := Lib.hid hone
  clear hone
  have hd0 := hgo.cell hc0 (by simp)
  have hd1 := hgo.cell hc1 (by simp)
  clear hbx hg2
  go_region_held3 (fun w' => w'.cell? ⟨w1.heap.size, 0, none⟩ = some (.slice (some ⟨bm, om, none⟩) n cm) ∧ w'.cell? ⟨w1.heap.size, 1, none⟩ = some (.int .u64 (inv : Int))) (first | exact ⟨hc0, hc1⟩ | exact ⟨hd0, hd1⟩ | go_keep)
    (first
      | (go_at_call_of 70 (Value.slice (some ⟨ba, oa, none⟩) na ca); have hp := image_any bm om n cm inv M ms ba oa na ca A xs W2.drew HMd.out hM1 hM0 HAd.out hna hn; unfold mval at hp; with_reducible refine hp.mono ?_; clear hp; rintro e4 w4 ⟨g4, us4, rfl, hlt4, hrow4, hg4⟩; have hi0 := hg4.cell hc0 (by simp); have hi1 := hg4.cell hc1 (by simp); have hgo4 := gr_alloc w4 (.cells #[.int .u64 1] 57) none; have hk0 := hgo4.cell hi0 (by simp); have hk1 := hgo4.cell hi1 (by simp); have HI4 := Lib.hid hrow4.img; have HM4 := Lib.hid ((HMd.out.kept hg4 (by simp)).kept hgo4 (by simp)); have HONE := Lib.hid (numAt_one w4); clear hrow4)
      | (go_at_call_of 70 (Value.slice (some ⟨ba, oa, none⟩) na ca); have hp := image_any bm om n cm inv M ms ba oa na ca A xs (W2.alloc (.cells #[.int .u64 1] 57)).drew (HMd.out.kept hgo (by simp)) hM1 hM0 (HAd.out.kept hgo (by simp)) hna hn; unfold mval at hp; with_reducible refine hp.mono ?_; clear hp; rintro e4 w4 ⟨g4, us4, rfl, hlt4, hrow4, hg4r⟩; have hk0 := hg4r.cell hd0 (by simp); have hk1 := hg4r.cell hd1 (by simp); have hg4 := gr_then hgo hg4r; have hgo4 := World.grownBy.refl w4 none; have HI4 := Lib.hid hrow4.img; have HM4 := Lib.hid ((HMd.out.kept hgo (by simp)).kept hg4r (by simp)); have HONE := Lib.hid (HONE0.out.kept hg4r (by simp)); clear hrow4)
      | (go_at_call_of 70 (Value.slice (some ⟨w4.heap.size, 0, none⟩) 1 1); have hp := image_any bm om n cm inv M ms w4.heap.size 0 1 1 1 [1] _ HM4.out hM1 hM0 HONE.out (by omega) hn; unfold mval at hp; refine hp.mono ?_; clear hp; rintro e5 w5 ⟨g5, us5, rfl, hlt5, hrow5, hg5⟩; have hl0 := hg5.cell hk0 (by simp); have hl1 := hg5.cell hk1 (by simp); have HI5 := Lib.hid hrow5.img; clear hrow5)
      | (go_at_call_of 70 (Value.slice (some ⟨W2.heap.size, 0, none⟩) 1 1); have hp := image_any bm om n cm inv M ms W2.heap.size 0 1 1 1 [1] w4 HM4.out hM1 hM0 HONE.out (by omega) hn; unfold mval at hp; refine hp.mono ?_; clear hp; rintro e5 w5 ⟨g5, us5, rfl, hlt5, hrow5, hg5⟩; have hl0 := hg5.cell hk0 (by simp); have hl1 := hg5.cell hk1 (by simp); have HI5 := Lib.hid hrow5.img; clear hrow5)
      | (go_at_call 69; have hp := power_mont (.slice (some ⟨g4, 0, none⟩) n n) (.slice (some ⟨g5, 0, none⟩) n n) bm om n cm inv M ms A e w5 ((HI4.out.kept hgo4).kept hg5) HI5.out (HM4.out.kept hg5 (by simp)) (by omega) hM0 hinv hsz; unfold mval at hp; refine hp.mono ?_; clear hp; rintro e6 w6 ⟨r6, rfl, hr6, hg6⟩; have hm0 := hg6.cell hl0 (by simp); have hm1 := hg6.cell hl1 (by simp); have HR6 := Lib.hid hr6; clear hr6)
      | (go_at_call 68; have hp := number_any bm om n cm inv M ms r6 _ w6 ((HM4.out.kept hg5 (by simp)).kept hg6 (by simp)) (by omega) hM0 hinv HR6.out; unfold mval at hp; refine hp.mono ?_; clear hp; rintro e7 w7 ⟨g7, o7, c7, us7, rfl, hnc7, hcm7, hb7, hf7, hd7, hv7, hg7⟩; have ho0 := hg7.cell hm0 (by simp); have ho1 := hg7.cell hm1 (by simp); have HU7 := Lib.hid (And.intro hnc7 (And.intro hcm7 (And.intro hb7 (And.intro hf7 (And.intro hd7 hv7))))); clear hnc7 hcm7 hb7 hf7 hd7 hv7))
  all_goals
    go_wp2
    go_ret
    exact ⟨g7, o7, c7, us7, rfl, HU7.out.1, HU7.out.2.1, HU7.out.2.2.1, HU7.out.2.2.2.1, HU7.out.2.2.2.2.1, HU7.out.2.2.2.2.2, gr_then hgd (gr_then hg4 (gr_then hgo4 (gr_then hg5 (gr_then hg6 hg7))))⟩
end Go.Proofs.YtednijejgadmnaaDoor
