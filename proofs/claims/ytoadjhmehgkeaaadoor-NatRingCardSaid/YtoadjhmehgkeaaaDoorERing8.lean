/- Contracts of package nat and of the reference, part 8: Odd, PowO, Gcd, Lits, MulN, GcdG, Calls, Ring, RingRow. -/
import Derived.Test.YtoadjhmehgkeaaaDoorERing7
import Derived.Deep.RegionHeld3
import Derived.Deep.RegionWith
import Derived.Test.YtoadjhmehgkeaaaDoorRows
import Derived.ProofKit
import Derived.ChangeSlices
import Derived.LaidLaws
import Derived.Lib.LaidIn
import Derived.Lib.LaidTab
import Derived.Stop.LaidErr
namespace Go.Proofs.YtoadjhmehgkeaaaDoor
open Go.RowKit Mth

theorem Row.img {w : World} {g n M A : Nat} {us : List Nat} (h : Row w g n (A * W64 ^ n % M) us) : ImgOf w (.slice (some ⟨g, 0, none⟩) n n) n M A := ⟨g, 0, n, us, rfl, h.blk, by rw [h.len]; omega, h.dg, h.val⟩

theorem numAt_one (w : World) : NumAt (w.alloc (.cells #[.int .u64 1] 57)) w.heap.size 0 1 1 [1] 1 :=
  ⟨blk_one w .u64 57 1, by simp, dg_one (by decide), vs_one _ _, .inr (by simp [gt]), Nat.le_refl _, by decide, by omega⟩

set_option maxHeartbeats 16000000 in
set_option maxRecDepth 100000 in
theorem powerByOdd_any (bm om n cm M : Nat) (ms : List Nat) (ba oa na ca A : Nat) (xs : List Nat) (e : ByteArray) (w : World) (hm : NumAt w bm om n cm ms M) (hodd : gt ms om % 2 = 1) (hn0 : 0 < n) (ha : NumAt w ba oa na ca xs A) (hna : na ≤ 137438953473) (hn : n ≤ 137438953473) (hsz : e.size ≤ 1000000000000) :
    Calls Tryd.prog 42 #[.slice (some ⟨ba, oa, none⟩) na ca, .string e, .slice (some ⟨bm, om, none⟩) n cm] w fun x w' => ∃ g o c us, x = .returned (.slice (some ⟨g, o, none⟩) n c) ∧ n ≤ c ∧ c ≤ maxLen ∧ Blk .u64 57 w' g us ∧ o + n ≤ us.length ∧ Dg W64 us ∧ vs W64 us o n = accP M A (bitsTop (num e.data.toList) (bitsN (num e.data.toList))) % M ∧ w.grownBy w' none := by
  have hM0 : 0 < M := hm.pos hn0
  go_enter Tryd.func42, Tryd.ntmps42
  go_wp2_with fail
  refine (montgomeryBy_any bm om n cm M ms w hm hodd hn0).mono ?_
  rintro x w1 ⟨inv, rfl, hinv, hg1⟩
  unfold mval
  go_wp2_with fail
  obtain ⟨W2, hW2⟩ : ∃ W2, W2 = w1.alloc (.cells #[.slice (some ⟨bm, om, none⟩) n cm, .int .u64 (inv : Int)] 89) := ⟨_, rfl⟩
  have hbx : W2.heap[w1.heap.size]? = some (.cells #[.slice (some ⟨bm, om, none⟩) n cm, .int .u64 (inv : Int)] 89 (0, 0)) := by rw [hW2]; exact heap_alloc_new _ _
  have hg2 : w1.grownBy W2 none := by rw [hW2]; exact gr_alloc _ _ _
  rw [← hW2]
  clear hW2
  have hc0 : W2.drew.cell? ⟨w1.heap.size, 0, none⟩ = some (.slice (some ⟨bm, om, none⟩) n cm) := by rw [cell_of_row _ _ 0 _ _ _ (show W2.drew.heap[w1.heap.size]? = _ from hbx)]; rfl
  have hc1 : W2.drew.cell? ⟨w1.heap.size, 1, none⟩ = some (.int .u64 (inv : Int)) := by rw [cell_of_row _ _ 1 _ _ _ (show W2.drew.heap[w1.heap.size]? = _ from hbx)]; rfl
  have hgd : w.grownBy W2.drew none := gr_then hg1 (gr_then hg2 (gr_drew _ _))
  have HMd := Lib.hid (hm.kept hgd (by simp))
  have HAd := Lib.hid (ha.kept hgd (by simp))
  have hgo : W2.drew.grownBy (W2.alloc (.cells #[.int .u64 1] 57)).drew none := gr_alloc W2.drew (.cells #[.int .u64 1] 57) none
  have hone : NumAt (W2.alloc (.cells #[.int .u64 1] 57)).drew W2.heap.size 0 1 1 [1] 1 := numAt_one W2.drew
  have HONE0 := Lib.hid hone
  clear hone
  have hd0 := hgo.cell hc0 (by simp)
  have hd1 := hgo.cell hc1 (by simp)
  clear hbx hg2
  go_region_held3 (fun w' => w'.cell? ⟨w1.heap.size, 0, none⟩ = some (.slice (some ⟨bm, om, none⟩) n cm) ∧ w'.cell? ⟨w1.heap.size, 1, none⟩ = some (.int .u64 (inv : Int))) (first | exact ⟨hc0, hc1⟩ | exact ⟨hd0, hd1⟩ | go_keep)
    (first
      | (go_at_call_of 70 (Value.slice (some ⟨ba, oa, none⟩) na ca); have hp := image_any bm om n cm inv M ms ba oa na ca A xs W2.drew HMd.out hM0 HAd.out hna hn; unfold mval at hp; with_reducible refine hp.mono ?_; clear hp; rintro e4 w4 ⟨g4, us4, rfl, hlt4, hrow4, hg4⟩; have hi0 := hg4.cell hc0 (by simp); have hi1 := hg4.cell hc1 (by simp); have hgo4 := gr_alloc w4 (.cells #[.int .u64 1] 57) none; have hk0 := hgo4.cell hi0 (by simp); have hk1 := hgo4.cell hi1 (by simp); have HI4 := Lib.hid hrow4.img; have HM4 := Lib.hid ((HMd.out.kept hg4 (by simp)).kept hgo4 (by simp)); have HONE := Lib.hid (numAt_one w4); clear hrow4)
      | (go_at_call_of 70 (Value.slice (some ⟨ba, oa, none⟩) na ca); have hp := image_any bm om n cm inv M ms ba oa na ca A xs (W2.alloc (.cells #[.int .u64 1] 57)).drew (HMd.out.kept hgo (by simp)) hM0 (HAd.out.kept hgo (by simp)) hna hn; unfold mval at hp; with_reducible refine hp.mono ?_; clear hp; rintro e4 w4 ⟨g4, us4, rfl, hlt4, hrow4, hg4r⟩; have hk0 := hg4r.cell hd0 (by simp); have hk1 := hg4r.cell hd1 (by simp); have hg4 := gr_then hgo hg4r; have hgo4 := World.grownBy.refl w4 none; have HI4 := Lib.hid hrow4.img; have HM4 := Lib.hid ((HMd.out.kept hgo (by simp)).kept hg4r (by simp)); have HONE := Lib.hid (HONE0.out.kept hg4r (by simp)); clear hrow4)
      | (go_at_call_of 70 (Value.slice (some ⟨w4.heap.size, 0, none⟩) 1 1); have hp := image_any bm om n cm inv M ms w4.heap.size 0 1 1 1 [1] _ HM4.out hM0 HONE.out (by omega) hn; unfold mval at hp; refine hp.mono ?_; clear hp; rintro e5 w5 ⟨g5, us5, rfl, hlt5, hrow5, hg5⟩; have hl0 := hg5.cell hk0 (by simp); have hl1 := hg5.cell hk1 (by simp); have HI5 := Lib.hid hrow5.img; clear hrow5)
      | (go_at_call_of 70 (Value.slice (some ⟨W2.heap.size, 0, none⟩) 1 1); have hp := image_any bm om n cm inv M ms W2.heap.size 0 1 1 1 [1] w4 HM4.out hM0 HONE.out (by omega) hn; unfold mval at hp; refine hp.mono ?_; clear hp; rintro e5 w5 ⟨g5, us5, rfl, hlt5, hrow5, hg5⟩; have hl0 := hg5.cell hk0 (by simp); have hl1 := hg5.cell hk1 (by simp); have HI5 := Lib.hid hrow5.img; clear hrow5)
      | (go_at_call 69; have hp := power_mont (.slice (some ⟨g4, 0, none⟩) n n) (.slice (some ⟨g5, 0, none⟩) n n) bm om n cm inv M ms A e w5 ((HI4.out.kept hgo4).kept hg5) HI5.out (HM4.out.kept hg5 (by simp)) (by omega) hM0 hinv hsz; unfold mval at hp; refine hp.mono ?_; clear hp; rintro e6 w6 ⟨r6, rfl, hr6, hg6⟩; have hm0 := hg6.cell hl0 (by simp); have hm1 := hg6.cell hl1 (by simp); have HR6 := Lib.hid hr6; clear hr6)
      | (go_at_call 68; have hp := number_any bm om n cm inv M ms r6 _ w6 ((HM4.out.kept hg5 (by simp)).kept hg6 (by simp)) (by omega) hM0 hinv HR6.out; unfold mval at hp; refine hp.mono ?_; clear hp; rintro e7 w7 ⟨g7, o7, c7, us7, rfl, hnc7, hcm7, hb7, hf7, hd7, hv7, hg7⟩; have ho0 := hg7.cell hm0 (by simp); have ho1 := hg7.cell hm1 (by simp); have HU7 := Lib.hid (And.intro hnc7 (And.intro hcm7 (And.intro hb7 (And.intro hf7 (And.intro hd7 hv7))))); clear hnc7 hcm7 hb7 hf7 hd7 hv7))
  all_goals
    go_wp2
    go_ret
    exact ⟨g7, o7, c7, us7, rfl, HU7.out.1, HU7.out.2.1, HU7.out.2.2.1, HU7.out.2.2.2.1, HU7.out.2.2.2.2.1, HU7.out.2.2.2.2.2, gr_then hgd (gr_then hg4 (gr_then hgo4 (gr_then hg5 (gr_then hg6 hg7))))⟩
end Go.Proofs.YtoadjhmehgkeaaaDoor
namespace Go.Proofs.YtoadjhmehgkeaaaDoor
open Go.RowKit Go.Shelf Mth

set_option maxHeartbeats 2000000 in
theorem pow_odd (s e t : ByteArray) (w : World) (hs : s.size ≤ 1000000000000) (he : e.size ≤ 1000000000000) (ht : t.size ≤ 1000000000000) (h1 : 0 < num t.data.toList) (hodd : num t.data.toList % 2 = 1) :
    Calls Tryd.prog 25 #[.string s, .string e, .string t] w fun x w' => x = .returned (.tuple #[.string ⟨(enc (accP (num t.data.toList) (num s.data.toList % num t.data.toList) (bitsTop (num e.data.toList) (bitsN (num e.data.toList))))).toArray⟩, .bool true]) ∧ w.grownBy w' none := by
  obtain ⟨y, hy⟩ : ∃ y, y = num t.data.toList := ⟨_, rfl⟩
  have HY := Lib.hid hy
  rw [← hy] at h1 hodd ⊢
  have hacc0 := accP_lt h1 (num s.data.toList % y) (bitsTop (num e.data.toList) (bitsN (num e.data.toList)))
  have HACC0 := Lib.hid hacc0
  clear hacc0
  obtain ⟨acc, hacc⟩ : ∃ acc, acc = (⟨(enc (accP y (num s.data.toList % y) (bitsTop (num e.data.toList) (bitsN (num e.data.toList))))).toArray⟩ : ByteArray) := ⟨_, rfl⟩
  rw [← hacc]
  have HACC := Lib.hid hacc
  clear hy hacc
  go_enter Tryd.func25, Tryd.ntmps25
  go_wp2_with fail
  refine (wordsOf_any t w (by omega)).mono ?_
  rintro x w1 ⟨b1, ys, rfl, hlt1, hb1, hg1, hw1, hsz1⟩
  rw [← HY.out] at hw1
  have hpos : 0 < ys.length := words_pos hw1 h1
  obtain ⟨z, hz⟩ : ∃ z, z = gt ys 0 := ⟨_, rfl⟩
  have hpz : z % 2 = y % 2 := by rw [hz]; exact words_odd hw1 hpos
  have hM : y < W64 ^ ys.length := hw1.lt
  obtain ⟨n, hn⟩ : ∃ n, n = ys.length := ⟨_, rfl⟩
  have hn1 := NumAt.of_words hb1 hw1 (by omega)
  have hcell : w1.cell? ⟨b1, 0, none⟩ = some (.int .u64 (z : Int)) := by rw [hb1.cell hpos, hz]
  have hb0 : ((n : Int) == 0) = false := by rw [beq_eq_false_iff_ne]; omega
  have hnK : n ≤ 137438953473 := by omega
  rw [← hn] at hn1 hM hpos ⊢
  have HN1 := Lib.hid hn1
  have HZ := Lib.hid hz
  have HMY := Lib.hid hM
  clear hn1 hw1 hsz1 hz hM hn
  go_wp2_with fail
  refine (wordsOf_any s w1 (by omega)).mono ?_
  rintro x w2 ⟨b2, xs, rfl, hlt2, hb2, hg2, hw2, hsz2⟩
  have HN2 := Lib.hid (Num.of_words hb2 hw2 (by omega))
  have hcell2 := hg2.cell hcell (by simp)
  clear hcell
  have hnm2 : Num w2 (.slice (some ⟨b1, 0, none⟩) n n) y := ⟨b1, 0, n, n, ys, rfl, HN1.out.kept hg2 (by simp)⟩
  have HNM2 := Lib.hid hnm2
  clear hnm2
  go_wp2_with fail
  refine (divide_all _ _ _ _ w2 HN2.out HNM2.out (by omega)).mono ?_
  rintro x w3 ⟨q, r, rfl, hq, hr, hg3⟩
  obtain ⟨g3, o3, m3, c3, zs, rfl, hr⟩ := hr
  have HR := Lib.hid hr
  have hle3 : m3 ≤ n := hr.len_le (Nat.lt_trans (Nat.mod_lt _ h1) HMY.out)
  have hcell3 := hg3.cell hcell2 (by simp)
  have hpar : (((z : Int) % 2) == 1) = true := by rw [beq_iff_eq]; omega
  clear hq hr hcell2
  go_wp2_with fail
  refine (powerByOdd_any b1 0 n n y ys g3 o3 m3 c3 _ zs e w3 ((HN1.out.kept hg2 (by simp)).kept hg3 (by simp)) (by rw [← HZ.out]; omega) (by omega) HR.out (by omega) (by omega) he).mono ?_
  rintro x w4 ⟨g4, o4, c4, us4, rfl, hnc4, hcm4, hb4, hf4, hd4, hv4, hg4⟩
  rw [Nat.mod_eq_of_lt HACC0.out] at hv4
  have HV4 := Lib.hid hv4
  have HF4 := Lib.hid (And.intro hnc4 (And.intro hcm4 (And.intro hb4 (And.intro hf4 hd4))))
  clear hv4 hnc4 hcm4 hb4 hf4 hd4
  go_wp2_with fail
  refine (natOf_any g4 o4 n c4 us4 w4 HF4.out.2.2.1 HF4.out.2.2.2.1 HF4.out.2.2.2.2 HF4.out.1 HF4.out.2.1 (by omega)).mono ?_
  rintro x w5 ⟨rfl, hg5⟩
  rw [HV4.out, ← HACC.out]
  go_wp2
  go_ret2
  exact ⟨rfl, gr_then hg1 (gr_then hg2 (gr_then hg3 (gr_then hg4 hg5)))⟩
end Go.Proofs.YtoadjhmehgkeaaaDoor
namespace Go.Proofs.YtoadjhmehgkeaaaDoor
open Go.RowKit Mth

theorem gcd_zero (s t : ByteArray) (w : World) (hs : s.size ≤ 1000000000000) (ht : t.size ≤ 1000000000000) (h0 : num t.data.toList = 0) :
    Calls Tryd.prog 26 #[.string s, .string t] w fun e w' => e = .returned (.string ⟨(enc (num s.data.toList)).toArray⟩) ∧ w.grownBy w' none := by
  have H0 := Lib.hid h0
  clear h0
  go_enter Tryd.func26, Tryd.ntmps26
  go_wp2_with fail
  refine (wordsOf_any s w (by omega)).mono ?_
  rintro e w1 ⟨b1, xs, rfl, hlt1, hb1, hg1, hw1, hsz1⟩
  go_wp2_with fail
  refine (wordsOf_any t w1 (by omega)).mono ?_
  rintro e w2 ⟨b2, ys, rfl, hlt2, hb2, hg2, hw2, hsz2⟩
  have hpos : ys.length = 0 := by
    rcases Nat.eq_zero_or_pos ys.length with h | h
    · exact h
    · have := hw2.ge h; have := Nat.pow_pos (n := ys.length - 1) W64_pos; have := H0.out; omega
  have hn1 := (Num.of_words hb1 hw1 (by omega)).kept hg2
  rw [hpos]
  have HN1 := Lib.hid hn1
  clear hn1 hpos
  go_wp2_with fail
  go_loopw [5, 6] (fun u v wr => u = .slice (some ⟨b1, 0, none⟩) xs.length xs.length ∧ v = .slice (some ⟨b2, 0, none⟩) 0 0 ∧ wr = w2) (fun _ _ _ => 0)
  case atStart => exact ⟨rfl, rfl, rfl⟩
  case round =>
    obtain ⟨rfl, rfl, rfl⟩ := hrel
    go_wp2_with fail
    refine (natOf_num _ _ _ (.inr HN1.out)).mono ?_
    rintro e w3 ⟨rfl, hg3⟩
    go_wp2
    go_ret
    exact ⟨rfl, gr_then hg1 (gr_then hg2 hg3)⟩

theorem natOf_one (n : Nat) (w : World) (h : n < W64) :
    Calls Tryd.prog 29 #[.slice (some ⟨w.heap.size, 0, none⟩) 1 1] (w.alloc (.cells #[.int .u64 (n : Int)] 57)) fun e w' => e = .returned (.string ⟨(enc n).toArray⟩) ∧ w.grownBy w' none := by
  have := natOf_any w.heap.size 0 1 1 [n] _ (blk_one w .u64 57 n) (by simp) (dg_one h) (Nat.le_refl _) (by decide) (by omega)
  rw [vs_one] at this
  exact this.mono fun _ _ ⟨h1, h2⟩ => ⟨h1, gr_then (gr_alloc _ _ _) h2⟩

set_option maxHeartbeats 4000000 in
theorem gcd_word (s t : ByteArray) (w : World) (hs : s.size ≤ 1000000000000) (ht : t.size ≤ 1000000000000) (h0 : 0 < num t.data.toList) (h1 : num t.data.toList < W64) :
    Calls Tryd.prog 26 #[.string s, .string t] w fun e w' => e = .returned (.string ⟨(enc (Nat.gcd (num s.data.toList) (num t.data.toList))).toArray⟩) ∧ w.grownBy w' none := by
  obtain ⟨y, hy⟩ : ∃ y, y = num t.data.toList := ⟨_, rfl⟩
  have HY := Lib.hid hy
  rw [← hy] at h0 h1
  clear hy
  go_enter Tryd.func26, Tryd.ntmps26
  go_wp2_with fail
  refine (wordsOf_any s w (by omega)).mono ?_
  rintro e w1 ⟨b1, xs, rfl, hlt1, hb1, hg1, hw1, hsz1⟩
  go_wp2_with fail
  refine (wordsOf_any t w1 (by omega)).mono ?_
  rintro e w2 ⟨b2, ys, rfl, hlt2, hb2, hg2, hw2, hsz2⟩
  rw [← HY.out] at hw2
  have hpos : ys.length = 1 := (NumAt.of_words hb2 hw2 (by omega)).len_one h0 h1
  have hyv := (words_one hw2 hpos).1
  have hcell : w2.cell? ⟨b2, 0, none⟩ = some (.int .u64 (y : Int)) := by rw [hb2.cell (by omega), hyv]
  have hb1k := hb1.kept hg2 (by simp)
  have hne : b1 ≠ b2 := by have := hb1.lt; omega
  rw [hpos]
  have HW := Lib.hid hw1
  have hdx := hw1.dg
  have hg12 := gr_then hg1 hg2
  clear hpos hyv hw1 hw2
  go_wp2_with fail
  go_loopw [5, 6] (fun u v wr => u = .slice (some ⟨b1, 0, none⟩) xs.length xs.length ∧ v = .slice (some ⟨b2, 0, none⟩) 1 1 ∧ wr = w2) (fun _ _ _ => 0)
  case atStart => exact ⟨rfl, rfl, rfl⟩
  case round =>
    obtain ⟨rfl, rfl, rfl⟩ := hrel
    go_wp2_with fail
    go_region_with (first
      | (go_at_call 45; refine (divideInPlace_any b1 0 xs.length xs.length y xs _ (by exact hb1k) (by omega) hdx (by omega) h0 h1).mono ?_; rintro e w3 ⟨r, zs, rfl, hb3, hg3, hdv⟩; have hc3 := hg3.cell (a := ⟨b2, 0, none⟩) hcell (by simp; omega))
      | (go_at_call 44; refine (gcdOfWords_any y r _ h1 (Nat.lt_trans hdv.2.2.1 h1)).mono ?_; rintro e w4 ⟨rfl, hq4⟩; have hgW : Nat.gcd y r < W64 := Nat.lt_of_le_of_lt (Nat.gcd_le_left r h0) h1; generalize hG : Nat.gcd y r = gg at hgW; have HG := Lib.hid hG; clear hG)
      | (go_at_call 29; refine (natOf_one gg w4 hgW).mono ?_; rintro e w5 ⟨rfl, hg5⟩))
    all_goals
      go_wp2
      go_ret
      refine ⟨?_, ?_⟩
      · have hd4 := hdv.2.2.2
        rw [HW.out.val] at hd4
        have hgcd : gg = Nat.gcd (num s.data.toList) (num t.data.toList) := by
          have hmod : num s.data.toList % y = r := by rw [hd4, Nat.mul_add_mod, Nat.mod_eq_of_lt hdv.2.2.1]
          have hrec := Nat.gcd_rec y (num s.data.toList)
          rw [hmod] at hrec
          rw [← HG.out, ← HY.out, Nat.gcd_comm (num s.data.toList) y, hrec, Nat.gcd_comm]
        rw [← hgcd]; rfl
      · have hq := hq4.gr none
        have hga := gr_then hg12 (gr_drew _ none)
        exact gr_then (gr_then (gr_new hga hg3 hlt1) hq) hg5
end Go.Proofs.YtoadjhmehgkeaaaDoor
namespace Go.Proofs.YtoadjhmehgkeaaaDoor
open Go.RowKit Mth

abbrev Gives (f : FuncId) (args : Array Value) (w : World) (v : Value) : Prop := Calls Tryd.prog f args w fun e w' => e = .returned v ∧ w.grownBy w' none
theorem lit_of (n : Nat) (bs : List UInt8) (h : n ≤ 9223372036854775807) (hb : enc n = bs) (w : World) : Gives 12 #[.int .i64 (n : Int)] w (.string ⟨bs.toArray⟩) := by
  subst hb; exact of_any n w h
theorem lit_of_neg (w : World) : Gives 12 #[.int .i64 (-1)] w (.string ⟨#[]⟩) := by
  refine (of_neg (-1) w (by decide)).mono ?_
  rintro e w' ⟨h, rfl⟩
  exact ⟨h, World.grownBy.refl _ _⟩
theorem lit_int (w : World) : Gives 13 #[.string ⟨#[0, 1, 0]⟩] w (.tuple #[.int .i64 256, .bool true]) :=
  int_yes ⟨#[0, 1, 0]⟩ w (by decide) (by decide)
theorem lit_sub_no (w : World) : Gives 20 #[.string ⟨#[3]⟩, .string ⟨#[5]⟩] w (.tuple #[.string ⟨#[]⟩, .bool false]) :=
  sub_no ⟨#[3]⟩ ⟨#[5]⟩ w (by decide)
theorem lit_sub_yes (w : World) : Gives 20 #[.string ⟨#[5]⟩, .string ⟨#[3]⟩] w (.tuple #[.string ⟨#[2]⟩, .bool true]) := by
  have h := sub_yes ⟨#[5]⟩ ⟨#[3]⟩ w (by decide) (by decide) (by decide)
  rw [show enc (num (⟨#[5]⟩ : ByteArray).data.toList - num (⟨#[3]⟩ : ByteArray).data.toList) = [2] from by decide +kernel] at h
  exact h
theorem lit_quo (w : World) : Gives 23 #[.string ⟨#[3, 232]⟩, .string ⟨#[7]⟩] w (.tuple #[.string ⟨#[142]⟩, .string ⟨#[6]⟩, .bool true]) := by
  have h := quo_any ⟨#[3, 232]⟩ ⟨#[7]⟩ w (by decide) (by decide) (by decide) (.inr (by decide))
  rw [show enc (num (⟨#[3, 232]⟩ : ByteArray).data.toList / num (⟨#[7]⟩ : ByteArray).data.toList) = [142] from by decide +kernel, show enc (num (⟨#[3, 232]⟩ : ByteArray).data.toList % num (⟨#[7]⟩ : ByteArray).data.toList) = [6] from by decide +kernel] at h
  exact h
theorem lit_gcd (w : World) : Gives 26 #[.string ⟨#[12]⟩, .string ⟨#[18]⟩] w (.string ⟨#[6]⟩) := by
  have h := gcd_word ⟨#[12]⟩ ⟨#[18]⟩ w (by decide) (by decide) (by decide) (by decide)
  rw [show enc (Nat.gcd (num (⟨#[12]⟩ : ByteArray).data.toList) (num (⟨#[18]⟩ : ByteArray).data.toList)) = [6] from by decide +kernel] at h
  exact h
theorem lit_gcd0 (w : World) : Gives 26 #[.string ⟨#[]⟩, .string ⟨#[5]⟩] w (.string ⟨#[5]⟩) := by
  have h := gcd_word ⟨#[]⟩ ⟨#[5]⟩ w (by decide) (by decide) (by decide) (by decide)
  rw [show enc (Nat.gcd (num (⟨#[]⟩ : ByteArray).data.toList) (num (⟨#[5]⟩ : ByteArray).data.toList)) = [5] from by decide +kernel] at h
  exact h
theorem lit_pow (w : World) : Gives 25 #[.string ⟨#[3]⟩, .string ⟨#[200]⟩, .string ⟨#[3, 232]⟩] w (.tuple #[.string ⟨#[1]⟩, .bool true]) := by
  have h := pow_even ⟨#[3]⟩ ⟨#[200]⟩ ⟨#[3, 232]⟩ w (by decide) (by decide) (by decide) (by decide) (by decide)
  rw [show enc (accP (num (⟨#[3, 232]⟩ : ByteArray).data.toList) (num (⟨#[3]⟩ : ByteArray).data.toList % num (⟨#[3, 232]⟩ : ByteArray).data.toList) (bitsTop (num (⟨#[200]⟩ : ByteArray).data.toList) (bitsN (num (⟨#[200]⟩ : ByteArray).data.toList)))) = [1] from by decide +kernel] at h
  exact h
theorem lit_pow1 (w : World) : Gives 25 #[.string ⟨#[5]⟩, .string ⟨#[]⟩, .string ⟨#[1]⟩] w (.tuple #[.string ⟨#[]⟩, .bool true]) := by
  have h := pow_odd ⟨#[5]⟩ ⟨#[]⟩ ⟨#[1]⟩ w (by decide) (by decide) (by decide) (by decide) (by decide)
  rw [show enc (accP (num (⟨#[1]⟩ : ByteArray).data.toList) (num (⟨#[5]⟩ : ByteArray).data.toList % num (⟨#[1]⟩ : ByteArray).data.toList) (bitsTop (num (⟨#[]⟩ : ByteArray).data.toList) (bitsN (num (⟨#[]⟩ : ByteArray).data.toList)))) = [] from by decide +kernel] at h
  exact h
theorem lit_parse (w : World) : Gives 27 #[.string ⟨#[48, 48, 55]⟩] w (.tuple #[.string ⟨#[]⟩, .bool false]) :=
  parse_no ⟨#[48, 48, 55]⟩ w (by decide) (by decide)
theorem lit_text (w : World) (htab : Tab w) : Gives 28 #[.string ⟨#[1, 0, 0]⟩] w (.string ⟨#[54, 53, 53, 51, 54]⟩) := by
  have h := text_any ⟨#[1, 0, 0]⟩ w (by decide) htab
  rw [show Lib.decDigits (num (⟨#[1, 0, 0]⟩ : ByteArray).data.toList) = [54, 53, 53, 51, 54] from by decide +kernel] at h
  exact h

theorem lit_bits (n : Nat) (bs : List UInt8) (k : Nat) (w : World) (hn : num bs = n := by decide) (hk : bitsN n = k := by decide) (hs : bs.length ≤ 1000000000000 := by decide) : Gives 16 #[.string ⟨bs.toArray⟩] w (.int .i64 (k : Int)) := by
  subst hn hk
  refine (bits_any ⟨bs.toArray⟩ w (by show bs.toArray.size ≤ _; simpa using hs)).mono ?_
  rintro e w' ⟨h, rfl⟩
  exact ⟨by simpa using h, World.grownBy.refl _ _⟩

set_option maxHeartbeats 8000000 in
set_option maxRecDepth 100000 in
theorem sanity_true (w : World) (htab : Tab w) : Gives 8 #[] w (.bool true) := by
  go_enter Tryd.func8, Tryd.ntmps8
  go_wp2_with fail
  refine (lit_int _).mono ?_
  rintro e w0 ⟨rfl, h0⟩
  have hg := h0
  go_wp2_with fail
  refine (lit_of 256 [1, 0] (by decide) (by decide +kernel) _).mono ?_
  rintro e w1 ⟨rfl, h1⟩
  have hg := gr_then hg h1
  clear h1
  go_wp2_with fail
  refine (lit_of_neg _).mono ?_
  rintro e w2 ⟨rfl, h2⟩
  have hg := gr_then hg h2
  clear h2
  go_wp2_with fail
  refine (lit_of 3 [3] (by decide) (by decide +kernel) _).mono ?_
  rintro e w3 ⟨rfl, h3⟩
  have hg := gr_then hg h3
  clear h3
  go_wp2_with fail
  refine (lit_of 5 [5] (by decide) (by decide +kernel) _).mono ?_
  rintro e w4 ⟨rfl, h4⟩
  have hg := gr_then hg h4
  clear h4
  go_wp2_with fail
  refine (lit_sub_no _).mono ?_
  rintro e w5 ⟨rfl, h5⟩
  have hg := gr_then hg h5
  clear h5
  go_wp2_with fail
  refine (lit_of 5 [5] (by decide) (by decide +kernel) _).mono ?_
  rintro e w6 ⟨rfl, h6⟩
  have hg := gr_then hg h6
  clear h6
  go_wp2_with fail
  refine (lit_of 3 [3] (by decide) (by decide +kernel) _).mono ?_
  rintro e w7 ⟨rfl, h7⟩
  have hg := gr_then hg h7
  clear h7
  go_wp2_with fail
  refine (lit_sub_yes _).mono ?_
  rintro e w8 ⟨rfl, h8⟩
  have hg := gr_then hg h8
  clear h8
  go_wp2_with fail
  refine (lit_of 1000 [3, 232] (by decide) (by decide +kernel) _).mono ?_
  rintro e w9 ⟨rfl, h9⟩
  have hg := gr_then hg h9
  clear h9
  go_wp2_with fail
  refine (lit_of 7 [7] (by decide) (by decide +kernel) _).mono ?_
  rintro e w10 ⟨rfl, h10⟩
  have hg := gr_then hg h10
  clear h10
  go_wp2_with fail
  refine (lit_quo _).mono ?_
  rintro e w11 ⟨rfl, h11⟩
  have hg := gr_then hg h11
  clear h11
  go_wp2_with fail
  refine (lit_of 2 [2] (by decide) (by decide +kernel) _).mono ?_
  rintro e w12 ⟨rfl, h12⟩
  have hg := gr_then hg h12
  clear h12
  go_wp2_with fail
  refine (lit_of 142 [142] (by decide) (by decide +kernel) _).mono ?_
  rintro e w13 ⟨rfl, h13⟩
  have hg := gr_then hg h13
  clear h13
  go_wp2_with fail
  refine (lit_of 6 [6] (by decide) (by decide +kernel) _).mono ?_
  rintro e w14 ⟨rfl, h14⟩
  have hg := gr_then hg h14
  clear h14
  go_wp2_with fail
  refine (lit_of 12 [12] (by decide) (by decide +kernel) _).mono ?_
  rintro e w15 ⟨rfl, h15⟩
  have hg := gr_then hg h15
  clear h15
  go_wp2_with fail
  refine (lit_of 18 [18] (by decide) (by decide +kernel) _).mono ?_
  rintro e w16 ⟨rfl, h16⟩
  have hg := gr_then hg h16
  clear h16
  go_wp2_with fail
  refine (lit_gcd _).mono ?_
  rintro e w17 ⟨rfl, h17⟩
  have hg := gr_then hg h17
  clear h17
  go_wp2_with fail
  refine (lit_of 6 [6] (by decide) (by decide +kernel) _).mono ?_
  rintro e w18 ⟨rfl, h18⟩
  have hg := gr_then hg h18
  clear h18
  go_wp2_with fail
  refine (lit_of 5 [5] (by decide) (by decide +kernel) _).mono ?_
  rintro e w19 ⟨rfl, h19⟩
  have hg := gr_then hg h19
  clear h19
  go_wp2_with fail
  refine (lit_gcd0 _).mono ?_
  rintro e w20 ⟨rfl, h20⟩
  have hg := gr_then hg h20
  clear h20
  go_wp2_with fail
  refine (lit_of 5 [5] (by decide) (by decide +kernel) _).mono ?_
  rintro e w21 ⟨rfl, h21⟩
  have hg := gr_then hg h21
  clear h21
  go_wp2_with fail
  refine (lit_of 3 [3] (by decide) (by decide +kernel) _).mono ?_
  rintro e w22 ⟨rfl, h22⟩
  have hg := gr_then hg h22
  clear h22
  go_wp2_with fail
  refine (lit_of 200 [200] (by decide) (by decide +kernel) _).mono ?_
  rintro e w23 ⟨rfl, h23⟩
  have hg := gr_then hg h23
  clear h23
  go_wp2_with fail
  refine (lit_of 1000 [3, 232] (by decide) (by decide +kernel) _).mono ?_
  rintro e w24 ⟨rfl, h24⟩
  have hg := gr_then hg h24
  clear h24
  go_wp2_with fail
  refine (lit_pow _).mono ?_
  rintro e w25 ⟨rfl, h25⟩
  have hg := gr_then hg h25
  clear h25
  go_wp2_with fail
  refine (lit_of 5 [5] (by decide) (by decide +kernel) _).mono ?_
  rintro e w26 ⟨rfl, h26⟩
  have hg := gr_then hg h26
  clear h26
  go_wp2_with fail
  refine (lit_of 1 [1] (by decide) (by decide +kernel) _).mono ?_
  rintro e w27 ⟨rfl, h27⟩
  have hg := gr_then hg h27
  clear h27
  go_wp2_with fail
  refine (lit_pow1 _).mono ?_
  rintro e w28 ⟨rfl, h28⟩
  have hg := gr_then hg h28
  clear h28
  go_wp2_with fail
  refine (lit_parse _).mono ?_
  rintro e w29 ⟨rfl, h29⟩
  have hg := gr_then hg h29
  clear h29
  go_wp2_with fail
  refine (lit_of 255 [255] (by decide) (by decide +kernel) _).mono ?_
  rintro e w30 ⟨rfl, h30⟩
  have hg := gr_then hg h30
  clear h30
  go_wp2_with fail
  refine (lit_bits 255 [255] 8 _).mono ?_
  rintro e w31 ⟨rfl, h31⟩
  have hg := gr_then hg h31
  clear h31
  go_wp2_with fail
  refine (lit_of 256 [1, 0] (by decide) (by decide +kernel) _).mono ?_
  rintro e w32 ⟨rfl, h32⟩
  have hg := gr_then hg h32
  clear h32
  go_wp2_with fail
  refine (lit_bits 256 [1, 0] 9 _).mono ?_
  rintro e w33 ⟨rfl, h33⟩
  have hg := gr_then hg h33
  clear h33
  go_wp2_with fail
  refine (lit_of 1 [1] (by decide) (by decide +kernel) _).mono ?_
  rintro e w34 ⟨rfl, h34⟩
  have hg := gr_then hg h34
  clear h34
  go_wp2_with fail
  refine (lit_text _ (tab_gr htab hg)).mono ?_
  rintro e w35 ⟨rfl, h35⟩
  have hg := gr_then hg h35
  clear h35
  go_wp2
  go_ret
  exact ⟨rfl, hg⟩
end Go.Proofs.YtoadjhmehgkeaaaDoor
namespace Go.Proofs.YtoadjhmehgkeaaaDoor
open Go.RowKit Mth

theorem mul_any (s t : ByteArray) (w : World) (hs : s.size ≤ 1000000000000) (ht : t.size ≤ 1000000000000) :
    Calls Tryd.prog 10 #[.string s, .string t] w fun e w' => e = .returned (.string ⟨(enc (num s.data.toList * num t.data.toList)).toArray⟩) ∧ w.grownBy w' none := by
  go_enter Tryd.func10, Tryd.ntmps10
  go_wp2_with fail
  refine (wordsOf_any s w (by omega)).mono ?_
  rintro e w1 ⟨b1, xs, rfl, hlt1, hb1, hg1, hw1, hsz1⟩
  go_wp2_with fail
  refine (wordsOf_any t w1 (by omega)).mono ?_
  rintro e w2 ⟨b2, ys, rfl, hlt2, hb2, hg2, hw2, hsz2⟩
  go_wp2_with fail
  refine (product_any b1 0 xs.length xs.length b2 0 ys.length ys.length xs ys w2 (hb1.kept hg2 (by simp)) (by omega) hw1.dg hb2 (by omega) hw2.dg (by omega) (by omega)).mono ?_
  rintro e w3 ⟨b3, zs, rfl, hlt3, hb3, hg3, hd3, hl3, hv3⟩
  rw [hw1.val, hw2.val] at hv3
  have HV := Lib.hid hv3
  have hls : zs.length ≤ 1099511627776 := by omega
  clear hv3 hl3
  go_wp2_with fail
  refine (natOf_any b3 0 zs.length zs.length zs w3 hb3 (by omega) hd3 (Nat.le_refl _) (by unfold maxLen; omega) hls).mono ?_
  rintro e w4 ⟨rfl, hg4⟩
  go_wp2
  go_ret
  exact ⟨by rw [HV.out]; rfl, gr_then hg1 (gr_then hg2 (gr_then hg3 hg4))⟩
end Go.Proofs.YtoadjhmehgkeaaaDoor
namespace Go.Proofs.YtoadjhmehgkeaaaDoor
open Go.RowKit Mth

/-- The words that a block holds. -/
def natsAt (w : World) (b : Nat) : List Nat := match w.heap[b]? with
  | some (.cells cs _ _) => cs.toList.map fun | .int _ z => z.toNat | _ => 0
  | _ => []
def valAt (w : World) (v : Value) : Nat := match v with
  | .slice (some a) n _ => vs W64 (natsAt w a.block) a.off n
  | _ => 0
theorem NumAt.valAt {w : World} {g off m c N : Nat} {xs : List Nat} (h : NumAt w g off m c xs N) : valAt w (.slice (some ⟨g, off, none⟩) m c) = N := by
  have hb : w.heap[g]? = some (.cells (cellsOf .u64 xs).toArray 57 (0, 0)) := h.blk
  have e : natsAt w g = xs := by
    unfold natsAt
    rw [hb]
    simp only [cellsOf, List.map_map]
    conv => rhs; rw [← List.map_id xs]
    apply List.map_congr_left
    intro a _
    simp
  show vs W64 (natsAt w g) off m = N
  rw [e]; exact h.val

set_option maxHeartbeats 4000000 in
theorem gcd_all (s t : ByteArray) (w : World) (hs : s.size ≤ 1000000000000) (ht : t.size ≤ 1000000000000) :
    Calls Tryd.prog 26 #[.string s, .string t] w fun e w' => e = .returned (.string ⟨(enc (Nat.gcd (num s.data.toList) (num t.data.toList))).toArray⟩) ∧ w.grownBy w' none := by
  obtain ⟨G, hG⟩ : ∃ G, G = Nat.gcd (num s.data.toList) (num t.data.toList) := ⟨_, rfl⟩
  rw [← hG]
  have HG0 := Lib.hid hG
  clear hG
  go_enter Tryd.func26, Tryd.ntmps26
  go_wp2_with fail
  refine (wordsOf_any s w (by omega)).mono ?_
  rintro e w1 ⟨b1, xs, rfl, hlt1, hb1, hg1, hw1, hsz1⟩
  go_wp2_with fail
  refine (wordsOf_any t w1 (by omega)).mono ?_
  rintro e w2 ⟨b2, ys, rfl, hlt2, hb2, hg2, hw2, hsz2⟩
  have hn1 := (NumAt.of_words hb1 hw1 (by omega)).kept hg2 (by simp)
  have hn2 := NumAt.of_words hb2 hw2 (by omega)
  have hne : b1 ≠ b2 := by have := hb1.lt; omega
  have hg12 := gr_then hg1 hg2
  have hle2 : w.heap.size ≤ b2 := by have := hg1.size; omega
  have HN1 := Lib.hid hn1
  have HN2 := Lib.hid hn2
  clear hn1 hn2 hw1 hw2 hsz1 hsz2 hb1 hb2
  go_wp2_with fail
  go_loopw [5, 6] (fun u v wr => ∃ (g1 o1 m1 c1 : Nat) (xs : List Nat) (X g2 o2 m2 c2 : Nat) (ys : List Nat) (Y : Nat), u = .slice (some ⟨g1, o1, none⟩) m1 c1 ∧ v = .slice (some ⟨g2, o2, none⟩) m2 c2 ∧ NumAt wr g1 o1 m1 c1 xs X ∧ NumAt wr g2 o2 m2 c2 ys Y ∧ g1 ≠ g2 ∧ w.heap.size ≤ g1 ∧ w.heap.size ≤ g2 ∧ w.grownBy wr none ∧ Hid (Nat.gcd X Y = G)) (fun _ v wr => valAt wr v)
  case atStart => exact ⟨_, _, _, _, _, _, _, _, _, _, _, _, rfl, rfl, HN1.out, HN2.out, hne, hlt1, hle2, hg12, HG0.out.symm⟩
  case round =>
    obtain ⟨g1, o1, m1, c1, xs, X, g2, o2, m2, c2, ys, Y, rfl, rfl, h1, h2, hne, hlt1, hlt2, hg, HG⟩ := hrel
    clear hg12 hg1 hg2 hle2
    have H1 := Lib.hid h1
    have H2 := Lib.hid h2
    by_cases hm : 1 < m2
    · have hY0 : 0 < Y := h2.pos (by omega)
      have hmod := Nat.mod_lt X hY0
      have hva := h2.valAt
      have HVA := Lib.hid hva
      clear h1 h2 hva
      go_wp2_with fail
      refine (divide_allB _ _ X Y wr ⟨_, _, _, _, _, rfl, H1.out⟩ ⟨_, _, _, _, _, rfl, H2.out⟩ hY0).mono ?_
      rintro e w3 ⟨q, r, rfl, hq, hr, hg3, hwhere⟩
      obtain ⟨g3, o3, m3, c3, zs, rfl, h3⟩ := hr
      have hne3 : g2 ≠ g3 := by
        rcases hwhere with h | ⟨g', o', m', c', h, h'⟩
        · simp only [Value.slice.injEq, Option.some.injEq, Addr.mk.injEq] at h; omega
        · simp only [Value.slice.injEq, Option.some.injEq, Addr.mk.injEq] at h
          have := H2.out.blk.lt
          omega
      have hlt3 : w.heap.size ≤ g3 := by
        rcases hwhere with h | ⟨g', o', m', c', h, h'⟩
        · simp only [Value.slice.injEq, Option.some.injEq, Addr.mk.injEq] at h; omega
        · simp only [Value.slice.injEq, Option.some.injEq, Addr.mk.injEq] at h
          have := hg.size
          omega
      have H3 := Lib.hid h3
      clear hwhere h3 hq
      go_wp2
      refine ⟨⟨g2, o2, m2, c2, ys, Y, g3, o3, m3, c3, zs, X % Y, rfl, rfl, H2.out.kept hg3 (by simp), H3.out, hne3, hlt2, hlt3, gr_then hg hg3, ?_⟩, ?_⟩
      · show _ = _
        rw [← HG.out, Nat.gcd_comm X Y, Nat.gcd_rec Y X, Nat.gcd_comm]
      · rw [H3.out.valAt, HVA.out]; exact hmod
    · rcases Nat.eq_zero_or_pos m2 with h0 | h0
      · subst h0
        have hY : Y = 0 := by have := h2.val; simpa [vs] using this.symm
        have hGX : X = G := by have := HG.out; rw [hY, Nat.gcd_zero_right] at this; exact this
        have HGX := Lib.hid hGX
        clear h1 h2 hY hGX
        go_wp2_with fail
        refine (natOf_num _ _ _ (.inr ⟨_, _, _, _, _, rfl, H1.out⟩)).mono ?_
        rintro e w3 ⟨rfl, hg3⟩
        rw [HGX.out]
        go_wp2
        go_ret
        exact ⟨rfl, gr_then hg hg3⟩
      · obtain rfl : m2 = 1 := by omega
        have hY0 : 0 < Y := h2.pos (by omega)
        have hyv : gt ys o2 = Y := by have := h2.val; simpa [vs] using this
        have hYW : Y < W64 := hyv ▸ h2.dg o2
        have hcell : wr.cell? ⟨g2, o2, none⟩ = some (.int .u64 (Y : Int)) := by rw [h2.blk.cell (by have := h2.fit; omega), hyv]
        have hb1k := h1.blk
        have hf1 := h1.fit
        have hd1 := h1.dg
        have hs1 := h1.small
        clear h1 h2 hyv hm
        go_wp2_with fail
        go_region_with (first
          | (go_at_call 45; refine (divideInPlace_any g1 o1 m1 c1 Y xs _ (by exact hb1k) hf1 hd1 hs1 hY0 hYW).mono ?_; rintro e w3 ⟨r, zs, rfl, hb3, hg3, hdv⟩; have hc3 := hg3.cell (a := ⟨g2, o2, none⟩) hcell (by simp; omega))
          | (go_at_call 44; refine (gcdOfWords_any Y r _ hYW (Nat.lt_trans hdv.2.2.1 hYW)).mono ?_; rintro e w4 ⟨rfl, hq4⟩; have hgW : Nat.gcd Y r < W64 := Nat.lt_of_le_of_lt (Nat.gcd_le_left r hY0) hYW; generalize hGG : Nat.gcd Y r = gg at hgW; have HGG := Lib.hid hGG; clear hGG)
          | (go_at_call 29; refine (natOf_one gg w4 hgW).mono ?_; rintro e w5 ⟨rfl, hg5⟩))
        all_goals
          go_wp2
          go_ret
          refine ⟨?_, ?_⟩
          · have hd4 := hdv.2.2.2
            rw [H1.out.val] at hd4
            have hgcd : gg = G := by
              have hmod : X % Y = r := by rw [hd4, Nat.mul_add_mod, Nat.mod_eq_of_lt hdv.2.2.1]
              have hrec := Nat.gcd_rec Y X
              rw [hmod] at hrec
              rw [← HGG.out, ← HG.out, Nat.gcd_comm X Y, hrec, Nat.gcd_comm]
            rw [← hgcd]; rfl
          · have hq := hq4.gr none
            have hga := gr_then hg (gr_drew _ none)
            exact gr_then (gr_then (gr_new hga hg3 hlt1) hq) hg5
end Go.Proofs.YtoadjhmehgkeaaaDoor
namespace Go.Proofs.YtoadjhmehgkeaaaDoor
open Go.RowKit Mth

def S (n : Nat) : ByteArray := ⟨(enc n).toArray⟩
theorem s_num (n : Nat) : num (S n).data.toList = n := by unfold S; simp [num_enc]
theorem s_zero : S 0 = ⟨#[]⟩ := by unfold S; rw [enc_zero]
theorem enc_len : ∀ (k n : Nat), n < 256 ^ k → (enc n).length ≤ k
  | 0, n, h => by
    have : n = 0 := by simpa using h
    subst this; rw [enc_zero]; simp
  | k + 1, n, h => by
    by_cases h0 : n = 0
    · subst h0; rw [enc_zero]; simp
    · rw [enc_pos h0]
      rw [Nat.pow_succ] at h
      have := enc_len k (n / 256) (by omega)
      simp; omega
theorem s_size {n : Nat} (h : n < 256 ^ 200) : (S n).size ≤ 1000000000000 := by
  have := enc_len 200 n h
  have e : (S n).size = (enc n).length := by unfold S; show (enc n).toArray.size = _; simp
  omega
theorem s_add (s t : ByteArray) (m n : Nat) (w : World) (hm : num s.data.toList = m) (hn : num t.data.toList = n) (h1 : s.size ≤ 1000000000000) (h2 : t.size ≤ 1000000000000) : Gives 21 #[.string s, .string t] w (.string (S (m + n))) := by
  subst hm hn; exact add_any s t w h1 h2
theorem s_mul (s t : ByteArray) (m n : Nat) (w : World) (hm : num s.data.toList = m) (hn : num t.data.toList = n) (h1 : s.size ≤ 1000000000000) (h2 : t.size ≤ 1000000000000) : Gives 10 #[.string s, .string t] w (.string (S (m * n))) := by
  subst hm hn; exact mul_any s t w h1 h2
theorem s_sub (s t : ByteArray) (m n : Nat) (w : World) (hm : num s.data.toList = m) (hn : num t.data.toList = n) (h : n ≤ m) (h1 : s.size ≤ 1000000000000) (h2 : t.size ≤ 1000000000000) : Gives 20 #[.string s, .string t] w (.tuple #[.string (S (m - n)), .bool true]) := by
  subst hm hn; exact sub_yes s t w h h1 h2
theorem s_canon (s : ByteArray) (m : Nat) (w : World) (hm : num s.data.toList = m) (h1 : s.size ≤ 1000000000000) : Gives 22 #[.string s] w (.string (S m)) := by
  subst hm
  refine (canon_any s w h1).mono ?_
  rintro e w' ⟨rfl, rfl⟩
  exact ⟨by unfold S; rw [enc_num_canon], World.grownBy.refl _ _⟩
theorem bnum (a : ByteArray) (h : a.size ≤ 40) : num a.data.toList < 256 ^ 40 := by
  have h1 := num_lt a.data.toList
  rw [len_toList] at h1
  have h2 := Nat.pow_le_pow_right (n := 256) (by decide) h
  omega
theorem sz_add {A B : Nat} (hA : A < 256 ^ 40) (hB : B < 256 ^ 40) : A + B < 256 ^ 200 := by
  have h : 256 ^ 40 + 256 ^ 40 ≤ 256 ^ 200 := by decide
  omega
theorem sz_mul {A B : Nat} (hA : A < 256 ^ 40) (hB : B < 256 ^ 40) : A * B < 256 ^ 200 := by
  have h : 256 ^ 40 * 256 ^ 40 ≤ 256 ^ 200 := by decide
  exact Nat.lt_of_lt_of_le (Nat.mul_lt_mul'' hA hB) h
/-- What concordref01.Made makes of an argument. -/
def MadeAs (w : World) (v : Value) (a : ByteArray) : Prop := ∀ w', w.grownBy w' none → Calls Tryd.prog 9 #[v] w' fun e w'' => e = .returned (.string a) ∧ w' = w''


theorem s_quo (s t : ByteArray) (m n : Nat) (w : World) (hm : num s.data.toList = m) (hn : num t.data.toList = n) (h0 : 0 < n) (h1 : s.size ≤ 1000000000000) (h2 : t.size ≤ 1000000000000) : Gives 23 #[.string s, .string t] w (.tuple #[.string (S (m / n)), .string (S (m % n)), .bool true]) := by
  subst hm hn; exact quo_all s t w h1 h2 h0
theorem s_quo0 (s t : ByteArray) (w : World) (hn : num t.data.toList = 0) (h2 : t.size ≤ 1000000000000) : Gives 23 #[.string s, .string t] w (.tuple #[.string ⟨#[]⟩, .string ⟨#[]⟩, .bool false]) := quo_none s t w h2 hn
theorem s_gcd (s t : ByteArray) (m n : Nat) (w : World) (hm : num s.data.toList = m) (hn : num t.data.toList = n) (h1 : s.size ≤ 1000000000000) (h2 : t.size ≤ 1000000000000) : Gives 26 #[.string s, .string t] w (.string (S (Nat.gcd m n))) := by
  subst hm hn; exact gcd_all s t w h1 h2
theorem s_cmp (s t : ByteArray) (m n : Nat) (w : World) (hm : num s.data.toList = m) (hn : num t.data.toList = n) : Gives 24 #[.string s, .string t] w (.int .i64 (cmpN m n)) := by
  subst hm hn
  refine (cmp_any s t w).mono ?_
  rintro e w' ⟨rfl, rfl⟩
  exact ⟨rfl, World.grownBy.refl _ _⟩
theorem s_bits (s : ByteArray) (m : Nat) (w : World) (hm : num s.data.toList = m) (h1 : s.size ≤ 1000000000000) : Gives 16 #[.string s] w (.int .i64 ((bitsN m : Nat) : Int)) := by
  subst hm
  refine (bits_any s w h1).mono ?_
  rintro e w' ⟨rfl, rfl⟩
  exact ⟨rfl, World.grownBy.refl _ _⟩
theorem s_right (n : Nat) (w : World) : Gives 18 #[.string (S n)] w (.bool true) := by
  refine (right_any (S n) w).mono ?_
  rintro e w' ⟨rfl, rfl⟩
  refine ⟨?_, World.grownBy.refl _ _⟩
  rw [rtB_of_rt]
  unfold S
  simpa using rt_enc n
theorem bitsN_mul {a b : Nat} (ha : 0 < a) (hb : 0 < b) : bitsN a + bitsN b = bitsN (a * b) ∨ bitsN a + bitsN b = bitsN (a * b) + 1 := by
  have key : ∀ {x : Nat}, 0 < x → ∃ k, bitsN x = k + 1 ∧ 2 ^ k ≤ x ∧ x < 2 ^ (k + 1) := by
    intro x hx
    refine ⟨Nat.log2 x, by unfold bitsN; rw [if_neg (by omega)], Nat.log2_self_le (by omega), Nat.lt_log2_self⟩
  obtain ⟨j, j1, j2, j3⟩ := key ha
  obtain ⟨k, k1, k2, k3⟩ := key hb
  have h1 : 2 ^ (j + k) ≤ a * b := by rw [Nat.pow_add]; exact Nat.mul_le_mul j2 k2
  have h2 : a * b < 2 ^ (j + k + 2) := by
    rw [show j + k + 2 = (j + 1) + (k + 1) from by omega, Nat.pow_add]
    exact Nat.mul_lt_mul'' j3 k3
  rcases Nat.lt_or_ge (a * b) (2 ^ (j + k + 1)) with h | h
  · right; rw [bitsN_of h1 h, j1, k1]; omega
  · left; rw [bitsN_of h h2, j1, k1]; omega
end Go.Proofs.YtoadjhmehgkeaaaDoor
namespace Go.Proofs.YtoadjhmehgkeaaaDoor
open Go.RowKit Mth

set_option maxHeartbeats 8000000 in
set_option maxRecDepth 100000 in
theorem ring_true (vx vy vz : Value) (a b c : ByteArray) (w : World) (htab : Tab w) (hx : MadeAs w vx a) (hy : MadeAs w vy b) (hz : MadeAs w vz c) (hsa : a.size ≤ 40) (hsb : b.size ≤ 40) (hsc : c.size ≤ 40) :
    Gives 5 #[vx, vy, vz] w (.bool true) := by
  have ha : a.size ≤ 1000000000000 := by omega
  have hb : b.size ≤ 1000000000000 := by omega
  have hc : c.size ≤ 1000000000000 := by omega
  have pa := bnum a hsa
  have pb := bnum b hsb
  have pc := bnum c hsc
  obtain ⟨A, hA⟩ : ∃ A, A = num a.data.toList := ⟨_, rfl⟩
  obtain ⟨B, hB⟩ : ∃ B, B = num b.data.toList := ⟨_, rfl⟩
  obtain ⟨C, hC⟩ : ∃ C, C = num c.data.toList := ⟨_, rfl⟩
  rw [← hA] at pa
  rw [← hB] at pb
  rw [← hC] at pc
  have PA := Lib.hid pa
  have PB := Lib.hid pb
  have PC := Lib.hid pc
  have HA := Lib.hid hA.symm
  have HB := Lib.hid hB.symm
  have HC := Lib.hid hC.symm
  clear pa pb pc hA hB hC
  have q1 := Lib.hid (sz_add PA.out PB.out)
  have q2 := Lib.hid (sz_add PB.out PC.out)
  have q3 := Lib.hid (sz_mul PA.out PB.out)
  have q4 := Lib.hid (sz_mul PB.out PC.out)
  have q5 := Lib.hid (sz_mul PA.out PC.out)
  go_enter Tryd.func5, Tryd.ntmps5
  go_wp2_with fail
  refine (sanity_true _ htab).mono ?_
  rintro e w0 ⟨rfl, h0⟩
  have hg := h0
  go_wp2_with fail
  refine (hx _ hg).mono ?_
  rintro e w1 ⟨rfl, rfl⟩
  go_wp2_with fail
  refine (hy _ hg).mono ?_
  rintro e w2 ⟨rfl, rfl⟩
  go_wp2_with fail
  refine (hz _ hg).mono ?_
  rintro e w3 ⟨rfl, rfl⟩
  go_wp2_with fail
  refine (s_add a b (A) (B) _ HA.out HB.out ha hb).mono ?_
  rintro e w4 ⟨rfl, h4⟩
  have hg := gr_then hg h4
  clear h4
  go_wp2_with fail
  refine (s_sub (S (A + B)) b (A + B) B _ (s_num _) HB.out (Nat.le_add_left _ _) (s_size q1.out) hb).mono ?_
  rintro e w5 ⟨rfl, h5⟩
  have hg := gr_then hg h5
  clear h5
  rw [show A + B - B = A from by omega]
  go_wp2_with fail
  refine (s_add a b (A) (B) _ HA.out HB.out ha hb).mono ?_
  rintro e w6 ⟨rfl, h6⟩
  have hg := gr_then hg h6
  clear h6
  go_wp2_with fail
  refine (s_add b a (B) (A) _ HB.out HA.out hb ha).mono ?_
  rintro e w7 ⟨rfl, h7⟩
  have hg := gr_then hg h7
  clear h7
  rw [Nat.add_comm B A]
  go_wp2_with fail
  refine (s_mul a b (A) (B) _ HA.out HB.out ha hb).mono ?_
  rintro e w8 ⟨rfl, h8⟩
  have hg := gr_then hg h8
  clear h8
  go_wp2_with fail
  refine (s_mul b a (B) (A) _ HB.out HA.out hb ha).mono ?_
  rintro e w9 ⟨rfl, h9⟩
  have hg := gr_then hg h9
  clear h9
  rw [Nat.mul_comm B A]
  go_wp2_with fail
  refine (s_canon a A _ HA.out ha).mono ?_
  rintro e w10 ⟨rfl, h10⟩
  have hg := gr_then hg h10
  clear h10
  go_wp2_with fail
  refine (s_add a b (A) (B) _ HA.out HB.out ha hb).mono ?_
  rintro e w11 ⟨rfl, h11⟩
  have hg := gr_then hg h11
  clear h11
  go_wp2_with fail
  refine (s_add (S (A + B)) c (A + B) (C) _ (s_num _) HC.out (s_size q1.out) hc).mono ?_
  rintro e w12 ⟨rfl, h12⟩
  have hg := gr_then hg h12
  clear h12
  go_wp2_with fail
  refine (s_add b c (B) (C) _ HB.out HC.out hb hc).mono ?_
  rintro e w13 ⟨rfl, h13⟩
  have hg := gr_then hg h13
  clear h13
  go_wp2_with fail
  refine (s_add a (S (B + C)) (A) (B + C) _ HA.out (s_num _) ha (s_size q2.out)).mono ?_
  rintro e w14 ⟨rfl, h14⟩
  have hg := gr_then hg h14
  clear h14
  rw [show A + (B + C) = A + B + C from by omega]
  go_wp2_with fail
  refine (s_mul a b (A) (B) _ HA.out HB.out ha hb).mono ?_
  rintro e w15 ⟨rfl, h15⟩
  have hg := gr_then hg h15
  clear h15
  go_wp2_with fail
  refine (s_mul (S (A * B)) c (A * B) (C) _ (s_num _) HC.out (s_size q3.out) hc).mono ?_
  rintro e w16 ⟨rfl, h16⟩
  have hg := gr_then hg h16
  clear h16
  go_wp2_with fail
  refine (s_mul b c (B) (C) _ HB.out HC.out hb hc).mono ?_
  rintro e w17 ⟨rfl, h17⟩
  have hg := gr_then hg h17
  clear h17
  go_wp2_with fail
  refine (s_mul a (S (B * C)) (A) (B * C) _ HA.out (s_num _) ha (s_size q4.out)).mono ?_
  rintro e w18 ⟨rfl, h18⟩
  have hg := gr_then hg h18
  clear h18
  rw [show A * (B * C) = A * B * C from (Nat.mul_assoc _ _ _).symm]
  go_wp2_with fail
  refine (s_add b c (B) (C) _ HB.out HC.out hb hc).mono ?_
  rintro e w19 ⟨rfl, h19⟩
  have hg := gr_then hg h19
  clear h19
  go_wp2_with fail
  refine (s_mul a (S (B + C)) (A) (B + C) _ HA.out (s_num _) ha (s_size q2.out)).mono ?_
  rintro e w20 ⟨rfl, h20⟩
  have hg := gr_then hg h20
  clear h20
  go_wp2_with fail
  refine (s_mul a b (A) (B) _ HA.out HB.out ha hb).mono ?_
  rintro e w21 ⟨rfl, h21⟩
  have hg := gr_then hg h21
  clear h21
  go_wp2_with fail
  refine (s_mul a c (A) (C) _ HA.out HC.out ha hc).mono ?_
  rintro e w22 ⟨rfl, h22⟩
  have hg := gr_then hg h22
  clear h22
  go_wp2_with fail
  refine (s_add (S (A * B)) (S (A * C)) (A * B) (A * C) _ (s_num _) (s_num _) (s_size q3.out) (s_size q5.out)).mono ?_
  rintro e w23 ⟨rfl, h23⟩
  have hg := gr_then hg h23
  clear h23
  rw [show A * B + A * C = A * (B + C) from (Nat.mul_add _ _ _).symm]
  go_wp2_with fail
  refine (s_mul a ⟨#[]⟩ A 0 _ HA.out rfl ha (by decide)).mono ?_
  rintro e w24 ⟨rfl, h24⟩
  have hg := gr_then hg h24
  clear h24
  rw [show A * 0 = 0 from rfl]
  rw [show S 0 = ⟨#[]⟩ from s_zero]
  go_wp2_with fail
  refine (s_mul a ⟨#[1]⟩ A 1 _ HA.out (by decide) ha (by decide)).mono ?_
  rintro e w25 ⟨rfl, h25⟩
  have hg := gr_then hg h25
  clear h25
  rw [Nat.mul_one A]
  go_wp2
  go_ret
  exact ⟨rfl, hg⟩
end Go.Proofs.YtoadjhmehgkeaaaDoor
namespace Go.Proofs.YtoadjhmehgkeaaaDoor
open Go.ChangeShapes Go.WideShapes Go.ChangeAt Go.RowKit Mth

theorem own0 : ownKnob Tryd.prog.godebug = none := by kernel_rfl
theorem laidOut0 : laidOutB Tryd.prog = true := by kernel_rfl
theorem cellsU8 : Tryd.prog.cellsOf 5 = 1 := by kernel_rfl

def u8of (zs : List Int) (m : Nat) : List UInt8 := (zs.take m).map fun z => UInt8.ofNat z.toNat
set_option maxRecDepth 100000 in
theorem made_at (a : Addr) (len cap m : Nat) (zs : List Int) (w : World) (hl : len ≤ cap) (hm : cap ≤ maxLen) (hz : zs.length = cap) (hcell : ∀ i, i < zs.length → w.cell? (a.add i) = some (.int .u8 (zs.getD i 0))) (hw : ∀ n ∈ zs, (Lit.int .u8 n).wf = true) (hmin : m = min len 40) :
    Calls Tryd.prog 9 #[.slice (some a) len cap] w fun e w' => e = .returned (.string ⟨(u8of zs m).toArray⟩) ∧ w = w' := by
  unfold maxLen at hm
  have hm1 : min (len : Int) 40 = (m : Int) := by omega
  have hm2 : m ≤ cap := by omega
  have hlen : (u8of zs m).length = m := by unfold u8of; simp; omega
  have hcv := run_convert_bytes_back (P := Tryd.prog) w 22 24 5 a cap (u8of zs m) Tryd.underlying22 Tryd.underlying5 Tryd.underlying24 (fun j hj => by
    rw [hlen] at hj
    rw [hcell j (by omega)]
    have h1 : j < zs.length := by omega
    have hwf := hw zs[j] (List.getElem_mem _)
    have w1 : 0 ≤ zs[j] ∧ zs[j] ≤ 255 := by
      have a1 : IntKind.u8.min = 0 := rfl
      have a2 : IntKind.u8.max = 255 := rfl
      simpa [Lit.wf, a1, a2] using hwf
    have e : (u8of zs m)[j]'(by rw [hlen]; exact hj) = UInt8.ofNat zs[j].toNat := by unfold u8of; simp
    rw [e]
    have e2 : zs.getD j 0 = zs[j] := by simp [List.getD, h1]
    rw [e2]
    have e3 : (UInt8.ofNat zs[j].toNat).toNat = zs[j].toNat := by simp; omega
    rw [e3]
    congr 2
    omega)
  rw [hlen] at hcv
  generalize (⟨(u8of zs m).toArray⟩ : ByteArray) = str at hcv
  clear hcell hw hz hmin hlen
  go_enter Tryd.func9, Tryd.ntmps9
  go_wp2
  go_ret
  exact ⟨rfl, rfl⟩

theorem made_as (a : Addr) (len cap : Nat) (zs : List Int) (w : World) (hl : len ≤ cap) (hm : cap ≤ maxLen) (hz : zs.length = cap) (hcell : ∀ i, i < zs.length → w.cell? (a.add i) = some (.int .u8 (zs.getD i 0))) (hw : ∀ n ∈ zs, (Lit.int .u8 n).wf = true) : ∃ b : ByteArray, MadeAs w (.slice (some a) len cap) b ∧ b.size ≤ 40 := by
  refine ⟨⟨(u8of zs (min len 40)).toArray⟩, fun w' hg => made_at a len cap _ zs w' hl hm hz (fun i hi => hg.cell (hcell i hi) (by simp)) hw rfl, ?_⟩
  show (u8of zs (min len 40)).toArray.size ≤ 40
  unfold u8of
  simp
  omega
theorem made_as_nil (w : World) : ∃ b : ByteArray, MadeAs w (.slice none 0 0) b ∧ b.size ≤ 40 := ⟨⟨#[]⟩, fun w' _ => made_nil w', by decide⟩

def cellsD : DataW Unit → Array Value
  | .agg l => (l.map fun | .lit (.int k z) => Value.int k z | _ => Value.nilIface).toArray
  | _ => #[]
noncomputable def laidWorld (os : Os) : World :=
  let w0 := World.holding Tryd.prog os ⟨#[], #[], []⟩
  let put (h : Array Obj) (g : Nat) (cs : Array Value) : Array Obj := h.modify g fun
    | .cells _ t frozen => .cells cs t frozen
    | o => o
  { w0 with heap := put (put (put w0.heap 4 (cellsD Rows.laid_math_bits_deBruijn32tab)) 5 (cellsD Rows.laid_math_bits_deBruijn64tab)) 2 (cellsD Rows.laid_internal_strconv_uint64pow10) }
set_option maxRecDepth 1000000 in
theorem laid_met (os : Os) (args : Array Value) : laidMet Tryd.prog Rows.natRingRow.laid ((laidWorld os).forCall (fun _ _ => 0) ⟨#[], args, []⟩).memory :=
  have h : LaidIn Tryd.prog ((laidWorld os).forCall (fun _ _ => 0) ⟨#[], args, []⟩).memory Rows.natRingRow.laid [4, 5, 2] :=
    LaidIn.of_run [4, 5, 2] 8 (by kernel_rfl) (by kernel_rfl) (by kernel_rfl) (by kernel_rfl)
  h.met
theorem tab_of {w : World} (h : laidMet Tryd.prog Rows.natRingRow.laid w) : Tab w :=
  Lib.tabIs_of_head (g := 2) (t := 120) (e := 57) (n := 20) (by kernel_rfl) (by kernel_rfl) (by kernel_rfl) (by kernel_rfl) (by kernel_rfl) (by kernel_rfl) (show laidMet Tryd.prog [("internal/strconv.uint64pow10", Lib.tabData .u64 Lib.pow10Tab)] w from h.tail.tail)

set_option maxRecDepth 1000000 in
set_option maxHeartbeats 4000000 in
theorem ring_lifted (os : Os) (started : os.Started) (H : Type) (enc : TypeId × Value → H) :
    ReturnsInHanded {} Tryd.checked os 5 .any (fun w args => (Rows.natRingSpec.pre enc Tryd.prog Tryd.f5 Rows.natRingRow.domain false w args ∧ laidMet Tryd.prog Rows.natRingRow.laid w) ∧ sizedMet enc Tryd.prog Tryd.f5 (OpenSpec.ofChange Rows.natRingSpec) false w args)
      (Rows.natRingSpec.post enc Tryd.prog Tryd.f5 false true false false) := by
  refine returnsInHanded_of_change_and (C := Tryd.checked) (X := fun w _ => laidMet Tryd.prog Rows.natRingRow.laid w) (fun _ _ _ hh h => h.of_heap hh) own0 started (by kernel_rfl) Tryd.func5
    (ChangeSpec.witness_at (enc := enc) (C := Tryd.checked) (os := os) (X := fun w _ => laidMet Tryd.prog Rows.natRingRow.laid w) false (laidWorld os) #[.slice none 0 0, .slice none 0 0, .slice none 0 0] 8 rfl (by kernel_rfl) (by kernel_rfl) (by kernel_rfl) (by kernel_rfl) (by kernel_rfl) (laid_met os _)) ?_
  intro W base args ds gs before hval0 hW hcnd0 _ hL _
  have hval : ∀ (j : Nat) t v, Tryd.f5.params[j]? = some t → args[j]? = some v → Value.okWide Tryd.prog W .any base t v := hval0
  have hW' := hW
  obtain ⟨p, q, hA0, hV, rfl, hfz, hnd⟩ := hW
  have hA : DataW.TrodAll enc Tryd.prog W 0 (fun _ => true) true Tryd.f5.params.toList args.toList ds p := hA0
  rw [Tryd.params5] at hA hval
  obtain ⟨v0, v1, v2, d0, d1, d2, p0, p1, p2, rfl, rfl, rfl, h0, h1, h2⟩ := trodAll_three hA
  obtain ⟨rfl, rfl⟩ := trodVars_none hV
  clear hA0 hval0 hA
  simp only [List.append_nil] at hW'
  have key : ∀ (v : Value) (d : DataW H) (p : List MemPlace) (j : Nat), j < 3 → #[v0, v1, v2][j]? = some v → DataW.Trod enc Tryd.prog W 0 (fun _ => true) true 22 v d p → ∃ b : ByteArray, MadeAs W v b ∧ b.size ≤ 40 := by
    intro v d p j hj hv h
    have hok := hval j 22 v (by rcases j with _ | _ | _ | j <;> first | rfl | omega) hv
    obtain ⟨a0, len, cap, rfl⟩ := okWide_slice Tryd.underlying22 hok
    obtain ⟨fuel, hf⟩ := h
    rcases open_ints Tryd.underlying22 Tryd.underlying5 cellsU8 hf with ⟨hcs, hx⟩ | ⟨a, len', cap', zs, hcs, _, hl, hm, hz, hx, hcell, hwz⟩
    · simp [Value.cells] at hcs
      obtain ⟨rfl, rfl, rfl⟩ := hcs
      exact made_as_nil W
    · simp [Value.cells] at hcs
      obtain ⟨rfl, rfl, rfl⟩ := hcs
      simp only [if_true] at hz
      exact made_as a len cap zs W hl hm hz hcell hwz
  obtain ⟨b0, m0, s0⟩ := key v0 d0 p0 0 (by omega) rfl h0
  obtain ⟨b1, m1, s1⟩ := key v1 d1 p1 1 (by omega) rfl h1
  obtain ⟨b2, m2, s2⟩ := key v2 d2 p2 2 (by omega) rfl h2
  refine (ring_true v0 v1 v2 b0 b1 b2 W (tab_of hL) m0 m1 m2 s0 s1 s2).mono fun e W' ⟨he, hg⟩ => ?_
  subst he
  have hb : Below W.heap.size W W' := gr_low hg (Nat.le_refl _)
  have hlt : ∀ x ∈ p0 ++ p1 ++ p2, x.block < W.heap.size := fun x hx => by simpa using hW'.lt x hx
  have hl0 : ∀ x ∈ p0, x.block < W.heap.size := fun x hx => hlt x (by simp [hx])
  have hl1 : ∀ x ∈ p1, x.block < W.heap.size := fun x hx => hlt x (by simp [hx])
  have hl2 : ∀ x ∈ p2, x.block < W.heap.size := fun x hx => hlt x (by simp [hx])
  have back : ∀ (v : Value) (d : DataW H) (p : List MemPlace), DataW.Trod enc Tryd.prog W 0 (fun _ => true) true 22 v d p → (∀ x ∈ p, x.block < W.heap.size) → DataW.Trod enc Tryd.prog W' 0 (fun b => decide (b < W.heap.size)) true 22 v d p :=
    fun v d p h hl => Below.trod laidOut0 (by kernel_rfl) (of_decide_eq_true (by kernel_rfl)) h hb hl
  refine ⟨_, rfl, _, _, _, [], p0 ++ p1 ++ p2, [], hW', ?_, ?_, rfl, hb.frame _, fun h => by cases h⟩
  · exact trodAll_mk1 (shut_bool Tryd.underlying4 true)
  · have h3 := trodAll_mk3 (back v0 d0 p0 h0 hl0) (back v1 d1 p1 h1 hl1) (back v2 d2 p2 h2 hl2)
    rw [← List.append_assoc] at h3
    exact h3

theorem ring_row : Rows.NatRingSaid :=
  OpenClaim.holds_of_wide 5 Tryd.f5 rfl rfl rfl rfl rfl rfl rfl ⟨rfl, rfl, rfl, rfl, rfl⟩ rfl rfl rfl rfl rfl (by kernel_rfl) Tryd.func5 (by kernel_rfl)
    (of_decide_eq_true (by kernel_rfl)) (by unfold Func.isWrapper; first | (rw [if_pos (by decide +kernel)]; kernel_rfl) | (rw [if_neg (by decide +kernel)]; exact ⟨rfl, rfl⟩))
    (fun os started H enc _ => ring_lifted os started H enc)
end Go.Proofs.YtoadjhmehgkeaaaDoor
