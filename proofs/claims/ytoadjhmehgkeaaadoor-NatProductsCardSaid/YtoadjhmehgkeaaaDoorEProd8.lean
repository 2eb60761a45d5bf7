/- Contracts of package nat and of the reference, part 8: Odd, PowO, Gcd, Lits, MulN, GcdG, Calls, MthR, Acc. -/
import Derived.Test.YtoadjhmehgkeaaaDoorEProd7
import Derived.Deep.RegionHeld3
import Derived.Deep.RegionWith
import Derived.Laws.BytesArg
namespace Go.Proofs.YtoadjhmehgkeaaaDoor
open Go.RowKit Mth

theorem Row.img {w : World} {g n M A : Nat} {us : List Nat} (h : Row w g n (A * W64 ^ n % M) us) : ImgOf w (.slice (some ⟨g, 0, none⟩) n n) n M A := ⟨g, 0, n, us, rfl, h.blk, by rw [h.len]; omega, h.dg, h.val⟩

theorem numAt_one (w : World) : NumAt (w.alloc (.cells #[.int .u64 1] 57)) w.heap.size 0 1 1 [1] 1 :=
  ⟨blk_one w .u64 57 1, by simp, dg_one (by decide), vs_one _ _, .inr (by simp [gt]), Nat.le_refl _, by decide, by omega⟩

set_option maxHeartbeats 16000000 in
set_option maxRecDepth 100000 in
theorem powerByOdd_any (bm om n cm M : Nat) (ms : List Nat) (ba oa na ca A : Nat) (xs : List Nat) (e : ByteArray) (w : World) (hm : NumAt w bm om n cm ms M) (hodd : gt ms om % 2 = 1) (hn0 : 0 < n) (ha : NumAt w ba oa na ca xs A) (hna : na ≤ 137438953473) (hn : n ≤ 137438953473) (hsz : e.size ≤ 1000000000000) :
    Calls Tryd.prog 42 #[.slice (some ⟨ba, oa, none⟩) na ca, .string e, .slice (some ⟨bm, om, none⟩) n cm] w fun x w' => ∃ g o c us, x = .returned (.slice (some ⟨g, o, none⟩) n c) ∧ n ≤ c ∧ c ≤ maxLen ∧ Blk .u64 57 w' g us ∧ o + n ≤ us.length ∧ Dg W64 us ∧ vs W64 us o n = accP M A (bitsTop (num e.data.toList) (bitsN (num e.data.toList))) % M ∧ w.grownBy w' none := by
  have hM0 : 0 < M := hm.pos hn0
  go_enter Tryd.func42, Tryd.ntmps42
  go_wp2_with fail
  refine (montgomeryBy_any bm om n cm M ms w hm hodd hn0).mono ?_
  rintro x w1 ⟨inv, rfl, hinv, hg1⟩
  unfold mval
  go_wp2_with fail
  obtain ⟨W2, hW2⟩ : ∃ W2, W2 = w1.alloc (.cells #[.slice (some ⟨bm, om, none⟩) n cm, .int .u64 (inv : Int)] 89) := ⟨_, rfl⟩
  have hbx : W2.heap[w1.heap.size]? = some (.cells #[.slice (some ⟨bm, om, none⟩) n cm, .int .u64 (inv : Int)] 89 (0, 0)) := by rw [hW2]; exact heap_alloc_new _ _
  have hg2 : w1.grownBy W2 none := by rw [hW2]; exact gr_alloc _ _ _
  rw [← hW2]
  clear hW2
  have hc0 : W2.drew.cell? ⟨w1.heap.size, 0, none⟩ = some (.slice (some ⟨bm, om, none⟩) n cm) := by rw [cell_of_row _ _ 0 _ _ _ (show W2.drew.heap[w1.heap.size]? = _ from hbx)]; rfl
  have hc1 : W2.drew.cell? ⟨w1.heap.size, 1, none⟩ = some (.int .u64 (inv : Int)) := by rw [cell_of_row _ _ 1 _ _ _ (show W2.drew.heap[w1.heap.size]? = _ from hbx)]; rfl
  have hgd : w.grownBy W2.drew none := gr_then hg1 (gr_then hg2 (gr_drew _ _))
  have HMd := Lib.hid (hm.kept hgd (by simp))
  have HAd := Lib.hid (ha.kept hgd (by simp))
  have hgo : W2.drew.grownBy (W2.alloc (.cells #[.int .u64 1] 57)).drew none := gr_alloc W2.drew (.cells #[.int .u64 1] 57) none
  have hone : NumAt (W2.alloc (.cells #[.int .u64 1] 57)).drew W2.heap.size 0 1 1 [1] 1 := numAt_one W2.drew
  have HONE0 := Lib.hid hone
  clear hone
  have hd0 := hgo.cell hc0 (by simp)
  have hd1 := hgo.cell hc1 (by simp)
  clear hbx hg2
  go_region_held3 (fun w' => w'.cell? ⟨w1.heap.size, 0, none⟩ = some (.slice (some ⟨bm, om, none⟩) n cm) ∧ w'.cell? ⟨w1.heap.size, 1, none⟩ = some (.int .u64 (inv : Int))) (first | exact ⟨hc0, hc1⟩ | exact ⟨hd0, hd1⟩ | go_keep)
    (first
      | (go_at_call_of 70 (Value.slice (some ⟨ba, oa, none⟩) na ca); have hp := image_any bm om n cm inv M ms ba oa na ca A xs W2.drew HMd.out hM0 HAd.out hna hn; unfold mval at hp; with_reducible refine hp.mono ?_; clear hp; rintro e4 w4 ⟨g4, us4, rfl, hlt4, hrow4, hg4⟩; have hi0 := hg4.cell hc0 (by simp); have hi1 := hg4.cell hc1 (by simp); have hgo4 := gr_alloc w4 (.cells #[.int .u64 1] 57) none; have hk0 := hgo4.cell hi0 (by simp); have hk1 := hgo4.cell hi1 (by simp); have HI4 := Lib.hid hrow4.img; have HM4 := Lib.hid ((HMd.out.kept hg4 (by simp)).kept hgo4 (by simp)); have HONE := Lib.hid (numAt_one w4); clear hrow4)
      | (go_at_call_of 70 (Value.slice (some ⟨ba, oa, none⟩) na ca); have hp := image_any bm om n cm inv M ms ba oa na ca A xs (W2.alloc (.cells #[.int .u64 1] 57)).drew (HMd.out.kept hgo (by simp)) hM0 (HAd.out.kept hgo (by simp)) hna hn; unfold mval at hp; with_reducible refine hp.mono ?_; clear hp; rintro e4 w4 ⟨g4, us4, rfl, hlt4, hrow4, hg4r⟩; have hk0 := hg4r.cell hd0 (by simp); have hk1 := hg4r.cell hd1 (by simp); have hg4 := gr_then hgo hg4r; have hgo4 := World.grownBy.refl w4 none; have HI4 := Lib.hid hrow4.img; have HM4 := Lib.hid ((HMd.out.kept hgo (by simp)).kept hg4r (by simp)); have HONE := Lib.hid (HONE0.out.kept hg4r (by simp)); clear hrow4)
      | (go_at_call_of 70 (Value.slice (some ⟨w4.heap.size, 0, none⟩) 1 1); have hp := image_any bm om n cm inv M ms w4.heap.size 0 1 1 1 [1] _ HM4.out hM0 HONE.out (by omega) hn; unfold mval at hp; refine hp.mono ?_; clear hp; rintro e5 w5 ⟨g5, us5, rfl, hlt5, hrow5, hg5⟩; have hl0 := hg5.cell hk0 (by simp); have hl1 := hg5.cell hk1 (by simp); have HI5 := Lib.hid hrow5.img; clear hrow5)
      | (go_at_call_of 70 (Value.slice (some ⟨W2.heap.size, 0, none⟩) 1 1); have hp := image_any bm om n cm inv M ms W2.heap.size 0 1 1 1 [1] w4 HM4.out hM0 HONE.out (by omega) hn; unfold mval at hp; refine hp.mono ?_; clear hp; rintro e5 w5 ⟨g5, us5, rfl, hlt5, hrow5, hg5⟩; have hl0 := hg5.cell hk0 (by simp); have hl1 := hg5.cell hk1 (by simp); have HI5 := Lib.hid hrow5.img; clear hrow5)
      | (go_at_call 69; have hp := power_mont (.slice (some ⟨g4, 0, none⟩) n n) (.slice (some ⟨g5, 0, none⟩) n n) bm om n cm inv M ms A e w5 ((HI4.out.kept hgo4).kept hg5) HI5.out (HM4.out.kept hg5 (by simp)) (by omega) hM0 hinv hsz; unfold mval at hp; refine hp.mono ?_; clear hp; rintro e6 w6 ⟨r6, rfl, hr6, hg6⟩; have hm0 := hg6.cell hl0 (by simp); have hm1 := hg6.cell hl1 (by simp); have HR6 := Lib.hid hr6; clear hr6)
      | (go_at_call 68; have hp := number_any bm om n cm inv M ms r6 _ w6 ((HM4.out.kept hg5 (by simp)).kept hg6 (by simp)) (by omega) hM0 hinv HR6.out; unfold mval at hp; refine hp.mono ?_; clear hp; rintro e7 w7 ⟨g7, o7, c7, us7, rfl, hnc7, hcm7, hb7, hf7, hd7, hv7, hg7⟩; have ho0 := hg7.cell hm0 (by simp); have ho1 := hg7.cell hm1 (by simp); have HU7 := Lib.hid (And.intro hnc7 (And.intro hcm7 (And.intro hb7 (And.intro hf7 (And.intro hd7 hv7))))); clear hnc7 hcm7 hb7 hf7 hd7 hv7))
  all_goals
    go_wp2
    go_ret
    exact ⟨g7, o7, c7, us7, rfl, HU7.out.1, HU7.out.2.1, HU7.out.2.2.1, HU7.out.2.2.2.1, HU7.out.2.2.2.2.1, HU7.out.2.2.2.2.2, gr_then hgd (gr_then hg4 (gr_then hgo4 (gr_then hg5 (gr_then hg6 hg7))))⟩
end Go.Proofs.YtoadjhmehgkeaaaDoor
namespace Go.Proofs.YtoadjhmehgkeaaaDoor
open Go.RowKit Go.Shelf Mth

set_option maxHeartbeats 2000000 in
theorem pow_odd (s e t : ByteArray) (w : World) (hs : s.size ≤ 1000000000000) (he : e.size ≤ 1000000000000) (ht : t.size ≤ 1000000000000) (h1 : 0 < num t.data.toList) (hodd : num t.data.toList % 2 = 1) :
    Calls Tryd.prog 25 #[.string s, .string e, .string t] w fun x w' => x = .returned (.tuple #[.string ⟨(enc (accP (num t.data.toList) (num s.data.toList % num t.data.toList) (bitsTop (num e.data.toList) (bitsN (num e.data.toList))))).toArray⟩, .bool true]) ∧ w.grownBy w' none := by
  obtain ⟨y, hy⟩ : ∃ y, y = num t.data.toList := ⟨_, rfl⟩
  have HY := Lib.hid hy
  rw [← hy] at h1 hodd ⊢
  have hacc0 := accP_lt h1 (num s.data.toList % y) (bitsTop (num e.data.toList) (bitsN (num e.data.toList)))
  have HACC0 := Lib.hid hacc0
  clear hacc0
  obtain ⟨acc, hacc⟩ : ∃ acc, acc = (⟨(enc (accP y (num s.data.toList % y) (bitsTop (num e.data.toList) (bitsN (num e.data.toList))))).toArray⟩ : ByteArray) := ⟨_, rfl⟩
  rw [← hacc]
  have HACC := Lib.hid hacc
  clear hy hacc
  go_enter Tryd.func25, Tryd.ntmps25
  go_wp2_with fail
  refine (wordsOf_any t w (by omega)).mono ?_
  rintro x w1 ⟨b1, ys, rfl, hlt1, hb1, hg1, hw1, hsz1⟩
  rw [← HY.out] at hw1
  have hpos : 0 < ys.length := words_pos hw1 h1
  obtain ⟨z, hz⟩ : ∃ z, z = gt ys 0 := ⟨_, rfl⟩
  have hpz : z % 2 = y % 2 := by rw [hz]; exact words_odd hw1 hpos
  have hM : y < W64 ^ ys.length := hw1.lt
  obtain ⟨n, hn⟩ : ∃ n, n = ys.length := ⟨_, rfl⟩
  have hn1 := NumAt.of_words hb1 hw1 (by omega)
  have hcell : w1.cell? ⟨b1, 0, none⟩ = some (.int .u64 (z : Int)) := by rw [hb1.cell hpos, hz]
  have hb0 : ((n : Int) == 0) = false := by rw [beq_eq_false_iff_ne]; omega
  have hnK : n ≤ 137438953473 := by omega
  rw [← hn] at hn1 hM hpos ⊢
  have HN1 := Lib.hid hn1
  have HZ := Lib.hid hz
  have HMY := Lib.hid hM
  clear hn1 hw1 hsz1 hz hM hn
  go_wp2_with fail
  refine (wordsOf_any s w1 (by omega)).mono ?_
  rintro x w2 ⟨b2, xs, rfl, hlt2, hb2, hg2, hw2, hsz2⟩
  have HN2 := Lib.hid (Num.of_words hb2 hw2 (by omega))
  have hcell2 := hg2.cell hcell (by simp)
  clear hcell
  have hnm2 : Num w2 (.slice (some ⟨b1, 0, none⟩) n n) y := ⟨b1, 0, n, n, ys, rfl, HN1.out.kept hg2 (by simp)⟩
  have HNM2 := Lib.hid hnm2
  clear hnm2
  go_wp2_with fail
  refine (divide_all _ _ _ _ w2 HN2.out HNM2.out (by omega)).mono ?_
  rintro x w3 ⟨q, r, rfl, hq, hr, hg3⟩
  obtain ⟨g3, o3, m3, c3, zs, rfl, hr⟩ := hr
  have HR := Lib.hid hr
  have hle3 : m3 ≤ n := hr.len_le (Nat.lt_trans (Nat.mod_lt _ h1) HMY.out)
  have hcell3 := hg3.cell hcell2 (by simp)
  have hpar : (((z : Int) % 2) == 1) = true := by rw [beq_iff_eq]; omega
  clear hq hr hcell2
  go_wp2_with fail
  refine (powerByOdd_any b1 0 n n y ys g3 o3 m3 c3 _ zs e w3 ((HN1.out.kept hg2 (by simp)).kept hg3 (by simp)) (by rw [← HZ.out]; omega) (by omega) HR.out (by omega) (by omega) he).mono ?_
  rintro x w4 ⟨g4, o4, c4, us4, rfl, hnc4, hcm4, hb4, hf4, hd4, hv4, hg4⟩
  rw [Nat.mod_eq_of_lt HACC0.out] at hv4
  have HV4 := Lib.hid hv4
  have HF4 := Lib.hid (And.intro hnc4 (And.intro hcm4 (And.intro hb4 (And.intro hf4 hd4))))
  clear hv4 hnc4 hcm4 hb4 hf4 hd4
  go_wp2_with fail
  refine (natOf_any g4 o4 n c4 us4 w4 HF4.out.2.2.1 HF4.out.2.2.2.1 HF4.out.2.2.2.2 HF4.out.1 HF4.out.2.1 (by omega)).mono ?_
  rintro x w5 ⟨rfl, hg5⟩
  rw [HV4.out, ← HACC.out]
  go_wp2
  go_ret2
  exact ⟨rfl, gr_then hg1 (gr_then hg2 (gr_then hg3 (gr_then hg4 hg5)))⟩
end Go.Proofs.YtoadjhmehgkeaaaDoor
namespace Go.Proofs.YtoadjhmehgkeaaaDoor
open Go.RowKit Mth

theorem gcd_zero (s t : ByteArray) (w : World) (hs : s.size ≤ 1000000000000) (ht : t.size ≤ 1000000000000) (h0 : num t.data.toList = 0) :
    Calls Tryd.prog 26 #[.string s, .string t] w fun e w' => e = .returned (.string ⟨(enc (num s.data.toList)).toArray⟩) ∧ w.grownBy w' none := by
  have H0 := Lib.hid h0
  clear h0
  go_enter Tryd.func26, Tryd.ntmps26
  go_wp2_with fail
  refine (wordsOf_any s w (by omega)).mono ?_
  rintro e w1 ⟨b1, xs, rfl, hlt1, hb1, hg1, hw1, hsz1⟩
  go_wp2_with fail
  refine (wordsOf_any t w1 (by omega)).mono ?_
  rintro e w2 ⟨b2, ys, rfl, hlt2, hb2, hg2, hw2, hsz2⟩
  have hpos : ys.length = 0 := by
    rcases Nat.eq_zero_or_pos ys.length with h | h
    · exact h
    · have := hw2.ge h; have := Nat.pow_pos (n := ys.length - 1) W64_pos; have := H0.out; omega
  have hn1 := (Num.of_words hb1 hw1 (by omega)).kept hg2
  rw [hpos]
  have HN1 := Lib.hid hn1
  clear hn1 hpos
  go_wp2_with fail
  go_loopw [5, 6] (fun u v wr => u = .slice (some ⟨b1, 0, none⟩) xs.length xs.length ∧ v = .slice (some ⟨b2, 0, none⟩) 0 0 ∧ wr = w2) (fun _ _ _ => 0)
  case atStart => exact ⟨rfl, rfl, rfl⟩
  case round =>
    obtain ⟨rfl, rfl, rfl⟩ := hrel
    go_wp2_with fail
    refine (natOf_num _ _ _ (.inr HN1.out)).mono ?_
    rintro e w3 ⟨rfl, hg3⟩
    go_wp2
    go_ret
    exact ⟨rfl, gr_then hg1 (gr_then hg2 hg3)⟩

theorem natOf_one (n : Nat) (w : World) (h : n < W64) :
    Calls Tryd.prog 29 #[.slice (some ⟨w.heap.size, 0, none⟩) 1 1] (w.alloc (.cells #[.int .u64 (n : Int)] 57)) fun e w' => e = .returned (.string ⟨(enc n).toArray⟩) ∧ w.grownBy w' none := by
  have := natOf_any w.heap.size 0 1 1 [n] _ (blk_one w .u64 57 n) (by simp) (dg_one h) (Nat.le_refl _) (by decide) (by omega)
  rw [vs_one] at this
  exact this.mono fun _ _ ⟨h1, h2⟩ => ⟨h1, gr_then (gr_alloc _ _ _) h2⟩

set_option maxHeartbeats 4000000 in
theorem gcd_word (s t : ByteArray) (w : World) (hs : s.size ≤ 1000000000000) (ht : t.size ≤ 1000000000000) (h0 : 0 < num t.data.toList) (h1 : num t.data.toList < W64) :
    Calls Tryd.prog 26 #[.string s, .string t] w fun e w' => e = .returned (.string ⟨(enc (Nat.gcd (num s.data.toList) (num t.data.toList))).toArray⟩) ∧ w.grownBy w' none := by
  obtain ⟨y, hy⟩ : ∃ y, y = num t.data.toList := ⟨_, rfl⟩
  have HY := Lib.hid hy
  rw [← hy] at h0 h1
  clear hy
  go_enter Tryd.func26, Tryd.ntmps26
  go_wp2_with fail
  refine (wordsOf_any s w (by omega)).mono ?_
  rintro e w1 ⟨b1, xs, rfl, hlt1, hb1, hg1, hw1, hsz1⟩
  go_wp2_with fail
  refine (wordsOf_any t w1 (by omega)).mono ?_
  rintro e w2 ⟨b2, ys, rfl, hlt2, hb2, hg2, hw2, hsz2⟩
  rw [← HY.out] at hw2
  have hpos : ys.length = 1 := (NumAt.of_words hb2 hw2 (by omega)).len_one h0 h1
  have hyv := (words_one hw2 hpos).1
  have hcell : w2.cell? ⟨b2, 0, none⟩ = some (.int .u64 (y : Int)) := by rw [hb2.cell (by omega), hyv]
  have hb1k := hb1.kept hg2 (by simp)
  have hne : b1 ≠ b2 := by have := hb1.lt; omega
  rw [hpos]
  have HW := Lib.hid hw1
  have hdx := hw1.dg
  have hg12 := gr_then hg1 hg2
  clear hpos hyv hw1 hw2
  go_wp2_with fail
  go_loopw [5, 6] (fun u v wr => u = .slice (some ⟨b1, 0, none⟩) xs.length xs.length ∧ v = .slice (some ⟨b2, 0, none⟩) 1 1 ∧ wr = w2) (fun _ _ _ => 0)
  case atStart => exact ⟨rfl, rfl, rfl⟩
  case round =>
    obtain ⟨rfl, rfl, rfl⟩ := hrel
    go_wp2_with fail
    go_region_with (first
      | (go_at_call 45; refine (divideInPlace_any b1 0 xs.length xs.length y xs _ (by exact hb1k) (by omega) hdx (by omega) h0 h1).mono ?_; rintro e w3 ⟨r, zs, rfl, hb3, hg3, hdv⟩; have hc3 := hg3.cell (a := ⟨b2, 0, none⟩) hcell (by simp; omega))
      | (go_at_call 44; refine (gcdOfWords_any y r _ h1 (Nat.lt_trans hdv.2.2.1 h1)).mono ?_; rintro e w4 ⟨rfl, hq4⟩; have hgW : Nat.gcd y r < W64 := Nat.lt_of_le_of_lt (Nat.gcd_le_left r h0) h1; generalize hG : Nat.gcd y r = gg at hgW; have HG := Lib.hid hG; clear hG)
      | (go_at_call 29; refine (natOf_one gg w4 hgW).mono ?_; rintro e w5 ⟨rfl, hg5⟩))
    all_goals
      go_wp2
      go_ret
      refine ⟨?_, ?_⟩
      · have hd4 := hdv.2.2.2
        rw [HW.out.val] at hd4
        have hgcd : gg = Nat.gcd (num s.data.toList) (num t.data.toList) := by
          have hmod : num s.data.toList % y = r := by rw [hd4, Nat.mul_add_mod, Nat.mod_eq_of_lt hdv.2.2.1]
          have hrec := Nat.gcd_rec y (num s.data.toList)
          rw [hmod] at hrec
          rw [← HG.out, ← HY.out, Nat.gcd_comm (num s.data.toList) y, hrec, Nat.gcd_comm]
        rw [← hgcd]; rfl
      · have hq := hq4.gr none
        have hga := gr_then hg12 (gr_drew _ none)
        exact gr_then (gr_then (gr_new hga hg3 hlt1) hq) hg5
end Go.Proofs.YtoadjhmehgkeaaaDoor
namespace Go.Proofs.YtoadjhmehgkeaaaDoor
open Go.RowKit Mth

abbrev Gives (f : FuncId) (args : Array Value) (w : World) (v : Value) : Prop := Calls Tryd.prog f args w fun e w' => e = .returned v ∧ w.grownBy w' none
theorem lit_of (n : Nat) (bs : List UInt8) (h : n ≤ 9223372036854775807) (hb : enc n = bs) (w : World) : Gives 12 #[.int .i64 (n : Int)] w (.string ⟨bs.toArray⟩) := by
  subst hb; exact of_any n w h
theorem lit_of_neg (w : World) : Gives 12 #[.int .i64 (-1)] w (.string ⟨#[]⟩) := by
  refine (of_neg (-1) w (by decide)).mono ?_
  rintro e w' ⟨h, rfl⟩
  exact ⟨h, World.grownBy.refl _ _⟩
theorem lit_int (w : World) : Gives 13 #[.string ⟨#[0, 1, 0]⟩] w (.tuple #[.int .i64 256, .bool true]) :=
  int_yes ⟨#[0, 1, 0]⟩ w (by decide) (by decide)
theorem lit_sub_no (w : World) : Gives 20 #[.string ⟨#[3]⟩, .string ⟨#[5]⟩] w (.tuple #[.string ⟨#[]⟩, .bool false]) :=
  sub_no ⟨#[3]⟩ ⟨#[5]⟩ w (by decide)
theorem lit_sub_yes (w : World) : Gives 20 #[.string ⟨#[5]⟩, .string ⟨#[3]⟩] w (.tuple #[.string ⟨#[2]⟩, .bool true]) := by
  have h := sub_yes ⟨#[5]⟩ ⟨#[3]⟩ w (by decide) (by decide) (by decide)
  rw [show enc (num (⟨#[5]⟩ : ByteArray).data.toList - num (⟨#[3]⟩ : ByteArray).data.toList) = [2] from by decide +kernel] at h
  exact h
theorem lit_quo (w : World) : Gives 23 #[.string ⟨#[3, 232]⟩, .string ⟨#[7]⟩] w (.tuple #[.string ⟨#[142]⟩, .string ⟨#[6]⟩, .bool true]) := by
  have h := quo_any ⟨#[3, 232]⟩ ⟨#[7]⟩ w (by decide) (by decide) (by decide) (.inr (by decide))
  rw [show enc (num (⟨#[3, 232]⟩ : ByteArray).data.toList / num (⟨#[7]⟩ : ByteArray).data.toList) = [142] from by decide +kernel, show enc (num (⟨#[3, 232]⟩ : ByteArray).data.toList % num (⟨#[7]⟩ : ByteArray).data.toList) = [6] from by decide +kernel] at h
  exact h
theorem lit_gcd (w : World) : Gives 26 #[.string ⟨#[12]⟩, .string ⟨#[18]⟩] w (.string ⟨#[6]⟩) := by
  have h := gcd_word ⟨#[12]⟩ ⟨#[18]⟩ w (by decide) (by decide) (by decide) (by decide)
  rw [show enc (Nat.gcd (num (⟨#[12]⟩ : ByteArray).data.toList) (num (⟨#[18]⟩ : ByteArray).data.toList)) = [6] from by decide +kernel] at h
  exact h
theorem lit_gcd0 (w : World) : Gives 26 #[.string ⟨#[]⟩, .string ⟨#[5]⟩] w (.string ⟨#[5]⟩) := by
  have h := gcd_word ⟨#[]⟩ ⟨#[5]⟩ w (by decide) (by decide) (by decide) (by decide)
  rw [show enc (Nat.gcd (num (⟨#[]⟩ : ByteArray).data.toList) (num (⟨#[5]⟩ : ByteArray).data.toList)) = [5] from by decide +kernel] at h
  exact h
theorem lit_pow (w : World) : Gives 25 #[.string ⟨#[3]⟩, .string ⟨#[200]⟩, .string ⟨#[3, 232]⟩] w (.tuple #[.string ⟨#[1]⟩, .bool true]) := by
  have h := pow_even ⟨#[3]⟩ ⟨#[200]⟩ ⟨#[3, 232]⟩ w (by decide) (by decide) (by decide) (by decide) (by decide)
  rw [show enc (accP (num (⟨#[3, 232]⟩ : ByteArray).data.toList) (num (⟨#[3]⟩ : ByteArray).data.toList % num (⟨#[3, 232]⟩ : ByteArray).data.toList) (bitsTop (num (⟨#[200]⟩ : ByteArray).data.toList) (bitsN (num (⟨#[200]⟩ : ByteArray).data.toList)))) = [1] from by decide +kernel] at h
  exact h
theorem lit_pow1 (w : World) : Gives 25 #[.string ⟨#[5]⟩, .string ⟨#[]⟩, .string ⟨#[1]⟩] w (.tuple #[.string ⟨#[]⟩, .bool true]) := by
  have h := pow_odd ⟨#[5]⟩ ⟨#[]⟩ ⟨#[1]⟩ w (by decide) (by decide) (by decide) (by decide) (by decide)
  rw [show enc (accP (num (⟨#[1]⟩ : ByteArray).data.toList) (num (⟨#[5]⟩ : ByteArray).data.toList % num (⟨#[1]⟩ : ByteArray).data.toList) (bitsTop (num (⟨#[]⟩ : ByteArray).data.toList) (bitsN (num (⟨#[]⟩ : ByteArray).data.toList)))) = [] from by decide +kernel] at h
  exact h
theorem lit_parse (w : World) : Gives 27 #[.string ⟨#[48, 48, 55]⟩] w (.tuple #[.string ⟨#[]⟩, .bool false]) :=
  parse_no ⟨#[48, 48, 55]⟩ w (by decide) (by decide)
theorem lit_text (w : World) (htab : Tab w) : Gives 28 #[.string ⟨#[1, 0, 0]⟩] w (.string ⟨#[54, 53, 53, 51, 54]⟩) := by
  have h := text_any ⟨#[1, 0, 0]⟩ w (by decide) htab
  rw [show Lib.decDigits (num (⟨#[1, 0, 0]⟩ : ByteArray).data.toList) = [54, 53, 53, 51, 54] from by decide +kernel] at h
  exact h

theorem lit_bits (n : Nat) (bs : List UInt8) (k : Nat) (w : World) (hn : num bs = n := by decide) (hk : bitsN n = k := by decide) (hs : bs.length ≤ 1000000000000 := by decide) : Gives 16 #[.string ⟨bs.toArray⟩] w (.int .i64 (k : Int)) := by
  subst hn hk
  refine (bits_any ⟨bs.toArray⟩ w (by show bs.toArray.size ≤ _; simpa using hs)).mono ?_
  rintro e w' ⟨h, rfl⟩
  exact ⟨by simpa using h, World.grownBy.refl _ _⟩

set_option maxHeartbeats 8000000 in
set_option maxRecDepth 100000 in
theorem sanity_true (w : World) (htab : Tab w) : Gives 8 #[] w (.bool true) := by
  go_enter Tryd.func8, Tryd.ntmps8
  go_wp2_with fail
  refine (lit_int _).mono ?_
  rintro e w0 ⟨rfl, h0⟩
  have hg := h0
  go_wp2_with fail
  refine (lit_of 256 [1, 0] (by decide) (by decide +kernel) _).mono ?_
  rintro e w1 ⟨rfl, h1⟩
  have hg := gr_then hg h1
  clear h1
  go_wp2_with fail
  refine (lit_of_neg _).mono ?_
  rintro e w2 ⟨rfl, h2⟩
  have hg := gr_then hg h2
  clear h2
  go_wp2_with fail
  refine (lit_of 3 [3] (by decide) (by decide +kernel) _).mono ?_
  rintro e w3 ⟨rfl, h3⟩
  have hg := gr_then hg h3
  clear h3
  go_wp2_with fail
  refine (lit_of 5 [5] (by decide) (by decide +kernel) _).mono ?_
  rintro e w4 ⟨rfl, h4⟩
  have hg := gr_then hg h4
  clear h4
  go_wp2_with fail
  refine (lit_sub_no _).mono ?_
  rintro e w5 ⟨rfl, h5⟩
  have hg := gr_then hg h5
  clear h5
  go_wp2_with fail
  refine (lit_of 5 [5] (by decide) (by decide +kernel) _).mono ?_
  rintro e w6 ⟨rfl, h6⟩
  have hg := gr_then hg h6
  clear h6
  go_wp2_with fail
  refine (lit_of 3 [3] (by decide) (by decide +kernel) _).mono ?_
  rintro e w7 ⟨rfl, h7⟩
  have hg := gr_then hg h7
  clear h7
  go_wp2_with fail
  refine (lit_sub_yes _).mono ?_
  rintro e w8 ⟨rfl, h8⟩
  have hg := gr_then hg h8
  clear h8
  go_wp2_with fail
  refine (lit_of 1000 [3, 232] (by decide) (by decide +kernel) _).mono ?_
  rintro e w9 ⟨rfl, h9⟩
  have hg := gr_then hg h9
  clear h9
  go_wp2_with fail
  refine (lit_of 7 [7] (by decide) (by decide +kernel) _).mono ?_
  rintro e w10 ⟨rfl, h10⟩
  have hg := gr_then hg h10
  clear h10
  go_wp2_with fail
  refine (lit_quo _).mono ?_
  rintro e w11 ⟨rfl, h11⟩
  have hg := gr_then hg h11
  clear h11
  go_wp2_with fail
  refine (lit_of 2 [2] (by decide) (by decide +kernel) _).mono ?_
  rintro e w12 ⟨rfl, h12⟩
  have hg := gr_then hg h12
  clear h12
  go_wp2_with fail
  refine (lit_of 142 [142] (by decide) (by decide +kernel) _).mono ?_
  rintro e w13 ⟨rfl, h13⟩
  have hg := gr_then hg h13
  clear h13
  go_wp2_with fail
  refine (lit_of 6 [6] (by decide) (by decide +kernel) _).mono ?_
  rintro e w14 ⟨rfl, h14⟩
  have hg := gr_then hg h14
  clear h14
  go_wp2_with fail
  refine (lit_of 12 [12] (by decide) (by decide +kernel) _).mono ?_
  rintro e w15 ⟨rfl, h15⟩
  have hg := gr_then hg h15
  clear h15
  go_wp2_with fail
  refine (lit_of 18 [18] (by decide) (by decide +kernel) _).mono ?_
  rintro e w16 ⟨rfl, h16⟩
  have hg := gr_then hg h16
  clear h16
  go_wp2_with fail
  refine (lit_gcd _).mono ?_
  rintro e w17 ⟨rfl, h17⟩
  have hg := gr_then hg h17
  clear h17
  go_wp2_with fail
  refine (lit_of 6 [6] (by decide) (by decide +kernel) _).mono ?_
  rintro e w18 ⟨rfl, h18⟩
  have hg := gr_then hg h18
  clear h18
  go_wp2_with fail
  refine (lit_of 5 [5] (by decide) (by decide +kernel) _).mono ?_
  rintro e w19 ⟨rfl, h19⟩
  have hg := gr_then hg h19
  clear h19
  go_wp2_with fail
  refine (lit_gcd0 _).mono ?_
  rintro e w20 ⟨rfl, h20⟩
  have hg := gr_then hg h20
  clear h20
  go_wp2_with fail
  refine (lit_of 5 [5] (by decide) (by decide +kernel) _).mono ?_
  rintro e w21 ⟨rfl, h21⟩
  have hg := gr_then hg h21
  clear h21
  go_wp2_with fail
  refine (lit_of 3 [3] (by decide) (by decide +kernel) _).mono ?_
  rintro e w22 ⟨rfl, h22⟩
  have hg := gr_then hg h22
  clear h22
  go_wp2_with fail
  refine (lit_of 200 [200] (by decide) (by decide +kernel) _).mono ?_
  rintro e w23 ⟨rfl, h23⟩
  have hg := gr_then hg h23
  clear h23
  go_wp2_with fail
  refine (lit_of 1000 [3, 232] (by decide) (by decide +kernel) _).mono ?_
  rintro e w24 ⟨rfl, h24⟩
  have hg := gr_then hg h24
  clear h24
  go_wp2_with fail
  refine (lit_pow _).mono ?_
  rintro e w25 ⟨rfl, h25⟩
  have hg := gr_then hg h25
  clear h25
  go_wp2_with fail
  refine (lit_of 5 [5] (by decide) (by decide +kernel) _).mono ?_
  rintro e w26 ⟨rfl, h26⟩
  have hg := gr_then hg h26
  clear h26
  go_wp2_with fail
  refine (lit_of 1 [1] (by decide) (by decide +kernel) _).mono ?_
  rintro e w27 ⟨rfl, h27⟩
  have hg := gr_then hg h27
  clear h27
  go_wp2_with fail
  refine (lit_pow1 _).mono ?_
  rintro e w28 ⟨rfl, h28⟩
  have hg := gr_then hg h28
  clear h28
  go_wp2_with fail
  refine (lit_parse _).mono ?_
  rintro e w29 ⟨rfl, h29⟩
  have hg := gr_then hg h29
  clear h29
  go_wp2_with fail
  refine (lit_of 255 [255] (by decide) (by decide +kernel) _).mono ?_
  rintro e w30 ⟨rfl, h30⟩
  have hg := gr_then hg h30
  clear h30
  go_wp2_with fail
  refine (lit_bits 255 [255] 8 _).mono ?_
  rintro e w31 ⟨rfl, h31⟩
  have hg := gr_then hg h31
  clear h31
  go_wp2_with fail
  refine (lit_of 256 [1, 0] (by decide) (by decide +kernel) _).mono ?_
  rintro e w32 ⟨rfl, h32⟩
  have hg := gr_then hg h32
  clear h32
  go_wp2_with fail
  refine (lit_bits 256 [1, 0] 9 _).mono ?_
  rintro e w33 ⟨rfl, h33⟩
  have hg := gr_then hg h33
  clear h33
  go_wp2_with fail
  refine (lit_of 1 [1] (by decide) (by decide +kernel) _).mono ?_
  rintro e w34 ⟨rfl, h34⟩
  have hg := gr_then hg h34
  clear h34
  go_wp2_with fail
  refine (lit_text _ (tab_gr htab hg)).mono ?_
  rintro e w35 ⟨rfl, h35⟩
  have hg := gr_then hg h35
  clear h35
  go_wp2
  go_ret
  exact ⟨rfl, hg⟩
end Go.Proofs.YtoadjhmehgkeaaaDoor
namespace Go.Proofs.YtoadjhmehgkeaaaDoor
open Go.RowKit Mth

theorem mul_any (s t : ByteArray) (w : World) (hs : s.size ≤ 1000000000000) (ht : t.size ≤ 1000000000000) :
    Calls Tryd.prog 10 #[.string s, .string t] w fun e w' => e = .returned (.string ⟨(enc (num s.data.toList * num t.data.toList)).toArray⟩) ∧ w.grownBy w' none := by
  go_enter Tryd.func10, Tryd.ntmps10
  go_wp2_with fail
  refine (wordsOf_any s w (by omega)).mono ?_
  rintro e w1 ⟨b1, xs, rfl, hlt1, hb1, hg1, hw1, hsz1⟩
  go_wp2_with fail
  refine (wordsOf_any t w1 (by omega)).mono ?_
  rintro e w2 ⟨b2, ys, rfl, hlt2, hb2, hg2, hw2, hsz2⟩
  go_wp2_with fail
  refine (product_any b1 0 xs.length xs.length b2 0 ys.length ys.length xs ys w2 (hb1.kept hg2 (by simp)) (by omega) hw1.dg hb2 (by omega) hw2.dg (by omega) (by omega)).mono ?_
  rintro e w3 ⟨b3, zs, rfl, hlt3, hb3, hg3, hd3, hl3, hv3⟩
  rw [hw1.val, hw2.val] at hv3
  have HV := Lib.hid hv3
  have hls : zs.length ≤ 1099511627776 := by omega
  clear hv3 hl3
  go_wp2_with fail
  refine (natOf_any b3 0 zs.length zs.length zs w3 hb3 (by omega) hd3 (Nat.le_refl _) (by unfold maxLen; omega) hls).mono ?_
  rintro e w4 ⟨rfl, hg4⟩
  go_wp2
  go_ret
  exact ⟨by rw [HV.out]; rfl, gr_then hg1 (gr_then hg2 (gr_then hg3 hg4))⟩
end Go.Proofs.YtoadjhmehgkeaaaDoor
namespace Go.Proofs.YtoadjhmehgkeaaaDoor
open Go.RowKit Mth

/-- The words that a block holds. -/
def natsAt (w : World) (b : Nat) : List Nat := match w.heap[b]? with
  | some (.cells cs _ _) => cs.toList.map fun | .int _ z => z.toNat | _ => 0
  | _ => []
def valAt (w : World) (v : Value) : Nat := match v with
  | .slice (some a) n _ => vs W64 (natsAt w a.block) a.off n
  | _ => 0
theorem NumAt.valAt {w : World} {g off m c N : Nat} {xs : List Nat} (h : NumAt w g off m c xs N) : valAt w (.slice (some ⟨g, off, none⟩) m c) = N := by
  have hb : w.heap[g]? = some (.cells (cellsOf .u64 xs).toArray 57 (0, 0)) := h.blk
  have e : natsAt w g = xs := by
    unfold natsAt
    rw [hb]
    simp only [cellsOf, List.map_map]
    conv => rhs; rw [← List.map_id xs]
    apply List.map_congr_left
    intro a _
    simp
  show vs W64 (natsAt w g) off m = N
  rw [e]; exact h.val

set_option maxHeartbeats 4000000 in
theorem gcd_all (s t : ByteArray) (w : World) (hs : s.size ≤ 1000000000000) (ht : t.size ≤ 1000000000000) :
    Calls Tryd.prog 26 #[.string s, .string t] w fun e w' => e = .returned (.string ⟨(enc (Nat.gcd (num s.data.toList) (num t.data.toList))).toArray⟩) ∧ w.grownBy w' none := by
  obtain ⟨G, hG⟩ : ∃ G, G = Nat.gcd (num s.data.toList) (num t.data.toList) := ⟨_, rfl⟩
  rw [← hG]
  have HG0 := Lib.hid hG
  clear hG
  go_enter Tryd.func26, Tryd.ntmps26
  go_wp2_with fail
  refine (wordsOf_any s w (by omega)).mono ?_
  rintro e w1 ⟨b1, xs, rfl, hlt1, hb1, hg1, hw1, hsz1⟩
  go_wp2_with fail
  refine (wordsOf_any t w1 (by omega)).mono ?_
  rintro e w2 ⟨b2, ys, rfl, hlt2, hb2, hg2, hw2, hsz2⟩
  have hn1 := (NumAt.of_words hb1 hw1 (by omega)).kept hg2 (by simp)
  have hn2 := NumAt.of_words hb2 hw2 (by omega)
  have hne : b1 ≠ b2 := by have := hb1.lt; omega
  have hg12 := gr_then hg1 hg2
  have hle2 : w.heap.size ≤ b2 := by have := hg1.size; omega
  have HN1 := Lib.hid hn1
  have HN2 := Lib.hid hn2
  clear hn1 hn2 hw1 hw2 hsz1 hsz2 hb1 hb2
  go_wp2_with fail
  go_loopw [5, 6] (fun u v wr => ∃ (g1 o1 m1 c1 : Nat) (xs : List Nat) (X g2 o2 m2 c2 : Nat) (ys : List Nat) (Y : Nat), u = .slice (some ⟨g1, o1, none⟩) m1 c1 ∧ v = .slice (some ⟨g2, o2, none⟩) m2 c2 ∧ NumAt wr g1 o1 m1 c1 xs X ∧ NumAt wr g2 o2 m2 c2 ys Y ∧ g1 ≠ g2 ∧ w.heap.size ≤ g1 ∧ w.heap.size ≤ g2 ∧ w.grownBy wr none ∧ Hid (Nat.gcd X Y = G)) (fun _ v wr => valAt wr v)
  case atStart => exact ⟨_, _, _, _, _, _, _, _, _, _, _, _, rfl, rfl, HN1.out, HN2.out, hne, hlt1, hle2, hg12, HG0.out.symm⟩
  case round =>
    obtain ⟨g1, o1, m1, c1, xs, X, g2, o2, m2, c2, ys, Y, rfl, rfl, h1, h2, hne, hlt1, hlt2, hg, HG⟩ := hrel
    clear hg12 hg1 hg2 hle2
    have H1 := Lib.hid h1
    have H2 := Lib.hid h2
    by_cases hm : 1 < m2
    · have hY0 : 0 < Y := h2.pos (by omega)
      have hmod := Nat.mod_lt X hY0
      have hva := h2.valAt
      have HVA := Lib.hid hva
      clear h1 h2 hva
      go_wp2_with fail
      refine (divide_allB _ _ X Y wr ⟨_, _, _, _, _, rfl, H1.out⟩ ⟨_, _, _, _, _, rfl, H2.out⟩ hY0).mono ?_
      rintro e w3 ⟨q, r, rfl, hq, hr, hg3, hwhere⟩
      obtain ⟨g3, o3, m3, c3, zs, rfl, h3⟩ := hr
      have hne3 : g2 ≠ g3 := by
        rcases hwhere with h | ⟨g', o', m', c', h, h'⟩
        · simp only [Value.slice.injEq, Option.some.injEq, Addr.mk.injEq] at h; omega
        · simp only [Value.slice.injEq, Option.some.injEq, Addr.mk.injEq] at h
          have := H2.out.blk.lt
          omega
      have hlt3 : w.heap.size ≤ g3 := by
        rcases hwhere with h | ⟨g', o', m', c', h, h'⟩
        · simp only [Value.slice.injEq, Option.some.injEq, Addr.mk.injEq] at h; omega
        · simp only [Value.slice.injEq, Option.some.injEq, Addr.mk.injEq] at h
          have := hg.size
          omega
      have H3 := Lib.hid h3
      clear hwhere h3 hq
      go_wp2
      refine ⟨⟨g2, o2, m2, c2, ys, Y, g3, o3, m3, c3, zs, X % Y, rfl, rfl, H2.out.kept hg3 (by simp), H3.out, hne3, hlt2, hlt3, gr_then hg hg3, ?_⟩, ?_⟩
      · show _ = _
        rw [← HG.out, Nat.gcd_comm X Y, Nat.gcd_rec Y X, Nat.gcd_comm]
      · rw [H3.out.valAt, HVA.out]; exact hmod
    · rcases Nat.eq_zero_or_pos m2 with h0 | h0
      · subst h0
        have hY : Y = 0 := by have := h2.val; simpa [vs] using this.symm
        have hGX : X = G := by have := HG.out; rw [hY, Nat.gcd_zero_right] at this; exact this
        have HGX := Lib.hid hGX
        clear h1 h2 hY hGX
        go_wp2_with fail
        refine (natOf_num _ _ _ (.inr ⟨_, _, _, _, _, rfl, H1.out⟩)).mono ?_
        rintro e w3 ⟨rfl, hg3⟩
        rw [HGX.out]
        go_wp2
        go_ret
        exact ⟨rfl, gr_then hg hg3⟩
      · obtain rfl : m2 = 1 := by omega
        have hY0 : 0 < Y := h2.pos (by omega)
        have hyv : gt ys o2 = Y := by have := h2.val; simpa [vs] using this
        have hYW : Y < W64 := hyv ▸ h2.dg o2
        have hcell : wr.cell? ⟨g2, o2, none⟩ = some (.int .u64 (Y : Int)) := by rw [h2.blk.cell (by have := h2.fit; omega), hyv]
        have hb1k := h1.blk
        have hf1 := h1.fit
        have hd1 := h1.dg
        have hs1 := h1.small
        clear h1 h2 hyv hm
        go_wp2_with fail
        go_region_with (first
          | (go_at_call 45; refine (divideInPlace_any g1 o1 m1 c1 Y xs _ (by exact hb1k) hf1 hd1 hs1 hY0 hYW).mono ?_; rintro e w3 ⟨r, zs, rfl, hb3, hg3, hdv⟩; have hc3 := hg3.cell (a := ⟨g2, o2, none⟩) hcell (by simp; omega))
          | (go_at_call 44; refine (gcdOfWords_any Y r _ hYW (Nat.lt_trans hdv.2.2.1 hYW)).mono ?_; rintro e w4 ⟨rfl, hq4⟩; have hgW : Nat.gcd Y r < W64 := Nat.lt_of_le_of_lt (Nat.gcd_le_left r hY0) hYW; generalize hGG : Nat.gcd Y r = gg at hgW; have HGG := Lib.hid hGG; clear hGG)
          | (go_at_call 29; refine (natOf_one gg w4 hgW).mono ?_; rintro e w5 ⟨rfl, hg5⟩))
        all_goals
          go_wp2
          go_ret
          refine ⟨?_, ?_⟩
          · have hd4 := hdv.2.2.2
            rw [H1.out.val] at hd4
            have hgcd : gg = G := by
              have hmod : X % Y = r := by rw [hd4, Nat.mul_add_mod, Nat.mod_eq_of_lt hdv.2.2.1]
              have hrec := Nat.gcd_rec Y X
              rw [hmod] at hrec
              rw [← HGG.out, ← HG.out, Nat.gcd_comm X Y, hrec, Nat.gcd_comm]
            rw [← hgcd]; rfl
          · have hq := hq4.gr none
            have hga := gr_then hg (gr_drew _ none)
            exact gr_then (gr_then (gr_new hga hg3 hlt1) hq) hg5
end Go.Proofs.YtoadjhmehgkeaaaDoor
namespace Go.Proofs.YtoadjhmehgkeaaaDoor
open Go.RowKit Mth

def S (n : Nat) : ByteArray := ⟨(enc n).toArray⟩
theorem s_num (n : Nat) : num (S n).data.toList = n := by unfold S; simp [num_enc]
theorem s_zero : S 0 = ⟨#[]⟩ := by unfold S; rw [enc_zero]
theorem enc_len : ∀ (k n : Nat), n < 256 ^ k → (enc n).length ≤ k
  | 0, n, h => by
    have : n = 0 := by simpa using h
    subst this; rw [enc_zero]; simp
  | k + 1, n, h => by
    by_cases h0 : n = 0
    · subst h0; rw [enc_zero]; simp
    · rw [enc_pos h0]
      rw [Nat.pow_succ] at h
      have := enc_len k (n / 256) (by omega)
      simp; omega
theorem s_size {n : Nat} (h : n < 256 ^ 200) : (S n).size ≤ 1000000000000 := by
  have := enc_len 200 n h
  have e : (S n).size = (enc n).length := by unfold S; show (enc n).toArray.size = _; simp
  omega
theorem s_add (s t : ByteArray) (m n : Nat) (w : World) (hm : num s.data.toList = m) (hn : num t.data.toList = n) (h1 : s.size ≤ 1000000000000) (h2 : t.size ≤ 1000000000000) : Gives 21 #[.string s, .string t] w (.string (S (m + n))) := by
  subst hm hn; exact add_any s t w h1 h2
theorem s_mul (s t : ByteArray) (m n : Nat) (w : World) (hm : num s.data.toList = m) (hn : num t.data.toList = n) (h1 : s.size ≤ 1000000000000) (h2 : t.size ≤ 1000000000000) : Gives 10 #[.string s, .string t] w (.string (S (m * n))) := by
  subst hm hn; exact mul_any s t w h1 h2
theorem s_sub (s t : ByteArray) (m n : Nat) (w : World) (hm : num s.data.toList = m) (hn : num t.data.toList = n) (h : n ≤ m) (h1 : s.size ≤ 1000000000000) (h2 : t.size ≤ 1000000000000) : Gives 20 #[.string s, .string t] w (.tuple #[.string (S (m - n)), .bool true]) := by
  subst hm hn; exact sub_yes s t w h h1 h2
theorem s_canon (s : ByteArray) (m : Nat) (w : World) (hm : num s.data.toList = m) (h1 : s.size ≤ 1000000000000) : Gives 22 #[.string s] w (.string (S m)) := by
  subst hm
  refine (canon_any s w h1).mono ?_
  rintro e w' ⟨rfl, rfl⟩
  exact ⟨by unfold S; rw [enc_num_canon], World.grownBy.refl _ _⟩
theorem bnum (a : ByteArray) (h : a.size ≤ 40) : num a.data.toList < 256 ^ 40 := by
  have h1 := num_lt a.data.toList
  rw [len_toList] at h1
  have h2 := Nat.pow_le_pow_right (n := 256) (by decide) h
  omega
theorem sz_add {A B : Nat} (hA : A < 256 ^ 40) (hB : B < 256 ^ 40) : A + B < 256 ^ 200 := by
  have h : 256 ^ 40 + 256 ^ 40 ≤ 256 ^ 200 := by decide
  omega
theorem sz_mul {A B : Nat} (hA : A < 256 ^ 40) (hB : B < 256 ^ 40) : A * B < 256 ^ 200 := by
  have h : 256 ^ 40 * 256 ^ 40 ≤ 256 ^ 200 := by decide
  exact Nat.lt_of_lt_of_le (Nat.mul_lt_mul'' hA hB) h
/-- What concordref01.Made makes of an argument. -/
def MadeAs (w : World) (v : Value) (a : ByteArray) : Prop := ∀ w', w.grownBy w' none → Calls Tryd.prog 9 #[v] w' fun e w'' => e = .returned (.string a) ∧ w' = w''


theorem s_quo (s t : ByteArray) (m n : Nat) (w : World) (hm : num s.data.toList = m) (hn : num t.data.toList = n) (h0 : 0 < n) (h1 : s.size ≤ 1000000000000) (h2 : t.size ≤ 1000000000000) : Gives 23 #[.string s, .string t] w (.tuple #[.string (S (m / n)), .string (S (m % n)), .bool true]) := by
  subst hm hn; exact quo_all s t w h1 h2 h0
theorem s_quo0 (s t : ByteArray) (w : World) (hn : num t.data.toList = 0) (h2 : t.size ≤ 1000000000000) : Gives 23 #[.string s, .string t] w (.tuple #[.string ⟨#[]⟩, .string ⟨#[]⟩, .bool false]) := quo_none s t w h2 hn
theorem s_gcd (s t : ByteArray) (m n : Nat) (w : World) (hm : num s.data.toList = m) (hn : num t.data.toList = n) (h1 : s.size ≤ 1000000000000) (h2 : t.size ≤ 1000000000000) : Gives 26 #[.string s, .string t] w (.string (S (Nat.gcd m n))) := by
  subst hm hn; exact gcd_all s t w h1 h2
theorem s_cmp (s t : ByteArray) (m n : Nat) (w : World) (hm : num s.data.toList = m) (hn : num t.data.toList = n) : Gives 24 #[.string s, .string t] w (.int .i64 (cmpN m n)) := by
  subst hm hn
  refine (cmp_any s t w).mono ?_
  rintro e w' ⟨rfl, rfl⟩
  exact ⟨rfl, World.grownBy.refl _ _⟩
theorem s_bits (s : ByteArray) (m : Nat) (w : World) (hm : num s.data.toList = m) (h1 : s.size ≤ 1000000000000) : Gives 16 #[.string s] w (.int .i64 ((bitsN m : Nat) : Int)) := by
  subst hm
  refine (bits_any s w h1).mono ?_
  rintro e w' ⟨rfl, rfl⟩
  exact ⟨rfl, World.grownBy.refl _ _⟩
theorem s_right (n : Nat) (w : World) : Gives 18 #[.string (S n)] w (.bool true) := by
  refine (right_any (S n) w).mono ?_
  rintro e w' ⟨rfl, rfl⟩
  refine ⟨?_, World.grownBy.refl _ _⟩
  rw [rtB_of_rt]
  unfold S
  simpa using rt_enc n
theorem bitsN_mul {a b : Nat} (ha : 0 < a) (hb : 0 < b) : bitsN a + bitsN b = bitsN (a * b) ∨ bitsN a + bitsN b = bitsN (a * b) + 1 := by
  have key : ∀ {x : Nat}, 0 < x → ∃ k, bitsN x = k + 1 ∧ 2 ^ k ≤ x ∧ x < 2 ^ (k + 1) := by
    intro x hx
    refine ⟨Nat.log2 x, by unfold bitsN; rw [if_neg (by omega)], Nat.log2_self_le (by omega), Nat.lt_log2_self⟩
  obtain ⟨j, j1, j2, j3⟩ := key ha
  obtain ⟨k, k1, k2, k3⟩ := key hb
  have h1 : 2 ^ (j + k) ≤ a * b := by rw [Nat.pow_add]; exact Nat.mul_le_mul j2 k2
  have h2 : a * b < 2 ^ (j + k + 2) := by
    rw [show j + k + 2 = (j + 1) + (k + 1) from by omega, Nat.pow_add]
    exact Nat.mul_lt_mul'' j3 k3
  rcases Nat.lt_or_ge (a * b) (2 ^ (j + k + 1)) with h | h
  · right; rw [bitsN_of h1 h, j1, k1]; omega
  · left; rw [bitsN_of h h2, j1, k1]; omega
end Go.Proofs.YtoadjhmehgkeaaaDoor
namespace Go.Proofs.YtoadjhmehgkeaaaDoor
namespace Mth

def D24 : Nat := 16777216
theorem D24_eq : D24 = 16777216 := rfl
theorem D24_pos : 0 < D24 := by decide
/-- The digits of a number, the least significant one first, none for 0. -/
def dgt (n : Nat) : List Nat := if _h : n = 0 then [] else (n % D24) :: dgt (n / D24)
termination_by n
decreasing_by rw [D24_eq]; omega
theorem dgt_zero : dgt 0 = [] := by unfold dgt; simp
theorem dgt_pos {n : Nat} (h : n ≠ 0) : dgt n = (n % D24) :: dgt (n / D24) := by rw [dgt]; simp [h]
theorem div_D24_lt {n : Nat} (h : n ≠ 0) : n / D24 < n := by rw [D24_eq]; omega
theorem val_dgt (n : Nat) : val D24 (dgt n) = n := by
  induction n using Nat.strongRecOn with
  | _ n ih =>
    by_cases h : n = 0
    · subst h; rw [dgt_zero]; rfl
    · rw [dgt_pos h, val, ih _ (div_D24_lt h)]; exact Nat.mod_add_div _ _
theorem gt_dgt (n i : Nat) : gt (dgt n) i = n / D24 ^ i % D24 := by
  induction i generalizing n with
  | zero =>
    by_cases h : n = 0
    · subst h; rw [dgt_zero]; simp [gt]
    · rw [dgt_pos h]; simp [gt]
  | succ i ih =>
    by_cases h : n = 0
    · subst h; rw [dgt_zero]; simp [gt]
    · rw [dgt_pos h, Nat.pow_succ, Nat.mul_comm, ← Nat.div_div_eq_div_mul, ← ih (n / D24)]; simp [gt]
theorem dg_dgt (n : Nat) : Dg D24 (dgt n) := fun i => by rw [gt_dgt]; exact Nat.mod_lt _ D24_pos
theorem vs_dgt (n k : Nat) : vs D24 (dgt n) 0 k = n % D24 ^ k := by
  induction k with
  | zero => simp [vs, Nat.mod_one]
  | succ k ih => simp only [vs, Nat.zero_add]; rw [ih, gt_dgt, Nat.pow_succ, Nat.mod_mul]
theorem dgt_len_le : ∀ (k n : Nat), n < D24 ^ k → (dgt n).length ≤ k
  | 0, n, h => by
    have : n = 0 := by simpa using h
    subst this; rw [dgt_zero]; simp
  | k + 1, n, h => by
    by_cases h0 : n = 0
    · subst h0; rw [dgt_zero]; simp
    · rw [dgt_pos h0, List.length_cons]
      have := dgt_len_le k (n / D24) (by rw [Nat.div_lt_iff_lt_mul D24_pos, ← Nat.pow_succ]; exact h)
      omega
theorem dgt_lt (n : Nat) : n < D24 ^ (dgt n).length := by
  have := val_lt D24 (dgt n) (dg_dgt n).mem
  rwa [val_dgt] at this
theorem dgt_top {n : Nat} (h : n ≠ 0) : D24 ^ ((dgt n).length - 1) ≤ n := by
  induction n using Nat.strongRecOn with
  | _ n ih =>
    rw [dgt_pos h, List.length_cons, Nat.add_sub_cancel]
    by_cases h1 : n / D24 = 0
    · rw [h1, dgt_zero]; simp; omega
    · have h2 := ih _ (div_D24_lt h) h1
      have h3 : 0 < (dgt (n / D24)).length := by rw [dgt_pos h1]; simp
      have h4 : D24 ^ (dgt (n / D24)).length = D24 ^ ((dgt (n / D24)).length - 1) * D24 := by rw [← Nat.pow_succ]; congr 1; omega
      rw [h4]
      have h5 : D24 ^ ((dgt (n / D24)).length - 1) * D24 ≤ n / D24 * D24 := Nat.mul_le_mul_right _ h2
      exact Nat.le_trans h5 (Nat.div_mul_le_self _ _)
theorem dgt_inj_len {a b : Nat} (h : a ≤ b) : (dgt a).length ≤ (dgt b).length := dgt_len_le _ _ (Nat.lt_of_le_of_lt h (dgt_lt b))
/-- A list of digits without zeros at its end is that of its value. -/
theorem eq_dgt {l : List Nat} (hd : Dg D24 l) (ht : l.length = 0 ∨ gt l (l.length - 1) ≠ 0) : l = dgt (val D24 l) := by
  have h1 := val_lt D24 l hd.mem
  have h2 := dgt_len_le _ _ h1
  have hlen : l.length = (dgt (val D24 l)).length := by
    rcases ht with h | h
    · omega
    · rcases Nat.eq_zero_or_pos l.length with h0 | h0
      · omega
      · have h3 : D24 ^ (l.length - 1) ≤ val D24 l := by
          rw [← vs_val]
          have e : vs D24 l 0 l.length = vs D24 l 0 (l.length - 1) + D24 ^ (l.length - 1) * gt l (l.length - 1) := by
            conv => lhs; rw [show l.length = (l.length - 1) + 1 from by omega]
            simp only [vs, Nat.zero_add]
          rw [e]
          have : D24 ^ (l.length - 1) * 1 ≤ D24 ^ (l.length - 1) * gt l (l.length - 1) := Nat.mul_le_mul_left _ (by omega)
          omega
        have h4 := dgt_lt (val D24 l)
        have h5 := Nat.lt_of_le_of_lt h3 h4
        have h6 : l.length - 1 < (dgt (val D24 l)).length := (Nat.pow_lt_pow_iff_right (by decide)).1 h5
        omega
  refine gt_ext hlen (fun i hi => ?_)
  rw [gt_dgt, ← vs_val]
  have hsplit := vs_split D24 l 0 i (l.length - i)
  rw [show i + (l.length - i) = l.length from by omega] at hsplit
  rw [hsplit, Nat.add_mul_div_left _ _ (Nat.pow_pos D24_pos), Nat.div_eq_of_lt (vs_lt hd), Nat.zero_add, Nat.zero_add]
  rw [show l.length - i = 1 + (l.length - i - 1) from by omega, vs_split]
  simp only [vs, Nat.pow_zero, Nat.one_mul, Nat.add_zero, Nat.zero_add, Nat.pow_one]
  rw [Nat.add_mul_mod_self_left, Nat.mod_eq_of_lt (hd i)]
theorem dgt_take_zeros {l : List Nat} {m : Nat} (hd : Dg D24 l) (hm : m ≤ l.length) (hz : ∀ i, m ≤ i → i < l.length → gt l i = 0) (ht : m = 0 ∨ gt l (m - 1) ≠ 0) : l.take m = dgt (val D24 l) := by
  have hl : (l.take m).length = m := by simp; omega
  have hdt : Dg D24 (l.take m) := fun i => by
    by_cases h : i < m
    · rw [gt_take h]; exact hd i
    · rw [gt_of_ge (by omega)]; exact D24_pos
  have hv : val D24 (l.take m) = val D24 l := by
    rw [← vs_take l m hm, ← vs_val l]
    have hsplit := vs_split D24 l 0 m (l.length - m)
    rw [show m + (l.length - m) = l.length from by omega] at hsplit
    rw [hsplit, vs_zero (n := l.length - m) (fun i hi => by rw [Nat.zero_add]; exact hz _ (by omega) (by omega))]; simp
  rw [← hv]
  refine eq_dgt hdt ?_
  rw [hl]
  rcases ht with h | h
  · exact .inl h
  · rcases Nat.eq_zero_or_pos m with h0 | h0
    · exact .inl h0
    · exact .inr (by rw [gt_take (by omega)]; exact h)
/-- How many digits as many bytes have. -/
theorem D24_pow (j : Nat) : D24 ^ j = 256 ^ (3 * j) := by rw [Nat.pow_mul]; congr 1
theorem eq_dgt_ge {l : List Nat} (hd : Dg D24 l) (h : l.length = 0 ∨ D24 ^ (l.length - 1) ≤ val D24 l) : l = dgt (val D24 l) := by
  refine eq_dgt hd ?_
  rcases h with h | h
  · exact .inl h
  · rcases Nat.eq_zero_or_pos l.length with h0 | h0
    · exact .inl h0
    · refine .inr fun e => ?_
      have e1 : val D24 l = vs D24 l 0 (l.length - 1) + D24 ^ (l.length - 1) * gt l (l.length - 1) := by
        rw [← vs_val]
        conv => lhs; rw [show l.length = (l.length - 1) + 1 from by omega]
        simp only [vs, Nat.zero_add]
      rw [e, Nat.mul_zero, Nat.add_zero] at e1
      have := vs_lt (b := D24) (xs := l) (off := 0) (n := l.length - 1) hd
      omega
theorem dg_snoc {l : List Nat} {d : Nat} (hd : Dg D24 l) (h : d < D24) : Dg D24 (l ++ [d]) := by
  refine Dg.of_mem D24_pos fun x hx => ?_
  rcases List.mem_append.1 hx with h1 | h1
  · exact hd.mem x h1
  · rw [List.mem_singleton.1 h1]; exact h
theorem dg_nil : Dg D24 [] := fun i => by simp [gt, D24_pos]
/-- The value of the digits from a place on. -/
theorem val_drop {l : List Nat} {k : Nat} (h : k < l.length) : val D24 (l.drop k) = gt l k + D24 * val D24 (l.drop (k + 1)) := by
  rw [List.drop_eq_getElem_cons h, val_cons, ← gt_of_lt h]
/-- Three bytes more. -/
theorem num_part (l : List UInt8) (s e : Nat) (h : s ≤ e) (he : e ≤ l.length) : num (l.drop s) = num ((l.take e).drop s) * 256 ^ (l.length - e) + num (l.drop e) := by
  have h1 : l.drop s = (l.take e).drop s ++ l.drop e := by
    conv => lhs; rw [← List.take_append_drop e l]
    rw [List.drop_append_of_le_length (by rw [List.length_take]; omega)]
  rw [h1, num_append, List.length_drop]
theorem num_part_lt (l : List UInt8) (s e : Nat) (h : e ≤ s + 3) : num ((l.take e).drop s) < D24 := by
  have h1 := num_lt ((l.take e).drop s)
  have h2 : ((l.take e).drop s).length ≤ 3 := by simp; omega
  have h3 := Nat.pow_le_pow_right (n := 256) (by decide) h2
  exact Nat.lt_of_lt_of_le h1 h3
end Mth
end Go.Proofs.YtoadjhmehgkeaaaDoor
namespace Go.Proofs.YtoadjhmehgkeaaaDoor
open Go.RowKit Mth

/-- A list that the call gathers since the world w0. -/
structure Acc (k : IntKind) (e : TypeId) (w0 w : World) (v : Value) (l : List Nat) : Prop where
  own : ∃ zs, Own k e w v l.length zs ∧ zs.take l.length = l
  fresh : v.ownBlock = none ∨ ∃ g, v.ownBlock = some g ∧ w0.heap.size ≤ g
  gr : w0.grownBy w none
theorem Acc.nil (k : IntKind) (e : TypeId) (w : World) : Acc k e w w (.slice none 0 0) [] := ⟨⟨[], .nil _ _ _, rfl⟩, .inl rfl, World.grownBy.refl _ _⟩
theorem Acc.kept {k : IntKind} {e : TypeId} {w0 w w' : World} {v : Value} {l : List Nat} (h : Acc k e w0 w v l) (hg : w.grownBy w' none) : Acc k e w0 w' v l := by
  obtain ⟨zs, ho, ht⟩ := h.own
  refine ⟨⟨zs, ho.kept hg ?_, ht⟩, h.fresh, gr_then h.gr hg⟩
  cases v.ownBlock with
  | none => exact .inl rfl
  | some g => exact .inr (by simp)

theorem run_acc {P : Program} {w0 w : World} (t ty : TypeId) (k : IntKind) (e : TypeId) (i : TypeInfo) (bytes : Nat) (ht : P.underlying t = some (.slice e)) (hi : P.info? e = some i) (hz : i.zero = some (.int k 0)) (hsize : i.size = 1) (hby : i.bytes = bytes)
    (v : Value) (l xs : List Nat) (hacc : Acc k e w0 w v l) (hm0 : 0 < xs.length) (h63 : l.length + xs.length ≤ maxLen) (hbytes : (l.length + xs.length) * bytes ≤ 140737488355328) :
    ∃ v' w', (Builtin.append_ #[t, t] ty #[v, .slice (some ⟨w.heap.size, 0, none⟩) xs.length xs.length]).run P (w.alloc (.cells (cellsOf k xs).toArray e)) = .ok v' w' ∧ Acc k e w0 w' v' (l ++ xs) := by
  obtain ⟨zs, hown, htake⟩ := hacc.own
  have hb : Blk k e (w.alloc (.cells (cellsOf k xs).toArray e)) w.heap.size xs := by unfold Blk; rw [heap_alloc_new]
  have hown' := hown.kept (gr_alloc w (.cells (cellsOf k xs).toArray e) none) (by cases v.ownBlock with | none => exact .inl rfl | some g => exact .inr (by simp))
  obtain ⟨v', w', us, hrun, ho', hg, happ, hblk⟩ := run_append_blk (P := P) (w := w.alloc (.cells (cellsOf k xs).toArray e)) k e t ty i bytes ht hi hz hsize hby v l.length zs hown' w.heap.size 0 xs.length xs.length xs (fun j hj => hb.cell (by omega)) (by omega) hm0 h63 hbytes
  refine ⟨v', w', hrun, ⟨us, by rw [List.length_append]; exact ho', ?_⟩, ?_, ?_⟩
  · have hlu : l.length + xs.length ≤ us.length := by
      rcases ho' with ⟨_, h0, _⟩ | ⟨_, _, _, h1, _⟩
      · omega
      · exact h1
    have hlz : l.length ≤ zs.length := by
      have := congrArg List.length htake
      simp at this; omega
    apply gt_ext
    · simp; omega
    · intro j hj
      simp at hj
      rw [gt_take (by simp; omega)]
      by_cases h1 : j < l.length
      · rw [gt_append_left h1, happ.old j h1]
        rw [← gt_take (xs := zs) h1, htake]
      · rw [gt_append_right (by omega)]
        have := happ.new (j - l.length) (by omega)
        rw [Nat.zero_add, show l.length + (j - l.length) = j from by omega] at this
        exact this
  · rcases hblk with e1 | ⟨g, e1, e2⟩
    · rw [e1]; exact hacc.fresh
    · refine .inr ⟨g, e1, ?_⟩
      have h1 := hacc.gr.size
      simp at e2; omega
  · refine gr_trans (gr_then hacc.gr (gr_alloc w _ none)) hg (.inl rfl) ?_
    rcases hacc.fresh with e1 | ⟨g, e1, e2⟩
    · rw [e1]; exact .inl rfl
    · exact .inr (.inr fun j e3 => by rw [e1] at e3; cases e3; exact e2)

theorem wpList_acc {P : Program} {w0 w : World} {ops : Array Oper} {rest : List Oper} {o : Oper} {a : Act} {Q : Exit → Act → World → Prop} (hgd : o.guard = none) (s x : Operand) (t : TypeId)
    (ho : o.op = .call { callee := .builtin .append, args := #[s, x], argTypes := #[t, t] })
    (k : IntKind) (e : TypeId) (i : TypeInfo) (bytes : Nat) (ht : P.underlying t = some (.slice e)) (hi : P.info? e = some i) (hz : i.zero = some (.int k 0)) (hsize : i.size = 1) (hby : i.bytes = bytes)
    (v : Value) (l xs : List Nat) (hacc : Acc k e w0 w v l) (hs : a.eval s = v) (hx : a.eval x = .slice (some ⟨w.heap.size, 0, none⟩) xs.length xs.length) (hm0 : 0 < xs.length)
    (h63 : l.length + xs.length ≤ maxLen) (hbytes : (l.length + xs.length) * bytes ≤ 140737488355328)
    (h : ∀ v' w', Acc k e w0 w' v' (l ++ xs) → wpList P ops Q rest (a.put o.dst v') w') : wpList P ops Q (o :: rest) a (w.alloc (.cells (cellsOf k xs).toArray e)) := by
  refine wpList_plain hgd fun K hK => ?_
  obtain ⟨v', w', hr, h2⟩ := run_acc (P := P) t o.type k e i bytes ht hi hz hsize hby v l xs hacc hm0 h63 hbytes
  unfold Oper.wp execOp
  simp only [ho, resolve, invoke, builtin, Sem.run_bind, Sem.run_pure, Result.andThen_ok, List.map_toArray, List.map_cons, List.map_nil, hs, hx, hr]
  exact hK _ _ (h v' w' h2)

/-- The elements of such a list. -/
theorem Acc.some_ {k : IntKind} {e : TypeId} {w0 w : World} {v : Value} {l : List Nat} (h : Acc k e w0 w v l) (h0 : 0 < l.length) : ∃ g c, v = .slice (some ⟨g, 0, none⟩) l.length c ∧ w0.heap.size ≤ g ∧ l.length ≤ c ∧ c ≤ maxLen ∧ ∀ j, j < l.length → w.cell? ⟨g, 0 + j, none⟩ = some (.int k ((gt l j : Nat) : Int)) := by
  obtain ⟨zs, hown, ht⟩ := h.own
  rcases hown with ⟨_, h1, _⟩ | ⟨g, rfl, hb, h1, h2⟩
  · omega
  · refine ⟨g, _, rfl, ?_, h1, h2, fun j hj => ?_⟩
    · rcases h.fresh with e | ⟨g', e, e'⟩
      · cases e
      · simp only [Value.ownBlock, Option.some.injEq] at e; omega
    · rw [Nat.zero_add, hb.cell (by omega), ← ht, gt_take hj]
theorem Acc.none_ {k : IntKind} {e : TypeId} {w0 w : World} {v : Value} (h : Acc k e w0 w v []) : (∃ l c, v = .slice none l c) ∨ ∃ g c, v = .slice (some ⟨g, 0, none⟩) 0 c := by
  obtain ⟨zs, hown, ht⟩ := h.own
  rcases hown with ⟨rfl, h1, _⟩ | ⟨g, rfl, hb, h1, h2⟩
  · exact .inl ⟨_, _, rfl⟩
  · exact .inr ⟨g, _, rfl⟩
/-- Such a list of bytes as a string. -/
theorem Acc.str {P : Program} {w0 w : World} {v : Value} {l : List Nat} {e : TypeId} (h : Acc .u8 e w0 w v l) (src dst : TypeId) (hs : P.underlying src = some (.slice e)) (he : P.underlying e = some (.int .u8)) (hd : P.underlying dst = some .string) :
    Sem.run P (convert src dst v) w = .ok (.string ⟨(u8s l).toArray⟩) w := by
  have hn : strOfNums (l.map fun v : Nat => (v : Int)) = ⟨(u8s l).toArray⟩ := by simp [strOfNums, u8s]
  rcases Nat.eq_zero_or_pos l.length with h0 | h0
  · obtain rfl := List.eq_nil_of_length_eq_zero h0
    rcases h.none_ with ⟨a, c, rfl⟩ | ⟨g, c, rfl⟩
    · rw [run_convert_bytes_nil w src e hs he a c dst hd]; rfl
    · rw [run_convert_bytes_arg w src e hs he g 0 0 c [] rfl (fun i hi => by omega) dst hd]; rfl
  · obtain ⟨g, c, rfl, _, _, _, hc⟩ := h.some_ h0
    rw [run_convert_bytes_arg w src e hs he g 0 l.length c (l.map fun v : Nat => (v : Int)) (by simp) (fun j hj => by rw [hc j hj]; simp [gt, List.getD, hj]) dst hd, hn]

/-- A slice that holds just the numbers l, at the head of a block. -/
structure Ls (w : World) (a : Option Addr) (m c : Nat) (l : List Nat) : Prop where
  len : m = l.length
  mem : 0 < m → ∃ g zs, a = some ⟨g, 0, none⟩ ∧ Blk .i64 3 w g zs ∧ zs.length = c ∧ m ≤ c ∧ c ≤ maxLen ∧ zs.take m = l
/-- A slice with the digits of N to the base 2 ^ 24. -/
def RN (w : World) (v : Value) (N : Nat) : Prop := ∃ a m c, v = .slice a m c ∧ Ls w a m c (dgt N)
theorem Ls.kept {w w' : World} {a : Option Addr} {m c : Nat} {l : List Nat} (h : Ls w a m c l) (hg : w.grownBy w' none) : Ls w' a m c l := by
  refine ⟨h.len, fun h0 => ?_⟩
  obtain ⟨g, zs, h1, h2, h3⟩ := h.mem h0
  exact ⟨g, zs, h1, h2.kept hg (by simp), h3⟩
theorem RN.kept {w w' : World} {v : Value} {N : Nat} (h : RN w v N) (hg : w.grownBy w' none) : RN w' v N := by
  obtain ⟨a, m, c, rfl, h⟩ := h
  exact ⟨a, m, c, rfl, h.kept hg⟩
theorem Ls.at_ {w : World} {a : Option Addr} {m c i : Nat} {l : List Nat} (h : Ls w a m c l) (hi : i < m) : ∃ g, a = some ⟨g, 0, none⟩ ∧ m ≤ c ∧ c ≤ maxLen ∧ w.cell? ⟨g, 0 + i, none⟩ = some (.int .i64 ((gt l i : Nat) : Int)) := by
  obtain ⟨g, zs, h1, h2, h3, h4, h5, h6⟩ := h.mem (by omega)
  refine ⟨g, h1, h4, h5, ?_⟩
  rw [Nat.zero_add, h2.cell (by omega), ← h6, gt_take hi]
theorem Acc.ls {w0 w : World} {v : Value} {l : List Nat} (h : Acc .i64 3 w0 w v l) : ∃ a m c, v = .slice a m c ∧ Ls w a m c l := by
  obtain ⟨zs, hown, ht⟩ := h.own
  rcases hown with ⟨rfl, h0, _⟩ | ⟨g, rfl, hb, h1, h2⟩
  · exact ⟨none, 0, 0, rfl, h0.symm, fun h => by omega⟩
  · exact ⟨_, _, _, rfl, rfl, fun _ => ⟨g, zs, rfl, hb, rfl, h1, h2, ht⟩⟩
theorem Acc.rn {w0 w : World} {v : Value} {l : List Nat} {N : Nat} (h : Acc .i64 3 w0 w v l) (hl : l = dgt N) : RN w v N := by
  obtain ⟨a, m, c, h1, h2⟩ := h.ls
  exact ⟨a, m, c, h1, hl ▸ h2⟩
end Go.Proofs.YtoadjhmehgkeaaaDoor
