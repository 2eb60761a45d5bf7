/- Contracts of the program and of the reference, part 8: Odd, PowO, Gcd, Lits, MulN, GcdG, Calls, Rv, Ra. -/
import Derived.Test.YteajpefbmiiioaaGreatDoorBRat7
import Derived.Deep.RegionHeld3
import Derived.Deep.RegionWith
import Derived.Outline
namespace Go.Proofs.YteajpefbmiiioaaGreatDoor
open Go.RowKit Mth

theorem Row.img {w : World} {g n M A : Nat} {us : List Nat} (h : Row w g n (A * W64 ^ n % M) us) : ImgOf w (.slice (some ⟨g, 0, none⟩) n n) n M A := ⟨g, 0, n, us, rfl, h.blk, by rw [h.len]; omega, h.dg, h.val⟩

theorem numAt_one (w : World) : NumAt (w.alloc (.cells #[.int .u64 1] 96)) w.heap.size 0 1 1 [1] 1 :=
  ⟨blk_one w .u64 96 1, by simp, dg_one (by decide), vs_one _ _, .inr (by simp [gt]), Nat.le_refl _, by decide, by omega⟩

set_option maxHeartbeats 16000000 in
set_option maxRecDepth 100000 in
theorem powerByOdd_any (bm om n cm M : Nat) (ms : List Nat) (ba oa na ca A : Nat) (xs : List Nat) (e : ByteArray) (w : World) (hm : NumAt w bm om n cm ms M) (hodd : gt ms om % 2 = 1) (hn0 : 0 < n) (ha : NumAt w ba oa na ca xs A) (hna : na ≤ 137438953473) (hn : n ≤ 137438953473) (hsz : e.size ≤ 1000000000000) :
    Calls Tryz.prog 89 #[.slice (some ⟨ba, oa, none⟩) na ca, .string e, .slice (some ⟨bm, om, none⟩) n cm] w fun x w' => ∃ g o c us, x = .returned (.slice (some ⟨g, o, none⟩) n c) ∧ n ≤ c ∧ c ≤ maxLen ∧ Blk .u64 96 w' g us ∧ o + n ≤ us.length ∧ Dg W64 us ∧ vs W64 us o n = accP M A (bitsTop (num e.data.toList) (bitsN (num e.data.toList))) % M ∧ w.grownBy w' none := by
  have hM0 : 0 < M := hm.pos hn0
  go_enter Tryz.func89, Tryz.ntmps89
  go_wp2_with fail
  refine (montgomeryBy_any bm om n cm M ms w hm hodd hn0).mono ?_
  rintro x w1 ⟨inv, rfl, hinv, hg1⟩
  unfold mval
  go_wp2_with fail
  obtain ⟨W2, hW2⟩ : ∃ W2, W2 = w1.alloc (.cells #[.slice (some ⟨bm, om, none⟩) n cm, .int .u64 (inv : Int)] 140) := ⟨_, rfl⟩
  have hbx : W2.heap[w1.heap.size]? = some (.cells #[.slice (some ⟨bm, om, none⟩) n cm, .int .u64 (inv : Int)] 140 (0, 0)) := by rw [hW2]; exact heap_alloc_new _ _
  have hg2 : w1.grownBy W2 none := by rw [hW2]; exact gr_alloc _ _ _
  rw [← hW2]
  clear hW2
  have hc0 : W2.drew.cell? ⟨w1.heap.size, 0, none⟩ = some (.slice (some ⟨bm, om, none⟩) n cm) := by rw [cell_of_row _ _ 0 _ _ _ (show W2.drew.heap[w1.heap.size]? = _ from hbx)]; rfl
  have hc1 : W2.drew.cell? ⟨w1.heap.size, 1, none⟩ = some (.int .u64 (inv : Int)) := by rw [cell_of_row _ _ 1 _ _ _ (show W2.drew.heap[w1.heap.size]? = _ from hbx)]; rfl
  have hgd : w.grownBy W2.drew none := gr_then hg1 (gr_then hg2 (gr_drew _ _))
  have HMd := Lib.hid (hm.kept hgd (by simp))
  have HAd := Lib.hid (ha.kept hgd (by simp))
  have hgo : W2.drew.grownBy (W2.alloc (.cells #[.int .u64 1] 96)).drew none := gr_alloc W2.drew (.cells #[.int .u64 1] 96) none
  have hone : NumAt (W2.alloc (.cells #[.int .u64 1] 96)).drew W2.heap.size 0 1 1 [1] 1 := numAt_one W2.drew
  have HONE0 := Lib.hid hone
  clear hone
  have hd0 := hgo.cell hc0 (by simp)
  have hd1 := hgo.cell hc1 (by simp)
  clear hbx hg2
  go_region_held3 (fun w' => w'.cell? ⟨w1.heap.size, 0, none⟩ = some (.slice (some ⟨bm, om, none⟩) n cm) ∧ w'.cell? ⟨w1.heap.size, 1, none⟩ = some (.int .u64 (inv : Int))) (first | exact ⟨hc0, hc1⟩ | exact ⟨hd0, hd1⟩ | go_keep)
    (first
      | (go_at_call_of 140 (Value.slice (some ⟨ba, oa, none⟩) na ca); have hp := image_any bm om n cm inv M ms ba oa na ca A xs W2.drew HMd.out hM0 HAd.out hna hn; unfold mval at hp; with_reducible refine hp.mono ?_; clear hp; rintro e4 w4 ⟨g4, us4, rfl, hlt4, hrow4, hg4⟩; have hi0 := hg4.cell hc0 (by simp); have hi1 := hg4.cell hc1 (by simp); have hgo4 := gr_alloc w4 (.cells #[.int .u64 1] 96) none; have hk0 := hgo4.cell hi0 (by simp); have hk1 := hgo4.cell hi1 (by simp); have HI4 := Lib.hid hrow4.img; have HM4 := Lib.hid ((HMd.out.kept hg4 (by simp)).kept hgo4 (by simp)); have HONE := Lib.hid (numAt_one w4); clear hrow4)
      | (go_at_call_of 140 (Value.slice (some ⟨ba, oa, none⟩) na ca); have hp := image_any bm om n cm inv M ms ba oa na ca A xs (W2.alloc (.cells #[.int .u64 1] 96)).drew (HMd.out.kept hgo (by simp)) hM0 (HAd.out.kept hgo (by simp)) hna hn; unfold mval at hp; with_reducible refine hp.mono ?_; clear hp; rintro e4 w4 ⟨g4, us4, rfl, hlt4, hrow4, hg4r⟩; have hk0 := hg4r.cell hd0 (by simp); have hk1 := hg4r.cell hd1 (by simp); have hg4 := gr_then hgo hg4r; have hgo4 := World.grownBy.refl w4 none; have HI4 := Lib.hid hrow4.img; have HM4 := Lib.hid ((HMd.out.kept hgo (by simp)).kept hg4r (by simp)); have HONE := Lib.hid (HONE0.out.kept hg4r (by simp)); clear hrow4)
      | (go_at_call_of 140 (Value.slice (some ⟨w4.heap.size, 0, none⟩) 1 1); have hp := image_any bm om n cm inv M ms w4.heap.size 0 1 1 1 [1] _ HM4.out hM0 HONE.out (by omega) hn; unfold mval at hp; refine hp.mono ?_; clear hp; rintro e5 w5 ⟨g5, us5, rfl, hlt5, hrow5, hg5⟩; have hl0 := hg5.cell hk0 (by simp); have hl1 := hg5.cell hk1 (by simp); have HI5 := Lib.hid hrow5.img; clear hrow5)
      | (go_at_call_of 140 (Value.slice (some ⟨W2.heap.size, 0, none⟩) 1 1); have hp := image_any bm om n cm inv M ms W2.heap.size 0 1 1 1 [1] w4 HM4.out hM0 HONE.out (by omega) hn; unfold mval at hp; refine hp.mono ?_; clear hp; rintro e5 w5 ⟨g5, us5, rfl, hlt5, hrow5, hg5⟩; have hl0 := hg5.cell hk0 (by simp); have hl1 := hg5.cell hk1 (by simp); have HI5 := Lib.hid hrow5.img; clear hrow5)
      | (go_at_call 139; have hp := power_mont (.slice (some ⟨g4, 0, none⟩) n n) (.slice (some ⟨g5, 0, none⟩) n n) bm om n cm inv M ms A e w5 ((HI4.out.kept hgo4).kept hg5) HI5.out (HM4.out.kept hg5 (by simp)) (by omega) hM0 hinv hsz; unfold mval at hp; refine hp.mono ?_; clear hp; rintro e6 w6 ⟨r6, rfl, hr6, hg6⟩; have hm0 := hg6.cell hl0 (by simp); have hm1 := hg6.cell hl1 (by simp); have HR6 := Lib.hid hr6; clear hr6)
      | (go_at_call 138; have hp := number_any bm om n cm inv M ms r6 _ w6 ((HM4.out.kept hg5 (by simp)).kept hg6 (by simp)) (by omega) hM0 hinv HR6.out; unfold mval at hp; refine hp.mono ?_; clear hp; rintro e7 w7 ⟨g7, o7, c7, us7, rfl, hnc7, hcm7, hb7, hf7, hd7, hv7, hg7⟩; have ho0 := hg7.cell hm0 (by simp); have ho1 := hg7.cell hm1 (by simp); have HU7 := Lib.hid (And.intro hnc7 (And.intro hcm7 (And.intro hb7 (And.intro hf7 (And.intro hd7 hv7))))); clear hnc7 hcm7 hb7 hf7 hd7 hv7))
  all_goals
    go_wp2
    go_ret
    exact ⟨g7, o7, c7, us7, rfl, HU7.out.1, HU7.out.2.1, HU7.out.2.2.1, HU7.out.2.2.2.1, HU7.out.2.2.2.2.1, HU7.out.2.2.2.2.2, gr_then hgd (gr_then hg4 (gr_then hgo4 (gr_then hg5 (gr_then hg6 hg7))))⟩
end Go.Proofs.YteajpefbmiiioaaGreatDoor
namespace Go.Proofs.YteajpefbmiiioaaGreatDoor
open Go.RowKit Go.Shelf Mth

set_option maxHeartbeats 2000000 in
theorem pow_odd (s e t : ByteArray) (w : World) (hs : s.size ≤ 1000000000000) (he : e.size ≤ 1000000000000) (ht : t.size ≤ 1000000000000) (h1 : 0 < num t.data.toList) (hodd : num t.data.toList % 2 = 1) :
    Calls Tryz.prog 30 #[.string s, .string e, .string t] w fun x w' => x = .returned (.tuple #[.string ⟨(enc (accP (num t.data.toList) (num s.data.toList % num t.data.toList) (bitsTop (num e.data.toList) (bitsN (num e.data.toList))))).toArray⟩, .bool true]) ∧ w.grownBy w' none := by
  obtain ⟨y, hy⟩ : ∃ y, y = num t.data.toList := ⟨_, rfl⟩
  have HY := Lib.hid hy
  rw [← hy] at h1 hodd ⊢
  have hacc0 := accP_lt h1 (num s.data.toList % y) (bitsTop (num e.data.toList) (bitsN (num e.data.toList)))
  have HACC0 := Lib.hid hacc0
  clear hacc0
  obtain ⟨acc, hacc⟩ : ∃ acc, acc = (⟨(enc (accP y (num s.data.toList % y) (bitsTop (num e.data.toList) (bitsN (num e.data.toList))))).toArray⟩ : ByteArray) := ⟨_, rfl⟩
  rw [← hacc]
  have HACC := Lib.hid hacc
  clear hy hacc
  go_enter Tryz.func30, Tryz.ntmps30
  go_wp2_with fail
  refine (wordsOf_any t w (by omega)).mono ?_
  rintro x w1 ⟨b1, ys, rfl, hlt1, hb1, hg1, hw1, hsz1⟩
  rw [← HY.out] at hw1
  have hpos : 0 < ys.length := words_pos hw1 h1
  obtain ⟨z, hz⟩ : ∃ z, z = gt ys 0 := ⟨_, rfl⟩
  have hpz : z % 2 = y % 2 := by rw [hz]; exact words_odd hw1 hpos
  have hM : y < W64 ^ ys.length := hw1.lt
  obtain ⟨n, hn⟩ : ∃ n, n = ys.length := ⟨_, rfl⟩
  have hn1 := NumAt.of_words hb1 hw1 (by omega)
  have hcell : w1.cell? ⟨b1, 0, none⟩ = some (.int .u64 (z : Int)) := by rw [hb1.cell hpos, hz]
  have hb0 : ((n : Int) == 0) = false := by rw [beq_eq_false_iff_ne]; omega
  have hnK : n ≤ 137438953473 := by omega
  rw [← hn] at hn1 hM hpos ⊢
  have HN1 := Lib.hid hn1
  have HZ := Lib.hid hz
  have HMY := Lib.hid hM
  clear hn1 hw1 hsz1 hz hM hn
  go_wp2_with fail
  refine (wordsOf_any s w1 (by omega)).mono ?_
  rintro x w2 ⟨b2, xs, rfl, hlt2, hb2, hg2, hw2, hsz2⟩
  have HN2 := Lib.hid (Num.of_words hb2 hw2 (by omega))
  have hcell2 := hg2.cell hcell (by simp)
  clear hcell
  have hnm2 : Num w2 (.slice (some ⟨b1, 0, none⟩) n n) y := ⟨b1, 0, n, n, ys, rfl, HN1.out.kept hg2 (by simp)⟩
  have HNM2 := Lib.hid hnm2
  clear hnm2
  go_wp2_with fail
  refine (divide_all _ _ _ _ w2 HN2.out HNM2.out (by omega)).mono ?_
  rintro x w3 ⟨q, r, rfl, hq, hr, hg3⟩
  obtain ⟨g3, o3, m3, c3, zs, rfl, hr⟩ := hr
  have HR := Lib.hid hr
  have hle3 : m3 ≤ n := hr.len_le (Nat.lt_trans (Nat.mod_lt _ h1) HMY.out)
  have hcell3 := hg3.cell hcell2 (by simp)
  have hpar : (((z : Int) % 2) == 1) = true := by rw [beq_iff_eq]; omega
  clear hq hr hcell2
  go_wp2_with fail
  refine (powerByOdd_any b1 0 n n y ys g3 o3 m3 c3 _ zs e w3 ((HN1.out.kept hg2 (by simp)).kept hg3 (by simp)) (by rw [← HZ.out]; omega) (by omega) HR.out (by omega) (by omega) he).mono ?_
  rintro x w4 ⟨g4, o4, c4, us4, rfl, hnc4, hcm4, hb4, hf4, hd4, hv4, hg4⟩
  rw [Nat.mod_eq_of_lt HACC0.out] at hv4
  have HV4 := Lib.hid hv4
  have HF4 := Lib.hid (And.intro hnc4 (And.intro hcm4 (And.intro hb4 (And.intro hf4 hd4))))
  clear hv4 hnc4 hcm4 hb4 hf4 hd4
  go_wp2_with fail
  refine (natOf_any g4 o4 n c4 us4 w4 HF4.out.2.2.1 HF4.out.2.2.2.1 HF4.out.2.2.2.2 HF4.out.1 HF4.out.2.1 (by omega)).mono ?_
  rintro x w5 ⟨rfl, hg5⟩
  rw [HV4.out, ← HACC.out]
  go_wp2
  go_ret2
  exact ⟨rfl, gr_then hg1 (gr_then hg2 (gr_then hg3 (gr_then hg4 hg5)))⟩
end Go.Proofs.YteajpefbmiiioaaGreatDoor
namespace Go.Proofs.YteajpefbmiiioaaGreatDoor
open Go.RowKit Mth

theorem gcd_zero (s t : ByteArray) (w : World) (hs : s.size ≤ 1000000000000) (ht : t.size ≤ 1000000000000) (h0 : num t.data.toList = 0) :
    Calls Tryz.prog 28 #[.string s, .string t] w fun e w' => e = .returned (.string ⟨(enc (num s.data.toList)).toArray⟩) ∧ w.grownBy w' none := by
  have H0 := Lib.hid h0
  clear h0
  go_enter Tryz.func28, Tryz.ntmps28
  go_wp2_with fail
  refine (wordsOf_any s w (by omega)).mono ?_
  rintro e w1 ⟨b1, xs, rfl, hlt1, hb1, hg1, hw1, hsz1⟩
  go_wp2_with fail
  refine (wordsOf_any t w1 (by omega)).mono ?_
  rintro e w2 ⟨b2, ys, rfl, hlt2, hb2, hg2, hw2, hsz2⟩
  have hpos : ys.length = 0 := by
    rcases Nat.eq_zero_or_pos ys.length with h | h
    · exact h
    · have := hw2.ge h; have := Nat.pow_pos (n := ys.length - 1) W64_pos; have := H0.out; omega
  have hn1 := (Num.of_words hb1 hw1 (by omega)).kept hg2
  rw [hpos]
  have HN1 := Lib.hid hn1
  clear hn1 hpos
  go_wp2_with fail
  go_loopw [5, 6] (fun u v wr => u = .slice (some ⟨b1, 0, none⟩) xs.length xs.length ∧ v = .slice (some ⟨b2, 0, none⟩) 0 0 ∧ wr = w2) (fun _ _ _ => 0)
  case atStart => exact ⟨rfl, rfl, rfl⟩
  case round =>
    obtain ⟨rfl, rfl, rfl⟩ := hrel
    go_wp2_with fail
    refine (natOf_num _ _ _ (.inr HN1.out)).mono ?_
    rintro e w3 ⟨rfl, hg3⟩
    go_wp2
    go_ret
    exact ⟨rfl, gr_then hg1 (gr_then hg2 hg3)⟩

theorem natOf_one (n : Nat) (w : World) (h : n < W64) :
    Calls Tryz.prog 73 #[.slice (some ⟨w.heap.size, 0, none⟩) 1 1] (w.alloc (.cells #[.int .u64 (n : Int)] 96)) fun e w' => e = .returned (.string ⟨(enc n).toArray⟩) ∧ w.grownBy w' none := by
  have := natOf_any w.heap.size 0 1 1 [n] _ (blk_one w .u64 96 n) (by simp) (dg_one h) (Nat.le_refl _) (by decide) (by omega)
  rw [vs_one] at this
  exact this.mono fun _ _ ⟨h1, h2⟩ => ⟨h1, gr_then (gr_alloc _ _ _) h2⟩

set_option maxHeartbeats 4000000 in
theorem gcd_word (s t : ByteArray) (w : World) (hs : s.size ≤ 1000000000000) (ht : t.size ≤ 1000000000000) (h0 : 0 < num t.data.toList) (h1 : num t.data.toList < W64) :
    Calls Tryz.prog 28 #[.string s, .string t] w fun e w' => e = .returned (.string ⟨(enc (Nat.gcd (num s.data.toList) (num t.data.toList))).toArray⟩) ∧ w.grownBy w' none := by
  obtain ⟨y, hy⟩ : ∃ y, y = num t.data.toList := ⟨_, rfl⟩
  have HY := Lib.hid hy
  rw [← hy] at h0 h1
  clear hy
  go_enter Tryz.func28, Tryz.ntmps28
  go_wp2_with fail
  refine (wordsOf_any s w (by omega)).mono ?_
  rintro e w1 ⟨b1, xs, rfl, hlt1, hb1, hg1, hw1, hsz1⟩
  go_wp2_with fail
  refine (wordsOf_any t w1 (by omega)).mono ?_
  rintro e w2 ⟨b2, ys, rfl, hlt2, hb2, hg2, hw2, hsz2⟩
  rw [← HY.out] at hw2
  have hpos : ys.length = 1 := (NumAt.of_words hb2 hw2 (by omega)).len_one h0 h1
  have hyv := (words_one hw2 hpos).1
  have hcell : w2.cell? ⟨b2, 0, none⟩ = some (.int .u64 (y : Int)) := by rw [hb2.cell (by omega), hyv]
  have hb1k := hb1.kept hg2 (by simp)
  have hne : b1 ≠ b2 := by have := hb1.lt; omega
  rw [hpos]
  have HW := Lib.hid hw1
  have hdx := hw1.dg
  have hg12 := gr_then hg1 hg2
  clear hpos hyv hw1 hw2
  go_wp2_with fail
  go_loopw [5, 6] (fun u v wr => u = .slice (some ⟨b1, 0, none⟩) xs.length xs.length ∧ v = .slice (some ⟨b2, 0, none⟩) 1 1 ∧ wr = w2) (fun _ _ _ => 0)
  case atStart => exact ⟨rfl, rfl, rfl⟩
  case round =>
    obtain ⟨rfl, rfl, rfl⟩ := hrel
    go_wp2_with fail
    go_region_with (first
      | (go_at_call 88; refine (divideInPlace_any b1 0 xs.length xs.length y xs _ (by exact hb1k) (by omega) hdx (by omega) h0 h1).mono ?_; rintro e w3 ⟨r, zs, rfl, hb3, hg3, hdv⟩; have hc3 := hg3.cell (a := ⟨b2, 0, none⟩) hcell (by simp; omega))
      | (go_at_call 87; refine (gcdOfWords_any y r _ h1 (Nat.lt_trans hdv.2.2.1 h1)).mono ?_; rintro e w4 ⟨rfl, hq4⟩; have hgW : Nat.gcd y r < W64 := Nat.lt_of_le_of_lt (Nat.gcd_le_left r h0) h1; generalize hG : Nat.gcd y r = gg at hgW; have HG := Lib.hid hG; clear hG)
      | (go_at_call 73; refine (natOf_one gg w4 hgW).mono ?_; rintro e w5 ⟨rfl, hg5⟩))
    all_goals
      go_wp2
      go_ret
      refine ⟨?_, ?_⟩
      · have hd4 := hdv.2.2.2
        rw [HW.out.val] at hd4
        have hgcd : gg = Nat.gcd (num s.data.toList) (num t.data.toList) := by
          have hmod : num s.data.toList % y = r := by rw [hd4, Nat.mul_add_mod, Nat.mod_eq_of_lt hdv.2.2.1]
          have hrec := Nat.gcd_rec y (num s.data.toList)
          rw [hmod] at hrec
          rw [← HG.out, ← HY.out, Nat.gcd_comm (num s.data.toList) y, hrec, Nat.gcd_comm]
        rw [← hgcd]; rfl
      · have hq := hq4.gr none
        have hga := gr_then hg12 (gr_drew _ none)
        exact gr_then (gr_then (gr_new hga hg3 hlt1) hq) hg5
end Go.Proofs.YteajpefbmiiioaaGreatDoor
namespace Go.Proofs.YteajpefbmiiioaaGreatDoor
open Go.RowKit Mth

abbrev Gives (f : FuncId) (args : Array Value) (w : World) (v : Value) : Prop := Calls Tryz.prog f args w fun e w' => e = .returned v ∧ w.grownBy w' none
theorem lit_of (n : Nat) (bs : List UInt8) (h : n ≤ 9223372036854775807) (hb : enc n = bs) (w : World) : Gives 69 #[.int .i64 (n : Int)] w (.string ⟨bs.toArray⟩) := by
  subst hb; exact of_any n w h
theorem lit_of_neg (w : World) : Gives 69 #[.int .i64 (-1)] w (.string ⟨#[]⟩) := by
  refine (of_neg (-1) w (by decide)).mono ?_
  rintro e w' ⟨h, rfl⟩
  exact ⟨h, World.grownBy.refl _ _⟩
theorem lit_int (w : World) : Gives 68 #[.string ⟨#[0, 1, 0]⟩] w (.tuple #[.int .i64 256, .bool true]) :=
  int_yes ⟨#[0, 1, 0]⟩ w (by decide) (by decide)
theorem lit_sub_no (w : World) : Gives 16 #[.string ⟨#[3]⟩, .string ⟨#[5]⟩] w (.tuple #[.string ⟨#[]⟩, .bool false]) :=
  sub_no ⟨#[3]⟩ ⟨#[5]⟩ w (by decide)
theorem lit_sub_yes (w : World) : Gives 16 #[.string ⟨#[5]⟩, .string ⟨#[3]⟩] w (.tuple #[.string ⟨#[2]⟩, .bool true]) := by
  have h := sub_yes ⟨#[5]⟩ ⟨#[3]⟩ w (by decide) (by decide) (by decide)
  rw [show enc (num (⟨#[5]⟩ : ByteArray).data.toList - num (⟨#[3]⟩ : ByteArray).data.toList) = [2] from by decide +kernel] at h
  exact h
theorem lit_quo (w : World) : Gives 26 #[.string ⟨#[3, 232]⟩, .string ⟨#[7]⟩] w (.tuple #[.string ⟨#[142]⟩, .string ⟨#[6]⟩, .bool true]) := by
  have h := quo_any ⟨#[3, 232]⟩ ⟨#[7]⟩ w (by decide) (by decide) (by decide) (.inr (by decide))
  rw [show enc (num (⟨#[3, 232]⟩ : ByteArray).data.toList / num (⟨#[7]⟩ : ByteArray).data.toList) = [142] from by decide +kernel, show enc (num (⟨#[3, 232]⟩ : ByteArray).data.toList % num (⟨#[7]⟩ : ByteArray).data.toList) = [6] from by decide +kernel] at h
  exact h
theorem lit_gcd (w : World) : Gives 28 #[.string ⟨#[12]⟩, .string ⟨#[18]⟩] w (.string ⟨#[6]⟩) := by
  have h := gcd_word ⟨#[12]⟩ ⟨#[18]⟩ w (by decide) (by decide) (by decide) (by decide)
  rw [show enc (Nat.gcd (num (⟨#[12]⟩ : ByteArray).data.toList) (num (⟨#[18]⟩ : ByteArray).data.toList)) = [6] from by decide +kernel] at h
  exact h
theorem lit_gcd0 (w : World) : Gives 28 #[.string ⟨#[]⟩, .string ⟨#[5]⟩] w (.string ⟨#[5]⟩) := by
  have h := gcd_word ⟨#[]⟩ ⟨#[5]⟩ w (by decide) (by decide) (by decide) (by decide)
  rw [show enc (Nat.gcd (num (⟨#[]⟩ : ByteArray).data.toList) (num (⟨#[5]⟩ : ByteArray).data.toList)) = [5] from by decide +kernel] at h
  exact h
theorem lit_pow (w : World) : Gives 30 #[.string ⟨#[3]⟩, .string ⟨#[200]⟩, .string ⟨#[3, 232]⟩] w (.tuple #[.string ⟨#[1]⟩, .bool true]) := by
  have h := pow_even ⟨#[3]⟩ ⟨#[200]⟩ ⟨#[3, 232]⟩ w (by decide) (by decide) (by decide) (by decide) (by decide)
  rw [show enc (accP (num (⟨#[3, 232]⟩ : ByteArray).data.toList) (num (⟨#[3]⟩ : ByteArray).data.toList % num (⟨#[3, 232]⟩ : ByteArray).data.toList) (bitsTop (num (⟨#[200]⟩ : ByteArray).data.toList) (bitsN (num (⟨#[200]⟩ : ByteArray).data.toList)))) = [1] from by decide +kernel] at h
  exact h
theorem lit_pow1 (w : World) : Gives 30 #[.string ⟨#[5]⟩, .string ⟨#[]⟩, .string ⟨#[1]⟩] w (.tuple #[.string ⟨#[]⟩, .bool true]) := by
  have h := pow_odd ⟨#[5]⟩ ⟨#[]⟩ ⟨#[1]⟩ w (by decide) (by decide) (by decide) (by decide) (by decide)
  rw [show enc (accP (num (⟨#[1]⟩ : ByteArray).data.toList) (num (⟨#[5]⟩ : ByteArray).data.toList % num (⟨#[1]⟩ : ByteArray).data.toList) (bitsTop (num (⟨#[]⟩ : ByteArray).data.toList) (bitsN (num (⟨#[]⟩ : ByteArray).data.toList)))) = [] from by decide +kernel] at h
  exact h
theorem lit_parse (w : World) : Gives 33 #[.string ⟨#[48, 48, 55]⟩] w (.tuple #[.string ⟨#[]⟩, .bool false]) :=
  parse_no ⟨#[48, 48, 55]⟩ w (by decide) (by decide)
theorem lit_text (w : World) (htab : Tab w) : Gives 32 #[.string ⟨#[1, 0, 0]⟩] w (.string ⟨#[54, 53, 53, 51, 54]⟩) := by
  have h := text_any ⟨#[1, 0, 0]⟩ w (by decide) htab
  rw [show Lib.decDigits (num (⟨#[1, 0, 0]⟩ : ByteArray).data.toList) = [54, 53, 53, 51, 54] from by decide +kernel] at h
  exact h

theorem lit_bits (n : Nat) (bs : List UInt8) (k : Nat) (w : World) (hn : num bs = n := by decide) (hk : bitsN n = k := by decide) (hs : bs.length ≤ 1000000000000 := by decide) : Gives 70 #[.string ⟨bs.toArray⟩] w (.int .i64 (k : Int)) := by
  subst hn hk
  refine (bits_any ⟨bs.toArray⟩ w (by show bs.toArray.size ≤ _; simpa using hs)).mono ?_
  rintro e w' ⟨h, rfl⟩
  exact ⟨by simpa using h, World.grownBy.refl _ _⟩

set_option maxHeartbeats 8000000 in
set_option maxRecDepth 100000 in
theorem sanity_true (w : World) (htab : Tab w) : Gives 14 #[] w (.bool true) := by
  go_enter Tryz.func14, Tryz.ntmps14
  go_wp2_with fail
  refine (lit_int _).mono ?_
  rintro e w0 ⟨rfl, h0⟩
  have hg := h0
  go_wp2_with fail
  refine (lit_of 256 [1, 0] (by decide) (by decide +kernel) _).mono ?_
  rintro e w1 ⟨rfl, h1⟩
  have hg := gr_then hg h1
  clear h1
  go_wp2_with fail
  refine (lit_of_neg _).mono ?_
  rintro e w2 ⟨rfl, h2⟩
  have hg := gr_then hg h2
  clear h2
  go_wp2_with fail
  refine (lit_of 3 [3] (by decide) (by decide +kernel) _).mono ?_
  rintro e w3 ⟨rfl, h3⟩
  have hg := gr_then hg h3
  clear h3
  go_wp2_with fail
  refine (lit_of 5 [5] (by decide) (by decide +kernel) _).mono ?_
  rintro e w4 ⟨rfl, h4⟩
  have hg := gr_then hg h4
  clear h4
  go_wp2_with fail
  refine (lit_sub_no _).mono ?_
  rintro e w5 ⟨rfl, h5⟩
  have hg := gr_then hg h5
  clear h5
  go_wp2_with fail
  refine (lit_of 5 [5] (by decide) (by decide +kernel) _).mono ?_
  rintro e w6 ⟨rfl, h6⟩
  have hg := gr_then hg h6
  clear h6
  go_wp2_with fail
  refine (lit_of 3 [3] (by decide) (by decide +kernel) _).mono ?_
  rintro e w7 ⟨rfl, h7⟩
  have hg := gr_then hg h7
  clear h7
  go_wp2_with fail
  refine (lit_sub_yes _).mono ?_
  rintro e w8 ⟨rfl, h8⟩
  have hg := gr_then hg h8
  clear h8
  go_wp2_with fail
  refine (lit_of 1000 [3, 232] (by decide) (by decide +kernel) _).mono ?_
  rintro e w9 ⟨rfl, h9⟩
  have hg := gr_then hg h9
  clear h9
  go_wp2_with fail
  refine (lit_of 7 [7] (by decide) (by decide +kernel) _).mono ?_
  rintro e w10 ⟨rfl, h10⟩
  have hg := gr_then hg h10
  clear h10
  go_wp2_with fail
  refine (lit_quo _).mono ?_
  rintro e w11 ⟨rfl, h11⟩
  have hg := gr_then hg h11
  clear h11
  go_wp2_with fail
  refine (lit_of 2 [2] (by decide) (by decide +kernel) _).mono ?_
  rintro e w12 ⟨rfl, h12⟩
  have hg := gr_then hg h12
  clear h12
  go_wp2_with fail
  refine (lit_of 142 [142] (by decide) (by decide +kernel) _).mono ?_
  rintro e w13 ⟨rfl, h13⟩
  have hg := gr_then hg h13
  clear h13
  go_wp2_with fail
  refine (lit_of 6 [6] (by decide) (by decide +kernel) _).mono ?_
  rintro e w14 ⟨rfl, h14⟩
  have hg := gr_then hg h14
  clear h14
  go_wp2_with fail
  refine (lit_of 12 [12] (by decide) (by decide +kernel) _).mono ?_
  rintro e w15 ⟨rfl, h15⟩
  have hg := gr_then hg h15
  clear h15
  go_wp2_with fail
  refine (lit_of 18 [18] (by decide) (by decide +kernel) _).mono ?_
  rintro e w16 ⟨rfl, h16⟩
  have hg := gr_then hg h16
  clear h16
  go_wp2_with fail
  refine (lit_gcd _).mono ?_
  rintro e w17 ⟨rfl, h17⟩
  have hg := gr_then hg h17
  clear h17
  go_wp2_with fail
  refine (lit_of 6 [6] (by decide) (by decide +kernel) _).mono ?_
  rintro e w18 ⟨rfl, h18⟩
  have hg := gr_then hg h18
  clear h18
  go_wp2_with fail
  refine (lit_of 5 [5] (by decide) (by decide +kernel) _).mono ?_
  rintro e w19 ⟨rfl, h19⟩
  have hg := gr_then hg h19
  clear h19
  go_wp2_with fail
  refine (lit_gcd0 _).mono ?_
  rintro e w20 ⟨rfl, h20⟩
  have hg := gr_then hg h20
  clear h20
  go_wp2_with fail
  refine (lit_of 5 [5] (by decide) (by decide +kernel) _).mono ?_
  rintro e w21 ⟨rfl, h21⟩
  have hg := gr_then hg h21
  clear h21
  go_wp2_with fail
  refine (lit_of 3 [3] (by decide) (by decide +kernel) _).mono ?_
  rintro e w22 ⟨rfl, h22⟩
  have hg := gr_then hg h22
  clear h22
  go_wp2_with fail
  refine (lit_of 200 [200] (by decide) (by decide +kernel) _).mono ?_
  rintro e w23 ⟨rfl, h23⟩
  have hg := gr_then hg h23
  clear h23
  go_wp2_with fail
  refine (lit_of 1000 [3, 232] (by decide) (by decide +kernel) _).mono ?_
  rintro e w24 ⟨rfl, h24⟩
  have hg := gr_then hg h24
  clear h24
  go_wp2_with fail
  refine (lit_pow _).mono ?_
  rintro e w25 ⟨rfl, h25⟩
  have hg := gr_then hg h25
  clear h25
  go_wp2_with fail
  refine (lit_of 5 [5] (by decide) (by decide +kernel) _).mono ?_
  rintro e w26 ⟨rfl, h26⟩
  have hg := gr_then hg h26
  clear h26
  go_wp2_with fail
  refine (lit_of 1 [1] (by decide) (by decide +kernel) _).mono ?_
  rintro e w27 ⟨rfl, h27⟩
  have hg := gr_then hg h27
  clear h27
  go_wp2_with fail
  refine (lit_pow1 _).mono ?_
  rintro e w28 ⟨rfl, h28⟩
  have hg := gr_then hg h28
  clear h28
  go_wp2_with fail
  refine (lit_parse _).mono ?_
  rintro e w29 ⟨rfl, h29⟩
  have hg := gr_then hg h29
  clear h29
  go_wp2_with fail
  refine (lit_of 255 [255] (by decide) (by decide +kernel) _).mono ?_
  rintro e w30 ⟨rfl, h30⟩
  have hg := gr_then hg h30
  clear h30
  go_wp2_with fail
  refine (lit_bits 255 [255] 8 _).mono ?_
  rintro e w31 ⟨rfl, h31⟩
  have hg := gr_then hg h31
  clear h31
  go_wp2_with fail
  refine (lit_of 256 [1, 0] (by decide) (by decide +kernel) _).mono ?_
  rintro e w32 ⟨rfl, h32⟩
  have hg := gr_then hg h32
  clear h32
  go_wp2_with fail
  refine (lit_bits 256 [1, 0] 9 _).mono ?_
  rintro e w33 ⟨rfl, h33⟩
  have hg := gr_then hg h33
  clear h33
  go_wp2_with fail
  refine (lit_of 1 [1] (by decide) (by decide +kernel) _).mono ?_
  rintro e w34 ⟨rfl, h34⟩
  have hg := gr_then hg h34
  clear h34
  go_wp2_with fail
  refine (lit_text _ (tab_gr htab hg)).mono ?_
  rintro e w35 ⟨rfl, h35⟩
  have hg := gr_then hg h35
  clear h35
  go_wp2
  go_ret
  exact ⟨rfl, hg⟩
end Go.Proofs.YteajpefbmiiioaaGreatDoor
namespace Go.Proofs.YteajpefbmiiioaaGreatDoor
open Go.RowKit Mth

theorem mul_any (s t : ByteArray) (w : World) (hs : s.size ≤ 1000000000000) (ht : t.size ≤ 1000000000000) :
    Calls Tryz.prog 108 #[.string s, .string t] w fun e w' => e = .returned (.string ⟨(enc (num s.data.toList * num t.data.toList)).toArray⟩) ∧ w.grownBy w' none := by
  go_enter Tryz.func108, Tryz.ntmps108
  go_wp2_with fail
  refine (wordsOf_any s w (by omega)).mono ?_
  rintro e w1 ⟨b1, xs, rfl, hlt1, hb1, hg1, hw1, hsz1⟩
  go_wp2_with fail
  refine (wordsOf_any t w1 (by omega)).mono ?_
  rintro e w2 ⟨b2, ys, rfl, hlt2, hb2, hg2, hw2, hsz2⟩
  go_wp2_with fail
  refine (product_any b1 0 xs.length xs.length b2 0 ys.length ys.length xs ys w2 (hb1.kept hg2 (by simp)) (by omega) hw1.dg hb2 (by omega) hw2.dg (by omega) (by omega)).mono ?_
  rintro e w3 ⟨b3, zs, rfl, hlt3, hb3, hg3, hd3, hl3, hv3⟩
  rw [hw1.val, hw2.val] at hv3
  have HV := Lib.hid hv3
  have hls : zs.length ≤ 1099511627776 := by omega
  clear hv3 hl3
  go_wp2_with fail
  refine (natOf_any b3 0 zs.length zs.length zs w3 hb3 (by omega) hd3 (Nat.le_refl _) (by unfold maxLen; omega) hls).mono ?_
  rintro e w4 ⟨rfl, hg4⟩
  go_wp2
  go_ret
  exact ⟨by rw [HV.out]; rfl, gr_then hg1 (gr_then hg2 (gr_then hg3 hg4))⟩
end Go.Proofs.YteajpefbmiiioaaGreatDoor
namespace Go.Proofs.YteajpefbmiiioaaGreatDoor
open Go.RowKit Mth

/-- The words that a block holds. -/
def natsAt (w : World) (b : Nat) : List Nat := match w.heap[b]? with
  | some (.cells cs _ _) => cs.toList.map fun | .int _ z => z.toNat | _ => 0
  | _ => []
def valAt (w : World) (v : Value) : Nat := match v with
  | .slice (some a) n _ => vs W64 (natsAt w a.block) a.off n
  | _ => 0
theorem NumAt.valAt {w : World} {g off m c N : Nat} {xs : List Nat} (h : NumAt w g off m c xs N) : valAt w (.slice (some ⟨g, off, none⟩) m c) = N := by
  have hb : w.heap[g]? = some (.cells (cellsOf .u64 xs).toArray 96 (0, 0)) := h.blk
  have e : natsAt w g = xs := by
    unfold natsAt
    rw [hb]
    simp only [cellsOf, List.map_map]
    conv => rhs; rw [← List.map_id xs]
    apply List.map_congr_left
    intro a _
    simp
  show vs W64 (natsAt w g) off m = N
  rw [e]; exact h.val

set_option maxHeartbeats 4000000 in
theorem gcd_all (s t : ByteArray) (w : World) (hs : s.size ≤ 1000000000000) (ht : t.size ≤ 1000000000000) :
    Calls Tryz.prog 28 #[.string s, .string t] w fun e w' => e = .returned (.string ⟨(enc (Nat.gcd (num s.data.toList) (num t.data.toList))).toArray⟩) ∧ w.grownBy w' none := by
  obtain ⟨G, hG⟩ : ∃ G, G = Nat.gcd (num s.data.toList) (num t.data.toList) := ⟨_, rfl⟩
  rw [← hG]
  have HG0 := Lib.hid hG
  clear hG
  go_enter Tryz.func28, Tryz.ntmps28
  go_wp2_with fail
  refine (wordsOf_any s w (by omega)).mono ?_
  rintro e w1 ⟨b1, xs, rfl, hlt1, hb1, hg1, hw1, hsz1⟩
  go_wp2_with fail
  refine (wordsOf_any t w1 (by omega)).mono ?_
  rintro e w2 ⟨b2, ys, rfl, hlt2, hb2, hg2, hw2, hsz2⟩
  have hn1 := (NumAt.of_words hb1 hw1 (by omega)).kept hg2 (by simp)
  have hn2 := NumAt.of_words hb2 hw2 (by omega)
  have hne : b1 ≠ b2 := by have := hb1.lt; omega
  have hg12 := gr_then hg1 hg2
  have hle2 : w.heap.size ≤ b2 := by have := hg1.size; omega
  have HN1 := Lib.hid hn1
  have HN2 := Lib.hid hn2
  clear hn1 hn2 hw1 hw2 hsz1 hsz2 hb1 hb2
  go_wp2_with fail
  go_loopw [5, 6] (fun u v wr => ∃ (g1 o1 m1 c1 : Nat) (xs : List Nat) (X g2 o2 m2 c2 : Nat) (ys : List Nat) (Y : Nat), u = .slice (some ⟨g1, o1, none⟩) m1 c1 ∧ v = .slice (some ⟨g2, o2, none⟩) m2 c2 ∧ NumAt wr g1 o1 m1 c1 xs X ∧ NumAt wr g2 o2 m2 c2 ys Y ∧ g1 ≠ g2 ∧ w.heap.size ≤ g1 ∧ w.heap.size ≤ g2 ∧ w.grownBy wr none ∧ Hid (Nat.gcd X Y = G)) (fun _ v wr => valAt wr v)
  case atStart => exact ⟨_, _, _, _, _, _, _, _, _, _, _, _, rfl, rfl, HN1.out, HN2.out, hne, hlt1, hle2, hg12, HG0.out.symm⟩
  case round =>
    obtain ⟨g1, o1, m1, c1, xs, X, g2, o2, m2, c2, ys, Y, rfl, rfl, h1, h2, hne, hlt1, hlt2, hg, HG⟩ := hrel
    clear hg12 hg1 hg2 hle2
    have H1 := Lib.hid h1
    have H2 := Lib.hid h2
    by_cases hm : 1 < m2
    · have hY0 : 0 < Y := h2.pos (by omega)
      have hmod := Nat.mod_lt X hY0
      have hva := h2.valAt
      have HVA := Lib.hid hva
      clear h1 h2 hva
      go_wp2_with fail
      refine (divide_allB _ _ X Y wr ⟨_, _, _, _, _, rfl, H1.out⟩ ⟨_, _, _, _, _, rfl, H2.out⟩ hY0).mono ?_
      rintro e w3 ⟨q, r, rfl, hq, hr, hg3, hwhere⟩
      obtain ⟨g3, o3, m3, c3, zs, rfl, h3⟩ := hr
      have hne3 : g2 ≠ g3 := by
        rcases hwhere with h | ⟨g', o', m', c', h, h'⟩
        · simp only [Value.slice.injEq, Option.some.injEq, Addr.mk.injEq] at h; omega
        · simp only [Value.slice.injEq, Option.some.injEq, Addr.mk.injEq] at h
          have := H2.out.blk.lt
          omega
      have hlt3 : w.heap.size ≤ g3 := by
        rcases hwhere with h | ⟨g', o', m', c', h, h'⟩
        · simp only [Value.slice.injEq, Option.some.injEq, Addr.mk.injEq] at h; omega
        · simp only [Value.slice.injEq, Option.some.injEq, Addr.mk.injEq] at h
          have := hg.size
          omega
      have H3 := Lib.hid h3
      clear hwhere h3 hq
      go_wp2
      refine ⟨⟨g2, o2, m2, c2, ys, Y, g3, o3, m3, c3, zs, X % Y, rfl, rfl, H2.out.kept hg3 (by simp), H3.out, hne3, hlt2, hlt3, gr_then hg hg3, ?_⟩, ?_⟩
      · show _ = _
        rw [← HG.out, Nat.gcd_comm X Y, Nat.gcd_rec Y X, Nat.gcd_comm]
      · rw [H3.out.valAt, HVA.out]; exact hmod
    · rcases Nat.eq_zero_or_pos m2 with h0 | h0
      · subst h0
        have hY : Y = 0 := by have := h2.val; simpa [vs] using this.symm
        have hGX : X = G := by have := HG.out; rw [hY, Nat.gcd_zero_right] at this; exact this
        have HGX := Lib.hid hGX
        clear h1 h2 hY hGX
        go_wp2_with fail
        refine (natOf_num _ _ _ (.inr ⟨_, _, _, _, _, rfl, H1.out⟩)).mono ?_
        rintro e w3 ⟨rfl, hg3⟩
        rw [HGX.out]
        go_wp2
        go_ret
        exact ⟨rfl, gr_then hg hg3⟩
      · obtain rfl : m2 = 1 := by omega
        have hY0 : 0 < Y := h2.pos (by omega)
        have hyv : gt ys o2 = Y := by have := h2.val; simpa [vs] using this
        have hYW : Y < W64 := hyv ▸ h2.dg o2
        have hcell : wr.cell? ⟨g2, o2, none⟩ = some (.int .u64 (Y : Int)) := by rw [h2.blk.cell (by have := h2.fit; omega), hyv]
        have hb1k := h1.blk
        have hf1 := h1.fit
        have hd1 := h1.dg
        have hs1 := h1.small
        clear h1 h2 hyv hm
        go_wp2_with fail
        go_region_with (first
          | (go_at_call 88; refine (divideInPlace_any g1 o1 m1 c1 Y xs _ (by exact hb1k) hf1 hd1 hs1 hY0 hYW).mono ?_; rintro e w3 ⟨r, zs, rfl, hb3, hg3, hdv⟩; have hc3 := hg3.cell (a := ⟨g2, o2, none⟩) hcell (by simp; omega))
          | (go_at_call 87; refine (gcdOfWords_any Y r _ hYW (Nat.lt_trans hdv.2.2.1 hYW)).mono ?_; rintro e w4 ⟨rfl, hq4⟩; have hgW : Nat.gcd Y r < W64 := Nat.lt_of_le_of_lt (Nat.gcd_le_left r hY0) hYW; generalize hGG : Nat.gcd Y r = gg at hgW; have HGG := Lib.hid hGG; clear hGG)
          | (go_at_call 73; refine (natOf_one gg w4 hgW).mono ?_; rintro e w5 ⟨rfl, hg5⟩))
        all_goals
          go_wp2
          go_ret
          refine ⟨?_, ?_⟩
          · have hd4 := hdv.2.2.2
            rw [H1.out.val] at hd4
            have hgcd : gg = G := by
              have hmod : X % Y = r := by rw [hd4, Nat.mul_add_mod, Nat.mod_eq_of_lt hdv.2.2.1]
              have hrec := Nat.gcd_rec Y X
              rw [hmod] at hrec
              rw [← HGG.out, ← HG.out, Nat.gcd_comm X Y, hrec, Nat.gcd_comm]
            rw [← hgcd]; rfl
          · have hq := hq4.gr none
            have hga := gr_then hg (gr_drew _ none)
            exact gr_then (gr_then (gr_new hga hg3 hlt1) hq) hg5
end Go.Proofs.YteajpefbmiiioaaGreatDoor
namespace Go.Proofs.YteajpefbmiiioaaGreatDoor
open Go.RowKit Mth

def S (n : Nat) : ByteArray := ⟨(enc n).toArray⟩
theorem s_num (n : Nat) : num (S n).data.toList = n := by unfold S; simp [num_enc]
theorem s_zero : S 0 = ⟨#[]⟩ := by unfold S; rw [enc_zero]
theorem enc_len : ∀ (k n : Nat), n < 256 ^ k → (enc n).length ≤ k
  | 0, n, h => by
    have : n = 0 := by simpa using h
    subst this; rw [enc_zero]; simp
  | k + 1, n, h => by
    by_cases h0 : n = 0
    · subst h0; rw [enc_zero]; simp
    · rw [enc_pos h0]
      rw [Nat.pow_succ] at h
      have := enc_len k (n / 256) (by omega)
      simp; omega
theorem s_size {n : Nat} (h : n < 256 ^ 200) : (S n).size ≤ 1000000000000 := by
  have := enc_len 200 n h
  have e : (S n).size = (enc n).length := by unfold S; show (enc n).toArray.size = _; simp
  omega
theorem s_add (s t : ByteArray) (m n : Nat) (w : World) (hm : num s.data.toList = m) (hn : num t.data.toList = n) (h1 : s.size ≤ 1000000000000) (h2 : t.size ≤ 1000000000000) : Gives 18 #[.string s, .string t] w (.string (S (m + n))) := by
  subst hm hn; exact add_any s t w h1 h2
theorem s_mul (s t : ByteArray) (m n : Nat) (w : World) (hm : num s.data.toList = m) (hn : num t.data.toList = n) (h1 : s.size ≤ 1000000000000) (h2 : t.size ≤ 1000000000000) : Gives 108 #[.string s, .string t] w (.string (S (m * n))) := by
  subst hm hn; exact mul_any s t w h1 h2
theorem s_sub (s t : ByteArray) (m n : Nat) (w : World) (hm : num s.data.toList = m) (hn : num t.data.toList = n) (h : n ≤ m) (h1 : s.size ≤ 1000000000000) (h2 : t.size ≤ 1000000000000) : Gives 16 #[.string s, .string t] w (.tuple #[.string (S (m - n)), .bool true]) := by
  subst hm hn; exact sub_yes s t w h h1 h2
theorem s_canon (s : ByteArray) (m : Nat) (w : World) (hm : num s.data.toList = m) (h1 : s.size ≤ 1000000000000) : Gives 35 #[.string s] w (.string (S m)) := by
  subst hm
  refine (canon_any s w h1).mono ?_
  rintro e w' ⟨rfl, rfl⟩
  exact ⟨by unfold S; rw [enc_num_canon], World.grownBy.refl _ _⟩
theorem bnum (a : ByteArray) (h : a.size ≤ 40) : num a.data.toList < 256 ^ 40 := by
  have h1 := num_lt a.data.toList
  rw [len_toList] at h1
  have h2 := Nat.pow_le_pow_right (n := 256) (by decide) h
  omega
theorem sz_add {A B : Nat} (hA : A < 256 ^ 40) (hB : B < 256 ^ 40) : A + B < 256 ^ 200 := by
  have h : 256 ^ 40 + 256 ^ 40 ≤ 256 ^ 200 := by decide
  omega
theorem sz_mul {A B : Nat} (hA : A < 256 ^ 40) (hB : B < 256 ^ 40) : A * B < 256 ^ 200 := by
  have h : 256 ^ 40 * 256 ^ 40 ≤ 256 ^ 200 := by decide
  exact Nat.lt_of_lt_of_le (Nat.mul_lt_mul'' hA hB) h
/-- What concordref01.Made makes of an argument. -/
def MadeAs (w : World) (v : Value) (a : ByteArray) : Prop := ∀ w', w.grownBy w' none → Calls Tryz.prog 15 #[v] w' fun e w'' => e = .returned (.string a) ∧ w' = w''


theorem s_quo (s t : ByteArray) (m n : Nat) (w : World) (hm : num s.data.toList = m) (hn : num t.data.toList = n) (h0 : 0 < n) (h1 : s.size ≤ 1000000000000) (h2 : t.size ≤ 1000000000000) : Gives 26 #[.string s, .string t] w (.tuple #[.string (S (m / n)), .string (S (m % n)), .bool true]) := by
  subst hm hn; exact quo_all s t w h1 h2 h0
theorem s_quo0 (s t : ByteArray) (w : World) (hn : num t.data.toList = 0) (h2 : t.size ≤ 1000000000000) : Gives 26 #[.string s, .string t] w (.tuple #[.string ⟨#[]⟩, .string ⟨#[]⟩, .bool false]) := quo_none s t w h2 hn
theorem s_gcd (s t : ByteArray) (m n : Nat) (w : World) (hm : num s.data.toList = m) (hn : num t.data.toList = n) (h1 : s.size ≤ 1000000000000) (h2 : t.size ≤ 1000000000000) : Gives 28 #[.string s, .string t] w (.string (S (Nat.gcd m n))) := by
  subst hm hn; exact gcd_all s t w h1 h2
theorem s_cmp (s t : ByteArray) (m n : Nat) (w : World) (hm : num s.data.toList = m) (hn : num t.data.toList = n) : Gives 20 #[.string s, .string t] w (.int .i64 (cmpN m n)) := by
  subst hm hn
  refine (cmp_any s t w).mono ?_
  rintro e w' ⟨rfl, rfl⟩
  exact ⟨rfl, World.grownBy.refl _ _⟩
theorem s_bits (s : ByteArray) (m : Nat) (w : World) (hm : num s.data.toList = m) (h1 : s.size ≤ 1000000000000) : Gives 70 #[.string s] w (.int .i64 ((bitsN m : Nat) : Int)) := by
  subst hm
  refine (bits_any s w h1).mono ?_
  rintro e w' ⟨rfl, rfl⟩
  exact ⟨rfl, World.grownBy.refl _ _⟩
theorem s_right (n : Nat) (w : World) : Gives 22 #[.string (S n)] w (.bool true) := by
  refine (right_any (S n) w).mono ?_
  rintro e w' ⟨rfl, rfl⟩
  refine ⟨?_, World.grownBy.refl _ _⟩
  rw [rtB_of_rt]
  unfold S
  simpa using rt_enc n
theorem bitsN_mul {a b : Nat} (ha : 0 < a) (hb : 0 < b) : bitsN a + bitsN b = bitsN (a * b) ∨ bitsN a + bitsN b = bitsN (a * b) + 1 := by
  have key : ∀ {x : Nat}, 0 < x → ∃ k, bitsN x = k + 1 ∧ 2 ^ k ≤ x ∧ x < 2 ^ (k + 1) := by
    intro x hx
    refine ⟨Nat.log2 x, by unfold bitsN; rw [if_neg (by omega)], Nat.log2_self_le (by omega), Nat.lt_log2_self⟩
  obtain ⟨j, j1, j2, j3⟩ := key ha
  obtain ⟨k, k1, k2, k3⟩ := key hb
  have h1 : 2 ^ (j + k) ≤ a * b := by rw [Nat.pow_add]; exact Nat.mul_le_mul j2 k2
  have h2 : a * b < 2 ^ (j + k + 2) := by
    rw [show j + k + 2 = (j + 1) + (k + 1) from by omega, Nat.pow_add]
    exact Nat.mul_lt_mul'' j3 k3
  rcases Nat.lt_or_ge (a * b) (2 ^ (j + k + 1)) with h | h
  · right; rw [bitsN_of h1 h, j1, k1]; omega
  · left; rw [bitsN_of h h2, j1, k1]; omega
end Go.Proofs.YteajpefbmiiioaaGreatDoor
namespace Go.Proofs.YteajpefbmiiioaaGreatDoor
open Go.RowKit Mth Go.Lib

theorem gr_rfl (w : World) : w.grownBy w none := ⟨rfl, rfl, rfl, Nat.le_refl _, fun _ _ _ => rfl⟩
theorem gr_al {W w : World} {o : Obj} (h : W.grownBy w none) : W.grownBy (w.alloc o) none := gr_then h (gr_alloc w o none)
theorem gr_dr {W w : World} (h : W.grownBy w none) : W.grownBy w.drew none := gr_then h (gr_drew w none)
theorem gr_one {a b : World} {o : Obj} (h : (a.alloc o).grownBy b none) : a.grownBy b none := gr_then (gr_alloc a o none) h
theorem gr_two {a b : World} {o p : Obj} (h : ((a.alloc o).alloc p).grownBy b none) : a.grownBy b none := gr_then (gr_then (gr_alloc a o none) (gr_alloc _ p none)) h
theorem gcell {W w1 : World} (hg : W.grownBy w1 none) : (∀ b o, b < W.heap.size → w1.cell? ⟨b, o, none⟩ = W.cell? ⟨b, o, none⟩) ∧ (∀ b o, b < W.heap.size → w1.frozen? ⟨b, o, none⟩ = W.frozen? ⟨b, o, none⟩) := by
  have hb : Below W.heap.size W w1 := ⟨hg.os, hg.tape, hg.output, hg.size, fun k hk => hg.block k hk (by simp)⟩
  exact ⟨fun b o h => hb.cell (p := ⟨b, o, none⟩) h, fun b o h => hb.frozen (p := ⟨b, o, none⟩) h⟩
theorem gr_three {a b : World} {o p q : Obj} (h : (((a.alloc o).alloc p).alloc q).grownBy b none) : a.grownBy b none := gr_then (gr_then (gr_then (gr_alloc a o none) (gr_alloc _ p none)) (gr_alloc _ q none)) h
theorem gr_setn {a b : World} {g i : Nat} {v : Value} (h : a.grownBy b none) (hg : a.heap.size ≤ g) : a.grownBy (b.setCell ⟨g, i, none⟩ v) none := gr_new h (gr_set _ _ _ _) hg
/-- A block of three cells. -/
def Three (w : World) (b : Nat) (x y z : Value) (t : TypeId) : Prop := w.heap[b]? = some (.cells #[x, y, z] t (0, 0))
section
variable {w w1 : World} {b b' i : Nat} {x y z v : Value} {t : TypeId}
theorem Three.lt (h : Three w b x y z t) : b < w.heap.size := (Array.getElem?_eq_some_iff.1 h).1
theorem Three.c0 (h : Three w b x y z t) : w.cell? ⟨b, 0, none⟩ = some x := by rw [cell_of_row w b 0 _ t (0, 0) h]; rfl
theorem Three.c1 (h : Three w b x y z t) : w.cell? ⟨b, 1, none⟩ = some y := by rw [cell_of_row w b 1 _ t (0, 0) h]; rfl
theorem Three.c2 (h : Three w b x y z t) : w.cell? ⟨b, 2, none⟩ = some z := by rw [cell_of_row w b 2 _ t (0, 0) h]; rfl
theorem Three.fr (h : Three w b x y z t) (i : Nat) : w.frozen? ⟨b, i, none⟩ = false := by
  simp only [World.frozen?]
  rw [show w.heap[b]? = some (.cells #[x, y, z] t (0, 0)) from h]
  simp
theorem Three.kept (h : Three w b x y z t) (hg : w.grownBy w1 none) : Three w1 b x y z t := by
  unfold Three at *; rw [hg.block b (Array.getElem?_eq_some_iff.1 h).1 (by simp)]; exact h
theorem Three.alloc (h : Three w b x y z t) (o : Obj) : Three (w.alloc o) b x y z t := h.kept (gr_alloc w o none)
theorem Three.drew (h : Three w b x y z t) : Three w.drew b x y z t := h
theorem Three.new (w : World) (x y z : Value) (t : TypeId) : Three (w.alloc (.cells #[x, y, z] t)) w.heap.size x y z t := heap_alloc_new w _
theorem Three.new1 (w : World) (o : Obj) (x y z : Value) (t : TypeId) : Three ((w.alloc o).alloc (.cells #[x, y, z] t)) (w.heap.size + 1) x y z t := by
  have h := Three.new (w.alloc o) x y z t
  rwa [show (w.alloc o).heap.size = w.heap.size + 1 from by simp] at h
theorem Three.new2 (w : World) (o p : Obj) (x y z : Value) (t : TypeId) : Three (((w.alloc o).alloc p).alloc (.cells #[x, y, z] t)) (w.heap.size + 1 + 1) x y z t := by
  have h := Three.new1 (w.alloc o) p x y z t
  rwa [show (w.alloc o).heap.size = w.heap.size + 1 from by simp] at h
theorem Three.other (h : Three w b x y z t) (hne : b ≠ b') : Three (w.setCell ⟨b', i, none⟩ v) b x y z t := by
  unfold Three at h ⊢
  rw [Below.heap_setCell _ _ _ _ hne]; exact h
theorem Three.s1 (h : Three w b x y z t) (v : Value) : Three (w.setCell ⟨b, 1, none⟩ v) b x v z t := by
  unfold Three at h ⊢
  rw [setCell_eq_setRow w b 1 _ t (0, 0) _ h, setRow_heap w b _ _ t (0, 0) h]; rfl
theorem Three.s2 (h : Three w b x y z t) (v : Value) : Three (w.setCell ⟨b, 2, none⟩ v) b x y v t := by
  unfold Three at h ⊢
  rw [setCell_eq_setRow w b 2 _ t (0, 0) _ h, setRow_heap w b _ _ t (0, 0) h]; rfl
theorem Three.s0 (h : Three w b x y z t) (v : Value) : Three (w.setCell ⟨b, 0, none⟩ v) b v y z t := by
  unfold Three at h ⊢
  rw [setCell_eq_setRow w b 0 _ t (0, 0) _ h, setRow_heap w b _ _ t (0, 0) h]; rfl
end
def RW (b : Bool) (m n : Nat) : Value := .agg #[.bool b, .string (S m), .string (S n)]
/-- The value that denotes a rational number. -/
def RV (q : Rat) : Value := RW (decide (q.num < 0)) q.num.natAbs q.den
/-- A block that holds a rational number. -/
abbrev RB (w : World) (b : Nat) (q : Rat) : Prop := Three w b (.bool (decide (q.num < 0))) (.string (S q.num.natAbs)) (.string (S q.den)) 49
/-- Numbers whose parts have at most k bytes. -/
def Bd (k : Nat) (q : Rat) : Prop := q.num.natAbs < 256 ^ k ∧ q.den < 256 ^ k
theorem s_sz {n k : Nat} (h : n < 256 ^ k) : (S n).size ≤ k := by
  have := enc_len k n h
  have e : (S n).size = (enc n).length := by unfold S; show (enc n).toArray.size = _; simp
  omega
theorem sz_ok {n k : Nat} (h : n < 256 ^ k) (hk : k ≤ 1000000) : (S n).size ≤ 1000000000 := by have := s_sz h; omega
theorem pow256_pos (k : Nat) : 0 < 256 ^ k := Nat.pow_pos (by decide)
theorem pow256_le {j k : Nat} (h : j ≤ k) : 256 ^ j ≤ 256 ^ k := Nat.pow_le_pow_right (by decide) h
theorem lt_mul256 {a b j k : Nat} (ha : a < 256 ^ j) (hb : b < 256 ^ k) : a * b < 256 ^ (j + k) := by
  rw [Nat.pow_add]; exact Nat.mul_lt_mul'' ha hb
theorem lt_le256 {a j k : Nat} (ha : a < 256 ^ j) (h : j ≤ k) : a < 256 ^ k := Nat.lt_of_lt_of_le ha (pow256_le h)
theorem lt_add256 {a b j : Nat} (ha : a < 256 ^ j) (hb : b < 256 ^ j) : a + b < 256 ^ (j + 1) := by
  rw [Nat.pow_succ]; omega
theorem lt_div256 {a j : Nat} (b : Nat) (ha : a < 256 ^ j) : a / b < 256 ^ j := Nat.lt_of_le_of_lt (Nat.div_le_self a b) ha
theorem lt_gcd256 {a j : Nat} (b : Nat) (hb : 0 < b) (ha : b < 256 ^ j) : Nat.gcd a b < 256 ^ j := Nat.lt_of_le_of_lt (Nat.gcd_le_right _ hb) ha
theorem lt_gcd256' {a j : Nat} (b : Nat) (hb : 0 < a) (ha : a < 256 ^ j) : Nat.gcd a b < 256 ^ j := Nat.lt_of_le_of_lt (Nat.gcd_le_left _ hb) ha
theorem rv_low (b : Bool) (m : Nat) {n : Nat} (hn : n ≠ 0) : RW (b && decide (m ≠ 0)) (m / Nat.gcd m n) (n / Nat.gcd m n) = RV (mkRat (sg b m) n) := by
  obtain ⟨h1, h2, h3⟩ := low_parts b m hn
  unfold RV; rw [h1, h2, h3]
theorem s_inj {m n : Nat} (h : S m = S n) : m = n := by
  have := s_num m; rw [h, s_num] at this; exact this.symm
theorem rw_inj {a b : Bool} {m n x y : Nat} (h : RW a m n = RW b x y) : a = b ∧ m = x ∧ n = y := by
  unfold RW at h
  simp only [Value.agg.injEq, Array.mk.injEq, List.cons.injEq, Value.bool.injEq, Value.string.injEq, and_true] at h
  exact ⟨h.1, s_inj h.2.1, s_inj h.2.2⟩
theorem rv_inj {p q : Rat} (h : RV p = RV q) : p = q := by
  obtain ⟨h1, h2, h3⟩ := rw_inj h
  exact rat_ext3 h1 h2 h3
theorem bd_mono {j k : Nat} {q : Rat} (h : Bd j q) (hk : j ≤ k) : Bd k q := ⟨lt_le256 h.1 hk, lt_le256 h.2 hk⟩
theorem bd_mul {j k : Nat} {p q : Rat} (hp : Bd j p) (hq : Bd k q) : Bd (j + k) (p * q) := by
  obtain ⟨h1, h2⟩ := mul_parts p q _ _ rfl rfl
  unfold Bd
  rw [h1, h2]
  exact ⟨lt_mul256 (lt_div256 _ hp.1) (lt_div256 _ hq.1), lt_mul256 (lt_div256 _ hp.2) (lt_div256 _ hq.2)⟩
theorem sg_le (a b : Bool) (m n : Nat) : (sg a m + sg b n).natAbs ≤ m + n := by unfold sg; split <;> split <;> omega
theorem bd_add {j k : Nat} {p q : Rat} (hp : Bd j p) (hq : Bd k q) : Bd (j + k + 1) (p + q) := by
  obtain ⟨h1, h2, _⟩ := sum_parts p q _ _ _ _ _ rfl rfl rfl rfl rfl
  unfold Bd
  rw [h1, h2]
  refine ⟨lt_div256 _ (Nat.lt_of_le_of_lt (sg_le _ _ _ _) (lt_add256 (lt_mul256 hp.1 (lt_div256 _ hq.2)) ?_)), lt_le256 (lt_mul256 (lt_div256 _ hp.2) (lt_div256 _ hq.2)) (by omega)⟩
  rw [Nat.add_comm j k]
  exact lt_mul256 hq.1 (lt_div256 _ hp.2)
theorem bd_neg {k : Nat} {q : Rat} (h : Bd k q) : Bd k (-q) := by
  obtain ⟨h1, h2, _⟩ := neg_parts q
  unfold Bd; rw [h1, h2]; exact h
theorem bd_inv {k : Nat} {q : Rat} (h : Bd k q) (h0 : q ≠ 0) : Bd k q⁻¹ := by
  obtain ⟨h1, h2, _⟩ := inv_parts h0
  unfold Bd; rw [h1, h2]; exact ⟨h.2, h.1⟩
theorem bd_low {b : Bool} {m n k : Nat} (hn : n ≠ 0) (h1 : m < 256 ^ k) (h2 : n < 256 ^ k) : Bd k (mkRat (sg b m) n) := by
  obtain ⟨e1, e2, _⟩ := low_parts b m hn
  unfold Bd; rw [e1, e2]; exact ⟨lt_div256 _ h1, lt_div256 _ h2⟩
end Go.Proofs.YteajpefbmiiioaaGreatDoor
namespace Go.Proofs.YteajpefbmiiioaaGreatDoor
open Go.RowKit Mth Go.Lib

theorem one_lit : S 1 = ⟨#[1]⟩ := by unfold S; rw [show enc 1 = [1] from by decide +kernel]
theorem s_empty {n : Nat} : S n = ⟨#[]⟩ ↔ n = 0 := by
  constructor
  · intro h; rw [← s_zero] at h; exact s_inj h
  · rintro rfl; exact s_zero
theorem s_lit1 {n : Nat} : S n = ⟨#[1]⟩ ↔ n = 1 := by
  constructor
  · intro h; rw [← one_lit] at h; exact s_inj h
  · rintro rfl; exact one_lit
theorem s_tl (n : Nat) : (S n).toList = enc n := by rw [ByteArray.toList_eq]; unfold S; simp
theorem tl_one {n : Nat} (h : n ≠ 1) : ((S n).toList == [1]) = false := by
  rw [s_tl, beq_eq_false_iff_ne]
  intro e
  rw [show ([1] : List UInt8) = enc 1 from by decide +kernel] at e
  exact h (by have := congrArg num e; rwa [num_enc, num_enc] at this)
theorem tl_ne {n : Nat} (h : n ≠ 0) : ¬ (S n).toList = [] := by
  rw [s_tl]
  intro e
  rw [← enc_zero] at e
  exact h (by have := congrArg num e; rwa [num_enc, num_enc] at this)
theorem tl_zero : (S 0).toList = [] := by rw [s_tl, enc_zero]
theorem tl_emp {n : Nat} (h : n ≠ 0) : (S n).toList.isEmpty = false := by
  rw [Bool.eq_false_iff, ne_eq, List.isEmpty_iff]; exact tl_ne h
theorem over_any (m d : Nat) (w : World) (h0 : 0 < d) (h1 : (S m).size ≤ 1000000000) (h2 : (S d).size ≤ 1000000000) : Gives 109 #[.string (S m), .string (S d)] w (.string (S (m / d))) := by
  by_cases hd : d = 1
  · subst hd
    rw [Nat.div_one, one_lit]
    go_enter Tryz.func109, Tryz.ntmps109
    go_wp2
    go_ret
    exact ⟨rfl, gr_rfl _⟩
  · have hne := tl_one hd
    go_enter Tryz.func109, Tryz.ntmps109
    go_wp2_with fail
    refine (s_quo (S m) (S d) m d _ (s_num _) (s_num _) h0 (by omega) (by omega)).mono ?_
    rintro e w1 ⟨rfl, hg⟩
    go_wp2
    go_ret
    exact ⟨rfl, hg⟩
theorem whole_any (b : Bool) (m : Nat) (w : World) : Gives 110 #[.bool b, .string (S m)] w (RW b m 1) := by
  unfold RW
  rw [one_lit]
  go_enter Tryz.func110, Tryz.ntmps110
  go_wp2
  exact bodyPost_ret (v := .agg #[.bool b, .string (S m), .string ⟨#[1]⟩]) (by simp [results, Tryz.results110, go_sem]) rfl ⟨rfl, gr_al (gr_rfl _)⟩
theorem sign_raw (b : Bool) (m n : Nat) (w : World) : Gives 107 #[RW b m n] w (.int .i64 (if b then -1 else if m = 0 then 0 else 1)) := by
  unfold RW
  cases b
  · by_cases h0 : m = 0
    · subst h0
      rw [s_zero]
      go_enter Tryz.func107, Tryz.ntmps107
      go_wp2
      go_ret
      exact ⟨rfl, gr_al (gr_rfl _)⟩
    · have e1 := tl_ne h0
      have e2 := tl_emp h0
      rw [if_neg h0]
      go_enter Tryz.func107, Tryz.ntmps107
      go_wp2
      go_ret
      exact ⟨rfl, gr_al (gr_rfl _)⟩
  · go_enter Tryz.func107, Tryz.ntmps107
    go_wp2
    go_ret
    exact ⟨rfl, gr_al (gr_rfl _)⟩
theorem sign_any (q : Rat) (w : World) : Gives 107 #[RV q] w (.int .i64 (sgnQ q)) := by
  refine (sign_raw _ _ _ w).mono ?_
  rintro e w' ⟨rfl, h⟩
  refine ⟨?_, h⟩
  unfold sgnQ
  by_cases h1 : q.num < 0 <;> by_cases h2 : q.num = 0 <;> simp [h1, h2]
theorem negative_raw (b : Bool) (m n : Nat) (w : World) : Gives 106 #[RW b m n] w (RW (!b && decide (m ≠ 0)) m n) := by
  unfold RW
  have key : ∀ c : Bool, (!b && !(S m).toList.isEmpty) = c → (!b && decide (m ≠ 0)) = c := by
    intro c h
    rw [← h]
    by_cases h0 : m = 0
    · subst h0; rw [s_tl, enc_zero]; simp
    · rw [tl_emp h0]; simp [h0]
  cases b
  · by_cases h0 : m = 0
    · subst h0
      rw [s_zero]
      go_enter Tryz.func106, Tryz.ntmps106
      go_wp2
      exact bodyPost_ret (v := .agg #[.bool false, .string ⟨#[]⟩, .string (S n)]) (by simp [results, Tryz.results106, go_sem]) rfl ⟨rfl, gr_al (gr_al (gr_rfl _))⟩
    · have e1 := tl_ne h0
      have e2 := tl_emp h0
      rw [show (!false && decide (m ≠ 0)) = true from by simp [h0]]
      go_enter Tryz.func106, Tryz.ntmps106
      go_wp2
      exact bodyPost_ret (v := .agg #[.bool true, .string (S m), .string (S n)]) (by simp [results, Tryz.results106, go_sem]) rfl ⟨rfl, gr_al (gr_al (gr_rfl _))⟩
  · go_enter Tryz.func106, Tryz.ntmps106
    go_wp2
    exact bodyPost_ret (v := .agg #[.bool false, .string (S m), .string (S n)]) (by simp [results, Tryz.results106, go_sem]) rfl ⟨rfl, gr_al (gr_al (gr_rfl _))⟩
theorem rv_neg (q : Rat) : RW (!decide (q.num < 0) && decide (q.num.natAbs ≠ 0)) q.num.natAbs q.den = RV (-q) := by
  obtain ⟨h1, h2, h3⟩ := neg_parts q
  unfold RV; rw [h1, h2, h3]
theorem negative_any (q : Rat) (w : World) : Gives 106 #[RV q] w (RV (-q)) := by
  rw [← rv_neg]; exact negative_raw _ _ _ w
set_option maxRecDepth 100000 in
theorem make_yes (b : Bool) (m n k : Nat) (w : World) (hn : n ≠ 0) (h1 : m < 256 ^ k) (h2 : n < 256 ^ k) (hk : k ≤ 1000000) : Gives 53 #[.bool b, .string (S m), .string (S n)] w (.tuple #[RV (mkRat (sg b m) n), .bool true]) := by
  rw [← rv_low b m hn]
  have hz : (m ≠ 0 ∧ ¬ (S m).toList = [] ∧ (S m).toList.isEmpty = false) ∨ (m = 0 ∧ S m = ⟨#[]⟩) := by
    by_cases e : m = 0
    · exact .inr ⟨e, s_empty.2 e⟩
    · exact .inl ⟨e, tl_ne e, tl_emp e⟩
  have hg0 : 0 < Nat.gcd m n := Nat.gcd_pos_of_pos_right _ (by omega)
  have HRm := Lib.hid (s_right m)
  have HRn := Lib.hid (s_right n)
  have z1 := sz_ok h1 hk
  have z2 := sz_ok h2 hk
  have z3 := sz_ok (lt_gcd256 (a := m) n (by omega) h2) hk
  have HG := Lib.hid (fun w => s_gcd (S m) (S n) m n w (s_num _) (s_num _) (by omega) (by omega))
  have HA := Lib.hid (fun w => over_any m (Nat.gcd m n) w hg0 z1 z3)
  have HB := Lib.hid (fun w => over_any n (Nat.gcd m n) w hg0 z2 z3)
  have e1 := tl_ne hn
  have e2 := tl_emp hn
  generalize Nat.gcd m n = g at HG HA HB ⊢
  generalize S g = sg at HG HA HB
  unfold RW
  generalize S (m / g) = xa at HA ⊢
  generalize S (n / g) = xb at HB ⊢
  clear hg0 h1 h2 hk hn z1 z2 z3
  have hT := Three.new w (.bool false) (.string ⟨#[]⟩) (.string ⟨#[]⟩) 49
  obtain ⟨c, hc, hb⟩ : ∃ c, (b && decide (m ≠ 0)) = c ∧ ((b = false ∧ c = false) ∨ (b = true ∧ c = true ∧ ¬ (S m).toList = [] ∧ (S m).toList.isEmpty = false) ∨ (b = true ∧ c = false ∧ (S m).toList = [] ∧ (S m).toList.isEmpty = true)) := by
    refine ⟨_, rfl, ?_⟩
    rcases hz with ⟨h0, h3, h4⟩ | ⟨h0, h3⟩
    · cases b
      · exact .inl ⟨rfl, rfl⟩
      · exact .inr (.inl ⟨rfl, by simp [h0], h3, h4⟩)
    · cases b
      · exact .inl ⟨rfl, rfl⟩
      · exact .inr (.inr ⟨rfl, by simp [h0], by rw [h0]; exact tl_zero, by rw [h0, tl_zero]; rfl⟩)
  rw [hc]
  clear hc hz
  rcases hb with ⟨rfl, rfl⟩ | ⟨rfl, rfl, h3, h4⟩ | ⟨rfl, rfl, h3, h4⟩
  all_goals
    go_enter Tryz.func53, Tryz.ntmps53
    go_wp2_with fail
    refine (HRm.out _).mono ?_
    rintro e w1 ⟨rfl, g1⟩
    have hT := hT.kept g1
    have G := Lib.hid (gr_one g1)
    clear g1
    go_wp2_with fail
    refine (HRn.out _).mono ?_
    rintro e w2 ⟨rfl, g1⟩
    have hT := hT.kept g1
    have G := Lib.hid (gr_then G.out g1)
    clear g1
    go_wp2_with fail
    refine (HG.out _).mono ?_
    rintro e w3 ⟨rfl, g1⟩
    have hT := hT.kept g1
    have G := Lib.hid (gr_then G.out g1)
    clear g1
    go_wp2_with fail
    refine (HA.out _).mono ?_
    rintro e w4 ⟨rfl, g1⟩
    have hT := hT.kept g1
    have G := Lib.hid (gr_then G.out g1)
    clear g1
    go_wp2_with fail
    refine (HB.out _).mono ?_
    rintro e w5 ⟨rfl, g1⟩
    have hT := hT.kept g1
    have G := Lib.hid (gr_then G.out g1)
    clear g1
    have f0 := hT.fr 0
    have f1 := hT.fr 1
    have f2 := hT.fr 2
    have c0 := hT.c0
    have c1 := hT.c1
    have c2 := hT.c2
    go_wp2
    exact bodyPost_ret (v := .tuple #[.agg #[.bool _, .string xa, .string xb], .bool true]) (by simp [results, Tryz.results53, go_sem, c0, c1, c2]) rfl ⟨rfl, gr_setn (gr_setn (gr_setn G.out (Nat.le_refl _)) (Nat.le_refl _)) (Nat.le_refl _)⟩
theorem bd_lt {k : Nat} {q : Rat} (h : Bd k q) (hk : k ≤ 1000000) : (S q.num.natAbs).size ≤ 1000000000 ∧ (S q.den).size ≤ 1000000000 := ⟨sz_ok h.1 hk, sz_ok h.2 hk⟩
set_option maxRecDepth 100000 in
theorem right_rv (q : Rat) (k : Nat) (w : World) (h : Bd k q) (hk : k ≤ 1000000) : Gives 58 #[RV q] w (.bool true) := by
  have HM := Lib.hid (fun w => make_yes (decide (q.num < 0)) q.num.natAbs q.den k w q.den_nz h.1 h.2 hk)
  rw [mk_self] at HM
  unfold RV RW at *
  generalize decide (q.num < 0) = b at *
  generalize S q.num.natAbs = x at *
  generalize S q.den = y at *
  clear h hk
  go_enter Tryz.func58, Tryz.ntmps58
  go_wp2_with fail
  refine (HM.out _).mono ?_
  rintro e w1 ⟨rfl, g1⟩
  have hT := (Three.new w (.bool b) (.string x) (.string y) 49).kept g1
  have c0 := hT.c0
  have c1 := hT.c1
  have c2 := hT.c2
  have hT2 := hT.alloc (.cells #[.bool b, .string x, .string y] 49)
  have d0 := hT2.c0
  have d1 := hT2.c1
  have d2 := hT2.c2
  go_wp2
  go_ret
  exact ⟨by simp, gr_al (gr_one g1)⟩
theorem wvalue_rv (q : Rat) (k : Nat) (b o : Nat) (w : World) (h : Bd k q) (hk : k ≤ 1000000) : Gives 113 #[.pointer (some ⟨b, o, none⟩), RV q] w (RV q) := by
  have HM := Lib.hid (fun w => right_rv q k w h hk)
  unfold RV RW at *
  generalize decide (q.num < 0) = a at *
  generalize S q.num.natAbs = x at *
  generalize S q.den = y at *
  clear h hk
  have hN := Three.new1 w (.cells #[.bool a, .string x, .string y] 49) (.bool false) (.string ⟨#[]⟩) (.string ⟨#[]⟩) 49
  have hO := (Three.new w (.bool a) (.string x) (.string y) 49).alloc (.cells #[.bool false, .string ⟨#[]⟩, .string ⟨#[]⟩] 49)
  go_enter Tryz.func113, Tryz.ntmps113
  go_wp2_with fail
  refine (HM.out _).mono ?_
  rintro e w1 ⟨rfl, g1⟩
  have hN := hN.kept g1
  have hO := hO.kept g1
  have c0 := hO.c0
  have c1 := hO.c1
  have c2 := hO.c2
  have f0 := hN.fr 0
  have f1 := hN.fr 1
  have f2 := hN.fr 2
  have k0 := hN.c0
  have k1 := hN.c1
  have k2 := hN.c2
  go_wp2
  exact bodyPost_ret (v := .agg #[.bool a, .string x, .string y]) (by simp [results, Tryz.results113, go_sem, k0, k1, k2]) rfl ⟨rfl, gr_setn (gr_setn (gr_setn (gr_two g1) (by omega)) (by omega)) (by omega)⟩
theorem value_rv (q : Rat) (k : Nat) (w : World) (h : Bd k q) (hk : k ≤ 1000000) : Gives 102 #[RV q] w (RV q) := by
  have HM := Lib.hid (fun b w => wvalue_rv q k b 0 w h hk)
  unfold RV RW at *
  generalize decide (q.num < 0) = a at *
  generalize S q.num.natAbs = x at *
  generalize S q.den = y at *
  clear h hk
  have hN := (Three.new1 w (.cells #[.bool a, .string x, .string y] 49) (.bool false) (.string ⟨#[]⟩) (.string ⟨#[]⟩) 49).alloc (.cells #[.bool false] 118)
  go_enter Tryz.func102, Tryz.ntmps102
  go_wp2_with fail
  refine (HM.out _ _).mono ?_
  rintro e w1 ⟨rfl, g1⟩
  have hN := hN.kept g1
  have f0 := hN.fr 0
  have f1 := hN.fr 1
  have f2 := hN.fr 2
  have k0 := hN.c0
  have k1 := hN.c1
  have k2 := hN.c2
  go_wp2
  exact bodyPost_ret (v := .agg #[.bool a, .string x, .string y]) (by simp [results, Tryz.results102, go_sem, k0, k1, k2]) rfl ⟨rfl, gr_setn (gr_setn (gr_setn (gr_three g1) (by omega)) (by omega)) (by omega)⟩
end Go.Proofs.YteajpefbmiiioaaGreatDoor
