/- The contract of nat.Gcd where the second number has at most one word. -/
import Derived.Test.YtednijejgadmnaaDoorQuo
import Derived.Deep.RegionWith
namespace Go.Proofs.YtednijejgadmnaaDoor
open Go.RowKit Mth

theorem gcd_zero (s t : ByteArray) (w : World) (hs : s.size ≤ 1000000000000) (ht : t.size ≤ 1000000000000) (h0 : num t.data.toList = 0) :
    Calls Tryd.prog 26 #[.string s, .string t] w fun e w' => e = .returned (.string ⟨(enc (num s.data.toList)).toArray⟩) ∧ w.grownBy w' none := by
  have H0 := Lib.hid h0
  clear h0
  go_enter Tryd.func26, Tryd.ntmps26
  go_wp2_with fail
  refine (wordsOf_any s w (by omega)).mono ?_
  rintro e w1 ⟨b1, xs, rfl, hlt1, hb1, hg1, hw1, hsz1⟩
  go_wp2_with fail
  refine (wordsOf_any t w1 (by omega)).mono ?_
  rintro e w2 ⟨b2, ys, rfl, hlt2, hb2, hg2, hw2, hsz2⟩
  have hpos : ys.length = 0 := by
    rcases Nat.eq_zero_or_pos ys.length with h | h
    · exact h
    · have := hw2.ge h; have := Nat.pow_pos (n := ys.length - 1) W64_pos; have := H0.out; omega
  have hn1 := (Num.of_words hb1 hw1 (by omega)).kept hg2
  rw [hpos]
  have HN1 := Lib.hid hn1
  clear hn1 hpos
  go_wp2_with fail
  go_loopw [5, 6] (fun u v wr => u = .slice (some ⟨b1, 0, none⟩) xs.length xs.length ∧ v = .slice (some ⟨b2, 0, none⟩) 0 0 ∧ wr = w2) (fun _ _ _ => 0)
  case atStart => exact ⟨rfl, rfl, rfl⟩
  case round =>
    obtain ⟨rfl, rfl, rfl⟩ := hrel
    go_wp2_with fail
    refine (natOf_num _ _ _ (.inr HN1.out)).mono ?_
    rintro e w3 ⟨rfl, hg3⟩
    go_wp2
    go_ret
    exact ⟨rfl, gr_then hg1 (gr_then hg2 hg3)⟩

theorem natOf_one (n : Nat) (w : World) (h : n < W64) :
    Calls Tryd.prog 29 #[.slice (some ⟨w.heap.size, 0, none⟩) 1 1] (w.alloc (.cells #[.int .u64 (n : Int)] 57)) fun e w' => e = .returned (.string ⟨(enc n).toArray⟩) ∧ w.grownBy w' none := by
  have := natOf_any w.heap.size 0 1 1 [n] _ (blk_one w .u64 57 n) (by simp) (dg_one h) (Nat.le_refl _) (by decide) (by omega)
  rw [vs_one] at this
  exact this.mono fun _ _ ⟨h1, h2⟩ => ⟨h1, gr_then (gr_alloc _ _ _) h2⟩

set_option maxHeartbeats 4000000 in
theorem gcd_word (s t : ByteArray) (w : World) (hs : s.size ≤ 1000000000000) (ht : t.size ≤ 1000000000000) (h0 : 0 < num t.data.toList) (h1 : num t.data.toList < W64) :
    Calls Tryd.prog 26 #[.string s, .string t] w fun e w' => e = .returned (.string ⟨(enc (Nat.gcd (num s.data.toList) (num t.data.toList))).toArray⟩) ∧ w.grownBy w' none := by
  obtain ⟨y, hy⟩ : ∃ y, y = num t.data.toList := ⟨_, rfl⟩
  have HY := Lib.hid hy
  rw [← hy] at h0 h1
  clear hy
  go_enter Tryd.func26, Tryd.ntmps26
  go_wp2_with fail
  refine (wordsOf_any s w (by omega)).mono ?_
  rintro e w1 ⟨b1, xs, rfl, hlt1, hb1, hg1, hw1, hsz1⟩
  go_wp2_with fail
  refine (wordsOf_any t w1 (by omega)).mono ?_
  rintro e w2 ⟨b2, ys, rfl, hlt2, hb2, hg2, hw2, hsz2⟩
  rw [← HY.out] at hw2
  have hpos : ys.length = 1 := (NumAt.of_words hb2 hw2 (by omega)).len_one h0 h1
  have hyv := (words_one hw2 hpos).1
  have hcell : w2.cell? ⟨b2, 0, none⟩ = some (.int .u64 (y : Int)) := by rw [hb2.cell (by omega), hyv]
  have hb1k := hb1.kept hg2 (by simp)
  have hne : b1 ≠ b2 := by have := hb1.lt; omega
  rw [hpos]
  have HW := Lib.hid hw1
  have hdx := hw1.dg
  have hg12 := gr_then hg1 hg2
  clear hpos hyv hw1 hw2
  go_wp2_with fail
  go_loopw [5, 6] (fun u v wr => u = .slice (some ⟨b1, 0, none⟩) xs.length xs.length ∧ v = .slice (some ⟨b2, 0, none⟩) 1 1 ∧ wr = w2) (fun _ _ _ => 0)
  case atStart => exact ⟨rfl, rfl, rfl⟩
  case round =>
    obtain ⟨rfl, rfl, rfl⟩ := hrel
    go_wp2_with fail
    go_region_with (first
      | (go_at_call 45; refine (divideInPlace_any b1 0 xs.length xs.length y xs _ (by exact hb1k) (by omega) hdx (by omega) h0 h1).mono ?_; rintro e w3 ⟨r, zs, rfl, hb3, hg3, hdv⟩; have hc3 := hg3.cell (a := ⟨b2, 0, none⟩) hcell (by simp; omega))
      | (go_at_call 44; refine (gcdOfWords_any y r _ h1 (Nat.lt_trans hdv.2.2.1 h1)).mono ?_; rintro e w4 ⟨rfl, hq4⟩; have hgW : Nat.gcd y r < W64 := Nat.lt_of_le_of_lt (Nat.gcd_le_left r h0) h1; generalize hG : Nat.gcd y r = gg at hgW; have HG := Lib.hid hG; clear hG)
      | (go_at_call 29; refine (natOf_one gg w4 hgW).mono ?_; rintro e w5 ⟨rfl, hg5⟩))
    all_goals
      go_wp2
      go_ret
      refine ⟨?_, ?_⟩
      · have hd4 := hdv.2.2.2
        rw [HW.out.val] at hd4
        have hgcd : gg = Nat.gcd (num s.data.toList) (num t.data.toList) := by
          have hmod : num s.data.toList % y = r := by rw [hd4, Nat.mul_add_mod, Nat.mod_eq_of_lt hdv.2.2.1]
          have hrec := Nat.gcd_rec y (num s.data.toList)
          rw [hmod] at hrec
          rw [← HG.out, ← HY.out, Nat.gcd_comm (num s.data.toList) y, hrec, Nat.gcd_comm]
        rw [← hgcd]; rfl
      · have hq := hq4.gr none
        have hga := gr_then hg12 (gr_drew _ none)
        exact gr_then (gr_then (gr_new hga hg3 hlt1) hq) hg5
end Go.Proofs.YtednijejgadmnaaDoor
