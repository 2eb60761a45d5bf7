/- nat.Pow for an odd modulus of one word. -/
import Derived.Test.YtednijejgadmnaaDoorOdd
namespace Go.Proofs.YtednijejgadmnaaDoor
open Go.RowKit Go.Shelf Mth

set_option maxHeartbeats 2000000 in
theorem pow_odd (s e t : ByteArray) (w : World) (hs : s.size ≤ 1000000000000) (he : e.size ≤ 1000000000000) (ht : t.size ≤ 1000000000000) (h1 : 0 < num t.data.toList) (hM : num t.data.toList < W64) (hodd : num t.data.toList % 2 = 1) :
    Calls Tryd.prog 25 #[.string s, .string e, .string t] w fun x w' => x = .returned (.tuple #[.string ⟨(enc (accP (num t.data.toList) (num s.data.toList % num t.data.toList) (bitsTop (num e.data.toList) (bitsN (num e.data.toList))))).toArray⟩, .bool true]) ∧ w.grownBy w' none := by
  obtain ⟨y, hy⟩ : ∃ y, y = num t.data.toList := ⟨_, rfl⟩
  have HY := Lib.hid hy
  rw [← hy] at h1 hM hodd ⊢
  have hacc0 := accP_lt h1 (num s.data.toList % y) (bitsTop (num e.data.toList) (bitsN (num e.data.toList)))
  have HACC0 := Lib.hid hacc0
  clear hacc0
  obtain ⟨acc, hacc⟩ : ∃ acc, acc = (⟨(enc (accP y (num s.data.toList % y) (bitsTop (num e.data.toList) (bitsN (num e.data.toList))))).toArray⟩ : ByteArray) := ⟨_, rfl⟩
  rw [← hacc]
  have HACC := Lib.hid hacc
  clear hy hacc
  go_enter Tryd.func25, Tryd.ntmps25
  go_wp2_with fail
  refine (wordsOf_any t w (by omega)).mono ?_
  rintro x w1 ⟨b1, ys, rfl, hlt1, hb1, hg1, hw1, hsz1⟩
  rw [← HY.out] at hw1
  have hpos : ys.length = 1 := (NumAt.of_words hb1 hw1 (by omega)).len_one (by omega) hM
  have hyv := (words_one hw1 hpos).1
  have hn1 := NumAt.of_words hb1 hw1 (by omega)
  have hcell : w1.cell? ⟨b1, 0, none⟩ = some (.int .u64 (y : Int)) := by rw [hb1.cell (by omega), hyv]
  rw [hpos] at hn1 ⊢
  have HN1 := Lib.hid hn1
  have HYV := Lib.hid hyv
  clear hn1 hpos hyv hw1 hsz1
  go_wp2_with fail
  refine (wordsOf_any s w1 (by omega)).mono ?_
  rintro x w2 ⟨b2, xs, rfl, hlt2, hb2, hg2, hw2, hsz2⟩
  have HN2 := Lib.hid (Num.of_words hb2 hw2 (by omega))
  have hcell2 := hg2.cell hcell (by simp)
  clear hcell
  have hnm2 : Num w2 (.slice (some ⟨b1, 0, none⟩) 1 1) y := ⟨b1, 0, 1, 1, ys, rfl, HN1.out.kept hg2 (by simp)⟩
  have HNM2 := Lib.hid hnm2
  clear hnm2
  go_wp2_with fail
  refine (divide_num _ _ _ _ w2 HN2.out HNM2.out (by omega) (.inr hM)).mono ?_
  rintro x w3 ⟨q, r, rfl, hq, hr, hg3⟩
  obtain ⟨g3, o3, m3, c3, zs, rfl, hr⟩ := hr
  have HR := Lib.hid hr
  have hle3 : m3 ≤ 1 := hr.len_le (by rw [Nat.pow_one]; have := Nat.mod_lt (num s.data.toList) h1; omega)
  have hcell3 := hg3.cell hcell2 (by simp)
  have hpar : (((y : Int) % 2) == 1) = true := by rw [beq_iff_eq]; omega
  clear hq hr hcell2
  go_wp2_with fail
  refine (powerByOdd_any b1 0 1 1 y ys g3 o3 m3 c3 _ zs e w3 ((HN1.out.kept hg2 (by simp)).kept hg3 (by simp)) (by rw [HYV.out]; exact hodd) (by omega) hM HR.out (by omega) (by omega) he).mono ?_
  rintro x w4 ⟨g4, o4, c4, us4, rfl, hnc4, hcm4, hb4, hf4, hd4, hv4, hg4⟩
  rw [Nat.mod_eq_of_lt HACC0.out] at hv4
  have HV4 := Lib.hid hv4
  have HF4 := Lib.hid (And.intro hnc4 (And.intro hcm4 (And.intro hb4 (And.intro hf4 hd4))))
  clear hv4 hnc4 hcm4 hb4 hf4 hd4
  go_wp2_with fail
  refine (natOf_any g4 o4 1 c4 us4 w4 HF4.out.2.2.1 HF4.out.2.2.2.1 HF4.out.2.2.2.2 HF4.out.1 HF4.out.2.1 (by omega)).mono ?_
  rintro x w5 ⟨rfl, hg5⟩
  rw [HV4.out, ← HACC.out]
  go_wp2
  go_ret2
  exact ⟨rfl, gr_then hg1 (gr_then hg2 (gr_then hg3 (gr_then hg4 hg5)))⟩
end Go.Proofs.YtednijejgadmnaaDoor
