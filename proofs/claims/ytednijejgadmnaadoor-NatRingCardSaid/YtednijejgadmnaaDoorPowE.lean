/- The contracts of nat.powerByEven, and of nat.Pow for an even modulus of one word. -/
import Derived.Test.YtednijejgadmnaaDoorPow
import Derived.Test.YtednijejgadmnaaDoorInt
namespace Go.Proofs.YtednijejgadmnaaDoor
open Go.RowKit Go.Shelf Mth

theorem num_single (w : World) (n : Nat) (h0 : n ≠ 0) (h : n < W64) : Num (w.alloc (.cells #[.int .u64 (n : Int)] 57)) (.slice (some ⟨w.heap.size, 0, none⟩) 1 1) n :=
  ⟨w.heap.size, 0, 1, 1, [n], rfl, blk_one w .u64 57 n, by simp, dg_one h, vs_one _ _, .inr (by simpa [gt] using h0), Nat.le_refl _, by decide, by omega⟩

theorem powerByEven_any (vb vm : Value) (b M : Nat) (e : ByteArray) (w : World) (hb : Num w vb b) (hm : Num w vm M) (h1 : 1 < M) (hM : M < W64) (hbM : b < M) (hsz : e.size ≤ 1000000000000) :
    Calls Tryd.prog 43 #[vb, .string e, vm] w fun x w' => ∃ r, x = .returned r ∧ Num w' r (accP M b (bitsTop (num e.data.toList) (bitsN (num e.data.toList)))) ∧ w.grownBy w' none := by
  have HB := Lib.hid hb
  have HM := Lib.hid hm
  obtain ⟨g2, o2, m2, c2, ys, rfl, hm⟩ := hm
  clear hb hm
  go_enter Tryd.func43, Tryd.ntmps43
  go_wp2_with fail
  have g2' := gr_then (gr_alloc w (.cells #[Value.slice (some ⟨g2, o2, none⟩) m2 c2] 51) none) (gr_alloc _ (.cells #[Value.int .u64 1] 57) none)
  have hone := num_single (w.alloc (.cells #[Value.slice (some ⟨g2, o2, none⟩) m2 c2] 51)) 1 (by decide) (by decide)
  rw [World.size_alloc] at hone
  have hcm := (gr_alloc (w.alloc (.cells #[Value.slice (some ⟨g2, o2, none⟩) m2 c2] 51)) (.cells #[Value.int .u64 1] 57) none).cell (cell_top w (.slice (some ⟨g2, o2, none⟩) m2 c2) 51) (by simp)
  refine (power_even vb _ _ b M w.heap.size e _ (HB.out.kept g2') hone (HM.out.kept g2') hcm h1 hM hbM hsz).mono ?_
  rintro x w' ⟨r, rfl, hr, hg⟩
  have HR := Lib.hid hr
  clear hr hone hcm
  go_wp2
  go_ret
  exact ⟨r, rfl, HR.out, gr_then g2' hg⟩

theorem pow_even (s e t : ByteArray) (w : World) (hs : s.size ≤ 1000000000000) (he : e.size ≤ 1000000000000) (ht : t.size ≤ 1000000000000) (h1 : 1 < num t.data.toList) (hM : num t.data.toList < W64) (hev : num t.data.toList % 2 = 0) :
    Calls Tryd.prog 25 #[.string s, .string e, .string t] w fun x w' => x = .returned (.tuple #[.string ⟨(enc (accP (num t.data.toList) (num s.data.toList % num t.data.toList) (bitsTop (num e.data.toList) (bitsN (num e.data.toList))))).toArray⟩, .bool true]) ∧ w.grownBy w' none := by
  obtain ⟨y, hy⟩ : ∃ y, y = num t.data.toList := ⟨_, rfl⟩
  have HY := Lib.hid hy
  rw [← hy] at h1 hM hev ⊢
  obtain ⟨acc, hacc⟩ : ∃ acc, acc = (⟨(enc (accP y (num s.data.toList % y) (bitsTop (num e.data.toList) (bitsN (num e.data.toList))))).toArray⟩ : ByteArray) := ⟨_, rfl⟩
  rw [← hacc]
  have HACC := Lib.hid hacc
  clear hy hacc
  go_enter Tryd.func25, Tryd.ntmps25
  go_wp2_with fail
  refine (wordsOf_any t w (by omega)).mono ?_
  rintro x w1 ⟨b1, ys, rfl, hlt1, hb1, hg1, hw1, hsz1⟩
  rw [← HY.out] at hw1
  have hpos : ys.length = 1 := (NumAt.of_words hb1 hw1 (by omega)).len_one (by omega) hM
  have hyv := (words_one hw1 hpos).1
  have hn1 := Num.of_words hb1 hw1 (by omega)
  have hcell : w1.cell? ⟨b1, 0, none⟩ = some (.int .u64 (y : Int)) := by rw [hb1.cell (by omega), hyv]
  rw [hpos] at hn1 ⊢
  have HN1 := Lib.hid hn1
  clear hn1 hpos hyv hw1 hsz1
  go_wp2_with fail
  refine (wordsOf_any s w1 (by omega)).mono ?_
  rintro x w2 ⟨b2, xs, rfl, hlt2, hb2, hg2, hw2, hsz2⟩
  have HN2 := Lib.hid (Num.of_words hb2 hw2 (by omega))
  have hcell2 := hg2.cell hcell (by simp)
  clear hcell
  go_wp2_with fail
  refine (divide_num _ _ _ _ w2 HN2.out (HN1.out.kept hg2) (by omega) (.inr hM)).mono ?_
  rintro x w3 ⟨q, r, rfl, hq, hr, hg3⟩
  have HQ := Lib.hid hq
  have HR := Lib.hid hr
  have hcell3 := hg3.cell hcell2 (by simp)
  have hpar : (((y : Int) % 2) == 1) = false := by rw [beq_eq_false_iff_ne]; omega
  clear hq hr hcell2
  go_wp2_with fail
  refine (powerByEven_any _ _ _ y e w3 HR.out ((HN1.out.kept hg2).kept hg3) h1 hM (Nat.mod_lt _ (by omega)) he).mono ?_
  rintro x w4 ⟨p, rfl, hp, hg4⟩
  have HP := Lib.hid hp
  clear hp
  go_wp2_with fail
  refine (natOf_num p _ w4 (.inr HP.out)).mono ?_
  rintro x w5 ⟨rfl, hg5⟩
  rw [← HACC.out]
  go_wp2
  go_ret2
  exact ⟨rfl, gr_then hg1 (gr_then hg2 (gr_then hg3 (gr_then hg4 hg5)))⟩
end Go.Proofs.YtednijejgadmnaaDoor
