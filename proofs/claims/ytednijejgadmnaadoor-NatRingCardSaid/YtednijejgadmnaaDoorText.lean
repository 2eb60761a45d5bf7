/- nat.Text: the decimal numeral. -/
import Derived.Test.YtednijejgadmnaaDoorDec
namespace Go.Proofs.YtednijejgadmnaaDoor
open Go.RowKit Mth Go.Lib

theorem tab_gr {w w' : World} {name : String} {k : IntKind} {zs : List Int} (h : TabIs Tryd.prog w name k zs) (hg : w.grownBy w' none) : TabIs Tryd.prog w' name k zs := by
  unfold TabIs World.var? at *
  cases hq : Tryd.prog.globalNamed name with
  | none => simp [hq] at h
  | some g =>
    simp only [hq, Option.bind_some] at h ⊢
    have hlt : g < w.heap.size := by
      rcases Nat.lt_or_ge g w.heap.size with h' | h'
      · exact h'
      · rw [Array.getElem?_eq_none h'] at h; simp at h
    rw [hg.block g hlt (by simp)]
    exact h

theorem gr_low {B : Nat} {w w' : World} (h : w.grownBy w' none) (hB : B ≤ w.heap.size) : Below B w w' := ⟨h.os, h.tape, h.output, h.size, fun k hk => h.block k (by omega) (by simp)⟩
abbrev Tab (w : World) : Prop := Lib.TabIs Tryd.prog w "internal/strconv.uint64pow10" .u64 Lib.pow10Tab

set_option maxHeartbeats 4000000 in
set_option maxRecDepth 100000 in
theorem text_any (s : ByteArray) (w : World) (hs : s.size ≤ 1000000000000) (htab : Tab w) :
    Calls Tryd.prog 28 #[.string s] w fun e w' => e = .returned (.string ⟨(decDigits (num s.data.toList)).toArray⟩) ∧ w.grownBy w' none := by
  obtain ⟨N, hN⟩ : ∃ N, N = num s.data.toList := ⟨_, rfl⟩
  rw [← hN]
  have HN := Lib.hid hN
  clear hN
  go_enter Tryd.func28, Tryd.ntmps28
  go_wp2_with fail
  refine (wordsOf_any s w (by omega)).mono ?_
  rintro x w1 ⟨b1, ys, rfl, hlt1, hb1, hg1, hw1, hsz1⟩
  rw [← HN.out] at hw1
  have hat := NumAt.of_words hb1 hw1 (by omega)
  have HSZ := Lib.hid hsz1
  clear hb1 hw1 hsz1
  go_wp2_with fail
  refine (groupsOf_num b1 _ _ N ys w1 hat).mono ?_
  rintro x w2 ⟨⟨v, m, gs, rfl, hown, hblk, hval, hdg, htop, hm2⟩, hg2⟩
  have hgr2 : w.grownBy w2 none := gr_new hg1 hg2 hlt1
  have hm3 : m ≤ 274877906946 := by have := HSZ.out; omega
  have HV := Lib.hid hval
  have HD := Lib.hid hdg
  have HM := Lib.hid hm2
  have HT := Lib.hid htop
  have htab2 := tab_gr htab hgr2
  clear hat hval hdg hm2 htop htab
  rcases m with _ | m
  · have hN0 : N = 0 := by rw [← HV.out]; simp [vs]
    have hlen : ∃ x c, v = .slice x 0 c := by
      rcases hown with ⟨rfl, _⟩ | ⟨g, rfl, _⟩
      · exact ⟨_, _, rfl⟩
      · exact ⟨_, _, rfl⟩
    obtain ⟨x, c, rfl⟩ := hlen
    clear hown hblk
    subst hN0
    go_wp2
    go_ret
    exact ⟨by rw [decDigits_one (by omega)]; rfl, hgr2⟩
  · rcases hown with ⟨_, h0, _⟩ | ⟨g, rfl, hbg, h1, h2⟩
    · omega
    have hglt : g < w2.heap.size := hbg.lt
    have HBG := Lib.hid hbg
    have hb3 := hbg.alloc (.cells #[.pointer none, .slice none 0 0] 72)
    have hcell : (w2.alloc (.cells #[.pointer none, .slice none 0 0] 72)).cell? ⟨g, m, none⟩ = some (.int .u64 ((gt gs m : Nat) : Int)) := hb3.cell (by omega)
    have hdec : (((m + 1 : Nat) : Int) == 0) = false := by rw [beq_eq_false_iff_ne]; omega
    have hbld0 : Bld w2.heap.size w2.heap.size [] (w2.alloc (.cells #[.pointer none, .slice none 0 0] 72)) := Lib.fresh_isBuilder _ _ _
    have hbel0 : Below w2.heap.size w2 (w2.alloc (.cells #[.pointer none, .slice none 0 0] 72)) := (Below.refl _ _).alloc (Nat.le_refl _) _
    have HB0 := Lib.hid hbld0
    have HL0 := Lib.hid hbel0
    clear hbld0 hbel0 hb3 hbg hblk
    go_wp2_with fail
    have hlast : gt gs m < B19 := HD.out m (by omega)
    refine (formatUint_any (gt gs m) (by rw [B19_eq] at hlast; omega) _ (tab_gr htab2 (gr_alloc _ _ _))).mono ?_
    rintro x w3 ⟨rfl, k3, os3, rfl⟩
    have hg3 := gr_grow (w2.alloc (.cells #[.pointer none, .slice none 0 0] 72)) k3 os3 none
    have HB3 := Lib.hid (bld_kept HB0.out hg3)
    have HL3 := Lib.hid (HL0.out.trans (gr_low (B := w2.heap.size) hg3 (by simp)))
    clear HB0 HL0 hg3 hcell
    generalize hw3 : Go.Sort.grow ((w2.alloc (.cells #[.pointer none, .slice none 0 0] 72)).drewN k3) os3 = w3 at *
    clear hw3
    have hln : (decDigits (gt gs m)).length ≤ 19 := by
      rw [decDigits_length]; exact nDigits_le_of_lt 19 _ (by decide) (by rw [← show B19 = 10 ^ 19 from by decide]; exact hlast)
    have HLN := Lib.hid hln
    clear hln hlast
    go_wp2_with fail
    refine (writeString_any w2.heap.size w2.heap.size [] ⟨(decDigits (gt gs m)).toArray⟩ w3 HB3.out (by have := HLN.out; simp [ByteArray.size]; omega) HL3.out.size).mono ?_
    rintro x w4 ⟨rfl, hb4, hl4⟩
    have HB4 := Lib.hid (show Bld w2.heap.size w2.heap.size (tx gs (m + 1) 0) w4 from hb4)
    have HL4 := Lib.hid (HL3.out.trans hl4)
    clear hb4 hl4 HB3 HL3 HLN
    go_wp2
    go_loopw [6] (fun i wr => ∃ d, d < m + 1 ∧ i = .int .i64 ((m : Int) - 1 - d) ∧ Hid (Bld w2.heap.size w2.heap.size (tx gs (m + 1) d) wr) ∧ Hid (Below w2.heap.size w2 wr)) (fun i _ => (RowKit.intOf i + 1).toNat)
    case atStart => exact ⟨0, by omega, by simp, HB4, HL4⟩
    case round =>
      obtain ⟨d, hd, rfl, HB, HL⟩ := hrel
      by_cases hdm : d = m
      · subst hdm
        rw [show (d : Int) - 1 - d = -1 from by omega]
        go_wp2_with fail
        refine (Tryd.Builder_String_any w2.heap.size w2.heap.size (tx gs (d + 1) d) wr HB.out HL.out.size).mono ?_
        rintro x w5 ⟨rfl, hl5⟩
        have htx := tx_all (m := d + 1) HD.out (by have := HT.out; omega) (by omega)
        rw [HV.out, show d + 1 - 1 = d from rfl] at htx
        rw [htx]
        have hfin : w.grownBy w5 none := gr_then hgr2 (gr_below (HL.out.trans hl5) none)
        clear htx hl5
        go_wp2
        go_ret
        exact ⟨rfl, hfin⟩
      · obtain ⟨j, hj⟩ : ∃ j, m = j + 1 + d := ⟨m - 1 - d, by omega⟩
        rw [show (m : Int) - 1 - d = (j : Int) from by omega]
        have HJ := Lib.hid hj
        have hjm : j ≤ m := by omega
        have hjl : (j : Int) < (m : Int) + 1 := by omega
        have hbw := below_blk HL.out (Nat.le_refl _) HBG.out hglt
        have hcell : wr.cell? ⟨g, j, none⟩ = some (.int .u64 ((gt gs j : Nat) : Int)) := hbw.cell (by omega)
        have htabr := tab_gr htab2 (gr_below HL.out none)
        have hlast : gt gs j < B19 := HD.out j (by omega)
        have HTX := Lib.hid (show tx gs (m + 1) (d + 1) = tx gs (m + 1) d ++ (List.replicate (19 - nDigits (gt gs j)) 48 ++ decDigits (gt gs j)) from by
          rw [tx, show m + 1 - 2 - d = j from by omega])
        have HLEN := Lib.hid (show (tx gs (m + 1) d).length ≤ 5300000000000 from by
          have := tx_length HD.out d hd
          omega)
        clear hbw hj hdm
        go_wp2_with fail
        refine (formatUint_any (gt gs j) (by rw [B19_eq] at hlast; omega) _ htabr).mono ?_
        rintro x w5 ⟨rfl, k3, os3, rfl⟩
        have hg5 := gr_grow wr k3 os3 none
        have HB5 := Lib.hid (bld_kept HB.out hg5)
        have HL5 := Lib.hid (HL.out.trans (gr_low (B := w2.heap.size) hg5 HL.out.size))
        clear hg5 hcell
        generalize hw5 : Go.Sort.grow (wr.drewN k3) os3 = w5 at *
        clear hw5
        obtain ⟨t, ht⟩ : ∃ t : ByteArray, t = ⟨(decDigits (gt gs j)).toArray⟩ := ⟨_, rfl⟩
        have htl : t.data.toList = decDigits (gt gs j) := by rw [ht]
        have hts : t.size = nDigits (gt gs j) := by rw [← decDigits_length, ← htl]; rfl
        obtain ⟨c, hc⟩ : ∃ c, c + t.size = 19 := ⟨19 - t.size, by
          have := nDigits_le_of_lt 19 (gt gs j) (by decide) (by rw [← show B19 = 10 ^ 19 from by decide]; exact hlast)
          omega⟩
        have hci : ∀ z : Int, z = t.size → (19 : Int) - z = c := fun z hz => by omega
        rw [← ht]
        have HTL := Lib.hid htl
        have HTS := Lib.hid hts
        have htsz : t.size ≤ 19 := by omega
        have hc19 : c ≤ 19 := by omega
        have HC := Lib.hid hc
        clear ht htl hts hc
        go_wp2_with fail
        refine (Tryd.strings_Repeat ⟨#[48]⟩ c w5 (by omega) (by show 1 * c ≤ _; omega)).mono ?_
        rintro x w6 ⟨rfl, hl6⟩
        have HB6 := Lib.hid (bld_kept HB5.out (gr_below hl6 none))
        have HL6 := Lib.hid (HL5.out.trans (hl6.mono HL5.out.size))
        have hz : Lib.repeatL [48] c = List.replicate c 48 := by
          have := Lib.repeatL_replicate 48 1 c
          rwa [Nat.mul_one] at this
        rw [show (⟨#[48]⟩ : ByteArray).data.toList = [48] from rfl, hz]
        clear hl6 HB5 HL5
        go_wp2_with fail
        refine (writeString_any w2.heap.size w2.heap.size _ ⟨(List.replicate c 48).toArray⟩ w6 HB6.out (by have := HLEN.out; simp [ByteArray.size]; omega) HL6.out.size).mono ?_
        rintro x w7 ⟨rfl, hb7, hl7⟩
        have HB7 := Lib.hid hb7
        have HL7 := Lib.hid (HL6.out.trans hl7)
        clear hb7 hl7 HB6 HL6
        go_wp2_with fail
        refine (writeString_any w2.heap.size w2.heap.size _ t w7 HB7.out (by have := HLEN.out; simp; omega) HL7.out.size).mono ?_
        rintro x w8 ⟨rfl, hb8, hl8⟩
        have HB8 := Lib.hid (show Bld w2.heap.size w2.heap.size (tx gs (m + 1) (d + 1)) w8 from by
          rw [HTX.out, ← HTL.out]
          rw [show 19 - nDigits (gt gs j) = c from by have := HC.out; have := HTS.out; omega, ← List.append_assoc]
          exact hb8)
        have HL8 := Lib.hid (HL7.out.trans hl8)
        clear hb8 hl8 HB7 HL7
        go_wp2
        have := HJ.out
        refine ⟨⟨d + 1, by omega, by congr 1; omega, HB8, HL8⟩, ?_⟩
        show ((j : Int) - 1 + 1).toNat < ((j : Int) + 1).toNat
        omega
end Go.Proofs.YtednijejgadmnaaDoor
