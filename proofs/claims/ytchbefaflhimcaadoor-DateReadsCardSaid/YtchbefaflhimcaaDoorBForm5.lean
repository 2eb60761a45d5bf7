/- Contracts of the program and of the reference, part 5: RForm. -/
import Derived.Test.YtchbefaflhimcaaDoorBForm4
namespace Go.Proofs.YtchbefaflhimcaaDoor
open Go.RowKit Mth

theorem parts_slice {W : World} {base : Nat} {v : Value} {ts : List Tok} (h : W.ownsRow base 9 1 v ts.length (tokV ts)) (h0 : 0 < ts.length) : ∃ g cap, v = .slice (some ⟨g, 0, none⟩) ts.length cap ∧ base ≤ g ∧ ts.length ≤ cap ∧ cap ≤ 9223372036854775807 ∧ ∀ k (hk : k < ts.length), W.cell? ⟨g, k, none⟩ = some (.string ⟨ts[k].txt.toArray⟩) := by
  rcases h.2 with ⟨_, h1⟩ | ⟨g, cap, cur, rfl, hb, hgh, h1, h2, h3, h4⟩
  · omega
  · refine ⟨g, cap, rfl, hb, h1, h2, fun k hk => ?_⟩
    rw [cell_of_row _ _ _ _ _ _ hgh]
    have e : (cur.toList.take (ts.length * 1))[k]? = (tokV ts)[k]? := by rw [h4]
    rw [List.getElem?_take] at e
    rw [if_pos (by omega)] at e
    simp only [tokV, List.getElem?_map, List.getElem?_eq_getElem hk, Option.map_some] at e
    simpa using e
theorem right_toks {l : List UInt8} (h : isRightL l = true) : 0 < (toks l).length ∧ (toks l).length ≤ 40 := by
  have hf := full_of h
  have h1 := right_len h
  have h2 := toks_length l
  refine ⟨?_, by omega⟩
  rcases Nat.eq_zero_or_pos (toks l).length with h3 | h3
  · have := hf.y
    rw [List.length_eq_zero_iff.1 h3] at this
    simp at this
  · exact h3

set_option maxRecDepth 100000 in
set_option maxHeartbeats 4000000 in
theorem rformat_any (lay : ByteArray) (n : Int) (w : World) :
    Calls Tryd.prog 31 #[.string lay, .int .i64 n] w fun e w' => e = .returned (.tuple #[.string ⟨(formD lay.data.toList n).1.toArray⟩, .bool (formD lay.data.toList n).2]) ∧ w.grownBy w' none := by
  have hci := rcivil_any n w
  have HCI := Lib.hid hci
  clear hci
  by_cases hb : isN n = true ∧ isRightL lay.data.toList = true
  · obtain ⟨hn, hr⟩ := hb
    have hc : civD n = .tuple #[.int .i64 ((civ n.toNat).1 : Nat), .int .i64 ((civ n.toNat).2.1 : Nat), .int .i64 ((civ n.toNat).2.2 : Nat), .bool true] := by unfold civD; rw [hn]; rfl
    have HC := Lib.hid hc
    have hn2 : n.toNat ≤ 3652058 := by unfold isN at hn; rw [decide_eq_true_eq] at hn; omega
    have hsm := civ_small hn2
    have hf : formD lay.data.toList n = (fmt (civ n.toNat) (toks lay.data.toList), true) := by unfold formD; rw [hn, hr]; rfl
    rw [hf]
    obtain ⟨c, hcc⟩ : ∃ c, c = civ n.toNat := ⟨_, rfl⟩
    rw [← hcc] at HC hsm ⊢
    have HR := Lib.hid hr
    have hl40 : lay.size ≤ 40 := right_len hr
    obtain ⟨ht0, ht40⟩ := right_toks hr
    have HREAL := Lib.hid (toks_real lay.data.toList)
    have HFL := Lib.hid (fun i => fmt_le hsm ((toks lay.data.toList).take i))
    clear hf hc hn hn2 hr hcc
    obtain ⟨s1, s2, s3⟩ := hsm
    go_enter Tryd.func31, Tryd.ntmps31
    go_wp2_with fail
    refine HCI.out.mono ?_
    rintro e w' ⟨rfl, rfl⟩
    rw [HC.out]
    go_wp2_with fail
    refine (rright_l lay w).mono ?_
    rintro e w1 ⟨rfl, hg1⟩
    rw [HR.out]
    go_wp2_with fail
    refine (rparts_any lay w1 hl40).mono ?_
    rintro e w2 ⟨⟨v, rfl, hown⟩, hg2⟩
    obtain ⟨g, cap, rfl, hgb, hcap1, hcap2, hcell⟩ := parts_slice hown ht0
    have hg := gr_then hg1 hg2
    generalize hts : toks lay.data.toList = ts at *
    have HTS := Lib.hid hts
    clear hts
    obtain ⟨nn, hnn⟩ : ∃ nn, nn = ts.length := ⟨_, rfl⟩
    rw [← hnn] at ht0 ht40 hcap1 ⊢
    have HN := Lib.hid hnn
    have HC0 := Lib.hid hcell
    clear hown hcell hg1 hg2 hgb hnn HR
    go_wp2
    go_loopw [11, 13] (fun o u wr => ∃ (k : Nat) (t : ByteArray), k ≤ nn ∧ o = .string t ∧ u = .int .i64 (k : Int) ∧ Hid (t.data.toList = fmt c (ts.take k)) ∧ t.size ≤ 160 ∧ Hid (∀ j (hj : j < ts.length), wr.cell? ⟨g, j, none⟩ = some (.string ⟨ts[j].txt.toArray⟩)) ∧ w.grownBy wr none) (fun _ u _ => nn - (intOf u).toNat)
    case atStart => exact ⟨0, ⟨#[]⟩, by omega, rfl, rfl, Lib.hid (by simp [fmt_nil]), by decide, HC0, hg⟩
    case round =>
      obtain ⟨k, t, hk, rfl, rfl, HT, hts, HCC, hgr⟩ := hrel
      by_cases hlt : k < nn
      · have hkl : k < ts.length := by rw [← HN.out]; exact hlt
        obtain ⟨x, hx⟩ : ∃ x, x = ts[k] := ⟨_, rfl⟩
        have hck := HCC.out k hkl
        rw [← hx] at hck
        have hxr : Tok_real x = true := by rw [hx]; exact HREAL.out _ (List.getElem_mem _)
        have htk : ts.take (k + 1) = ts.take k ++ [x] := by rw [List.take_add_one, List.getElem?_eq_getElem hkl, hx]; rfl
        have hI : ∀ (t' : ByteArray) (W' : World), t'.data.toList = t.data.toList ++ wrt c x → wr.grownBy W' none → ∃ (k' : Nat) (t : ByteArray), k' ≤ nn ∧ Value.string t' = .string t ∧ Value.int .i64 ((k : Int) + 1) = .int .i64 (k' : Int) ∧ Hid (t.data.toList = fmt c (ts.take k')) ∧ t.size ≤ 160 ∧ Hid (∀ j (hj : j < ts.length), W'.cell? ⟨g, j, none⟩ = some (.string ⟨ts[j].txt.toArray⟩)) ∧ w.grownBy W' none := by
          intro t' W' h1 h2
          have h3 : t'.data.toList = fmt c (ts.take (k + 1)) := by rw [h1, HT.out, htk, fmt_snoc]
          refine ⟨k + 1, t', by omega, rfl, by simp, Lib.hid h3, ?_, Lib.hid (fun j hj => h2.cell (HCC.out j hj) (by simp)), gr_then hgr h2⟩
          rw [size_of h3]
          have := HFL.out (k + 1)
          have h4 : (ts.take (k + 1)).length ≤ k + 1 := by rw [List.length_take]; exact Nat.min_le_left _ _
          omega
        have HI := Lib.hid hI
        have hkz : (k : Int) < (nn : Int) := by omega
        have hnz : (nn : Int) ≤ (cap : Int) := by omega
        clear hx htk hI hkl
        have l1 := (padD_len (n := c.1) (k := 4) (w := 4) (by simp; omega) (by omega)).2
        have l2 := (padD_len (n := c.2.1) (k := 2) (w := 2) (by simp; omega) (by omega)).2
        have l3 := (padD_len (n := c.2.2) (k := 2) (w := 2) (by simp; omega) (by omega)).2
        have l4 := (padD_len (n := c.2.1) (k := 1) (w := 2) (by simp; omega) (by omega)).2
        have l5 := (padD_len (n := c.2.2) (k := 1) (w := 2) (by simp; omega) (by omega)).2
        cases x
        case y4 =>
          go_wp2_with fail
          refine (rdig_at _ (c.1) 4 rfl _ rfl (by omega) (by omega) _).mono ?_
          rintro e w4 ⟨rfl, h4⟩
          have hps : (⟨(padD (c.1) 4).toArray⟩ : ByteArray).size ≤ 4 := by show (padD (c.1) 4).length ≤ 4; omega
          obtain ⟨p, hp⟩ : ∃ p : ByteArray, p = ⟨(padD (c.1) 4).toArray⟩ := ⟨_, rfl⟩
          rw [← hp] at hps ⊢
          have hpl : (t ++ p).data.toList = t.data.toList ++ wrt c .y4 := by rw [cat_list, hp]; rfl
          have HPL := Lib.hid (HI.out _ _ hpl h4)
          clear hp hpl
          go_wp2
          refine ⟨HPL.out, ?_⟩
          simp only [intOf]
          omega
        case m2 =>
          go_wp2_with fail
          refine (rdig_at _ (c.2.1) 2 rfl _ rfl (by omega) (by omega) _).mono ?_
          rintro e w4 ⟨rfl, h4⟩
          have hps : (⟨(padD (c.2.1) 2).toArray⟩ : ByteArray).size ≤ 4 := by show (padD (c.2.1) 2).length ≤ 4; omega
          obtain ⟨p, hp⟩ : ∃ p : ByteArray, p = ⟨(padD (c.2.1) 2).toArray⟩ := ⟨_, rfl⟩
          rw [← hp] at hps ⊢
          have hpl : (t ++ p).data.toList = t.data.toList ++ wrt c .m2 := by rw [cat_list, hp]; rfl
          have HPL := Lib.hid (HI.out _ _ hpl h4)
          clear hp hpl
          go_wp2
          refine ⟨HPL.out, ?_⟩
          simp only [intOf]
          omega
        case m1 =>
          go_wp2_with fail
          refine (rdig_at _ (c.2.1) 1 rfl _ rfl (by omega) (by omega) _).mono ?_
          rintro e w4 ⟨rfl, h4⟩
          have hps : (⟨(padD (c.2.1) 1).toArray⟩ : ByteArray).size ≤ 4 := by show (padD (c.2.1) 1).length ≤ 4; omega
          obtain ⟨p, hp⟩ : ∃ p : ByteArray, p = ⟨(padD (c.2.1) 1).toArray⟩ := ⟨_, rfl⟩
          rw [← hp] at hps ⊢
          have hpl : (t ++ p).data.toList = t.data.toList ++ wrt c .m1 := by rw [cat_list, hp]; rfl
          have HPL := Lib.hid (HI.out _ _ hpl h4)
          clear hp hpl
          go_wp2
          refine ⟨HPL.out, ?_⟩
          simp only [intOf]
          omega
        case d2 =>
          go_wp2_with fail
          refine (rdig_at _ (c.2.2) 2 rfl _ rfl (by omega) (by omega) _).mono ?_
          rintro e w4 ⟨rfl, h4⟩
          have hps : (⟨(padD (c.2.2) 2).toArray⟩ : ByteArray).size ≤ 4 := by show (padD (c.2.2) 2).length ≤ 4; omega
          obtain ⟨p, hp⟩ : ∃ p : ByteArray, p = ⟨(padD (c.2.2) 2).toArray⟩ := ⟨_, rfl⟩
          rw [← hp] at hps ⊢
          have hpl : (t ++ p).data.toList = t.data.toList ++ wrt c .d2 := by rw [cat_list, hp]; rfl
          have HPL := Lib.hid (HI.out _ _ hpl h4)
          clear hp hpl
          go_wp2
          refine ⟨HPL.out, ?_⟩
          simp only [intOf]
          omega
        case d1 =>
          go_wp2_with fail
          refine (rdig_at _ (c.2.2) 1 rfl _ rfl (by omega) (by omega) _).mono ?_
          rintro e w4 ⟨rfl, h4⟩
          have hps : (⟨(padD (c.2.2) 1).toArray⟩ : ByteArray).size ≤ 4 := by show (padD (c.2.2) 1).length ≤ 4; omega
          obtain ⟨p, hp⟩ : ∃ p : ByteArray, p = ⟨(padD (c.2.2) 1).toArray⟩ := ⟨_, rfl⟩
          rw [← hp] at hps ⊢
          have hpl : (t ++ p).data.toList = t.data.toList ++ wrt c .d1 := by rw [cat_list, hp]; rfl
          have HPL := Lib.hid (HI.out _ _ hpl h4)
          clear hp hpl
          go_wp2
          refine ⟨HPL.out, ?_⟩
          simp only [intOf]
          omega
        case ch b =>
          obtain ⟨f3, f4, f5, f6, f7⟩ := ch_tests hxr
          have hbl : (⟨(Tok.ch b).txt.toArray⟩ : ByteArray).size = 1 := rfl
          go_wp2
          refine ⟨HI.out _ _ (by rw [cat_list]; rfl) (gr_alloc0 _ _), ?_⟩
          simp only [intOf]
          omega
      · have hkn : k = nn := by omega
        have hkz : ¬ (k : Int) < (nn : Int) := by omega
        have hr : (⟨(fmt c ts).toArray⟩ : ByteArray) = t := toArray_eq t (by rw [HT.out, List.take_of_length_le]; rw [← HN.out]; omega)
        have HRR := Lib.hid hr
        clear hkn hlt hr
        go_wp2
        go_ret2
        rw [HTS.out, HRR.out]
        exact ⟨rfl, hgr⟩
  · have hf : formD lay.data.toList n = ([], false) := by
      unfold formD
      rw [if_neg]
      simpa using hb
    rw [hf]
    cases hn : isN n with
    | false =>
      have hc : civD n = .tuple #[.int .i64 0, .int .i64 0, .int .i64 0, .bool false] := by unfold civD; rw [hn]; rfl
      have HC := Lib.hid hc
      clear hf hb hn hc
      go_enter Tryd.func31, Tryd.ntmps31
      go_wp2_with fail
      refine HCI.out.mono ?_
      rintro e w' ⟨rfl, rfl⟩
      rw [HC.out]
      go_wp2_with fail
      refine (rright_l lay w).mono ?_
      rintro e w1 ⟨rfl, hg1⟩
      go_wp2
      go_ret2
      exact ⟨rfl, hg1⟩
    | true =>
      have hc : civD n = .tuple #[.int .i64 ((civ n.toNat).1 : Nat), .int .i64 ((civ n.toNat).2.1 : Nat), .int .i64 ((civ n.toNat).2.2 : Nat), .bool true] := by unfold civD; rw [hn]; rfl
      have HC := Lib.hid hc
      have hr : isRightL lay.data.toList = false := by
        cases h : isRightL lay.data.toList
        · rfl
        · exact absurd ⟨hn, h⟩ hb
      have HR := Lib.hid hr
      clear hf hb hn hc hr
      go_enter Tryd.func31, Tryd.ntmps31
      go_wp2_with fail
      refine HCI.out.mono ?_
      rintro e w' ⟨rfl, rfl⟩
      rw [HC.out]
      go_wp2_with fail
      refine (rright_l lay w).mono ?_
      rintro e w1 ⟨rfl, hg1⟩
      rw [HR.out]
      go_wp2
      go_ret2
      exact ⟨rfl, hg1⟩
end Go.Proofs.YtchbefaflhimcaaDoor
