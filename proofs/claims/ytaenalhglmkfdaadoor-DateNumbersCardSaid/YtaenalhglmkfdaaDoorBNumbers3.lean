/- Contracts of the program and of the reference, part 3: Form, Read, TextD, San, Inverse, Years, DayR, DayT, MonthsL. -/
import Derived.Test.YtaenalhglmkfdaaDoorBNumbers2
import Derived.Laws.BitsLemmas
namespace Go.Proofs.YtaenalhglmkfdaaDoor
open Go.RowKit Mth

theorem tabis_grown {w w' : World} {name : String} {k : IntKind} {zs : List Int} (h : Lib.TabIs Tryd.prog w name k zs) (hg : w.grownBy w' none) : Lib.TabIs Tryd.prog w' name k zs := by
  unfold Lib.TabIs World.var? at *
  cases hq : Tryd.prog.globalNamed name with
  | none => simp [hq] at h
  | some g =>
    simp only [hq, Option.bind_some] at h ⊢
    have hlt : g < w.heap.size := by
      rcases Nat.lt_or_ge g w.heap.size with h' | h'
      · exact h'
      · rw [Array.getElem?_eq_none h'] at h; simp at h
    rw [hg.block g hlt (by simp)]
    exact h
/-- The variables of the program that package date reads, as they are laid. -/
structure DV (w : World) : Prop where
  f : FV w
  l : LenV w
  t : Tab w
theorem DV.grown {w w' : World} (h : DV w) (hg : w.grownBy w' none) : DV w' := ⟨h.f.grown hg (by simp), tabis_grown h.l hg, tabis_grown h.t hg⟩

/-- What Format gives. -/
def formD (lay : List UInt8) (n : Int) : List UInt8 × Bool := if isN n && isRightL lay then (fmt (civ n.toNat) (toks lay), true) else ([], false)
theorem civ_small {n : Nat} (h : n ≤ 3652058) : (civ n).1 ≤ 9999 ∧ (civ n).2.1 ≤ 99 ∧ (civ n).2.2 ≤ 99 := by
  obtain ⟨h1, h2, h3, h4, h5, h6⟩ := (civ_spec (n := n) h).ok
  have := dim_le (civ n).1 (civ n).2.1
  omega
theorem right_len {l : List UInt8} (h : isRightL l = true) : l.length ≤ 40 := by
  unfold isRightL at h
  simp only [Bool.and_eq_true, decide_eq_true_eq] at h
  exact h.1.1.1.1

set_option maxRecDepth 100000 in
set_option maxHeartbeats 1000000 in
theorem format_any (lay : ByteArray) (n : Int) (w : World) (hl : lay.size ≤ 9223372036854775807) (hd : DV w) :
    Calls Tryd.prog 30 #[.string lay, .int .i64 n] w fun e w' => e = .returned (.tuple #[.string ⟨(formD lay.data.toList n).1.toArray⟩, .bool (formD lay.data.toList n).2]) ∧ w.grownBy w' none := by
  have hci := civil_any n w hd.l
  have HCI := Lib.hid hci
  clear hci
  cases hn : isN n with
  | false =>
    have hf : formD lay.data.toList n = ([], false) := by unfold formD; rw [hn]; rfl
    have hc : civD n = .tuple #[.int .i64 0, .int .i64 0, .int .i64 0, .bool false] := by unfold civD; rw [hn]; rfl
    have HC := Lib.hid hc
    rw [hf]
    clear hf hc hn
    go_enter Tryd.func30, Tryd.ntmps30
    go_wp2_with fail
    refine HCI.out.mono ?_
    rintro e w' ⟨rfl, rfl⟩
    rw [HC.out]
    go_wp2
    go_ret2
    exact ⟨rfl, World.grownBy.refl _ _⟩
  | true =>
    have hc : civD n = .tuple #[.int .i64 ((civ n.toNat).1 : Nat), .int .i64 ((civ n.toNat).2.1 : Nat), .int .i64 ((civ n.toNat).2.2 : Nat), .bool true] := by unfold civD; rw [hn]; rfl
    have HC := Lib.hid hc
    have hn2 : n.toNat ≤ 3652058 := by unfold isN at hn; rw [decide_eq_true_eq] at hn; omega
    have HS := Lib.hid (civ_small hn2)
    cases hr : isRightL lay.data.toList with
    | false =>
      have hf : formD lay.data.toList n = ([], false) := by unfold formD; rw [hn, hr]; rfl
      rw [hf]
      have HR := Lib.hid hr
      clear hf hc hn hn2 hr
      go_enter Tryd.func30, Tryd.ntmps30
      go_wp2_with fail
      refine HCI.out.mono ?_
      rintro e w' ⟨rfl, rfl⟩
      rw [HC.out]
      go_wp2_with fail
      refine (isRight_any lay w hl hd.f).mono ?_
      rintro e w1 ⟨rfl, hg1⟩
      rw [HR.out]
      go_wp2
      go_ret2
      exact ⟨rfl, hg1⟩
    | true =>
      have hf : formD lay.data.toList n = (fmt (civ n.toNat) (toks lay.data.toList), true) := by unfold formD; rw [hn, hr]; rfl
      rw [hf]
      have HR := Lib.hid hr
      have hl40 : lay.size ≤ 40 := right_len hr
      clear hf hc hn hn2 hr
      go_enter Tryd.func30, Tryd.ntmps30
      go_wp2_with fail
      refine HCI.out.mono ?_
      rintro e w' ⟨rfl, rfl⟩
      rw [HC.out]
      go_wp2_with fail
      refine (isRight_any lay w hl hd.f).mono ?_
      rintro e w1 ⟨rfl, hg1⟩
      rw [HR.out]
      have hd1 := hd.grown hg1
      have HG := Lib.hid hg1
      clear hg1
      go_wp2_with fail
      refine (replaced_any lay (civ n.toNat) HS.out w1 hl40 hd1.f hd1.t).mono ?_
      rintro e w2 ⟨rfl, hg2⟩
      go_wp2
      go_ret2
      exact ⟨rfl, gr_then HG.out hg2⟩
end Go.Proofs.YtaenalhglmkfdaaDoor
namespace Go.Proofs.YtaenalhglmkfdaaDoor
open Go.RowKit Mth

/-- What Read gives. -/
def readL (lay s : List UInt8) : Nat × Bool := if isRightL lay then readD (toks lay) s else (0, false)
theorem numD_ok {v : Nat × Nat × Nat} (h : validC v) : numD (v.1 : Nat) (v.2.1 : Nat) (v.2.2 : Nat) = (((numC v : Nat) : Int), true) := by
  obtain ⟨h1, h2, h3, h4, h5, h6⟩ := h
  unfold numD okD
  rw [decide_eq_true (by simp only [Int.toNat_natCast]; omega)]
  simp only [Int.toNat_natCast]
  rfl
theorem numD_no {v : Nat × Nat × Nat} (h : ¬ validC v) : numD (v.1 : Nat) (v.2.1 : Nat) (v.2.2 : Nat) = (0, false) := by
  unfold numD okD
  rw [decide_eq_false]
  · rfl
  · simp only [Int.toNat_natCast]
    intro hh
    exact h ⟨by omega, by omega, by omega, by omega, by omega, by omega⟩

set_option maxRecDepth 100000 in
set_option maxHeartbeats 2000000 in
theorem read_any (lay s : ByteArray) (w : World) (hl : lay.size ≤ 9223372036854775807) (hs : s.size ≤ 9223372036854775807) (hd : DV w) :
    Calls Tryd.prog 33 #[.string lay, .string s] w fun e w' => e = .returned (.tuple #[.int .i64 ((readL lay.data.toList s.data.toList).1 : Nat), .bool (readL lay.data.toList s.data.toList).2]) ∧ w.grownBy w' none := by
  cases hr : isRightL lay.data.toList with
  | false =>
    have hf : readL lay.data.toList s.data.toList = (0, false) := by unfold readL; rw [hr]; rfl
    rw [hf]
    have HR := Lib.hid hr
    clear hf hr
    go_enter Tryd.func33, Tryd.ntmps33
    go_wp2_with fail
    refine (isRight_any lay w hl hd.f).mono ?_
    rintro e w1 ⟨rfl, hg1⟩
    rw [HR.out]
    go_wp2
    go_ret2
    exact ⟨rfl, hg1⟩
  | true =>
    have hf : readL lay.data.toList s.data.toList = readD (toks lay.data.toList) s.data.toList := by unfold readL; rw [hr]; rfl
    rw [hf]
    unfold readD
    have HR := Lib.hid hr
    have hl40 : lay.size ≤ 40 := right_len hr
    clear hf hr
    obtain ⟨v, hv⟩ : ∃ v, v = rd (toks lay.data.toList) s.data.toList (0, 0, 0) := ⟨_, rfl⟩
    rw [← hv]
    have HV := Lib.hid hv
    clear hv
    by_cases hval : validC v
    · have hn := numD_ok hval
      have hsm : v.1 ≤ 9999 ∧ v.2.1 ≤ 99 ∧ v.2.2 ≤ 99 := by
        have h1 := hval.small.1
        have h2 := hval.small.2.1
        have h3 := hval.small.2.2
        simp only [Nat.reducePow] at h1 h2 h3
        omega
      have HN := Lib.hid hn
      have HS := Lib.hid hsm
      by_cases hq : fmt v (toks lay.data.toList) = s.data.toList
      · have ha : ans v (toks lay.data.toList) s.data.toList = (numC v, true) := by unfold ans; rw [if_pos ⟨hval, hq⟩]
        rw [ha]
        have hq2 : (⟨(fmt v (toks lay.data.toList)).toArray⟩ : ByteArray) = s := toArray_eq s hq
        have HQ := Lib.hid hq2
        clear ha hq hq2 hval hn hsm
        go_enter Tryd.func33, Tryd.ntmps33
        go_wp2_with fail
        refine (isRight_any lay w hl hd.f).mono ?_
        rintro e w1 ⟨rfl, hg1⟩
        rw [HR.out]
        have hd1 := hd.grown hg1
        have HG1 := Lib.hid hg1
        clear hg1
        go_wp2_with fail
        refine (readAs_any lay s w1 hl40 hs hd1.f).mono ?_
        rintro e w2 ⟨rfl, hg2⟩
        rw [← HV.out]
        have hd2 := hd1.grown hg2
        have HG2 := Lib.hid (gr_then HG1.out hg2)
        clear hg2
        go_wp2_with fail
        refine (number_any _ _ _ _ (hd2.grown (gr_alloc w2 (.cells #[.int .i64 (v.1 : Nat), .int .i64 (v.2.1 : Nat), .int .i64 (v.2.2 : Nat)] 66) none)).l).mono ?_
        rintro e w3 ⟨rfl, rfl⟩
        rw [HN.out]
        go_wp2_with fail
        have hd3 := hd2.grown (gr_alloc w2 (.cells #[.int .i64 (v.1 : Nat), .int .i64 (v.2.1 : Nat), .int .i64 (v.2.2 : Nat)] 66) none)
        refine (replaced_any lay v HS.out _ hl40 hd3.f hd3.t).mono ?_
        rintro e w4 ⟨rfl, hg4⟩
        have hg5 := gr_then HG2.out (gr_then (gr_alloc w2 (.cells #[.int .i64 (v.1 : Nat), .int .i64 (v.2.1 : Nat), .int .i64 (v.2.2 : Nat)] 66) none) hg4)
        have HG5 := Lib.hid hg5
        clear hg4 hg5 hd3
        rw [HQ.out]
        go_wp2
        go_ret2
        exact ⟨rfl, HG5.out⟩
      · have ha : ans v (toks lay.data.toList) s.data.toList = (0, false) := by unfold ans; rw [if_neg (fun h => hq h.2)]
        rw [ha]
        obtain ⟨q, hqq⟩ : ∃ q : ByteArray, q = ⟨(fmt v (toks lay.data.toList)).toArray⟩ := ⟨_, rfl⟩
        have hne : (q.toList == s.toList) = false := by
          rw [beq_eq_false_iff_ne]
          intro e
          rw [ByteArray.toList_eq, ByteArray.toList_eq, hqq] at e
          exact hq e
        have HQ := Lib.hid hqq
        clear ha hq hqq hval hn hsm
        go_enter Tryd.func33, Tryd.ntmps33
        go_wp2_with fail
        refine (isRight_any lay w hl hd.f).mono ?_
        rintro e w1 ⟨rfl, hg1⟩
        rw [HR.out]
        have hd1 := hd.grown hg1
        have HG1 := Lib.hid hg1
        clear hg1
        go_wp2_with fail
        refine (readAs_any lay s w1 hl40 hs hd1.f).mono ?_
        rintro e w2 ⟨rfl, hg2⟩
        rw [← HV.out]
        have hd2 := hd1.grown hg2
        have HG2 := Lib.hid (gr_then HG1.out hg2)
        clear hg2
        go_wp2_with fail
        refine (number_any _ _ _ _ (hd2.grown (gr_alloc w2 (.cells #[.int .i64 (v.1 : Nat), .int .i64 (v.2.1 : Nat), .int .i64 (v.2.2 : Nat)] 66) none)).l).mono ?_
        rintro e w3 ⟨rfl, rfl⟩
        rw [HN.out]
        go_wp2_with fail
        have hd3 := hd2.grown (gr_alloc w2 (.cells #[.int .i64 (v.1 : Nat), .int .i64 (v.2.1 : Nat), .int .i64 (v.2.2 : Nat)] 66) none)
        refine (replaced_any lay v HS.out _ hl40 hd3.f hd3.t).mono ?_
        rintro e w4 ⟨rfl, hg4⟩
        have hg5 := gr_then HG2.out (gr_then (gr_alloc w2 (.cells #[.int .i64 (v.1 : Nat), .int .i64 (v.2.1 : Nat), .int .i64 (v.2.2 : Nat)] 66) none) hg4)
        have HG5 := Lib.hid hg5
        clear hg4 hg5 hd3
        rw [← HQ.out]
        go_wp2
        go_ret2
        exact ⟨rfl, HG5.out⟩
    · have ha : ans v (toks lay.data.toList) s.data.toList = (0, false) := by unfold ans; rw [if_neg (fun h => hval h.1)]
      rw [ha]
      have HN := Lib.hid (numD_no hval)
      clear ha hval
      go_enter Tryd.func33, Tryd.ntmps33
      go_wp2_with fail
      refine (isRight_any lay w hl hd.f).mono ?_
      rintro e w1 ⟨rfl, hg1⟩
      rw [HR.out]
      have hd1 := hd.grown hg1
      have HG1 := Lib.hid hg1
      clear hg1
      go_wp2_with fail
      refine (readAs_any lay s w1 hl40 hs hd1.f).mono ?_
      rintro e w2 ⟨rfl, hg2⟩
      rw [← HV.out]
      have hd2 := hd1.grown hg2
      have HG2 := Lib.hid (gr_then HG1.out hg2)
      clear hg2
      go_wp2_with fail
      refine (number_any _ _ _ _ (hd2.grown (gr_alloc w2 (.cells #[.int .i64 (v.1 : Nat), .int .i64 (v.2.1 : Nat), .int .i64 (v.2.2 : Nat)] 66) none)).l).mono ?_
      rintro e w3 ⟨rfl, rfl⟩
      rw [HN.out]
      go_wp2
      go_ret2
      exact ⟨rfl, gr_then HG2.out (gr_alloc _ _ _)⟩
end Go.Proofs.YtaenalhglmkfdaaDoor
namespace Go.Proofs.YtaenalhglmkfdaaDoor
open Go.RowKit Mth

def layI : ByteArray := ⟨#[89, 89, 89, 89, 45, 77, 77, 45, 68, 68]⟩
def textD (n : Int) : List UInt8 := (formD layI.data.toList n).1

theorem text_any (n : Int) (w : World) (hd : DV w) :
    Calls Tryd.prog 25 #[.int .i64 n] w fun e w' => e = .returned (.string ⟨(textD n).toArray⟩) ∧ w.grownBy w' none := by
  go_enter Tryd.func25, Tryd.ntmps25
  go_wp2_with fail
  refine (format_any layI n w (by decide) hd).mono ?_
  rintro e w' ⟨rfl, hg⟩
  go_wp2
  go_ret
  exact ⟨rfl, hg⟩
theorem parse_any (s : ByteArray) (w : World) (hs : s.size ≤ 9223372036854775807) (hd : DV w) :
    Calls Tryd.prog 27 #[.string s] w fun e w' => e = .returned (.tuple #[.int .i64 ((readL layI.data.toList s.data.toList).1 : Nat), .bool (readL layI.data.toList s.data.toList).2]) ∧ w.grownBy w' none := by
  go_enter Tryd.func27, Tryd.ntmps27
  go_wp2_with fail
  refine (read_any layI s w (by decide) hs hd).mono ?_
  rintro e w' ⟨rfl, hg⟩
  go_wp2
  go_ret2
  exact ⟨rfl, hg⟩

/-! To reckon with -/
def wrtE (c : Nat × Nat × Nat) : Tok → List UInt8
  | .y4 => padF (c.1 + 4) c.1 4
  | .m2 => padF (c.2.1 + 2) c.2.1 2
  | .m1 => padF (c.2.1 + 1) c.2.1 1
  | .d2 => padF (c.2.2 + 2) c.2.2 2
  | .d1 => padF (c.2.2 + 1) c.2.2 1
  | .ch b => [b]
theorem wrtE_eq (c : Nat × Nat × Nat) (t : Tok) : wrtE c t = wrt c t := by
  cases t <;> simp only [wrtE, wrt] <;> exact padF_eq _ _ _ (Nat.le_refl _)
def fmtE (c : Nat × Nat × Nat) (ts : List Tok) : List UInt8 := (ts.map (wrtE c)).flatten
theorem fmtE_eq (c : Nat × Nat × Nat) (ts : List Tok) : fmtE c ts = fmt c ts := by
  unfold fmtE fmt
  rw [show wrtE c = wrt c from funext (wrtE_eq c)]
def rightE (l : List UInt8) : Bool := decide (l.length ≤ 40) && good false (toksF l.length l) && decide ((toksF l.length l).countP Tok.isY = 1) && decide ((toksF l.length l).countP Tok.isM = 1) && decide ((toksF l.length l).countP Tok.isD = 1)
theorem rightE_eq (l : List UInt8) : rightE l = isRightL l := by
  unfold rightE isRightL
  rw [toksF_eq _ _ (Nat.le_refl _)]
def formE (lay : List UInt8) (n : Int) : List UInt8 × Bool := if isN n && rightE lay then (fmtE (civ n.toNat) (toksF lay.length lay), true) else ([], false)
theorem formE_eq (lay : List UInt8) (n : Int) : formE lay n = formD lay n := by
  unfold formE formD
  rw [rightE_eq, fmtE_eq, toksF_eq _ _ (Nat.le_refl _)]
def readE (lay s : List UInt8) : Nat × Bool :=
  if rightE lay then
    (let v := rd (toksF lay.length lay) s (0, 0, 0)
     if validC v ∧ fmtE v (toksF lay.length lay) = s then (numC v, true) else (0, false))
  else (0, false)
theorem readE_eq (lay s : List UInt8) : readE lay s = readL lay s := by
  unfold readE readL readD ans
  dsimp only
  rw [rightE_eq, fmtE_eq, toksF_eq _ _ (Nat.le_refl _)]

theorem civ_last : civ 3652058 = (9999, 12, 31) := by decide +kernel
theorem num_a : numD 1 1 1 = (0, true) := by decide +kernel
theorem num_b : numD 1 12 31 = (364, true) := by decide +kernel
theorem num_c : numD 2 1 1 = (365, true) := by decide +kernel
theorem num_d : numD 2000 2 29 = (730178, true) := by decide +kernel
theorem num_e : numD 1900 2 29 = (0, false) := by decide +kernel
theorem num_f : numD 2024 1 31 = (738915, true) := by decide +kernel
theorem wk_a : wkD 3652058 = (5, true) := by decide +kernel
theorem mon_a : monD 738915 1 = (738944, true) := by decide +kernel
theorem mon_b : monD 738915 13 = (739309, true) := by decide +kernel
theorem mon_c : monD 738915 (-1) = (738884, true) := by decide +kernel
theorem form_a : formD [68, 46, 77, 46, 89, 89, 89, 89] 730178 = ([50, 57, 46, 50, 46, 50, 48, 48, 48], true) := by rw [← formE_eq]; decide +kernel
theorem form_b : formD [68, 77, 89, 89, 89, 89] 0 = ([], false) := by rw [← formE_eq]; decide +kernel
theorem read_a : readL [68, 46, 77, 46, 89, 89, 89, 89] [50, 57, 46, 50, 46, 50, 48, 48, 48] = (730178, true) := by rw [← readE_eq]; decide +kernel
theorem read_b : readL [68, 46, 77, 46, 89, 89, 89, 89] [50, 57, 46, 48, 50, 46, 50, 48, 48, 48] = (0, false) := by rw [← readE_eq]; decide +kernel
theorem text_a : textD 738944 = [50, 48, 50, 52, 45, 48, 50, 45, 50, 57] := by unfold textD; rw [← formE_eq]; decide +kernel
theorem text_b : textD 739309 = [50, 48, 50, 53, 45, 48, 50, 45, 50, 56] := by unfold textD; rw [← formE_eq]; decide +kernel
theorem text_c : textD 738884 = [50, 48, 50, 51, 45, 49, 50, 45, 51, 49] := by unfold textD; rw [← formE_eq]; decide +kernel
end Go.Proofs.YtaenalhglmkfdaaDoor
namespace Go.Proofs.YtaenalhglmkfdaaDoor
open Go.RowKit Mth

theorem civ_l : civD 3652058 = .tuple #[.int .i64 9999, .int .i64 12, .int .i64 31, .bool true] := by
  unfold civD
  rw [show isN 3652058 = true from rfl, show (3652058 : Int).toNat = 3652058 from rfl, civ_last]
  rfl
set_option maxRecDepth 100000 in
set_option maxHeartbeats 4000000 in
theorem sanity_any (w : World) (hd : DV w) :
    Calls Tryd.prog 13 #[] w fun e w' => e = .returned (.bool true) ∧ w.grownBy w' none := by
  go_enter Tryd.func13, Tryd.ntmps13
  go_wp2_with fail
  have h0 := number_any 1 1 1 _ hd.l
  rw [num_a] at h0
  refine h0.mono ?_
  clear h0
  rintro e w' ⟨rfl, rfl⟩
  go_wp2_with fail
  have h1 := number_any 1 12 31 _ hd.l
  rw [num_b] at h1
  refine h1.mono ?_
  clear h1
  rintro e w' ⟨rfl, rfl⟩
  go_wp2_with fail
  have h2 := number_any 2 1 1 _ hd.l
  rw [num_c] at h2
  refine h2.mono ?_
  clear h2
  rintro e w' ⟨rfl, rfl⟩
  go_wp2_with fail
  have h3 := number_any 2000 2 29 _ hd.l
  rw [num_d] at h3
  refine h3.mono ?_
  clear h3
  rintro e w' ⟨rfl, rfl⟩
  go_wp2_with fail
  have h4 := number_any 1900 2 29 _ hd.l
  rw [num_e] at h4
  refine h4.mono ?_
  clear h4
  rintro e w' ⟨rfl, rfl⟩
  go_wp2_with fail
  have h5 := civil_any 3652058 _ hd.l
  rw [civ_l] at h5
  refine h5.mono ?_
  clear h5
  rintro e w' ⟨rfl, rfl⟩
  go_wp2_with fail
  have h6 := weekday_any 3652058 w
  rw [wk_a] at h6
  refine h6.mono ?_
  clear h6
  rintro e w' ⟨rfl, rfl⟩
  go_wp2_with fail
  have h7 := number_any 2024 1 31 _ hd.l
  rw [num_f] at h7
  refine h7.mono ?_
  clear h7
  rintro e w' ⟨rfl, rfl⟩
  go_wp2_with fail
  have h8 := months_any 738915 1 (by decide) (by decide) _ hd.l
  rw [mon_a] at h8
  refine h8.mono ?_
  clear h8
  rintro e w' ⟨rfl, rfl⟩
  go_wp2_with fail
  have h9 := months_any 738915 13 (by decide) (by decide) _ hd.l
  rw [mon_b] at h9
  refine h9.mono ?_
  clear h9
  rintro e w' ⟨rfl, rfl⟩
  go_wp2_with fail
  have h10 := months_any 738915 (-1) (by decide) (by decide) _ hd.l
  rw [mon_c] at h10
  refine h10.mono ?_
  clear h10
  rintro e w' ⟨rfl, rfl⟩
  go_wp2_with fail
  have h11 := format_any ⟨#[68, 46, 77, 46, 89, 89, 89, 89]⟩ 730178 _ (by decide) hd
  rw [show (⟨#[68, 46, 77, 46, 89, 89, 89, 89]⟩ : ByteArray).data.toList = [68, 46, 77, 46, 89, 89, 89, 89] from rfl, form_a] at h11
  refine h11.mono ?_
  clear h11
  rintro e w1 ⟨rfl, g1⟩
  have d1 := hd.grown g1
  have G1 := Lib.hid g1
  clear g1
  go_wp2_with fail
  have h12 := read_any ⟨#[68, 46, 77, 46, 89, 89, 89, 89]⟩ ⟨#[50, 57, 46, 50, 46, 50, 48, 48, 48]⟩ _ (by decide) (by decide) d1
  rw [show (⟨#[68, 46, 77, 46, 89, 89, 89, 89]⟩ : ByteArray).data.toList = [68, 46, 77, 46, 89, 89, 89, 89] from rfl, show (⟨#[50, 57, 46, 50, 46, 50, 48, 48, 48]⟩ : ByteArray).data.toList = [50, 57, 46, 50, 46, 50, 48, 48, 48] from rfl, read_a] at h12
  refine h12.mono ?_
  clear h12
  rintro e w2 ⟨rfl, g2⟩
  have d2 := d1.grown g2
  have G2 := Lib.hid (gr_then G1.out g2)
  clear g2
  go_wp2_with fail
  have h13 := read_any ⟨#[68, 46, 77, 46, 89, 89, 89, 89]⟩ ⟨#[50, 57, 46, 48, 50, 46, 50, 48, 48, 48]⟩ _ (by decide) (by decide) d2
  rw [show (⟨#[68, 46, 77, 46, 89, 89, 89, 89]⟩ : ByteArray).data.toList = [68, 46, 77, 46, 89, 89, 89, 89] from rfl, show (⟨#[50, 57, 46, 48, 50, 46, 50, 48, 48, 48]⟩ : ByteArray).data.toList = [50, 57, 46, 48, 50, 46, 50, 48, 48, 48] from rfl, read_b] at h13
  refine h13.mono ?_
  clear h13
  rintro e w3 ⟨rfl, g3⟩
  have d3 := d2.grown g3
  have G3 := Lib.hid (gr_then G2.out g3)
  clear g3
  go_wp2_with fail
  have h14 := format_any ⟨#[68, 77, 89, 89, 89, 89]⟩ 0 _ (by decide) d3
  rw [show (⟨#[68, 77, 89, 89, 89, 89]⟩ : ByteArray).data.toList = [68, 77, 89, 89, 89, 89] from rfl, form_b] at h14
  refine h14.mono ?_
  clear h14
  rintro e w4 ⟨rfl, g4⟩
  have d4 := d3.grown g4
  have G4 := Lib.hid (gr_then G3.out g4)
  clear g4
  go_wp2_with fail
  have h15 := text_any 738944 _ d4
  rw [text_a] at h15
  refine h15.mono ?_
  clear h15
  rintro e w5 ⟨rfl, g5⟩
  have d5 := d4.grown g5
  have G5 := Lib.hid (gr_then G4.out g5)
  clear g5
  go_wp2_with fail
  have h16 := text_any 739309 _ d5
  rw [text_b] at h16
  refine h16.mono ?_
  clear h16
  rintro e w6 ⟨rfl, g6⟩
  have d6 := d5.grown g6
  have G6 := Lib.hid (gr_then G5.out g6)
  clear g6
  go_wp2_with fail
  have h17 := text_any 738884 _ d6
  rw [text_c] at h17
  refine h17.mono ?_
  clear h17
  rintro e w7 ⟨rfl, g7⟩
  have d7 := d6.grown g7
  have G7 := Lib.hid (gr_then G6.out g7)
  clear g7
  go_wp2
  go_ret
  exact ⟨rfl, G7.out⟩
end Go.Proofs.YtaenalhglmkfdaaDoor
namespace Go.Proofs.YtaenalhglmkfdaaDoor
open Go.RowKit Mth

theorem civ_val {k : Nat} (hk : k ≤ 3652058) : civD (k : Int) = .tuple #[.int .i64 ((civ k).1 : Nat), .int .i64 ((civ k).2.1 : Nat), .int .i64 ((civ k).2.2 : Nat), .bool true] := by
  unfold civD; rw [isN_true ⟨by omega, by omega⟩]; rfl
theorem numD_civ {k y m d : Nat} (h : Civ k y m d) : numD (y : Nat) (m : Nat) (d : Nat) = ((k : Int), true) := by
  have := numD_ok (v := (y, m, d)) h.ok
  rw [show numC (y, m, d) = k from h.num] at this
  exact this
theorem okD_nat (y m d : Nat) : okD (y : Nat) (m : Nat) (d : Nat) = decide (valid y m d) := by
  unfold okD valid
  simp only [Int.toNat_natCast]
  exact decide_eq_decide.2 (by omega)

set_option maxRecDepth 100000 in
set_option maxHeartbeats 4000000 in
theorem inverse_true (n : Nat) (w : World) (hd : DV w) (hn : n ≤ 4294967295) :
    Calls Tryd.prog 4 #[.int .u32 (n : Int)] w fun e w' => e = .returned (.bool true) ∧ w.grownBy w' none := by
  obtain ⟨k, hk⟩ : ∃ k, k = n % 3652058 := ⟨_, rfl⟩
  have hkz : (n : Int) % 3652058 = (k : Int) := by omega
  have hk1 : k < 3652058 := by omega
  have hc := civ_spec (n := k) (show k ≤ 3652058 by omega)
  have hc' := civ_spec (n := k + 1) (show k + 1 ≤ 3652058 by omega)
  have hv := civ_val (k := k) (by omega)
  have hv' := civ_val (k := k + 1) (by omega)
  generalize hy : (civ k).1 = y at *
  generalize hm : (civ k).2.1 = m at *
  generalize hdd : (civ k).2.2 = d at *
  generalize ha : (civ (k + 1)).1 = a at *
  generalize hb : (civ (k + 1)).2.1 = b at *
  generalize hcc : (civ (k + 1)).2.2 = c at *
  have hnext := hc.next hc'
  have hnum := numD_civ hc
  obtain ⟨b1, b2, b3, b4, b5, b6⟩ := hc.ok
  have hok := okD_nat y m d
  rw [decide_eq_true hc.ok] at hok
  have hok1 : c = 1 → okD (y : Nat) (m : Nat) (((d + 1 : Nat)) : Int) = false := by
    intro h1
    rw [okD_nat]
    refine decide_eq_false ?_
    intro hv
    have := hv.2.2.2.2.2
    omega
  have hdim := dim_le y m
  rw [show ((k + 1 : Nat) : Int) = (k : Int) + 1 from by omega] at hv'
  rw [show ((d + 1 : Nat) : Int) = (d : Int) + 1 from by omega] at hok1
  have HV := Lib.hid (And.intro hv (And.intro hv' (And.intro hnum (And.intro hok hok1))))
  clear hv hv' hnum hok hok1 hc hc' hy hm hdd ha hb hcc hk
  go_enter Tryd.func4, Tryd.ntmps4
  go_wp2_with fail
  refine (sanity_any w hd).mono ?_
  rintro e w1 ⟨rfl, hg1⟩
  have hd1 := hd.grown hg1
  have HG := Lib.hid hg1
  clear hg1
  go_wp2_with fail
  refine (civil_any _ _ hd1.l).mono ?_
  rintro e w' ⟨rfl, rfl⟩
  rw [HV.out.1]
  go_wp2_with fail
  refine (civil_any _ _ hd1.l).mono ?_
  rintro e w' ⟨rfl, rfl⟩
  rw [HV.out.2.1]
  go_wp2_with fail
  refine (number_any _ _ _ _ hd1.l).mono ?_
  rintro e w' ⟨rfl, rfl⟩
  rw [HV.out.2.2.1]
  rcases hnext with ⟨h1, rfl, rfl, rfl⟩ | ⟨h1, rfl, ⟨h2, rfl, rfl⟩ | ⟨rfl, rfl, rfl⟩⟩
  · go_wp2_with fail
    refine (valid_any _ _ _ _ hd1.l).mono ?_
    rintro e w' ⟨rfl, rfl⟩
    rw [HV.out.2.2.2.1]
    go_wp2
    go_ret
    exact ⟨rfl, HG.out⟩
  · clear h1
    go_wp2_with fail
    refine (valid_any _ _ _ _ hd1.l).mono ?_
    rintro e w' ⟨rfl, rfl⟩
    rw [HV.out.2.2.2.2 trivial]
    go_wp2_with fail
    refine (valid_any _ _ _ _ hd1.l).mono ?_
    rintro e w' ⟨rfl, rfl⟩
    rw [HV.out.2.2.2.1]
    go_wp2
    go_ret
    exact ⟨rfl, HG.out⟩
  · clear h1
    go_wp2_with fail
    refine (valid_any _ _ _ _ hd1.l).mono ?_
    rintro e w' ⟨rfl, rfl⟩
    rw [show okD (y : Int) 12 ((d : Int) + 1) = false from HV.out.2.2.2.2 trivial]
    go_wp2_with fail
    refine (valid_any _ _ _ _ hd1.l).mono ?_
    rintro e w' ⟨rfl, rfl⟩
    rw [show okD (y : Int) 12 (d : Int) = true from HV.out.2.2.2.1]
    go_wp2
    go_ret
    exact ⟨rfl, HG.out⟩
end Go.Proofs.YtaenalhglmkfdaaDoor
namespace Go.Proofs.YtaenalhglmkfdaaDoor
open Go.RowKit Mth

theorem numD_val {y m d : Nat} (h : valid y m d) : numD (y : Nat) (m : Nat) (d : Nat) = (((numOf y m d : Nat) : Int), true) := numD_ok (v := (y, m, d)) h
theorem numD_none {y m d : Nat} (h : ¬ valid y m d) : numD (y : Nat) (m : Nat) (d : Nat) = (0, false) := numD_no (v := (y, m, d)) h
theorem dim_feb (y : Nat) : dim y 2 = if leap y then 29 else 28 := rfl
theorem valid_400 (y m d : Nat) (h : y ≤ 9599) : valid (y + 400) m d ↔ valid y m d ∧ 1 ≤ y ∨ (y = 0 ∧ valid 400 m d) := by
  unfold valid
  rw [dim_400]
  rcases Nat.eq_zero_or_pos y with rfl | hy
  · simp [show dim 400 m = dim 0 m from dim_400 0 m]
  · omega
theorem numOf_400 {y m d : Nat} (h : 1 ≤ y) (hd : 1 ≤ d) : numOf (y + 400) m d = numOf y m d + 146097 := by
  unfold numOf
  rw [cum_400, show y + 400 - 1 = (y - 1) + 400 from by omega, bef_400]
  omega

set_option maxRecDepth 100000 in
set_option maxHeartbeats 4000000 in
theorem years_true (n mo da : Nat) (w : World) (hd : DV w) (hn : n ≤ 65535) (hmo : mo ≤ 255) (hda : da ≤ 255) :
    Calls Tryd.prog 5 #[.int .u16 (n : Int), .int .u8 (mo : Int), .int .u8 (da : Int)] w fun e w' => e = .returned (.bool true) ∧ w.grownBy w' none := by
  obtain ⟨t, ht⟩ : ∃ t, t = n % 9599 := ⟨_, rfl⟩
  obtain ⟨m, hm⟩ : ∃ m, m = mo % 14 := ⟨_, rfl⟩
  obtain ⟨d, hdd⟩ : ∃ d, d = da % 33 := ⟨_, rfl⟩
  have hz1 : (n : Int) % 9599 = (t : Int) := by omega
  have hz2 : (mo : Int) % 14 = (m : Int) := by omega
  have hz3 : (da : Int) % 33 = (d : Int) := by omega
  have ht1 : t < 9599 := by omega
  have hm1 : m < 14 := by omega
  have hd1 : d < 33 := by omega
  clear ht hm hdd
  have hdp1 := dim_pos (t + 1) 1
  have hb := bef_next t
  have hbl : bef t ≤ 3652059 := by
    have := bef_le (show t ≤ 9999 by omega)
    rwa [show bef 9999 = 3652059 from by decide] at this
  have hd12 : dim (t + 1) 12 = 31 := rfl
  have c12 := cum_12 (t + 1)
  have c11 : cum (t + 1) 12 = cum (t + 1) 11 + dim (t + 1) 12 := rfl
  have a1 : numD (t + 1 : Nat) (1 : Nat) (1 : Nat) = (((bef t : Nat) : Int), true) := by
    rw [numD_val ⟨by omega, by omega, by omega, by omega, by omega, by omega⟩]
    unfold numOf
    simp [cum]
  have a2 : numD (t + 1 : Nat) (12 : Nat) (31 : Nat) = (((bef t : Nat) : Int) + (if leap (t + 1) then 365 else 364), true) := by
    rw [numD_val ⟨by omega, by omega, by omega, by omega, by omega, by omega⟩]
    unfold numOf
    rw [Nat.add_sub_cancel, show (12 : Nat) - 1 = 11 from rfl]
    cases hl : leap (t + 1) <;> rw [hl] at c12 <;> simp at c12 ⊢ <;> omega
  have a3 : okD (t + 1 : Nat) (2 : Nat) (29 : Nat) = leap (t + 1) := by
    rw [okD_nat]
    have := dim_feb (t + 1)
    cases hl : leap (t + 1)
    · rw [hl] at this
      exact decide_eq_false (fun h => by have := h.2.2.2.2.2; simp at *; omega)
    · rw [hl] at this
      exact decide_eq_true ⟨by omega, by omega, by omega, by omega, by omega, by simp at *; omega⟩
  have a4 : okD (t + 1 : Nat) (2 : Nat) (30 : Nat) = false := by
    rw [okD_nat]
    have hf := dim_feb (t + 1)
    exact decide_eq_false (fun h => by have h6 := h.2.2.2.2.2; rw [hf] at h6; split at h6 <;> omega)
  have a5 : okD (t + 1 : Nat) (2 : Nat) (28 : Nat) = true := by
    rw [okD_nat]
    have := dim_pos (t + 1) 2
    exact decide_eq_true ⟨by omega, by omega, by omega, by omega, by omega, by omega⟩
  have hv := valid_400 (t + 1) m d (by omega)
  rw [show (((t + 1 : Nat)) : Int) = 1 + (t : Int) from by omega] at a1 a2 a3 a4 a5
  by_cases hval : valid (t + 1) m d
  · have a6 := numD_val hval
    have hval2 : valid (t + 1 + 400) m d := hv.2 (.inl ⟨hval, by omega⟩)
    have a7 := numD_val hval2
    have hnl := numOf_le hval
    rw [numOf_400 (by omega) hval.2.2.2.2.1] at a7
    rw [show (((t + 1 : Nat)) : Int) = 1 + (t : Int) from by omega] at a6
    rw [show (((t + 1 + 400 : Nat)) : Int) = 1 + (t : Int) + 400 from by omega, show ((numOf (t + 1) m d + 146097 : Nat) : Int) = ((numOf (t + 1) m d : Nat) : Int) + 146097 from by omega] at a7
    unfold maxDay at hnl
    generalize numOf (t + 1) m d = q at *
    cases hl : leap (t + 1)
    all_goals
      rw [hl] at a2 a3
      simp only [if_true, Bool.false_eq_true, if_false] at a2
      have HA := Lib.hid (And.intro a1 (And.intro a2 (And.intro a3 (And.intro a4 (And.intro a5 (And.intro a6 a7))))))
      clear a1 a2 a3 a4 a5 a6 a7 hb hd12 c12 c11 hv hdp1 hval hval2 hl
      go_enter Tryd.func5, Tryd.ntmps5
      go_wp2_with fail
      refine (sanity_any w hd).mono ?_
      rintro e w1 ⟨rfl, hg1⟩
      have hd1 := hd.grown hg1
      have HG := Lib.hid hg1
      clear hg1
      go_wp2_with fail
      refine (number_any _ _ _ _ hd1.l).mono ?_
      rintro e w' ⟨rfl, rfl⟩
      rw [show numD (1 + (t : Int)) 1 1 = _ from HA.out.1]
      go_wp2_with fail
      refine (number_any _ _ _ _ hd1.l).mono ?_
      rintro e w' ⟨rfl, rfl⟩
      rw [show numD (1 + (t : Int)) 12 31 = _ from HA.out.2.1]
      go_wp2_with fail
      refine (valid_any _ _ _ _ hd1.l).mono ?_
      rintro e w' ⟨rfl, rfl⟩
      rw [show okD (1 + (t : Int)) 2 29 = _ from HA.out.2.2.1]
      go_wp2_with fail
      refine (number_any _ _ _ _ hd1.l).mono ?_
      rintro e w' ⟨rfl, rfl⟩
      rw [HA.out.2.2.2.2.2.1]
      go_wp2_with fail
      refine (number_any _ _ _ _ hd1.l).mono ?_
      rintro e w' ⟨rfl, rfl⟩
      rw [HA.out.2.2.2.2.2.2]
      go_wp2_with fail
      refine (valid_any _ _ _ _ hd1.l).mono ?_
      rintro e w' ⟨rfl, rfl⟩
      rw [show okD (1 + (t : Int)) 2 30 = _ from HA.out.2.2.2.1]
      go_wp2_with fail
      refine (valid_any _ _ _ _ hd1.l).mono ?_
      rintro e w' ⟨rfl, rfl⟩
      rw [show okD (1 + (t : Int)) 2 28 = _ from HA.out.2.2.2.2.1]
      go_wp2
      go_ret
      exact ⟨rfl, HG.out⟩
  · have a6 := numD_none hval
    have hval2 : ¬ valid (t + 1 + 400) m d := fun h => by
      rcases hv.1 h with h | h
      · exact hval h.1
      · omega
    have a7 := numD_none hval2
    rw [show (((t + 1 : Nat)) : Int) = 1 + (t : Int) from by omega] at a6
    rw [show (((t + 1 + 400 : Nat)) : Int) = 1 + (t : Int) + 400 from by omega] at a7
    cases hl : leap (t + 1)
    all_goals
      rw [hl] at a2 a3
      simp only [if_true, Bool.false_eq_true, if_false] at a2
      have HA := Lib.hid (And.intro a1 (And.intro a2 (And.intro a3 (And.intro a4 (And.intro a5 (And.intro a6 a7))))))
      clear a1 a2 a3 a4 a5 a6 a7 hb hd12 c12 c11 hv hdp1 hval hval2 hl
      go_enter Tryd.func5, Tryd.ntmps5
      go_wp2_with fail
      refine (sanity_any w hd).mono ?_
      rintro e w1 ⟨rfl, hg1⟩
      have hd1 := hd.grown hg1
      have HG := Lib.hid hg1
      clear hg1
      go_wp2_with fail
      refine (number_any _ _ _ _ hd1.l).mono ?_
      rintro e w' ⟨rfl, rfl⟩
      rw [show numD (1 + (t : Int)) 1 1 = _ from HA.out.1]
      go_wp2_with fail
      refine (number_any _ _ _ _ hd1.l).mono ?_
      rintro e w' ⟨rfl, rfl⟩
      rw [show numD (1 + (t : Int)) 12 31 = _ from HA.out.2.1]
      go_wp2_with fail
      refine (valid_any _ _ _ _ hd1.l).mono ?_
      rintro e w' ⟨rfl, rfl⟩
      rw [show okD (1 + (t : Int)) 2 29 = _ from HA.out.2.2.1]
      go_wp2_with fail
      refine (number_any _ _ _ _ hd1.l).mono ?_
      rintro e w' ⟨rfl, rfl⟩
      rw [HA.out.2.2.2.2.2.1]
      go_wp2_with fail
      refine (number_any _ _ _ _ hd1.l).mono ?_
      rintro e w' ⟨rfl, rfl⟩
      rw [HA.out.2.2.2.2.2.2]
      go_wp2_with fail
      refine (valid_any _ _ _ _ hd1.l).mono ?_
      rintro e w' ⟨rfl, rfl⟩
      rw [show okD (1 + (t : Int)) 2 30 = _ from HA.out.2.2.2.1]
      go_wp2_with fail
      refine (valid_any _ _ _ _ hd1.l).mono ?_
      rintro e w' ⟨rfl, rfl⟩
      rw [show okD (1 + (t : Int)) 2 28 = _ from HA.out.2.2.2.2.1]
      go_wp2
      go_ret
      exact ⟨rfl, HG.out⟩
end Go.Proofs.YtaenalhglmkfdaaDoor
namespace Go.Proofs.YtaenalhglmkfdaaDoor
open Go.RowKit Mth

theorem rleap_any (y : Nat) (w : World) :
    Calls Tryd.prog 52 #[.int .i64 y] w fun e w' => e = .returned (.bool (leap y)) ∧ w = w' := by
  go_enter Tryd.func52, Tryd.ntmps52
  go_wp2
  all_goals
    go_ret
    refine ⟨?_, rfl⟩
    first
    | (rw [leap_true ⟨by omega, by omega⟩]; rfl)
    | (rw [leap_false (by omega)]; rfl)
    | skip
  by_cases h : y % 400 = 0
  · rw [leap_true ⟨by omega, by omega⟩, show ((y : Int) % 400 == 0) = true from by rw [beq_iff_eq]; omega]; rfl
  · rw [leap_false (by omega), show ((y : Int) % 400 == 0) = false from by rw [beq_eq_false_iff_ne]; omega]; rfl

theorem days_any (y m : Nat) (w : World) :
    Calls Tryd.prog 39 #[.int .i64 y, .int .i64 m] w fun e w' => e = .returned (.int .i64 (dim y m : Nat)) ∧ w = w' := by
  by_cases h2 : m = 2
  · subst h2
    cases hl : leap y with
    | true =>
      have hd : dim y 2 = 29 := by unfold dim; rw [hl]; rfl
      rw [hd]
      go_enter Tryd.func39, Tryd.ntmps39
      go_wp2_with fail
      refine (rleap_any y w).mono ?_
      rintro e w' ⟨rfl, rfl⟩
      rw [hl]
      go_wp2
      go_ret
      exact ⟨rfl, rfl⟩
    | false =>
      have hd : dim y 2 = 28 := by unfold dim; rw [hl]; rfl
      rw [hd]
      go_enter Tryd.func39, Tryd.ntmps39
      go_wp2_with fail
      refine (rleap_any y w).mono ?_
      rintro e w' ⟨rfl, rfl⟩
      rw [hl]
      go_wp2
      go_ret
      exact ⟨rfl, rfl⟩
  · by_cases h3 : m = 4 ∨ m = 6 ∨ m = 9 ∨ m = 11
    · have hd : dim y m = 30 := by unfold dim; rw [if_neg h2, if_pos h3]
      rw [hd]
      have h2' : ((m : Int) == 2) = false := by rw [beq_eq_false_iff_ne]; omega
      clear hd
      rcases h3 with rfl | rfl | rfl | rfl
      all_goals
        go_enter Tryd.func39, Tryd.ntmps39
        go_wp2
        go_ret
        exact ⟨rfl, rfl⟩
    · have hd : dim y m = 31 := by unfold dim; rw [if_neg h2, if_neg h3]
      rw [hd]
      have h2' : ((m : Int) == 2) = false := by rw [beq_eq_false_iff_ne]; omega
      have h4' : ((m : Int) == 4) = false := by rw [beq_eq_false_iff_ne]; omega
      have h6' : ((m : Int) == 6) = false := by rw [beq_eq_false_iff_ne]; omega
      have h9' : ((m : Int) == 9) = false := by rw [beq_eq_false_iff_ne]; omega
      have h11' : ((m : Int) == 11) = false := by rw [beq_eq_false_iff_ne]; omega
      clear h2 h3 hd
      go_enter Tryd.func39, Tryd.ntmps39
      go_wp2
      go_ret
      exact ⟨rfl, rfl⟩

theorem rvalid_any (y m d : Int) (w : World) :
    Calls Tryd.prog 37 #[.int .i64 y, .int .i64 m, .int .i64 d] w fun e w' => e = .returned (.bool (okD y m d)) ∧ w = w' := by
  by_cases h1 : 1 ≤ y ∧ y ≤ 9999 ∧ 1 ≤ m ∧ m ≤ 12 ∧ 1 ≤ d
  · obtain ⟨a1, a2, a3, a4, a5⟩ := h1
    obtain ⟨ny, rfl⟩ := Int.eq_ofNat_of_zero_le (show 0 ≤ y by omega)
    obtain ⟨nm, rfl⟩ := Int.eq_ofNat_of_zero_le (show 0 ≤ m by omega)
    have hk : okD ny nm d = decide (d ≤ (dim ny nm : Nat)) := by unfold okD; simp [a1, a2, a3, a4, a5]
    rw [hk]
    go_enter Tryd.func37, Tryd.ntmps37
    go_wp2_with fail
    refine (days_any ny nm w).mono ?_
    rintro e w' ⟨rfl, rfl⟩
    go_wp2
    go_ret
    exact ⟨rfl, rfl⟩
  · have hk : okD y m d = false := by unfold okD; rw [decide_eq_false]; intro h; exact h1 ⟨h.1, h.2.1, h.2.2.1, h.2.2.2.1, h.2.2.2.2.1⟩
    rw [hk]
    go_enter Tryd.func37, Tryd.ntmps37
    go_wp2_with fail
    all_goals
      go_ret
      exact ⟨rfl, rfl⟩

theorem rfirst_any (t : Nat) (z : Int) (hz : z = (t : Int) + 1) (ht : t ≤ 10000000000000000) (w : World) :
    Calls Tryd.prog 38 #[.int .i64 z] w fun e w' => e = .returned (.int .i64 (bef t : Nat)) ∧ w = w' := by
  have h1 : (bef t : Int) = 365 * (t : Int) + (t : Int) / 4 - (t : Int) / 100 + (t : Int) / 400 := by unfold bef; omega
  subst hz
  rw [h1]
  go_enter Tryd.func38, Tryd.ntmps38
  go_wp2
  go_ret
  exact ⟨rfl, rfl⟩

set_option maxRecDepth 100000 in
theorem rnumber_any (y m d : Int) (w : World) :
    Calls Tryd.prog 15 #[.int .i64 y, .int .i64 m, .int .i64 d] w fun e w' => e = .returned (.tuple #[.int .i64 (numD y m d).1, .bool (numD y m d).2]) ∧ w = w' := by
  cases hk : okD y m d with
  | false =>
    have hn : numD y m d = (0, false) := by unfold numD; rw [hk]; rfl
    rw [hn]
    go_enter Tryd.func15, Tryd.ntmps15
    go_wp2_with fail
    refine (rvalid_any y m d w).mono ?_
    rintro e w' ⟨rfl, rfl⟩
    rw [hk]
    go_wp2
    go_ret2
    exact ⟨rfl, rfl⟩
  | true =>
    have hn : numD y m d = (((numOf y.toNat m.toNat d.toNat : Nat) : Int), true) := by unfold numD; rw [hk]; rfl
    have ho := hk
    unfold okD at ho
    rw [decide_eq_true_eq] at ho
    obtain ⟨a1, a2, a3, a4, a5, a6⟩ := ho
    obtain ⟨t, rfl⟩ : ∃ t : Nat, y = (t : Int) + 1 := ⟨(y - 1).toNat, by omega⟩
    obtain ⟨nm, rfl⟩ := Int.eq_ofNat_of_zero_le (show 0 ≤ m by omega)
    obtain ⟨nd, rfl⟩ := Int.eq_ofNat_of_zero_le (show 0 ≤ d by omega)
    rw [hn]
    simp only [Int.toNat_natCast, show ((t : Int) + 1).toNat = t + 1 from by omega] at a6 ⊢
    have HK := Lib.hid hk
    have hb : bef t ≤ 3652059 := by
      have := bef_le (show t ≤ 9999 by omega)
      rwa [show bef 9999 = 3652059 from by decide] at this
    have hdl := dim_le (t + 1) nm
    clear hk hn
    go_enter Tryd.func15, Tryd.ntmps15
    go_wp2_with fail
    refine (rvalid_any _ _ _ w).mono ?_
    rintro e w' ⟨rfl, rfl⟩
    rw [HK.out]
    go_wp2_with fail
    refine (rfirst_any t _ rfl (by omega) w).mono ?_
    rintro e w' ⟨rfl, rfl⟩
    go_wp2
    go_loop [9, 10] (fun u v => ∃ k : Nat, k + 1 ≤ nm ∧ u = .int .i64 ((bef t : Int) + (cum (t + 1) k : Nat) + nd - 1) ∧ v = .int .i64 ((k : Int) + 1)) (fun _ v => (nm - intOf v).toNat)
    case atStart => exact ⟨0, by omega, by simp [cum], by simp⟩
    case round =>
      obtain ⟨k, hk, rfl, rfl⟩ := hrel
      have hcl := cum_le (t + 1) (show k ≤ 12 by omega)
      rw [cum_12] at hcl
      have hcl2 : cum (t + 1) k ≤ 366 := by split at hcl <;> omega
      clear hcl
      by_cases hkm : k + 1 = nm
      · subst hkm
        go_wp2
        go_ret2
        refine ⟨?_, rfl⟩
        unfold numOf
        rw [Nat.add_sub_cancel, Nat.add_sub_cancel, show ((bef t + cum (t + 1) k + nd - 1 : Nat) : Int) = (bef t : Int) + (cum (t + 1) k : Nat) + nd - 1 from by omega]
        rfl
      · have hdl := dim_le (t + 1) (k + 1)
        have hlt : (k : Int) + 1 < nm := by omega
        go_wp2_with fail
        refine (days_any (t + 1) (k + 1) w).mono ?_
        rintro e w' ⟨rfl, rfl⟩
        go_wp2
        refine ⟨⟨k + 1, by omega, by congr 1; simp only [cum]; omega, by congr 1⟩, ?_⟩
        simp only [intOf]
        omega

theorem rright_any (n : Int) (w : World) :
    Calls Tryd.prog 42 #[.int .i64 n] w fun e w' => e = .returned (.bool (isN n)) ∧ w = w' := by
  by_cases h : 0 ≤ n
  · rw [show isN n = decide (n ≤ 3652058) from by unfold isN; simp [h]]
    go_enter Tryd.func42, Tryd.ntmps42
    go_wp2
    go_ret
    exact ⟨rfl, rfl⟩
  · rw [isN_false (by omega)]
    go_enter Tryd.func42, Tryd.ntmps42
    go_wp2
    go_ret
    exact ⟨rfl, rfl⟩

set_option maxHeartbeats 1000000 in
set_option maxRecDepth 100000 in
theorem rcivil_any (n : Int) (w : World) :
    Calls Tryd.prog 18 #[.int .i64 n] w fun e w' => e = .returned (civD n) ∧ w = w' := by
  by_cases h : 0 ≤ n ∧ n ≤ 3652058
  · obtain ⟨k, rfl⟩ := Int.eq_ofNat_of_zero_le h.1
    have hc : ∀ y m d, Civ k y m d → civD (k : Int) = .tuple #[.int .i64 (y : Nat), .int .i64 (m : Nat), .int .i64 (d : Nat), .bool true] := by
      intro y m d hc
      unfold civD
      rw [isN_true h, Int.toNat_natCast, hc.eq hc.le]
      rfl
    have hk : k ≤ 3652058 := by omega
    have HC := Lib.hid hc
    clear hc
    go_enter Tryd.func18, Tryd.ntmps18
    go_wp2_with fail
    refine (rright_any _ w).mono ?_
    rintro e w' ⟨rfl, rfl⟩
    rw [isN_true h]
    go_wp2
    go_loop [6, 7] (fun u v => ∃ a b : Nat, a ≤ b ∧ b ≤ 9998 ∧ Hid (bef a ≤ k ∧ k < bef (b + 1)) ∧ u = .int .i64 ((a : Int) + 1) ∧ v = .int .i64 ((b : Int) + 1)) (fun u v => (intOf v - intOf u).toNat)
    case atStart => exact ⟨0, 9998, by omega, by omega, ⟨by simp [bef], by rw [show bef (9998 + 1) = 3652059 from by decide]; omega⟩, by simp, by simp⟩
    case round =>
      obtain ⟨a, b, hab, hb, HB, rfl, rfl⟩ := hrel
      by_cases he : a = b
      · subst he
        have hy : yr k = a := yr_uniq HB.out.1 HB.out.2
        subst hy
        have hst := InYear.start (n := k)
        have hle := (yr_spec k).1
        have hyl := yr_le (n := k) hk
        go_wp2_with fail
        refine (rfirst_any (yr k) _ rfl (by omega) w).mono ?_
        rintro e w' ⟨rfl, rfl⟩
        generalize yr k = t at *
        go_wp2
        go_loop [10, 9] (fun u v => ∃ j r : Nat, Hid (InYear k t j r) ∧ r ≤ 366 ∧ j ≤ 11 ∧ u = .int .i64 ((j : Int) + 1) ∧ v = .int .i64 (r : Int)) (fun u _ => (12 - intOf u).toNat)
        case atStart => exact ⟨0, k - bef t, hst, hst.small, by omega, by simp, by congr 1; omega⟩
        case round =>
          obtain ⟨j, r, hin, hr, hj, rfl, rfl⟩ := hrel
          have hmo := days_any (t + 1) (j + 1) w
          have HM := Lib.hid hmo
          clear hmo
          by_cases hd : dim (t + 1) (j + 1) ≤ r
          · go_wp2_with fail
            refine HM.out.mono ?_
            rintro e w' ⟨rfl, rfl⟩
            go_wp2_with fail
            refine HM.out.mono ?_
            rintro e w' ⟨rfl, rfl⟩
            have hn := hin.out.next hd
            go_wp2
            refine ⟨⟨j + 1, r - dim (t + 1) (j + 1), hn, hn.small, hn.le, by congr 1, by congr 1; omega⟩, ?_⟩
            have := hn.le
            simp only [intOf]
            omega
          · go_wp2_with fail
            refine HM.out.mono ?_
            rintro e w' ⟨rfl, rfl⟩
            go_wp2
            (try simp only [Exit.inBlock, Exit.then])
            refine bodyPost_ret (results_tmp4 rfl _ _ _) rfl ?_
            rw [HC.out _ _ _ (hin.out.done (by omega) hyl)]
            exact ⟨by simp, rfl⟩
      · have hlt : (a : Int) + 1 < (b : Int) + 1 := by omega
        obtain ⟨c, hc⟩ : ∃ c, c = (a + b + 1) / 2 := ⟨_, rfl⟩
        have hac : a < c := by omega
        have hcb : c ≤ b := by omega
        have HZ := Lib.hid hc
        clear hc
        by_cases hm : bef c ≤ k
        · go_wp2_with fail
          refine (rfirst_any c _ (by have := HZ.out; omega) (by omega) w).mono ?_
          rintro e w' ⟨rfl, rfl⟩
          go_wp2
          refine ⟨⟨c, b, hcb, hb, ⟨hm, HB.out.2⟩, by have := HZ.out; congr 1; omega, rfl⟩, ?_⟩
          have := HZ.out
          simp only [intOf]
          omega
        · go_wp2_with fail
          refine (rfirst_any c _ (by have := HZ.out; omega) (by omega) w).mono ?_
          rintro e w' ⟨rfl, rfl⟩
          go_wp2
          refine ⟨⟨a, c - 1, by omega, by omega, ⟨HB.out.1, by rw [show c - 1 + 1 = c from by omega]; omega⟩, rfl, by have := HZ.out; congr 1; omega⟩, ?_⟩
          have := HZ.out
          simp only [intOf]
          omega
  · have hc : civD n = .tuple #[.int .i64 0, .int .i64 0, .int .i64 0, .bool false] := by unfold civD; rw [isN_false h]; rfl
    rw [hc]
    have hf := isN_false h
    clear h
    go_enter Tryd.func18, Tryd.ntmps18
    go_wp2_with fail
    refine (rright_any _ w).mono ?_
    rintro e w' ⟨rfl, rfl⟩
    rw [hf]
    go_wp2
    (try simp only [Exit.inBlock, Exit.then])
    refine bodyPost_ret (results_tmp4 rfl _ _ _) rfl ?_
    exact ⟨rfl, rfl⟩
end Go.Proofs.YtaenalhglmkfdaaDoor
namespace Go.Proofs.YtaenalhglmkfdaaDoor
open Go.RowKit Mth

theorem rweekday_any (n : Int) (w : World) :
    Calls Tryd.prog 22 #[.int .i64 n] w fun e w' => e = .returned (.tuple #[.int .i64 (wkD n).1, .bool (wkD n).2]) ∧ w = w' := by
  by_cases h : 0 ≤ n ∧ n ≤ 3652058
  · rw [show wkD n = (n % 7 + 1, true) from by unfold wkD; rw [isN_true h]; rfl]
    go_enter Tryd.func22, Tryd.ntmps22
    go_wp2_with fail
    refine (rright_any _ w).mono ?_
    rintro e w' ⟨rfl, rfl⟩
    rw [isN_true h]
    go_wp2
    go_ret2
    exact ⟨by rw [Int.add_comm]; rfl, rfl⟩
  · rw [show wkD n = (0, false) from by unfold wkD; rw [isN_false h]; rfl]
    have hf := isN_false h
    clear h
    go_enter Tryd.func22, Tryd.ntmps22
    go_wp2_with fail
    refine (rright_any _ w).mono ?_
    rintro e w' ⟨rfl, rfl⟩
    rw [hf]
    go_wp2
    go_ret2
    exact ⟨rfl, rfl⟩

set_option maxRecDepth 100000 in
theorem radd_any (n k : Int) (w : World) :
    Calls Tryd.prog 20 #[.int .i64 n, .int .i64 k] w fun e w' => e = .returned (.tuple #[.int .i64 (addD n k).1, .bool (addD n k).2]) ∧ w = w' := by
  by_cases h : 0 ≤ n ∧ n ≤ 3652058
  · have ht := isN_true h
    by_cases hk : -3652058 ≤ k ∧ k ≤ 3652058
    · have ha : addD n k = (if isN (n + k) then n + k else 0, isN (n + k)) := by
        unfold addD; rw [ht, Bool.true_and]; cases isN (n + k) <;> rfl
      rw [ha]
      generalize hb : isN (n + k) = b
      have HB := Lib.hid hb
      clear ha hb
      cases b
      all_goals
        go_enter Tryd.func20, Tryd.ntmps20
        go_wp2_with fail
        refine (rright_any _ w).mono ?_
        rintro e w' ⟨rfl, rfl⟩
        rw [ht]
        go_wp2_with fail
        refine (rright_any _ w).mono ?_
        rintro e w' ⟨rfl, rfl⟩
        rw [HB.out]
        go_wp2
        go_ret2
        exact ⟨rfl, rfl⟩
    · have ha : addD n k = (0, false) := by unfold addD; rw [ht, isN_false (n := n + k) (by omega)]; rfl
      rw [ha]
      clear ha
      by_cases h1 : k < -3652058
      · clear hk
        go_enter Tryd.func20, Tryd.ntmps20
        go_wp2_with fail
        refine (rright_any _ w).mono ?_
        rintro e w' ⟨rfl, rfl⟩
        rw [ht]
        go_wp2
        go_ret2
        exact ⟨rfl, rfl⟩
      · have h2 : 3652058 < k := by omega
        clear hk
        go_enter Tryd.func20, Tryd.ntmps20
        go_wp2_with fail
        refine (rright_any _ w).mono ?_
        rintro e w' ⟨rfl, rfl⟩
        rw [ht]
        go_wp2
        go_ret2
        exact ⟨rfl, rfl⟩
  · rw [show addD n k = (0, false) from by unfold addD; rw [isN_false h]; rfl]
    have hf := isN_false h
    clear h
    go_enter Tryd.func20, Tryd.ntmps20
    go_wp2_with fail
    refine (rright_any _ w).mono ?_
    rintro e w' ⟨rfl, rfl⟩
    rw [hf]
    go_wp2
    go_ret2
    exact ⟨rfl, rfl⟩

theorem days_at (z u : Int) (y m : Nat) (hz : z = (y : Int)) (hu : u = (m : Int)) (w : World) :
    Calls Tryd.prog 39 #[.int .i64 z, .int .i64 u] w fun e w' => e = .returned (.int .i64 (dim y m : Nat)) ∧ w = w' := by
  subst hz; subst hu; exact days_any y m w

set_option maxRecDepth 100000 in
theorem rmonths_any (n M : Int) (w : World) :
    Calls Tryd.prog 24 #[.int .i64 n, .int .i64 M] w fun e w' => e = .returned (.tuple #[.int .i64 (monD n M).1, .bool (monD n M).2]) ∧ w = w' := by
  by_cases h : 0 ≤ n ∧ n ≤ 3652058
  · obtain ⟨k, rfl⟩ := Int.eq_ofNat_of_zero_le h.1
    have hc := civ_spec (n := k) (show k ≤ maxDay by unfold maxDay; omega)
    have hcd : civD (k : Int) = .tuple #[.int .i64 ((civ k).1 : Nat), .int .i64 ((civ k).2.1 : Nat), .int .i64 ((civ k).2.2 : Nat), .bool true] := by
      unfold civD; rw [isN_true h]; rfl
    have hm : monD (k : Int) M = if 12 ≤ monC k M ∧ monC k M < 120000 then (((monN (monC k M).toNat (civ k).2.2 : Nat) : Int), true) else (0, false) := by
      unfold monD; rw [isN_true h]; simp only [Int.toNat_natCast, Bool.true_and, decide_eq_true_eq]
    have hmc : monC k M = 12 * ((civ k).1 : Nat) + ((civ k).2.1 : Nat) - 1 + M := rfl
    rw [hm]
    obtain ⟨h1, h2, h3, h4, h5, h6⟩ := hc.ok
    clear hm hc
    generalize (civ k).1 = y at *
    generalize (civ k).2.1 = m at *
    generalize (civ k).2.2 = d at *
    have hdl := dim_le y m
    have hd31 : d ≤ 31 := by omega
    clear h6 hdl
    have HCD := Lib.hid hcd
    clear hcd
    by_cases hM : -120000 ≤ M ∧ M ≤ 120000
    · by_cases hin : 12 ≤ monC k M ∧ monC k M < 120000
      · rw [if_pos hin]
        obtain ⟨q, hq⟩ := Int.eq_ofNat_of_zero_le (show 0 ≤ monC k M by omega)
        have hw : 12 * (y : Int) + m - 1 + M = q := by omega
        rw [hq] at hin ⊢
        rw [Int.toNat_natCast]
        have hq1 : 12 ≤ q := by omega
        have hq2 : q < 120000 := by omega
        have hnum : ∀ dd : Int, dd = (min d (dim (q / 12) (q % 12 + 1)) : Nat) → numD ((q : Int) / 12) ((q : Int) % 12 + 1) dd = (((monN q d : Nat) : Int), true) := by
          intro dd hdd
          subst hdd
          have e1 : ((q : Int) / 12).toNat = q / 12 := by omega
          have e2 : ((q : Int) % 12 + 1).toNat = q % 12 + 1 := by omega
          have hdp := dim_pos (q / 12) (q % 12 + 1)
          have ho : okD ((q : Int) / 12) ((q : Int) % 12 + 1) (min d (dim (q / 12) (q % 12 + 1)) : Nat) = true := by
            unfold okD
            rw [e1, e2]
            apply decide_eq_true
            omega
          unfold numD
          rw [ho, e1, e2, Int.toNat_natCast]
          rfl
        obtain ⟨ln, hln⟩ : ∃ ln, ln = dim (q / 12) (q % 12 + 1) := ⟨_, rfl⟩
        rw [← hln] at hnum
        have HL := Lib.hid hln
        have HN := Lib.hid hnum
        have hln31 : ln ≤ 31 := by rw [hln]; exact dim_le _ _
        have hM1 := hM.1
        have hM2 := hM.2
        clear hnum hmc hq hin h hln hM
        go_enter Tryd.func24, Tryd.ntmps24
        go_wp2_with fail
        refine (rcivil_any _ w).mono ?_
        rintro e w' ⟨rfl, rfl⟩
        rw [HCD.out]
        go_wp2_with fail
        refine (days_at _ _ (q / 12) (q % 12 + 1) (by omega) (by omega) w).mono ?_
        rintro e w' ⟨rfl, rfl⟩
        rw [← HL.out]
        go_wp2_with fail
        all_goals
          refine (rnumber_any _ _ _ w).mono ?_
          rintro e w' ⟨rfl, rfl⟩
          rw [HN.out _ (by omega)]
          go_wp2
          go_ret2
          exact ⟨rfl, rfl⟩
      · rw [if_neg hin]
        have hM1 := hM.1
        have hM2 := hM.2
        rw [hmc] at hin
        clear hmc h hM
        by_cases hlo : 12 * (y : Int) + m - 1 + M < 12
        · clear hin
          go_enter Tryd.func24, Tryd.ntmps24
          go_wp2_with fail
          refine (rcivil_any _ w).mono ?_
          rintro e w' ⟨rfl, rfl⟩
          rw [HCD.out]
          go_wp2
          go_ret2
          exact ⟨rfl, rfl⟩
        · have hhi : 120000 ≤ 12 * (y : Int) + m - 1 + M := by omega
          clear hin
          go_enter Tryd.func24, Tryd.ntmps24
          go_wp2_with fail
          refine (rcivil_any _ w).mono ?_
          rintro e w' ⟨rfl, rfl⟩
          rw [HCD.out]
          go_wp2
          go_ret2
          exact ⟨rfl, rfl⟩
    · rw [if_neg (by omega)]
      by_cases h1 : M < -120000
      · clear hM hmc h
        go_enter Tryd.func24, Tryd.ntmps24
        go_wp2_with fail
        refine (rcivil_any _ w).mono ?_
        rintro e w' ⟨rfl, rfl⟩
        rw [HCD.out]
        go_wp2
        go_ret2
        exact ⟨rfl, rfl⟩
      · have h2 : 120000 < M := by omega
        clear hM hmc h
        go_enter Tryd.func24, Tryd.ntmps24
        go_wp2_with fail
        refine (rcivil_any _ w).mono ?_
        rintro e w' ⟨rfl, rfl⟩
        rw [HCD.out]
        go_wp2
        go_ret2
        exact ⟨rfl, rfl⟩
  · rw [show monD n M = (0, false) from by unfold monD; rw [isN_false h]; rfl]
    have hcd : civD n = .tuple #[.int .i64 0, .int .i64 0, .int .i64 0, .bool false] := by unfold civD; rw [isN_false h]; rfl
    have HCD := Lib.hid hcd
    clear h hcd
    go_enter Tryd.func24, Tryd.ntmps24
    go_wp2_with fail
    refine (rcivil_any _ w).mono ?_
    rintro e w' ⟨rfl, rfl⟩
    rw [HCD.out]
    go_wp2
    go_ret2
    exact ⟨rfl, rfl⟩
end Go.Proofs.YtaenalhglmkfdaaDoor
namespace Go.Proofs.YtaenalhglmkfdaaDoor
open Go.RowKit Mth

theorem and_rng (x : Int) (m : Nat) (hm : m < 9223372036854775808) : 0 ≤ bits .and .i64 x (m : Int) ∧ bits .and .i64 x (m : Int) ≤ m := by
  have h : bits .and .i64 x (m : Int) = IntKind.i64.wrap (((BitVec.ofInt 64 x &&& BitVec.ofInt 64 (m : Int)).toNat : Nat) : Int) := rfl
  have hb : (BitVec.ofInt 64 (m : Int)).toNat = m := by
    rw [BitVec.toNat_ofInt]
    omega
  have hle : (BitVec.ofInt 64 x &&& BitVec.ofInt 64 (m : Int)).toNat ≤ m := by
    rw [BitVec.toNat_and, hb]
    exact Nat.and_le_right
  rw [h, IntKind.wrap_i64]
  omega

theorem wrap_rng (x : Int) : -9223372036854775808 ≤ wrap64 x ∧ wrap64 x ≤ 9223372036854775807 := by
  unfold wrap64; omega

set_option maxRecDepth 100000 in
set_option maxHeartbeats 4000000 in
theorem monthsL_true (n ms : Int) (w : World) (hd : DV w) (hn : -9223372036854775808 ≤ n ∧ n ≤ 9223372036854775807) (hm : -9223372036854775808 ≤ ms ∧ ms ≤ 9223372036854775807) :
    Calls Tryd.prog 7 #[.int .i64 n, .int .i64 ms] w fun e w' => e = .returned (.bool true) ∧ w.grownBy w' none := by
  have r2 := and_rng ms 8191 (by decide)
  have r3 := and_rng ms 3 (by decide)
  obtain ⟨hm1, hm2⟩ := hm
  go_enter Tryd.func7, Tryd.ntmps7
  go_wp2_with fail
  refine (sanity_any w hd).mono ?_
  rintro e w1 ⟨rfl, hg1⟩
  have hd1 := hd.grown hg1
  obtain ⟨W0, hW0⟩ : ∃ W0 : World, W0 = w1.alloc (.cells #[.int .i64 n, .int .i64 ms, .int .i64 (bits .and .i64 n 4194303), .int .i64 ms, .int .i64 (bits .and .i64 n 4194303), .int .i64 (bits .and .i64 ms 8191), .int .i64 (bits .and .i64 n 4194303), .int .i64 (wrap64 (-bits .and .i64 ms 8191)), .int .i64 (bits .and .i64 n 4194303), .int .i64 (bits .and .i64 ms 3)] 37) := ⟨_, rfl⟩
  have hpair : ∀ i, i < 5 → ∃ p q : Int, W0.cell? ⟨w1.heap.size, i * 2, none⟩ = some (.int .i64 p) ∧ W0.cell? ⟨w1.heap.size, i * 2 + 1, none⟩ = some (.int .i64 q) ∧ -9223372036854775808 ≤ q ∧ q ≤ 9223372036854775807 := by
    have key : ∀ (t : TypeId) (xs : Array Value) (j : Nat), (w1.alloc (.cells xs t)).cell? ⟨w1.heap.size, j, none⟩ = xs[j]? := fun t xs j => cell_of_row _ _ j xs t (0, 0) (heap_alloc_new w1 _)
    rw [hW0]
    intro i hi
    have r2' : 0 ≤ bits .and .i64 ms 8191 ∧ bits .and .i64 ms 8191 ≤ 8191 := r2
    have r3' : 0 ≤ bits .and .i64 ms 3 ∧ bits .and .i64 ms 3 ≤ 3 := r3
    rcases i with _ | _ | _ | _ | _ | i
    · exact ⟨_, _, by rw [key]; rfl, by rw [key]; rfl, hm1, hm2⟩
    · exact ⟨_, _, by rw [key]; rfl, by rw [key]; rfl, hm1, hm2⟩
    · exact ⟨_, _, by rw [key]; rfl, by rw [key]; rfl, by omega, by omega⟩
    · exact ⟨_, _, by rw [key]; rfl, by rw [key]; rfl, wrap_rng _⟩
    · exact ⟨_, _, by rw [key]; rfl, by rw [key]; rfl, by omega, by omega⟩
    · omega
  have hgw : w.grownBy W0 none := by rw [hW0]; exact gr_then hg1 (gr_alloc w1 _ none)
  have hd0 : DV W0 := hd.grown hgw
  have HG := Lib.hid hgw
  clear hg1 hgw r2 r3
  go_wp2
  rw [← hW0]
  generalize w1.heap.size = G at hpair ⊢
  have HP := Lib.hid hpair
  clear hW0 hpair
  go_loopw [37] (fun kv wr => ∃ k : Nat, k ≤ 5 ∧ kv = .int .i64 k ∧ W0.grownBy wr none) (fun kv _ => 5 - (intOf kv).toNat)
  case atStart => exact ⟨0, by omega, rfl, World.grownBy.refl _ _⟩
  case round =>
    obtain ⟨k, hk, rfl, hgr⟩ := hrel
    by_cases hlt : k < 5
    · obtain ⟨p, q, hc0, hc1, hq1, hq2⟩ := HP.out k hlt
      have hc0 := hgr.cell hc0 (by simp)
      have hc1 := hgr.cell hc1 (by simp)
      have hdr := hd0.grown hgr
      have hdr2 := hdr.grown (gr_alloc wr (.cells #[.int .i64 p, .int .i64 q] 37) none)
      have hm1 := months_any p q hq1 hq2 _ hdr2.l
      have hm2 := rmonths_any p q (wr.alloc (.cells #[.int .i64 p, .int .i64 q] 37))
      generalize monD p q = z at hm1 hm2
      obtain ⟨z1, z2⟩ := z
      have HM := Lib.hid (And.intro hm1 hm2)
      clear hm1 hm2 hq1 hq2
      go_wp2_with fail
      refine HM.out.1.mono ?_
      rintro e w' ⟨rfl, rfl⟩
      go_wp2_with fail
      refine HM.out.2.mono ?_
      rintro e w' ⟨rfl, rfl⟩
      have hgr2 := gr_then hgr (gr_alloc wr (.cells #[.int .i64 p, .int .i64 q] 37) none)
      go_wp2
      exact ⟨⟨k + 1, by omega, by congr 1, hgr2⟩, by simp [intOf]; omega⟩
    · obtain rfl : k = 5 := by omega
      go_wp2
      go_ret
      exact ⟨rfl, gr_then HG.out hgr⟩
end Go.Proofs.YtaenalhglmkfdaaDoor
