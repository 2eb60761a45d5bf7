/- Contracts of the program and of the reference, part 3: Form, Read, TextD, San, Inverse, RowD, InverseRow. -/
import Derived.Test.YtaenalhglmkfdaaDoorBInverse2
import Derived.Test.YtaenalhglmkfdaaDoorRows
import Derived.ProofKit
import Derived.ChangeSlices
import Derived.LaidLaws
import Derived.Lib.LaidIn
import Derived.Lib.LaidTab
import Derived.Stop.LaidErr
import Derived.OpenShut
namespace Go.Proofs.YtaenalhglmkfdaaDoor
open Go.RowKit Mth

theorem tabis_grown {w w' : World} {name : String} {k : IntKind} {zs : List Int} (h : Lib.TabIs Tryd.prog w name k zs) (hg : w.grownBy w' none) : Lib.TabIs Tryd.prog w' name k zs := by
  unfold Lib.TabIs World.var? at *
  cases hq : Tryd.prog.globalNamed name with
  | none => simp [hq] at h
  | some g =>
    simp only [hq, Option.bind_some] at h ⊢
    have hlt : g < w.heap.size := by
      rcases Nat.lt_or_ge g w.heap.size with h' | h'
      · exact h'
      · rw [Array.getElem?_eq_none h'] at h; simp at h
    rw [hg.block g hlt (by simp)]
    exact h
/-- The variables of the program that package date reads, as they are laid. -/
structure DV (w : World) : Prop where
  f : FV w
  l : LenV w
  t : Tab w
theorem DV.grown {w w' : World} (h : DV w) (hg : w.grownBy w' none) : DV w' := ⟨h.f.grown hg (by simp), tabis_grown h.l hg, tabis_grown h.t hg⟩

/-- What Format gives. -/
def formD (lay : List UInt8) (n : Int) : List UInt8 × Bool := if isN n && isRightL lay then (fmt (civ n.toNat) (toks lay), true) else ([], false)
theorem civ_small {n : Nat} (h : n ≤ 3652058) : (civ n).1 ≤ 9999 ∧ (civ n).2.1 ≤ 99 ∧ (civ n).2.2 ≤ 99 := by
  obtain ⟨h1, h2, h3, h4, h5, h6⟩ := (civ_spec (n := n) h).ok
  have := dim_le (civ n).1 (civ n).2.1
  omega
theorem right_len {l : List UInt8} (h : isRightL l = true) : l.length ≤ 40 := by
  unfold isRightL at h
  simp only [Bool.and_eq_true, decide_eq_true_eq] at h
  exact h.1.1.1.1

set_option maxRecDepth 100000 in
set_option maxHeartbeats 1000000 in
theorem format_any (lay : ByteArray) (n : Int) (w : World) (hl : lay.size ≤ 1000000000000) (hd : DV w) :
    Calls Tryd.prog 30 #[.string lay, .int .i64 n] w fun e w' => e = .returned (.tuple #[.string ⟨(formD lay.data.toList n).1.toArray⟩, .bool (formD lay.data.toList n).2]) ∧ w.grownBy w' none := by
  have hci := civil_any n w hd.l
  have HCI := Lib.hid hci
  clear hci
  cases hn : isN n with
  | false =>
    have hf : formD lay.data.toList n = ([], false) := by unfold formD; rw [hn]; rfl
    have hc : civD n = .tuple #[.int .i64 0, .int .i64 0, .int .i64 0, .bool false] := by unfold civD; rw [hn]; rfl
    have HC := Lib.hid hc
    rw [hf]
    clear hf hc hn
    go_enter Tryd.func30, Tryd.ntmps30
    go_wp2_with fail
    refine HCI.out.mono ?_
    rintro e w' ⟨rfl, rfl⟩
    rw [HC.out]
    go_wp2
    go_ret2
    exact ⟨rfl, World.grownBy.refl _ _⟩
  | true =>
    have hc : civD n = .tuple #[.int .i64 ((civ n.toNat).1 : Nat), .int .i64 ((civ n.toNat).2.1 : Nat), .int .i64 ((civ n.toNat).2.2 : Nat), .bool true] := by unfold civD; rw [hn]; rfl
    have HC := Lib.hid hc
    have hn2 : n.toNat ≤ 3652058 := by unfold isN at hn; rw [decide_eq_true_eq] at hn; omega
    have HS := Lib.hid (civ_small hn2)
    cases hr : isRightL lay.data.toList with
    | false =>
      have hf : formD lay.data.toList n = ([], false) := by unfold formD; rw [hn, hr]; rfl
      rw [hf]
      have HR := Lib.hid hr
      clear hf hc hn hn2 hr
      go_enter Tryd.func30, Tryd.ntmps30
      go_wp2_with fail
      refine HCI.out.mono ?_
      rintro e w' ⟨rfl, rfl⟩
      rw [HC.out]
      go_wp2_with fail
      refine (isRight_any lay w hl hd.f).mono ?_
      rintro e w1 ⟨rfl, hg1⟩
      rw [HR.out]
      go_wp2
      go_ret2
      exact ⟨rfl, hg1⟩
    | true =>
      have hf : formD lay.data.toList n = (fmt (civ n.toNat) (toks lay.data.toList), true) := by unfold formD; rw [hn, hr]; rfl
      rw [hf]
      have HR := Lib.hid hr
      have hl40 : lay.size ≤ 40 := right_len hr
      clear hf hc hn hn2 hr
      go_enter Tryd.func30, Tryd.ntmps30
      go_wp2_with fail
      refine HCI.out.mono ?_
      rintro e w' ⟨rfl, rfl⟩
      rw [HC.out]
      go_wp2_with fail
      refine (isRight_any lay w hl hd.f).mono ?_
      rintro e w1 ⟨rfl, hg1⟩
      rw [HR.out]
      have hd1 := hd.grown hg1
      have HG := Lib.hid hg1
      clear hg1
      go_wp2_with fail
      refine (replaced_any lay (civ n.toNat) HS.out w1 hl40 hd1.f hd1.t).mono ?_
      rintro e w2 ⟨rfl, hg2⟩
      go_wp2
      go_ret2
      exact ⟨rfl, gr_then HG.out hg2⟩
end Go.Proofs.YtaenalhglmkfdaaDoor
namespace Go.Proofs.YtaenalhglmkfdaaDoor
open Go.RowKit Mth

/-- What Read gives. -/
def readL (lay s : List UInt8) : Nat × Bool := if isRightL lay then readD (toks lay) s else (0, false)
theorem numD_ok {v : Nat × Nat × Nat} (h : validC v) : numD (v.1 : Nat) (v.2.1 : Nat) (v.2.2 : Nat) = (((numC v : Nat) : Int), true) := by
  obtain ⟨h1, h2, h3, h4, h5, h6⟩ := h
  unfold numD okD
  rw [decide_eq_true (by simp only [Int.toNat_natCast]; omega)]
  simp only [Int.toNat_natCast]
  rfl
theorem numD_no {v : Nat × Nat × Nat} (h : ¬ validC v) : numD (v.1 : Nat) (v.2.1 : Nat) (v.2.2 : Nat) = (0, false) := by
  unfold numD okD
  rw [decide_eq_false]
  · rfl
  · simp only [Int.toNat_natCast]
    intro hh
    exact h ⟨by omega, by omega, by omega, by omega, by omega, by omega⟩

set_option maxRecDepth 100000 in
set_option maxHeartbeats 2000000 in
theorem read_any (lay s : ByteArray) (w : World) (hl : lay.size ≤ 1000000000000) (hs : s.size ≤ 1000000000000) (hd : DV w) :
    Calls Tryd.prog 33 #[.string lay, .string s] w fun e w' => e = .returned (.tuple #[.int .i64 ((readL lay.data.toList s.data.toList).1 : Nat), .bool (readL lay.data.toList s.data.toList).2]) ∧ w.grownBy w' none := by
  cases hr : isRightL lay.data.toList with
  | false =>
    have hf : readL lay.data.toList s.data.toList = (0, false) := by unfold readL; rw [hr]; rfl
    rw [hf]
    have HR := Lib.hid hr
    clear hf hr
    go_enter Tryd.func33, Tryd.ntmps33
    go_wp2_with fail
    refine (isRight_any lay w hl hd.f).mono ?_
    rintro e w1 ⟨rfl, hg1⟩
    rw [HR.out]
    go_wp2
    go_ret2
    exact ⟨rfl, hg1⟩
  | true =>
    have hf : readL lay.data.toList s.data.toList = readD (toks lay.data.toList) s.data.toList := by unfold readL; rw [hr]; rfl
    rw [hf]
    unfold readD
    have HR := Lib.hid hr
    have hl40 : lay.size ≤ 40 := right_len hr
    clear hf hr
    obtain ⟨v, hv⟩ : ∃ v, v = rd (toks lay.data.toList) s.data.toList (0, 0, 0) := ⟨_, rfl⟩
    rw [← hv]
    have HV := Lib.hid hv
    clear hv
    by_cases hval : validC v
    · have hn := numD_ok hval
      have hsm : v.1 ≤ 9999 ∧ v.2.1 ≤ 99 ∧ v.2.2 ≤ 99 := by
        have h1 := hval.small.1
        have h2 := hval.small.2.1
        have h3 := hval.small.2.2
        simp only [Nat.reducePow] at h1 h2 h3
        omega
      have HN := Lib.hid hn
      have HS := Lib.hid hsm
      by_cases hq : fmt v (toks lay.data.toList) = s.data.toList
      · have ha : ans v (toks lay.data.toList) s.data.toList = (numC v, true) := by unfold ans; rw [if_pos ⟨hval, hq⟩]
        rw [ha]
        have hq2 : (⟨(fmt v (toks lay.data.toList)).toArray⟩ : ByteArray) = s := toArray_eq s hq
        have HQ := Lib.hid hq2
        clear ha hq hq2 hval hn hsm
        go_enter Tryd.func33, Tryd.ntmps33
        go_wp2_with fail
        refine (isRight_any lay w hl hd.f).mono ?_
        rintro e w1 ⟨rfl, hg1⟩
        rw [HR.out]
        have hd1 := hd.grown hg1
        have HG1 := Lib.hid hg1
        clear hg1
        go_wp2_with fail
        refine (readAs_any lay s w1 hl40 hs hd1.f).mono ?_
        rintro e w2 ⟨rfl, hg2⟩
        rw [← HV.out]
        have hd2 := hd1.grown hg2
        have HG2 := Lib.hid (gr_then HG1.out hg2)
        clear hg2
        go_wp2_with fail
        refine (number_any _ _ _ _ (hd2.grown (gr_alloc w2 (.cells #[.int .i64 (v.1 : Nat), .int .i64 (v.2.1 : Nat), .int .i64 (v.2.2 : Nat)] 66) none)).l).mono ?_
        rintro e w3 ⟨rfl, rfl⟩
        rw [HN.out]
        go_wp2_with fail
        have hd3 := hd2.grown (gr_alloc w2 (.cells #[.int .i64 (v.1 : Nat), .int .i64 (v.2.1 : Nat), .int .i64 (v.2.2 : Nat)] 66) none)
        refine (replaced_any lay v HS.out _ hl40 hd3.f hd3.t).mono ?_
        rintro e w4 ⟨rfl, hg4⟩
        have hg5 := gr_then HG2.out (gr_then (gr_alloc w2 (.cells #[.int .i64 (v.1 : Nat), .int .i64 (v.2.1 : Nat), .int .i64 (v.2.2 : Nat)] 66) none) hg4)
        have HG5 := Lib.hid hg5
        clear hg4 hg5 hd3
        rw [HQ.out]
        go_wp2
        go_ret2
        exact ⟨rfl, HG5.out⟩
      · have ha : ans v (toks lay.data.toList) s.data.toList = (0, false) := by unfold ans; rw [if_neg (fun h => hq h.2)]
        rw [ha]
        obtain ⟨q, hqq⟩ : ∃ q : ByteArray, q = ⟨(fmt v (toks lay.data.toList)).toArray⟩ := ⟨_, rfl⟩
        have hne : (q.toList == s.toList) = false := by
          rw [beq_eq_false_iff_ne]
          intro e
          rw [ByteArray.toList_eq, ByteArray.toList_eq, hqq] at e
          exact hq e
        have HQ := Lib.hid hqq
        clear ha hq hqq hval hn hsm
        go_enter Tryd.func33, Tryd.ntmps33
        go_wp2_with fail
        refine (isRight_any lay w hl hd.f).mono ?_
        rintro e w1 ⟨rfl, hg1⟩
        rw [HR.out]
        have hd1 := hd.grown hg1
        have HG1 := Lib.hid hg1
        clear hg1
        go_wp2_with fail
        refine (readAs_any lay s w1 hl40 hs hd1.f).mono ?_
        rintro e w2 ⟨rfl, hg2⟩
        rw [← HV.out]
        have hd2 := hd1.grown hg2
        have HG2 := Lib.hid (gr_then HG1.out hg2)
        clear hg2
        go_wp2_with fail
        refine (number_any _ _ _ _ (hd2.grown (gr_alloc w2 (.cells #[.int .i64 (v.1 : Nat), .int .i64 (v.2.1 : Nat), .int .i64 (v.2.2 : Nat)] 66) none)).l).mono ?_
        rintro e w3 ⟨rfl, rfl⟩
        rw [HN.out]
        go_wp2_with fail
        have hd3 := hd2.grown (gr_alloc w2 (.cells #[.int .i64 (v.1 : Nat), .int .i64 (v.2.1 : Nat), .int .i64 (v.2.2 : Nat)] 66) none)
        refine (replaced_any lay v HS.out _ hl40 hd3.f hd3.t).mono ?_
        rintro e w4 ⟨rfl, hg4⟩
        have hg5 := gr_then HG2.out (gr_then (gr_alloc w2 (.cells #[.int .i64 (v.1 : Nat), .int .i64 (v.2.1 : Nat), .int .i64 (v.2.2 : Nat)] 66) none) hg4)
        have HG5 := Lib.hid hg5
        clear hg4 hg5 hd3
        rw [← HQ.out]
        go_wp2
        go_ret2
        exact ⟨rfl, HG5.out⟩
    · have ha : ans v (toks lay.data.toList) s.data.toList = (0, false) := by unfold ans; rw [if_neg (fun h => hval h.1)]
      rw [ha]
      have HN := Lib.hid (numD_no hval)
      clear ha hval
      go_enter Tryd.func33, Tryd.ntmps33
      go_wp2_with fail
      refine (isRight_any lay w hl hd.f).mono ?_
      rintro e w1 ⟨rfl, hg1⟩
      rw [HR.out]
      have hd1 := hd.grown hg1
      have HG1 := Lib.hid hg1
      clear hg1
      go_wp2_with fail
      refine (readAs_any lay s w1 hl40 hs hd1.f).mono ?_
      rintro e w2 ⟨rfl, hg2⟩
      rw [← HV.out]
      have hd2 := hd1.grown hg2
      have HG2 := Lib.hid (gr_then HG1.out hg2)
      clear hg2
      go_wp2_with fail
      refine (number_any _ _ _ _ (hd2.grown (gr_alloc w2 (.cells #[.int .i64 (v.1 : Nat), .int .i64 (v.2.1 : Nat), .int .i64 (v.2.2 : Nat)] 66) none)).l).mono ?_
      rintro e w3 ⟨rfl, rfl⟩
      rw [HN.out]
      go_wp2
      go_ret2
      exact ⟨rfl, gr_then HG2.out (gr_alloc _ _ _)⟩
end Go.Proofs.YtaenalhglmkfdaaDoor
namespace Go.Proofs.YtaenalhglmkfdaaDoor
open Go.RowKit Mth

def layI : ByteArray := ⟨#[89, 89, 89, 89, 45, 77, 77, 45, 68, 68]⟩
def textD (n : Int) : List UInt8 := (formD layI.data.toList n).1

theorem text_any (n : Int) (w : World) (hd : DV w) :
    Calls Tryd.prog 25 #[.int .i64 n] w fun e w' => e = .returned (.string ⟨(textD n).toArray⟩) ∧ w.grownBy w' none := by
  go_enter Tryd.func25, Tryd.ntmps25
  go_wp2_with fail
  refine (format_any layI n w (by decide) hd).mono ?_
  rintro e w' ⟨rfl, hg⟩
  go_wp2
  go_ret
  exact ⟨rfl, hg⟩
theorem parse_any (s : ByteArray) (w : World) (hs : s.size ≤ 1000000000000) (hd : DV w) :
    Calls Tryd.prog 27 #[.string s] w fun e w' => e = .returned (.tuple #[.int .i64 ((readL layI.data.toList s.data.toList).1 : Nat), .bool (readL layI.data.toList s.data.toList).2]) ∧ w.grownBy w' none := by
  go_enter Tryd.func27, Tryd.ntmps27
  go_wp2_with fail
  refine (read_any layI s w (by decide) hs hd).mono ?_
  rintro e w' ⟨rfl, hg⟩
  go_wp2
  go_ret2
  exact ⟨rfl, hg⟩

/-! To reckon with -/
def wrtE (c : Nat × Nat × Nat) : Tok → List UInt8
  | .y4 => padF (c.1 + 4) c.1 4
  | .m2 => padF (c.2.1 + 2) c.2.1 2
  | .m1 => padF (c.2.1 + 1) c.2.1 1
  | .d2 => padF (c.2.2 + 2) c.2.2 2
  | .d1 => padF (c.2.2 + 1) c.2.2 1
  | .ch b => [b]
theorem wrtE_eq (c : Nat × Nat × Nat) (t : Tok) : wrtE c t = wrt c t := by
  cases t <;> simp only [wrtE, wrt] <;> exact padF_eq _ _ _ (Nat.le_refl _)
def fmtE (c : Nat × Nat × Nat) (ts : List Tok) : List UInt8 := (ts.map (wrtE c)).flatten
theorem fmtE_eq (c : Nat × Nat × Nat) (ts : List Tok) : fmtE c ts = fmt c ts := by
  unfold fmtE fmt
  rw [show wrtE c = wrt c from funext (wrtE_eq c)]
def rightE (l : List UInt8) : Bool := decide (l.length ≤ 40) && good false (toksF l.length l) && decide ((toksF l.length l).countP Tok.isY = 1) && decide ((toksF l.length l).countP Tok.isM = 1) && decide ((toksF l.length l).countP Tok.isD = 1)
theorem rightE_eq (l : List UInt8) : rightE l = isRightL l := by
  unfold rightE isRightL
  rw [toksF_eq _ _ (Nat.le_refl _)]
def formE (lay : List UInt8) (n : Int) : List UInt8 × Bool := if isN n && rightE lay then (fmtE (civ n.toNat) (toksF lay.length lay), true) else ([], false)
theorem formE_eq (lay : List UInt8) (n : Int) : formE lay n = formD lay n := by
  unfold formE formD
  rw [rightE_eq, fmtE_eq, toksF_eq _ _ (Nat.le_refl _)]
def readE (lay s : List UInt8) : Nat × Bool :=
  if rightE lay then
    (let v := rd (toksF lay.length lay) s (0, 0, 0)
     if validC v ∧ fmtE v (toksF lay.length lay) = s then (numC v, true) else (0, false))
  else (0, false)
theorem readE_eq (lay s : List UInt8) : readE lay s = readL lay s := by
  unfold readE readL readD ans
  dsimp only
  rw [rightE_eq, fmtE_eq, toksF_eq _ _ (Nat.le_refl _)]

theorem civ_last : civ 3652058 = (9999, 12, 31) := by decide +kernel
theorem num_a : numD 1 1 1 = (0, true) := by decide +kernel
theorem num_b : numD 1 12 31 = (364, true) := by decide +kernel
theorem num_c : numD 2 1 1 = (365, true) := by decide +kernel
theorem num_d : numD 2000 2 29 = (730178, true) := by decide +kernel
theorem num_e : numD 1900 2 29 = (0, false) := by decide +kernel
theorem num_f : numD 2024 1 31 = (738915, true) := by decide +kernel
theorem wk_a : wkD 3652058 = (5, true) := by decide +kernel
theorem mon_a : monD 738915 1 = (738944, true) := by decide +kernel
theorem mon_b : monD 738915 13 = (739309, true) := by decide +kernel
theorem mon_c : monD 738915 (-1) = (738884, true) := by decide +kernel
theorem form_a : formD [68, 46, 77, 46, 89, 89, 89, 89] 730178 = ([50, 57, 46, 50, 46, 50, 48, 48, 48], true) := by rw [← formE_eq]; decide +kernel
theorem form_b : formD [68, 77, 89, 89, 89, 89] 0 = ([], false) := by rw [← formE_eq]; decide +kernel
theorem read_a : readL [68, 46, 77, 46, 89, 89, 89, 89] [50, 57, 46, 50, 46, 50, 48, 48, 48] = (730178, true) := by rw [← readE_eq]; decide +kernel
theorem read_b : readL [68, 46, 77, 46, 89, 89, 89, 89] [50, 57, 46, 48, 50, 46, 50, 48, 48, 48] = (0, false) := by rw [← readE_eq]; decide +kernel
theorem text_a : textD 738944 = [50, 48, 50, 52, 45, 48, 50, 45, 50, 57] := by unfold textD; rw [← formE_eq]; decide +kernel
theorem text_b : textD 739309 = [50, 48, 50, 53, 45, 48, 50, 45, 50, 56] := by unfold textD; rw [← formE_eq]; decide +kernel
theorem text_c : textD 738884 = [50, 48, 50, 51, 45, 49, 50, 45, 51, 49] := by unfold textD; rw [← formE_eq]; decide +kernel
end Go.Proofs.YtaenalhglmkfdaaDoor
namespace Go.Proofs.YtaenalhglmkfdaaDoor
open Go.RowKit Mth

theorem civ_l : civD 3652058 = .tuple #[.int .i64 9999, .int .i64 12, .int .i64 31, .bool true] := by
  unfold civD
  rw [show isN 3652058 = true from rfl, show (3652058 : Int).toNat = 3652058 from rfl, civ_last]
  rfl
set_option maxRecDepth 100000 in
set_option maxHeartbeats 4000000 in
theorem sanity_any (w : World) (hd : DV w) :
    Calls Tryd.prog 13 #[] w fun e w' => e = .returned (.bool true) ∧ w.grownBy w' none := by
  go_enter Tryd.func13, Tryd.ntmps13
  go_wp2_with fail
  have h0 := number_any 1 1 1 _ hd.l
  rw [num_a] at h0
  refine h0.mono ?_
  clear h0
  rintro e w' ⟨rfl, rfl⟩
  go_wp2_with fail
  have h1 := number_any 1 12 31 _ hd.l
  rw [num_b] at h1
  refine h1.mono ?_
  clear h1
  rintro e w' ⟨rfl, rfl⟩
  go_wp2_with fail
  have h2 := number_any 2 1 1 _ hd.l
  rw [num_c] at h2
  refine h2.mono ?_
  clear h2
  rintro e w' ⟨rfl, rfl⟩
  go_wp2_with fail
  have h3 := number_any 2000 2 29 _ hd.l
  rw [num_d] at h3
  refine h3.mono ?_
  clear h3
  rintro e w' ⟨rfl, rfl⟩
  go_wp2_with fail
  have h4 := number_any 1900 2 29 _ hd.l
  rw [num_e] at h4
  refine h4.mono ?_
  clear h4
  rintro e w' ⟨rfl, rfl⟩
  go_wp2_with fail
  have h5 := civil_any 3652058 _ hd.l
  rw [civ_l] at h5
  refine h5.mono ?_
  clear h5
  rintro e w' ⟨rfl, rfl⟩
  go_wp2_with fail
  have h6 := weekday_any 3652058 w
  rw [wk_a] at h6
  refine h6.mono ?_
  clear h6
  rintro e w' ⟨rfl, rfl⟩
  go_wp2_with fail
  have h7 := number_any 2024 1 31 _ hd.l
  rw [num_f] at h7
  refine h7.mono ?_
  clear h7
  rintro e w' ⟨rfl, rfl⟩
  go_wp2_with fail
  have h8 := months_any 738915 1 (by decide) (by decide) _ hd.l
  rw [mon_a] at h8
  refine h8.mono ?_
  clear h8
  rintro e w' ⟨rfl, rfl⟩
  go_wp2_with fail
  have h9 := months_any 738915 13 (by decide) (by decide) _ hd.l
  rw [mon_b] at h9
  refine h9.mono ?_
  clear h9
  rintro e w' ⟨rfl, rfl⟩
  go_wp2_with fail
  have h10 := months_any 738915 (-1) (by decide) (by decide) _ hd.l
  rw [mon_c] at h10
  refine h10.mono ?_
  clear h10
  rintro e w' ⟨rfl, rfl⟩
  go_wp2_with fail
  have h11 := format_any ⟨#[68, 46, 77, 46, 89, 89, 89, 89]⟩ 730178 _ (by decide) hd
  rw [show (⟨#[68, 46, 77, 46, 89, 89, 89, 89]⟩ : ByteArray).data.toList = [68, 46, 77, 46, 89, 89, 89, 89] from rfl, form_a] at h11
  refine h11.mono ?_
  clear h11
  rintro e w1 ⟨rfl, g1⟩
  have d1 := hd.grown g1
  have G1 := Lib.hid g1
  clear g1
  go_wp2_with fail
  have h12 := read_any ⟨#[68, 46, 77, 46, 89, 89, 89, 89]⟩ ⟨#[50, 57, 46, 50, 46, 50, 48, 48, 48]⟩ _ (by decide) (by decide) d1
  rw [show (⟨#[68, 46, 77, 46, 89, 89, 89, 89]⟩ : ByteArray).data.toList = [68, 46, 77, 46, 89, 89, 89, 89] from rfl, show (⟨#[50, 57, 46, 50, 46, 50, 48, 48, 48]⟩ : ByteArray).data.toList = [50, 57, 46, 50, 46, 50, 48, 48, 48] from rfl, read_a] at h12
  refine h12.mono ?_
  clear h12
  rintro e w2 ⟨rfl, g2⟩
  have d2 := d1.grown g2
  have G2 := Lib.hid (gr_then G1.out g2)
  clear g2
  go_wp2_with fail
  have h13 := read_any ⟨#[68, 46, 77, 46, 89, 89, 89, 89]⟩ ⟨#[50, 57, 46, 48, 50, 46, 50, 48, 48, 48]⟩ _ (by decide) (by decide) d2
  rw [show (⟨#[68, 46, 77, 46, 89, 89, 89, 89]⟩ : ByteArray).data.toList = [68, 46, 77, 46, 89, 89, 89, 89] from rfl, show (⟨#[50, 57, 46, 48, 50, 46, 50, 48, 48, 48]⟩ : ByteArray).data.toList = [50, 57, 46, 48, 50, 46, 50, 48, 48, 48] from rfl, read_b] at h13
  refine h13.mono ?_
  clear h13
  rintro e w3 ⟨rfl, g3⟩
  have d3 := d2.grown g3
  have G3 := Lib.hid (gr_then G2.out g3)
  clear g3
  go_wp2_with fail
  have h14 := format_any ⟨#[68, 77, 89, 89, 89, 89]⟩ 0 _ (by decide) d3
  rw [show (⟨#[68, 77, 89, 89, 89, 89]⟩ : ByteArray).data.toList = [68, 77, 89, 89, 89, 89] from rfl, form_b] at h14
  refine h14.mono ?_
  clear h14
  rintro e w4 ⟨rfl, g4⟩
  have d4 := d3.grown g4
  have G4 := Lib.hid (gr_then G3.out g4)
  clear g4
  go_wp2_with fail
  have h15 := text_any 738944 _ d4
  rw [text_a] at h15
  refine h15.mono ?_
  clear h15
  rintro e w5 ⟨rfl, g5⟩
  have d5 := d4.grown g5
  have G5 := Lib.hid (gr_then G4.out g5)
  clear g5
  go_wp2_with fail
  have h16 := text_any 739309 _ d5
  rw [text_b] at h16
  refine h16.mono ?_
  clear h16
  rintro e w6 ⟨rfl, g6⟩
  have d6 := d5.grown g6
  have G6 := Lib.hid (gr_then G5.out g6)
  clear g6
  go_wp2_with fail
  have h17 := text_any 738884 _ d6
  rw [text_c] at h17
  refine h17.mono ?_
  clear h17
  rintro e w7 ⟨rfl, g7⟩
  have d7 := d6.grown g7
  have G7 := Lib.hid (gr_then G6.out g7)
  clear g7
  go_wp2
  go_ret
  exact ⟨rfl, G7.out⟩
end Go.Proofs.YtaenalhglmkfdaaDoor
namespace Go.Proofs.YtaenalhglmkfdaaDoor
open Go.RowKit Mth

theorem civ_val {k : Nat} (hk : k ≤ 3652058) : civD (k : Int) = .tuple #[.int .i64 ((civ k).1 : Nat), .int .i64 ((civ k).2.1 : Nat), .int .i64 ((civ k).2.2 : Nat), .bool true] := by
  unfold civD; rw [isN_true ⟨by omega, by omega⟩]; rfl
theorem numD_civ {k y m d : Nat} (h : Civ k y m d) : numD (y : Nat) (m : Nat) (d : Nat) = ((k : Int), true) := by
  have := numD_ok (v := (y, m, d)) h.ok
  rw [show numC (y, m, d) = k from h.num] at this
  exact this
theorem okD_nat (y m d : Nat) : okD (y : Nat) (m : Nat) (d : Nat) = decide (valid y m d) := by
  unfold okD valid
  simp only [Int.toNat_natCast]
  exact decide_eq_decide.2 (by omega)

set_option maxRecDepth 100000 in
set_option maxHeartbeats 4000000 in
theorem inverse_true (n : Nat) (w : World) (hd : DV w) (hn : n ≤ 4294967295) :
    Calls Tryd.prog 4 #[.int .u32 (n : Int)] w fun e w' => e = .returned (.bool true) ∧ w.grownBy w' none := by
  obtain ⟨k, hk⟩ : ∃ k, k = n % 3652058 := ⟨_, rfl⟩
  have hkz : (n : Int) % 3652058 = (k : Int) := by omega
  have hk1 : k < 3652058 := by omega
  have hc := civ_spec (n := k) (show k ≤ 3652058 by omega)
  have hc' := civ_spec (n := k + 1) (show k + 1 ≤ 3652058 by omega)
  have hv := civ_val (k := k) (by omega)
  have hv' := civ_val (k := k + 1) (by omega)
  generalize hy : (civ k).1 = y at *
  generalize hm : (civ k).2.1 = m at *
  generalize hdd : (civ k).2.2 = d at *
  generalize ha : (civ (k + 1)).1 = a at *
  generalize hb : (civ (k + 1)).2.1 = b at *
  generalize hcc : (civ (k + 1)).2.2 = c at *
  have hnext := hc.next hc'
  have hnum := numD_civ hc
  obtain ⟨b1, b2, b3, b4, b5, b6⟩ := hc.ok
  have hok := okD_nat y m d
  rw [decide_eq_true hc.ok] at hok
  have hok1 : c = 1 → okD (y : Nat) (m : Nat) (((d + 1 : Nat)) : Int) = false := by
    intro h1
    rw [okD_nat]
    refine decide_eq_false ?_
    intro hv
    have := hv.2.2.2.2.2
    omega
  have hdim := dim_le y m
  rw [show ((k + 1 : Nat) : Int) = (k : Int) + 1 from by omega] at hv'
  rw [show ((d + 1 : Nat) : Int) = (d : Int) + 1 from by omega] at hok1
  have HV := Lib.hid (And.intro hv (And.intro hv' (And.intro hnum (And.intro hok hok1))))
  clear hv hv' hnum hok hok1 hc hc' hy hm hdd ha hb hcc hk
  go_enter Tryd.func4, Tryd.ntmps4
  go_wp2_with fail
  refine (sanity_any w hd).mono ?_
  rintro e w1 ⟨rfl, hg1⟩
  have hd1 := hd.grown hg1
  have HG := Lib.hid hg1
  clear hg1
  go_wp2_with fail
  refine (civil_any _ _ hd1.l).mono ?_
  rintro e w' ⟨rfl, rfl⟩
  rw [HV.out.1]
  go_wp2_with fail
  refine (civil_any _ _ hd1.l).mono ?_
  rintro e w' ⟨rfl, rfl⟩
  rw [HV.out.2.1]
  go_wp2_with fail
  refine (number_any _ _ _ _ hd1.l).mono ?_
  rintro e w' ⟨rfl, rfl⟩
  rw [HV.out.2.2.1]
  rcases hnext with ⟨h1, rfl, rfl, rfl⟩ | ⟨h1, rfl, ⟨h2, rfl, rfl⟩ | ⟨rfl, rfl, rfl⟩⟩
  · go_wp2_with fail
    refine (valid_any _ _ _ _ hd1.l).mono ?_
    rintro e w' ⟨rfl, rfl⟩
    rw [HV.out.2.2.2.1]
    go_wp2
    go_ret
    exact ⟨rfl, HG.out⟩
  · clear h1
    go_wp2_with fail
    refine (valid_any _ _ _ _ hd1.l).mono ?_
    rintro e w' ⟨rfl, rfl⟩
    rw [HV.out.2.2.2.2 trivial]
    go_wp2_with fail
    refine (valid_any _ _ _ _ hd1.l).mono ?_
    rintro e w' ⟨rfl, rfl⟩
    rw [HV.out.2.2.2.1]
    go_wp2
    go_ret
    exact ⟨rfl, HG.out⟩
  · clear h1
    go_wp2_with fail
    refine (valid_any _ _ _ _ hd1.l).mono ?_
    rintro e w' ⟨rfl, rfl⟩
    rw [show okD (y : Int) 12 ((d : Int) + 1) = false from HV.out.2.2.2.2 trivial]
    go_wp2_with fail
    refine (valid_any _ _ _ _ hd1.l).mono ?_
    rintro e w' ⟨rfl, rfl⟩
    rw [show okD (y : Int) 12 (d : Int) = true from HV.out.2.2.2.1]
    go_wp2
    go_ret
    exact ⟨rfl, HG.out⟩
end Go.Proofs.YtaenalhglmkfdaaDoor
namespace Go.Proofs.YtaenalhglmkfdaaDoor
open Go.ChangeShapes Go.WideShapes Go.ChangeAt Go.RowKit Mth

theorem own0 : ownKnob Tryd.prog.godebug = none := by kernel_rfl
theorem laidOut0 : laidOutB Tryd.prog = true := by kernel_rfl

def cellsD : DataW Unit → Array Value
  | .agg l => (l.map fun | .lit (.int k z) => Value.int k z | .lit (.string s) => Value.string ⟨s.toArray⟩ | _ => Value.nilIface).toArray
  | _ => #[]
noncomputable def laidWorld (os : Os) : World :=
  let w0 := World.holding Tryd.prog os ⟨#[], #[], []⟩
  let put (h : Array Obj) (g : Nat) (cs : Array Value) : Array Obj := h.modify g fun
    | .cells _ t frozen => .cells cs t frozen
    | o => o
  { w0 with heap := put (put (put (put (put w0.heap 3 (cellsD Rows.laid_math_bits_deBruijn32tab)) 4 (cellsD Rows.laid_math_bits_deBruijn64tab)) 2 (cellsD Rows.laid_internal_strconv_uint64pow10)) 0 (cellsD Rows.laid_concord_date_lengths)) 1 (cellsD Rows.laid_concord_date_fields) }

theorem cells_of_strs {H : Type} {enc : TypeId × Value → H} {P : Program} {w : World} {base : Nat} {sp : Nat → Bool} {held : Bool} {fuel : Nat} {t e : TypeId} {n : Nat} {cs : List Value} {zs : List (List UInt8)} {p : List MemPlace}
    (ht : P.underlying t = some (.array n e)) (he : P.underlying e = some .string) (hce : P.cellsOf e = 1) (hct : P.cellsOf t = n)
    (h : DataW.trod enc P w base sp held fuel t cs = some (.agg (zs.map fun z => .lit (.string z)), p)) : cs = zs.map fun z => Value.string ⟨z.toArray⟩ := by
  cases fuel with
  | zero => simp [DataW.trod] at h
  | succ fuel =>
    simp only [DataW.trod, ht, hce, hct, Nat.mul_one] at h
    split at h
    · rename_i hl
      obtain ⟨xs, hm, hx⟩ := Option.map_eq_some_iff.1 h
      have hxs : xs.map (·.1) = zs.map fun z => (DataW.lit (.string z) : DataW H) := by
        have := congrArg Prod.fst hx
        simpa using this
      have hxl : xs.length = n := by simpa using Lib.mapM_length hm
      have hzl : zs.length = n := by
        have := congrArg List.length hxs
        simp at this
        omega
      apply List.ext_getElem?
      intro i
      by_cases hi : i < n
      · obtain ⟨b, hb, hf⟩ := Lib.mapM_at hm i i (by simp [hi])
        obtain ⟨s, hc, rfl, _⟩ := DataW.trod_string he hf
        have h1 : cs[i]? = some (.string s) := by
          have := congrArg (·[0]?) hc
          simpa [List.getElem?_take, List.getElem?_drop] using this
        have h2 : (xs.map (·.1))[i]? = some (DataW.lit (.string s.data.toList) : DataW H) := by simp [hb]
        rw [hxs] at h2
        simp only [List.getElem?_map, Option.map_eq_some_iff, DataW.lit.injEq, Lit.string.injEq] at h2
        obtain ⟨z', hz', e⟩ := h2
        rw [h1, List.getElem?_map, hz']
        simp only [Option.map_some]
        rw [toArray_eq s e]
      · rw [List.getElem?_eq_none (by omega), List.getElem?_eq_none (by simp; omega)]
    · cases h
theorem strs_of_head {P : Program} {W : World} {name : String} {zs : List (List UInt8)} {rest : List (String × DataW Unit)} {g : Nat} {t e : TypeId} {n : Nat}
    (hg : P.globalNamed name = some g) (hty : (P.globals[g]?).map (·.type) = some t) (ht : P.underlying t = some (.array n e)) (he : P.underlying e = some .string) (hce : P.cellsOf e = 1) (hct : P.cellsOf t = n)
    (h : laidMet P ((name, .agg (zs.map fun z => .lit (.string z))) :: rest) W) : W.var? P name = some (zs.map fun z => Value.string ⟨z.toArray⟩).toArray := by
  obtain ⟨ps, ⟨g', t', cs, fuel, p, q, hg', ht', hvar, hd, _, _⟩, _⟩ := h
  obtain rfl := Option.some.inj (hg.symm.trans hg')
  obtain rfl := Option.some.inj (hty.symm.trans ht')
  rw [hvar, ← cells_of_strs ht he hce hct hd]

abbrev laidL : List (String × DataW Unit) := [("math/bits.deBruijn32tab", Rows.laid_math_bits_deBruijn32tab), ("math/bits.deBruijn64tab", Rows.laid_math_bits_deBruijn64tab), ("internal/strconv.uint64pow10", Rows.laid_internal_strconv_uint64pow10), ("concord/date.lengths", Rows.laid_concord_date_lengths), ("concord/date.fields", Rows.laid_concord_date_fields)]
theorem dv_of {w : World} (h : laidMet Tryd.prog laidL w) : DV w :=
  ⟨fv_of (strs_of_head (zs := [[89, 89, 89, 89], [77, 77], [77], [68, 68], [68]]) (g := 1) (t := 85) (e := 9) (n := 5) (by kernel_rfl) (by kernel_rfl) (by kernel_rfl) (by kernel_rfl) (by kernel_rfl) (by kernel_rfl) h.tail.tail.tail.tail),
   Lib.tabIs_of_head (g := 0) (t := 69) (e := 3) (n := 12) (by kernel_rfl) (by kernel_rfl) (by kernel_rfl) (by kernel_rfl) (by kernel_rfl) (by kernel_rfl) (show laidMet Tryd.prog [("concord/date.lengths", Lib.tabData .i64 lensL), ("concord/date.fields", Rows.laid_concord_date_fields)] w from h.tail.tail.tail),
   Lib.tabIs_of_head (g := 2) (t := 97) (e := 91) (n := 20) (by kernel_rfl) (by kernel_rfl) (by kernel_rfl) (by kernel_rfl) (by kernel_rfl) (by kernel_rfl) (show laidMet Tryd.prog [("internal/strconv.uint64pow10", Lib.tabData .u64 Lib.pow10Tab), ("concord/date.lengths", Rows.laid_concord_date_lengths), ("concord/date.fields", Rows.laid_concord_date_fields)] w from h.tail.tail)⟩
set_option maxRecDepth 1000000 in
theorem laid_at (os : Os) (args : Array Value) : laidMet Tryd.prog laidL ((laidWorld os).forCall (fun _ _ => 0) ⟨#[], args, []⟩).memory :=
  have h : LaidIn Tryd.prog ((laidWorld os).forCall (fun _ _ => 0) ⟨#[], args, []⟩).memory laidL [3, 4, 2, 0, 1] :=
    LaidIn.of_run [3, 4, 2, 0, 1] 8 (by kernel_rfl) (by kernel_rfl) (by kernel_rfl) (by kernel_rfl)
  h.met

set_option maxRecDepth 100000 in
theorem int_arg {H : Type} {enc : TypeId × Value → H} {W : World} {base : Nat} {v : Value} {d : DataW H} {p : List MemPlace} (hok : Value.okWide Tryd.prog W .any base 3 v) (h : DataW.Trod enc Tryd.prog W 0 (fun _ => true) true 3 v d p) : ∃ n : Int, v = .int .i64 n ∧ -9223372036854775808 ≤ n ∧ n ≤ 9223372036854775807 := by
  obtain ⟨n, rfl, _, _, hw⟩ := open_int Tryd.underlying3 hok h
  have a1 : IntKind.i64.min = -9223372036854775808 := rfl
  have a2 : IntKind.i64.max = 9223372036854775807 := rfl
  refine ⟨n, rfl, ?_⟩
  simpa [Lit.wf, a1, a2] using hw
set_option maxRecDepth 100000 in
theorem byte_arg {H : Type} {enc : TypeId × Value → H} {W : World} {base : Nat} {v : Value} {d : DataW H} {p : List MemPlace} (hok : Value.okWide Tryd.prog W .any base 5 v) (h : DataW.Trod enc Tryd.prog W 0 (fun _ => true) true 5 v d p) : ∃ n : Nat, v = .int .u8 (n : Int) ∧ n ≤ 255 := by
  obtain ⟨n, rfl, _, _, hw⟩ := open_int Tryd.underlying5 hok h
  have a1 : IntKind.u8.min = 0 := rfl
  have a2 : IntKind.u8.max = 255 := rfl
  have hb : 0 ≤ n ∧ n ≤ 255 := by simpa [Lit.wf, a1, a2] using hw
  exact ⟨n.toNat, by rw [Int.toNat_of_nonneg hb.1], by omega⟩
set_option maxRecDepth 100000 in
theorem u16_arg {H : Type} {enc : TypeId × Value → H} {W : World} {base : Nat} {v : Value} {d : DataW H} {p : List MemPlace} (hok : Value.okWide Tryd.prog W .any base 35 v) (h : DataW.Trod enc Tryd.prog W 0 (fun _ => true) true 35 v d p) : ∃ n : Nat, v = .int .u16 (n : Int) ∧ n ≤ 65535 := by
  obtain ⟨n, rfl, _, _, hw⟩ := open_int Tryd.underlying35 hok h
  have a1 : IntKind.u16.min = 0 := rfl
  have a2 : IntKind.u16.max = 65535 := rfl
  have hb : 0 ≤ n ∧ n ≤ 65535 := by simpa [Lit.wf, a1, a2] using hw
  exact ⟨n.toNat, by rw [Int.toNat_of_nonneg hb.1], by omega⟩
set_option maxRecDepth 100000 in
theorem u32_arg {H : Type} {enc : TypeId × Value → H} {W : World} {base : Nat} {v : Value} {d : DataW H} {p : List MemPlace} (hok : Value.okWide Tryd.prog W .any base 33 v) (h : DataW.Trod enc Tryd.prog W 0 (fun _ => true) true 33 v d p) : ∃ n : Nat, v = .int .u32 (n : Int) ∧ n ≤ 4294967295 := by
  obtain ⟨n, rfl, _, _, hw⟩ := open_int Tryd.underlying33 hok h
  have a1 : IntKind.u32.min = 0 := rfl
  have a2 : IntKind.u32.max = 4294967295 := rfl
  have hb : 0 ≤ n ∧ n ≤ 4294967295 := by simpa [Lit.wf, a1, a2] using hw
  exact ⟨n.toNat, by rw [Int.toNat_of_nonneg hb.1], by omega⟩
set_option maxRecDepth 100000 in
theorem str_arg {H : Type} {enc : TypeId × Value → H} {W : World} {base : Nat} {v : Value} {d : DataW H} {p : List MemPlace} (hok : Value.okWide Tryd.prog W .any base 9 v) (h : DataW.Trod enc Tryd.prog W 0 (fun _ => true) true 9 v d p) : ∃ s : ByteArray, v = .string s ∧ s.size ≤ maxLen := by
  obtain ⟨s, rfl⟩ := okWide_string Tryd.underlying9 hok
  obtain ⟨fuel, hf⟩ := h
  refine ⟨s, rfl, ?_⟩
  cases fuel with
  | zero => simp [DataW.trod] at hf
  | succ n =>
    simp [DataW.trod, Value.cells, Tryd.underlying9] at hf
    exact hf.1
theorem wf_i64 {n : Int} (h : (Lit.int .i64 n).wf = true) : -9223372036854775808 ≤ n ∧ n ≤ 9223372036854775807 := by
  have a1 : IntKind.i64.min = -9223372036854775808 := rfl
  have a2 : IntKind.i64.max = 9223372036854775807 := rfl
  simpa [Lit.wf, a1, a2] using h
theorem wf_u8 {n : Int} (h : (Lit.int .u8 n).wf = true) : ∃ m : Nat, n = (m : Int) ∧ m ≤ 255 := by
  have a1 : IntKind.u8.min = 0 := rfl
  have a2 : IntKind.u8.max = 255 := rfl
  have hb : 0 ≤ n ∧ n ≤ 255 := by simpa [Lit.wf, a1, a2] using h
  exact ⟨n.toNat, by rw [Int.toNat_of_nonneg hb.1], by omega⟩
/-- An argument that is an array of 2 numbers. -/
theorem arr2_arg {P : Program} {k : IntKind} {t e : TypeId} (ht : P.underlying t = some (.array 2 e)) (he : P.underlying e = some (.int k)) (hc : P.cellsOf t = 2) (hce : P.cellsOf e = 1) {H : Type} {enc : TypeId × Value → H} {W : World} {base : Nat} {v : Value} {d : DataW H} {p : List MemPlace} (hok : Value.okWide P W .any base t v) (h : DataW.Trod enc P W 0 (fun _ => true) true t v d p) : ∃ a0 a1 : Int, v = .agg #[.int k a0, .int k a1] ∧ (Lit.int k a0).wf = true ∧ (Lit.int k a1).wf = true := by
  simp only [Value.okWide, ht] at hok
  obtain ⟨cs, rfl, hsz, _⟩ := hok
  obtain ⟨fuel, hf⟩ := h
  rw [hc] at hsz
  obtain ⟨x0, x1, rfl⟩ : ∃ x0 x1, cs = #[x0, x1] := by
    rcases cs with ⟨l⟩
    match l, hsz with
    | [x0, x1], _ => exact ⟨x0, x1, rfl⟩
  obtain ⟨xs, m, _, _, _, hlen, hf2⟩ := DataW.trod_array ht hf
  have h0 := hf2 0 (by decide)
  have h1 := hf2 1 (by decide)
  rw [hce] at h0 h1
  match xs, hlen with
  | [y0, y1], _ =>
    obtain ⟨a0, e0, _, w0⟩ := DataW.trod_int he (x := y0) (by simpa using h0)
    obtain ⟨a1, e1, _, w1⟩ := DataW.trod_int he (x := y1) (by simpa using h1)
    simp [Value.cells] at e0 e1
    exact ⟨a0, a1, by rw [e0, e1], w0, w1⟩
/-- An argument that is an array of 3 numbers. -/
theorem arr3_arg {P : Program} {k : IntKind} {t e : TypeId} (ht : P.underlying t = some (.array 3 e)) (he : P.underlying e = some (.int k)) (hc : P.cellsOf t = 3) (hce : P.cellsOf e = 1) {H : Type} {enc : TypeId × Value → H} {W : World} {base : Nat} {v : Value} {d : DataW H} {p : List MemPlace} (hok : Value.okWide P W .any base t v) (h : DataW.Trod enc P W 0 (fun _ => true) true t v d p) : ∃ a0 a1 a2 : Int, v = .agg #[.int k a0, .int k a1, .int k a2] ∧ (Lit.int k a0).wf = true ∧ (Lit.int k a1).wf = true ∧ (Lit.int k a2).wf = true := by
  simp only [Value.okWide, ht] at hok
  obtain ⟨cs, rfl, hsz, _⟩ := hok
  obtain ⟨fuel, hf⟩ := h
  rw [hc] at hsz
  obtain ⟨x0, x1, x2, rfl⟩ : ∃ x0 x1 x2, cs = #[x0, x1, x2] := by
    rcases cs with ⟨l⟩
    match l, hsz with
    | [x0, x1, x2], _ => exact ⟨x0, x1, x2, rfl⟩
  obtain ⟨xs, m, _, _, _, hlen, hf2⟩ := DataW.trod_array ht hf
  have h0 := hf2 0 (by decide)
  have h1 := hf2 1 (by decide)
  have h2 := hf2 2 (by decide)
  rw [hce] at h0 h1 h2
  match xs, hlen with
  | [y0, y1, y2], _ =>
    obtain ⟨a0, e0, _, w0⟩ := DataW.trod_int he (x := y0) (by simpa using h0)
    obtain ⟨a1, e1, _, w1⟩ := DataW.trod_int he (x := y1) (by simpa using h1)
    obtain ⟨a2, e2, _, w2⟩ := DataW.trod_int he (x := y2) (by simpa using h2)
    simp [Value.cells] at e0 e1 e2
    exact ⟨a0, a1, a2, by rw [e0, e1, e2], w0, w1, w2⟩
/-- An argument that is an array of 8 numbers. -/
theorem arr8_arg {P : Program} {k : IntKind} {t e : TypeId} (ht : P.underlying t = some (.array 8 e)) (he : P.underlying e = some (.int k)) (hc : P.cellsOf t = 8) (hce : P.cellsOf e = 1) {H : Type} {enc : TypeId × Value → H} {W : World} {base : Nat} {v : Value} {d : DataW H} {p : List MemPlace} (hok : Value.okWide P W .any base t v) (h : DataW.Trod enc P W 0 (fun _ => true) true t v d p) : ∃ a0 a1 a2 a3 a4 a5 a6 a7 : Int, v = .agg #[.int k a0, .int k a1, .int k a2, .int k a3, .int k a4, .int k a5, .int k a6, .int k a7] ∧ (Lit.int k a0).wf = true ∧ (Lit.int k a1).wf = true ∧ (Lit.int k a2).wf = true ∧ (Lit.int k a3).wf = true ∧ (Lit.int k a4).wf = true ∧ (Lit.int k a5).wf = true ∧ (Lit.int k a6).wf = true ∧ (Lit.int k a7).wf = true := by
  simp only [Value.okWide, ht] at hok
  obtain ⟨cs, rfl, hsz, _⟩ := hok
  obtain ⟨fuel, hf⟩ := h
  rw [hc] at hsz
  obtain ⟨x0, x1, x2, x3, x4, x5, x6, x7, rfl⟩ : ∃ x0 x1 x2 x3 x4 x5 x6 x7, cs = #[x0, x1, x2, x3, x4, x5, x6, x7] := by
    rcases cs with ⟨l⟩
    match l, hsz with
    | [x0, x1, x2, x3, x4, x5, x6, x7], _ => exact ⟨x0, x1, x2, x3, x4, x5, x6, x7, rfl⟩
  obtain ⟨xs, m, _, _, _, hlen, hf2⟩ := DataW.trod_array ht hf
  have h0 := hf2 0 (by decide)
  have h1 := hf2 1 (by decide)
  have h2 := hf2 2 (by decide)
  have h3 := hf2 3 (by decide)
  have h4 := hf2 4 (by decide)
  have h5 := hf2 5 (by decide)
  have h6 := hf2 6 (by decide)
  have h7 := hf2 7 (by decide)
  rw [hce] at h0 h1 h2 h3 h4 h5 h6 h7
  match xs, hlen with
  | [y0, y1, y2, y3, y4, y5, y6, y7], _ =>
    obtain ⟨a0, e0, _, w0⟩ := DataW.trod_int he (x := y0) (by simpa using h0)
    obtain ⟨a1, e1, _, w1⟩ := DataW.trod_int he (x := y1) (by simpa using h1)
    obtain ⟨a2, e2, _, w2⟩ := DataW.trod_int he (x := y2) (by simpa using h2)
    obtain ⟨a3, e3, _, w3⟩ := DataW.trod_int he (x := y3) (by simpa using h3)
    obtain ⟨a4, e4, _, w4⟩ := DataW.trod_int he (x := y4) (by simpa using h4)
    obtain ⟨a5, e5, _, w5⟩ := DataW.trod_int he (x := y5) (by simpa using h5)
    obtain ⟨a6, e6, _, w6⟩ := DataW.trod_int he (x := y6) (by simpa using h6)
    obtain ⟨a7, e7, _, w7⟩ := DataW.trod_int he (x := y7) (by simpa using h7)
    simp [Value.cells] at e0 e1 e2 e3 e4 e5 e6 e7
    exact ⟨a0, a1, a2, a3, a4, a5, a6, a7, by rw [e0, e1, e2, e3, e4, e5, e6, e7], w0, w1, w2, w3, w4, w5, w6, w7⟩
theorem gr_low {w w' : World} (hg : w.grownBy w' none) : Below w.heap.size w w' := ⟨hg.os, hg.tape, hg.output, hg.size, fun k hk => hg.block k hk (by simp)⟩
end Go.Proofs.YtaenalhglmkfdaaDoor
namespace Go.Proofs.YtaenalhglmkfdaaDoor
open Go.ChangeShapes Go.WideShapes Go.ChangeAt Go.RowKit Mth

set_option maxRecDepth 1000000 in
set_option maxHeartbeats 4000000 in
theorem inverse_lifted (os : Os) (started : os.Started) (H : Type) (enc : TypeId × Value → H) :
    ReturnsInHanded {} Tryd.checked os 4 .any (fun w args => (Rows.dateInverseSpec.pre enc Tryd.prog Tryd.f4 Rows.dateInverseRow.domain false w args ∧ laidMet Tryd.prog Rows.dateInverseRow.laid w) ∧ sizedMet enc Tryd.prog Tryd.f4 (OpenSpec.ofChange Rows.dateInverseSpec) false w args)
      (Rows.dateInverseSpec.post enc Tryd.prog Tryd.f4 false true false false) := by
  refine returnsInHanded_of_change_and (C := Tryd.checked) (X := fun w _ => laidMet Tryd.prog Rows.dateInverseRow.laid w) (fun _ _ _ hh h => h.of_heap hh) own0 started (by kernel_rfl) Tryd.func4
    (ChangeSpec.witness_at (enc := enc) (C := Tryd.checked) (os := os) (X := fun w _ => laidMet Tryd.prog Rows.dateInverseRow.laid w) false (laidWorld os) #[.int .u32 0] 8 rfl (by kernel_rfl) (by kernel_rfl) (by kernel_rfl) (by kernel_rfl) (by kernel_rfl) (laid_at os _)) ?_
  intro W base args ds gs before hval0 hW hcnd0 _ hL _
  have hval : ∀ (j : Nat) t v, Tryd.f4.params[j]? = some t → args[j]? = some v → Value.okWide Tryd.prog W .any base t v := hval0
  have hW' := hW
  obtain ⟨p, q, hA0, hV, rfl, hfz, hnd⟩ := hW
  have hA : DataW.TrodAll enc Tryd.prog W 0 (fun _ => true) true Tryd.f4.params.toList args.toList ds p := hA0
  rw [Tryd.params4] at hA hval
  obtain ⟨v0, d0, rfl, rfl, h0⟩ := trodAll_one hA
  obtain ⟨rfl, rfl⟩ := trodVars_none hV
  clear hA0 hval0 hA
  simp only [List.append_nil] at hW'
  have k0 := hval 0 33 v0 rfl rfl
  obtain ⟨n0, rfl, w0⟩ := u32_arg k0 h0
  refine (inverse_true n0 W (dv_of hL) w0).mono fun e W' ⟨he, hg⟩ => ?_
  subst he
  have hb : Below W.heap.size W W' := gr_low hg
  have hlt : ∀ x ∈ p, x.block < W.heap.size := fun x hx => by simpa using hW'.lt x hx
  have hl0 : ∀ x ∈ p, x.block < W.heap.size := fun x hx => hlt x (by simp [hx])
  refine ⟨_, rfl, _, _, _, [], p, [], hW', ?_, ?_, rfl, hb.frame _, fun h => by cases h⟩
  · exact trodAll_mk1 (shut_bool Tryd.underlying4 true)
  · have h3 := trodAll_mk1 (Below.trod laidOut0 (by kernel_rfl) (of_decide_eq_true (by kernel_rfl)) h0 hb hl0)
    exact h3

theorem inverse_row : Rows.DateInverseSaid :=
  OpenClaim.holds_of_wide 4 Tryd.f4 rfl rfl rfl rfl rfl rfl rfl ⟨rfl, rfl, rfl, rfl, rfl⟩ rfl rfl rfl rfl rfl (by kernel_rfl) Tryd.func4 (by kernel_rfl)
    (of_decide_eq_true (by kernel_rfl)) (by unfold Func.isWrapper; first | (rw [if_pos (by decide +kernel)]; kernel_rfl) | (rw [if_neg (by decide +kernel)]; exact ⟨rfl, rfl⟩))
    (fun os started H enc _ => inverse_lifted os started H enc)
end Go.Proofs.YtaenalhglmkfdaaDoor
