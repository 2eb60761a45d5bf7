/- Contracts of the program and of the reference, part 3: Form, Read, TextD, San, RowD, DayR, DayT, RDig. -/
import Derived.Test.YtchbefaflhimcaaDoorBForm2
import Derived.Test.YtchbefaflhimcaaDoorRows
import Derived.ProofKit
import Derived.ChangeSlices
import Derived.LaidLaws
import Derived.Lib.LaidIn
import Derived.Lib.LaidTab
import Derived.Stop.LaidErr
import Derived.OpenShut
import Derived.Laws.BytesArg
namespace Go.Proofs.YtchbefaflhimcaaDoor
open Go.RowKit Mth

theorem tabis_grown {w w' : World} {name : String} {k : IntKind} {zs : List Int} (h : Lib.TabIs Tryd.prog w name k zs) (hg : w.grownBy w' none) : Lib.TabIs Tryd.prog w' name k zs := by
  unfold Lib.TabIs World.var? at *
  cases hq : Tryd.prog.globalNamed name with
  | none => simp [hq] at h
  | some g =>
    simp only [hq, Option.bind_some] at h ⊢
    have hlt : g < w.heap.size := by
      rcases Nat.lt_or_ge g w.heap.size with h' | h'
      · exact h'
      · rw [Array.getElem?_eq_none h'] at h; simp at h
    rw [hg.block g hlt (by simp)]
    exact h
/-- The variables of the program that package date reads, as they are laid. -/
structure DV (w : World) : Prop where
  f : FV w
  l : LenV w
  t : Tab w
theorem DV.grown {w w' : World} (h : DV w) (hg : w.grownBy w' none) : DV w' := ⟨h.f.grown hg (by simp), tabis_grown h.l hg, tabis_grown h.t hg⟩

/-- What Format gives. -/
def formD (lay : List UInt8) (n : Int) : List UInt8 × Bool := if isN n && isRightL lay then (fmt (civ n.toNat) (toks lay), true) else ([], false)
theorem civ_small {n : Nat} (h : n ≤ 3652058) : (civ n).1 ≤ 9999 ∧ (civ n).2.1 ≤ 99 ∧ (civ n).2.2 ≤ 99 := by
  obtain ⟨h1, h2, h3, h4, h5, h6⟩ := (civ_spec (n := n) h).ok
  have := dim_le (civ n).1 (civ n).2.1
  omega
theorem right_len {l : List UInt8} (h : isRightL l = true) : l.length ≤ 40 := by
  unfold isRightL at h
  simp only [Bool.and_eq_true, decide_eq_true_eq] at h
  exact h.1.1.1.1

set_option maxRecDepth 100000 in
set_option maxHeartbeats 1000000 in
theorem format_any (lay : ByteArray) (n : Int) (w : World) (hl : lay.size ≤ 9223372036854775807) (hd : DV w) :
    Calls Tryd.prog 30 #[.string lay, .int .i64 n] w fun e w' => e = .returned (.tuple #[.string ⟨(formD lay.data.toList n).1.toArray⟩, .bool (formD lay.data.toList n).2]) ∧ w.grownBy w' none := by
  have hci := civil_any n w hd.l
  have HCI := Lib.hid hci
  clear hci
  cases hn : isN n with
  | false =>
    have hf : formD lay.data.toList n = ([], false) := by unfold formD; rw [hn]; rfl
    have hc : civD n = .tuple #[.int .i64 0, .int .i64 0, .int .i64 0, .bool false] := by unfold civD; rw [hn]; rfl
    have HC := Lib.hid hc
    rw [hf]
    clear hf hc hn
    go_enter Tryd.func30, Tryd.ntmps30
    go_wp2_with fail
    refine HCI.out.mono ?_
    rintro e w' ⟨rfl, rfl⟩
    rw [HC.out]
    go_wp2
    go_ret2
    exact ⟨rfl, World.grownBy.refl _ _⟩
  | true =>
    have hc : civD n = .tuple #[.int .i64 ((civ n.toNat).1 : Nat), .int .i64 ((civ n.toNat).2.1 : Nat), .int .i64 ((civ n.toNat).2.2 : Nat), .bool true] := by unfold civD; rw [hn]; rfl
    have HC := Lib.hid hc
    have hn2 : n.toNat ≤ 3652058 := by unfold isN at hn; rw [decide_eq_true_eq] at hn; omega
    have HS := Lib.hid (civ_small hn2)
    cases hr : isRightL lay.data.toList with
    | false =>
      have hf : formD lay.data.toList n = ([], false) := by unfold formD; rw [hn, hr]; rfl
      rw [hf]
      have HR := Lib.hid hr
      clear hf hc hn hn2 hr
      go_enter Tryd.func30, Tryd.ntmps30
      go_wp2_with fail
      refine HCI.out.mono ?_
      rintro e w' ⟨rfl, rfl⟩
      rw [HC.out]
      go_wp2_with fail
      refine (isRight_any lay w hl hd.f).mono ?_
      rintro e w1 ⟨rfl, hg1⟩
      rw [HR.out]
      go_wp2
      go_ret2
      exact ⟨rfl, hg1⟩
    | true =>
      have hf : formD lay.data.toList n = (fmt (civ n.toNat) (toks lay.data.toList), true) := by unfold formD; rw [hn, hr]; rfl
      rw [hf]
      have HR := Lib.hid hr
      have hl40 : lay.size ≤ 40 := right_len hr
      clear hf hc hn hn2 hr
      go_enter Tryd.func30, Tryd.ntmps30
      go_wp2_with fail
      refine HCI.out.mono ?_
      rintro e w' ⟨rfl, rfl⟩
      rw [HC.out]
      go_wp2_with fail
      refine (isRight_any lay w hl hd.f).mono ?_
      rintro e w1 ⟨rfl, hg1⟩
      rw [HR.out]
      have hd1 := hd.grown hg1
      have HG := Lib.hid hg1
      clear hg1
      go_wp2_with fail
      refine (replaced_any lay (civ n.toNat) HS.out w1 hl40 hd1.f hd1.t).mono ?_
      rintro e w2 ⟨rfl, hg2⟩
      go_wp2
      go_ret2
      exact ⟨rfl, gr_then HG.out hg2⟩
end Go.Proofs.YtchbefaflhimcaaDoor
namespace Go.Proofs.YtchbefaflhimcaaDoor
open Go.RowKit Mth

/-- What Read gives. -/
def readL (lay s : List UInt8) : Nat × Bool := if isRightL lay then readD (toks lay) s else (0, false)
theorem numD_ok {v : Nat × Nat × Nat} (h : validC v) : numD (v.1 : Nat) (v.2.1 : Nat) (v.2.2 : Nat) = (((numC v : Nat) : Int), true) := by
  obtain ⟨h1, h2, h3, h4, h5, h6⟩ := h
  unfold numD okD
  rw [decide_eq_true (by simp only [Int.toNat_natCast]; omega)]
  simp only [Int.toNat_natCast]
  rfl
theorem numD_no {v : Nat × Nat × Nat} (h : ¬ validC v) : numD (v.1 : Nat) (v.2.1 : Nat) (v.2.2 : Nat) = (0, false) := by
  unfold numD okD
  rw [decide_eq_false]
  · rfl
  · simp only [Int.toNat_natCast]
    intro hh
    exact h ⟨by omega, by omega, by omega, by omega, by omega, by omega⟩

set_option maxRecDepth 100000 in
set_option maxHeartbeats 2000000 in
theorem read_any (lay s : ByteArray) (w : World) (hl : lay.size ≤ 9223372036854775807) (hs : s.size ≤ 9223372036854775807) (hd : DV w) :
    Calls Tryd.prog 33 #[.string lay, .string s] w fun e w' => e = .returned (.tuple #[.int .i64 ((readL lay.data.toList s.data.toList).1 : Nat), .bool (readL lay.data.toList s.data.toList).2]) ∧ w.grownBy w' none := by
  cases hr : isRightL lay.data.toList with
  | false =>
    have hf : readL lay.data.toList s.data.toList = (0, false) := by unfold readL; rw [hr]; rfl
    rw [hf]
    have HR := Lib.hid hr
    clear hf hr
    go_enter Tryd.func33, Tryd.ntmps33
    go_wp2_with fail
    refine (isRight_any lay w hl hd.f).mono ?_
    rintro e w1 ⟨rfl, hg1⟩
    rw [HR.out]
    go_wp2
    go_ret2
    exact ⟨rfl, hg1⟩
  | true =>
    have hf : readL lay.data.toList s.data.toList = readD (toks lay.data.toList) s.data.toList := by unfold readL; rw [hr]; rfl
    rw [hf]
    unfold readD
    have HR := Lib.hid hr
    have hl40 : lay.size ≤ 40 := right_len hr
    clear hf hr
    obtain ⟨v, hv⟩ : ∃ v, v = rd (toks lay.data.toList) s.data.toList (0, 0, 0) := ⟨_, rfl⟩
    rw [← hv]
    have HV := Lib.hid hv
    clear hv
    by_cases hval : validC v
    · have hn := numD_ok hval
      have hsm : v.1 ≤ 9999 ∧ v.2.1 ≤ 99 ∧ v.2.2 ≤ 99 := by
        have h1 := hval.small.1
        have h2 := hval.small.2.1
        have h3 := hval.small.2.2
        simp only [Nat.reducePow] at h1 h2 h3
        omega
      have HN := Lib.hid hn
      have HS := Lib.hid hsm
      by_cases hq : fmt v (toks lay.data.toList) = s.data.toList
      · have ha : ans v (toks lay.data.toList) s.data.toList = (numC v, true) := by unfold ans; rw [if_pos ⟨hval, hq⟩]
        rw [ha]
        have hq2 : (⟨(fmt v (toks lay.data.toList)).toArray⟩ : ByteArray) = s := toArray_eq s hq
        have HQ := Lib.hid hq2
        clear ha hq hq2 hval hn hsm
        go_enter Tryd.func33, Tryd.ntmps33
        go_wp2_with fail
        refine (isRight_any lay w hl hd.f).mono ?_
        rintro e w1 ⟨rfl, hg1⟩
        rw [HR.out]
        have hd1 := hd.grown hg1
        have HG1 := Lib.hid hg1
        clear hg1
        go_wp2_with fail
        refine (readAs_any lay s w1 hl40 hs hd1.f).mono ?_
        rintro e w2 ⟨rfl, hg2⟩
        rw [← HV.out]
        have hd2 := hd1.grown hg2
        have HG2 := Lib.hid (gr_then HG1.out hg2)
        clear hg2
        go_wp2_with fail
        refine (number_any _ _ _ _ (hd2.grown (gr_alloc w2 (.cells #[.int .i64 (v.1 : Nat), .int .i64 (v.2.1 : Nat), .int .i64 (v.2.2 : Nat)] 66) none)).l).mono ?_
        rintro e w3 ⟨rfl, rfl⟩
        rw [HN.out]
        go_wp2_with fail
        have hd3 := hd2.grown (gr_alloc w2 (.cells #[.int .i64 (v.1 : Nat), .int .i64 (v.2.1 : Nat), .int .i64 (v.2.2 : Nat)] 66) none)
        refine (replaced_any lay v HS.out _ hl40 hd3.f hd3.t).mono ?_
        rintro e w4 ⟨rfl, hg4⟩
        have hg5 := gr_then HG2.out (gr_then (gr_alloc w2 (.cells #[.int .i64 (v.1 : Nat), .int .i64 (v.2.1 : Nat), .int .i64 (v.2.2 : Nat)] 66) none) hg4)
        have HG5 := Lib.hid hg5
        clear hg4 hg5 hd3
        rw [HQ.out]
        go_wp2
        go_ret2
        exact ⟨rfl, HG5.out⟩
      · have ha : ans v (toks lay.data.toList) s.data.toList = (0, false) := by unfold ans; rw [if_neg (fun h => hq h.2)]
        rw [ha]
        obtain ⟨q, hqq⟩ : ∃ q : ByteArray, q = ⟨(fmt v (toks lay.data.toList)).toArray⟩ := ⟨_, rfl⟩
        have hne : (q.toList == s.toList) = false := by
          rw [beq_eq_false_iff_ne]
          intro e
          rw [ByteArray.toList_eq, ByteArray.toList_eq, hqq] at e
          exact hq e
        have HQ := Lib.hid hqq
        clear ha hq hqq hval hn hsm
        go_enter Tryd.func33, Tryd.ntmps33
        go_wp2_with fail
        refine (isRight_any lay w hl hd.f).mono ?_
        rintro e w1 ⟨rfl, hg1⟩
        rw [HR.out]
        have hd1 := hd.grown hg1
        have HG1 := Lib.hid hg1
        clear hg1
        go_wp2_with fail
        refine (readAs_any lay s w1 hl40 hs hd1.f).mono ?_
        rintro e w2 ⟨rfl, hg2⟩
        rw [← HV.out]
        have hd2 := hd1.grown hg2
        have HG2 := Lib.hid (gr_then HG1.out hg2)
        clear hg2
        go_wp2_with fail
        refine (number_any _ _ _ _ (hd2.grown (gr_alloc w2 (.cells #[.int .i64 (v.1 : Nat), .int .i64 (v.2.1 : Nat), .int .i64 (v.2.2 : Nat)] 66) none)).l).mono ?_
        rintro e w3 ⟨rfl, rfl⟩
        rw [HN.out]
        go_wp2_with fail
        have hd3 := hd2.grown (gr_alloc w2 (.cells #[.int .i64 (v.1 : Nat), .int .i64 (v.2.1 : Nat), .int .i64 (v.2.2 : Nat)] 66) none)
        refine (replaced_any lay v HS.out _ hl40 hd3.f hd3.t).mono ?_
        rintro e w4 ⟨rfl, hg4⟩
        have hg5 := gr_then HG2.out (gr_then (gr_alloc w2 (.cells #[.int .i64 (v.1 : Nat), .int .i64 (v.2.1 : Nat), .int .i64 (v.2.2 : Nat)] 66) none) hg4)
        have HG5 := Lib.hid hg5
        clear hg4 hg5 hd3
        rw [← HQ.out]
        go_wp2
        go_ret2
        exact ⟨rfl, HG5.out⟩
    · have ha : ans v (toks lay.data.toList) s.data.toList = (0, false) := by unfold ans; rw [if_neg (fun h => hval h.1)]
      rw [ha]
      have HN := Lib.hid (numD_no hval)
      clear ha hval
      go_enter Tryd.func33, Tryd.ntmps33
      go_wp2_with fail
      refine (isRight_any lay w hl hd.f).mono ?_
      rintro e w1 ⟨rfl, hg1⟩
      rw [HR.out]
      have hd1 := hd.grown hg1
      have HG1 := Lib.hid hg1
      clear hg1
      go_wp2_with fail
      refine (readAs_any lay s w1 hl40 hs hd1.f).mono ?_
      rintro e w2 ⟨rfl, hg2⟩
      rw [← HV.out]
      have hd2 := hd1.grown hg2
      have HG2 := Lib.hid (gr_then HG1.out hg2)
      clear hg2
      go_wp2_with fail
      refine (number_any _ _ _ _ (hd2.grown (gr_alloc w2 (.cells #[.int .i64 (v.1 : Nat), .int .i64 (v.2.1 : Nat), .int .i64 (v.2.2 : Nat)] 66) none)).l).mono ?_
      rintro e w3 ⟨rfl, rfl⟩
      rw [HN.out]
      go_wp2
      go_ret2
      exact ⟨rfl, gr_then HG2.out (gr_alloc _ _ _)⟩
end Go.Proofs.YtchbefaflhimcaaDoor
namespace Go.Proofs.YtchbefaflhimcaaDoor
open Go.RowKit Mth

def layI : ByteArray := ⟨#[89, 89, 89, 89, 45, 77, 77, 45, 68, 68]⟩
def textD (n : Int) : List UInt8 := (formD layI.data.toList n).1

theorem text_any (n : Int) (w : World) (hd : DV w) :
    Calls Tryd.prog 25 #[.int .i64 n] w fun e w' => e = .returned (.string ⟨(textD n).toArray⟩) ∧ w.grownBy w' none := by
  go_enter Tryd.func25, Tryd.ntmps25
  go_wp2_with fail
  refine (format_any layI n w (by decide) hd).mono ?_
  rintro e w' ⟨rfl, hg⟩
  go_wp2
  go_ret
  exact ⟨rfl, hg⟩
theorem parse_any (s : ByteArray) (w : World) (hs : s.size ≤ 9223372036854775807) (hd : DV w) :
    Calls Tryd.prog 27 #[.string s] w fun e w' => e = .returned (.tuple #[.int .i64 ((readL layI.data.toList s.data.toList).1 : Nat), .bool (readL layI.data.toList s.data.toList).2]) ∧ w.grownBy w' none := by
  go_enter Tryd.func27, Tryd.ntmps27
  go_wp2_with fail
  refine (read_any layI s w (by decide) hs hd).mono ?_
  rintro e w' ⟨rfl, hg⟩
  go_wp2
  go_ret2
  exact ⟨rfl, hg⟩

/-! To reckon with -/
def wrtE (c : Nat × Nat × Nat) : Tok → List UInt8
  | .y4 => padF (c.1 + 4) c.1 4
  | .m2 => padF (c.2.1 + 2) c.2.1 2
  | .m1 => padF (c.2.1 + 1) c.2.1 1
  | .d2 => padF (c.2.2 + 2) c.2.2 2
  | .d1 => padF (c.2.2 + 1) c.2.2 1
  | .ch b => [b]
theorem wrtE_eq (c : Nat × Nat × Nat) (t : Tok) : wrtE c t = wrt c t := by
  cases t <;> simp only [wrtE, wrt] <;> exact padF_eq _ _ _ (Nat.le_refl _)
def fmtE (c : Nat × Nat × Nat) (ts : List Tok) : List UInt8 := (ts.map (wrtE c)).flatten
theorem fmtE_eq (c : Nat × Nat × Nat) (ts : List Tok) : fmtE c ts = fmt c ts := by
  unfold fmtE fmt
  rw [show wrtE c = wrt c from funext (wrtE_eq c)]
def rightE (l : List UInt8) : Bool := decide (l.length ≤ 40) && good false (toksF l.length l) && decide ((toksF l.length l).countP Tok.isY = 1) && decide ((toksF l.length l).countP Tok.isM = 1) && decide ((toksF l.length l).countP Tok.isD = 1)
theorem rightE_eq (l : List UInt8) : rightE l = isRightL l := by
  unfold rightE isRightL
  rw [toksF_eq _ _ (Nat.le_refl _)]
def formE (lay : List UInt8) (n : Int) : List UInt8 × Bool := if isN n && rightE lay then (fmtE (civ n.toNat) (toksF lay.length lay), true) else ([], false)
theorem formE_eq (lay : List UInt8) (n : Int) : formE lay n = formD lay n := by
  unfold formE formD
  rw [rightE_eq, fmtE_eq, toksF_eq _ _ (Nat.le_refl _)]
def readE (lay s : List UInt8) : Nat × Bool :=
  if rightE lay then
    (let v := rd (toksF lay.length lay) s (0, 0, 0)
     if validC v ∧ fmtE v (toksF lay.length lay) = s then (numC v, true) else (0, false))
  else (0, false)
theorem readE_eq (lay s : List UInt8) : readE lay s = readL lay s := by
  unfold readE readL readD ans
  dsimp only
  rw [rightE_eq, fmtE_eq, toksF_eq _ _ (Nat.le_refl _)]

theorem civ_last : civ 3652058 = (9999, 12, 31) := by decide +kernel
theorem num_a : numD 1 1 1 = (0, true) := by decide +kernel
theorem num_b : numD 1 12 31 = (364, true) := by decide +kernel
theorem num_c : numD 2 1 1 = (365, true) := by decide +kernel
theorem num_d : numD 2000 2 29 = (730178, true) := by decide +kernel
theorem num_e : numD 1900 2 29 = (0, false) := by decide +kernel
theorem num_f : numD 2024 1 31 = (738915, true) := by decide +kernel
theorem wk_a : wkD 3652058 = (5, true) := by decide +kernel
theorem mon_a : monD 738915 1 = (738944, true) := by decide +kernel
theorem mon_b : monD 738915 13 = (739309, true) := by decide +kernel
theorem mon_c : monD 738915 (-1) = (738884, true) := by decide +kernel
theorem form_a : formD [68, 46, 77, 46, 89, 89, 89, 89] 730178 = ([50, 57, 46, 50, 46, 50, 48, 48, 48], true) := by rw [← formE_eq]; decide +kernel
theorem form_b : formD [68, 77, 89, 89, 89, 89] 0 = ([], false) := by rw [← formE_eq]; decide +kernel
theorem read_a : readL [68, 46, 77, 46, 89, 89, 89, 89] [50, 57, 46, 50, 46, 50, 48, 48, 48] = (730178, true) := by rw [← readE_eq]; decide +kernel
theorem read_b : readL [68, 46, 77, 46, 89, 89, 89, 89] [50, 57, 46, 48, 50, 46, 50, 48, 48, 48] = (0, false) := by rw [← readE_eq]; decide +kernel
theorem text_a : textD 738944 = [50, 48, 50, 52, 45, 48, 50, 45, 50, 57] := by unfold textD; rw [← formE_eq]; decide +kernel
theorem text_b : textD 739309 = [50, 48, 50, 53, 45, 48, 50, 45, 50, 56] := by unfold textD; rw [← formE_eq]; decide +kernel
theorem text_c : textD 738884 = [50, 48, 50, 51, 45, 49, 50, 45, 51, 49] := by unfold textD; rw [← formE_eq]; decide +kernel
end Go.Proofs.YtchbefaflhimcaaDoor
namespace Go.Proofs.YtchbefaflhimcaaDoor
open Go.RowKit Mth

theorem civ_l : civD 3652058 = .tuple #[.int .i64 9999, .int .i64 12, .int .i64 31, .bool true] := by
  unfold civD
  rw [show isN 3652058 = true from rfl, show (3652058 : Int).toNat = 3652058 from rfl, civ_last]
  rfl
set_option maxRecDepth 100000 in
set_option maxHeartbeats 4000000 in
theorem sanity_any (w : World) (hd : DV w) :
    Calls Tryd.prog 13 #[] w fun e w' => e = .returned (.bool true) ∧ w.grownBy w' none := by
  go_enter Tryd.func13, Tryd.ntmps13
  go_wp2_with fail
  have h0 := number_any 1 1 1 _ hd.l
  rw [num_a] at h0
  refine h0.mono ?_
  clear h0
  rintro e w' ⟨rfl, rfl⟩
  go_wp2_with fail
  have h1 := number_any 1 12 31 _ hd.l
  rw [num_b] at h1
  refine h1.mono ?_
  clear h1
  rintro e w' ⟨rfl, rfl⟩
  go_wp2_with fail
  have h2 := number_any 2 1 1 _ hd.l
  rw [num_c] at h2
  refine h2.mono ?_
  clear h2
  rintro e w' ⟨rfl, rfl⟩
  go_wp2_with fail
  have h3 := number_any 2000 2 29 _ hd.l
  rw [num_d] at h3
  refine h3.mono ?_
  clear h3
  rintro e w' ⟨rfl, rfl⟩
  go_wp2_with fail
  have h4 := number_any 1900 2 29 _ hd.l
  rw [num_e] at h4
  refine h4.mono ?_
  clear h4
  rintro e w' ⟨rfl, rfl⟩
  go_wp2_with fail
  have h5 := civil_any 3652058 _ hd.l
  rw [civ_l] at h5
  refine h5.mono ?_
  clear h5
  rintro e w' ⟨rfl, rfl⟩
  go_wp2_with fail
  have h6 := weekday_any 3652058 w
  rw [wk_a] at h6
  refine h6.mono ?_
  clear h6
  rintro e w' ⟨rfl, rfl⟩
  go_wp2_with fail
  have h7 := number_any 2024 1 31 _ hd.l
  rw [num_f] at h7
  refine h7.mono ?_
  clear h7
  rintro e w' ⟨rfl, rfl⟩
  go_wp2_with fail
  have h8 := months_any 738915 1 (by decide) (by decide) _ hd.l
  rw [mon_a] at h8
  refine h8.mono ?_
  clear h8
  rintro e w' ⟨rfl, rfl⟩
  go_wp2_with fail
  have h9 := months_any 738915 13 (by decide) (by decide) _ hd.l
  rw [mon_b] at h9
  refine h9.mono ?_
  clear h9
  rintro e w' ⟨rfl, rfl⟩
  go_wp2_with fail
  have h10 := months_any 738915 (-1) (by decide) (by decide) _ hd.l
  rw [mon_c] at h10
  refine h10.mono ?_
  clear h10
  rintro e w' ⟨rfl, rfl⟩
  go_wp2_with fail
  have h11 := format_any ⟨#[68, 46, 77, 46, 89, 89, 89, 89]⟩ 730178 _ (by decide) hd
  rw [show (⟨#[68, 46, 77, 46, 89, 89, 89, 89]⟩ : ByteArray).data.toList = [68, 46, 77, 46, 89, 89, 89, 89] from rfl, form_a] at h11
  refine h11.mono ?_
  clear h11
  rintro e w1 ⟨rfl, g1⟩
  have d1 := hd.grown g1
  have G1 := Lib.hid g1
  clear g1
  go_wp2_with fail
  have h12 := read_any ⟨#[68, 46, 77, 46, 89, 89, 89, 89]⟩ ⟨#[50, 57, 46, 50, 46, 50, 48, 48, 48]⟩ _ (by decide) (by decide) d1
  rw [show (⟨#[68, 46, 77, 46, 89, 89, 89, 89]⟩ : ByteArray).data.toList = [68, 46, 77, 46, 89, 89, 89, 89] from rfl, show (⟨#[50, 57, 46, 50, 46, 50, 48, 48, 48]⟩ : ByteArray).data.toList = [50, 57, 46, 50, 46, 50, 48, 48, 48] from rfl, read_a] at h12
  refine h12.mono ?_
  clear h12
  rintro e w2 ⟨rfl, g2⟩
  have d2 := d1.grown g2
  have G2 := Lib.hid (gr_then G1.out g2)
  clear g2
  go_wp2_with fail
  have h13 := read_any ⟨#[68, 46, 77, 46, 89, 89, 89, 89]⟩ ⟨#[50, 57, 46, 48, 50, 46, 50, 48, 48, 48]⟩ _ (by decide) (by decide) d2
  rw [show (⟨#[68, 46, 77, 46, 89, 89, 89, 89]⟩ : ByteArray).data.toList = [68, 46, 77, 46, 89, 89, 89, 89] from rfl, show (⟨#[50, 57, 46, 48, 50, 46, 50, 48, 48, 48]⟩ : ByteArray).data.toList = [50, 57, 46, 48, 50, 46, 50, 48, 48, 48] from rfl, read_b] at h13
  refine h13.mono ?_
  clear h13
  rintro e w3 ⟨rfl, g3⟩
  have d3 := d2.grown g3
  have G3 := Lib.hid (gr_then G2.out g3)
  clear g3
  go_wp2_with fail
  have h14 := format_any ⟨#[68, 77, 89, 89, 89, 89]⟩ 0 _ (by decide) d3
  rw [show (⟨#[68, 77, 89, 89, 89, 89]⟩ : ByteArray).data.toList = [68, 77, 89, 89, 89, 89] from rfl, form_b] at h14
  refine h14.mono ?_
  clear h14
  rintro e w4 ⟨rfl, g4⟩
  have d4 := d3.grown g4
  have G4 := Lib.hid (gr_then G3.out g4)
  clear g4
  go_wp2_with fail
  have h15 := text_any 738944 _ d4
  rw [text_a] at h15
  refine h15.mono ?_
  clear h15
  rintro e w5 ⟨rfl, g5⟩
  have d5 := d4.grown g5
  have G5 := Lib.hid (gr_then G4.out g5)
  clear g5
  go_wp2_with fail
  have h16 := text_any 739309 _ d5
  rw [text_b] at h16
  refine h16.mono ?_
  clear h16
  rintro e w6 ⟨rfl, g6⟩
  have d6 := d5.grown g6
  have G6 := Lib.hid (gr_then G5.out g6)
  clear g6
  go_wp2_with fail
  have h17 := text_any 738884 _ d6
  rw [text_c] at h17
  refine h17.mono ?_
  clear h17
  rintro e w7 ⟨rfl, g7⟩
  have d7 := d6.grown g7
  have G7 := Lib.hid (gr_then G6.out g7)
  clear g7
  go_wp2
  go_ret
  exact ⟨rfl, G7.out⟩
end Go.Proofs.YtchbefaflhimcaaDoor
namespace Go.Proofs.YtchbefaflhimcaaDoor
open Go.ChangeShapes Go.WideShapes Go.ChangeAt Go.RowKit Mth

theorem own0 : ownKnob Tryd.prog.godebug = none := by kernel_rfl
theorem laidOut0 : laidOutB Tryd.prog = true := by kernel_rfl

def cellsD : DataW Unit → Array Value
  | .agg l => (l.map fun | .lit (.int k z) => Value.int k z | .lit (.string s) => Value.string ⟨s.toArray⟩ | _ => Value.nilIface).toArray
  | _ => #[]
noncomputable def laidWorld (os : Os) : World :=
  let w0 := World.holding Tryd.prog os ⟨#[], #[], []⟩
  let put (h : Array Obj) (g : Nat) (cs : Array Value) : Array Obj := h.modify g fun
    | .cells _ t frozen => .cells cs t frozen
    | o => o
  { w0 with heap := put (put (put (put (put w0.heap 3 (cellsD Rows.laid_math_bits_deBruijn32tab)) 4 (cellsD Rows.laid_math_bits_deBruijn64tab)) 2 (cellsD Rows.laid_internal_strconv_uint64pow10)) 0 (cellsD Rows.laid_concord_date_lengths)) 1 (cellsD Rows.laid_concord_date_fields) }

theorem cells_of_strs {H : Type} {enc : TypeId × Value → H} {P : Program} {w : World} {base : Nat} {sp : Nat → Bool} {held : Bool} {fuel : Nat} {t e : TypeId} {n : Nat} {cs : List Value} {zs : List (List UInt8)} {p : List MemPlace}
    (ht : P.underlying t = some (.array n e)) (he : P.underlying e = some .string) (hce : P.cellsOf e = 1) (hct : P.cellsOf t = n)
    (h : DataW.trod enc P w base sp held fuel t cs = some (.agg (zs.map fun z => .lit (.string z)), p)) : cs = zs.map fun z => Value.string ⟨z.toArray⟩ := by
  cases fuel with
  | zero => simp [DataW.trod] at h
  | succ fuel =>
    simp only [DataW.trod, ht, hce, hct, Nat.mul_one] at h
    split at h
    · rename_i hl
      obtain ⟨xs, hm, hx⟩ := Option.map_eq_some_iff.1 h
      have hxs : xs.map (·.1) = zs.map fun z => (DataW.lit (.string z) : DataW H) := by
        have := congrArg Prod.fst hx
        simpa using this
      have hxl : xs.length = n := by simpa using Lib.mapM_length hm
      have hzl : zs.length = n := by
        have := congrArg List.length hxs
        simp at this
        omega
      apply List.ext_getElem?
      intro i
      by_cases hi : i < n
      · obtain ⟨b, hb, hf⟩ := Lib.mapM_at hm i i (by simp [hi])
        obtain ⟨s, hc, rfl, _⟩ := DataW.trod_string he hf
        have h1 : cs[i]? = some (.string s) := by
          have := congrArg (·[0]?) hc
          simpa [List.getElem?_take, List.getElem?_drop] using this
        have h2 : (xs.map (·.1))[i]? = some (DataW.lit (.string s.data.toList) : DataW H) := by simp [hb]
        rw [hxs] at h2
        simp only [List.getElem?_map, Option.map_eq_some_iff, DataW.lit.injEq, Lit.string.injEq] at h2
        obtain ⟨z', hz', e⟩ := h2
        rw [h1, List.getElem?_map, hz']
        simp only [Option.map_some]
        rw [toArray_eq s e]
      · rw [List.getElem?_eq_none (by omega), List.getElem?_eq_none (by simp; omega)]
    · cases h
theorem strs_of_head {P : Program} {W : World} {name : String} {zs : List (List UInt8)} {rest : List (String × DataW Unit)} {g : Nat} {t e : TypeId} {n : Nat}
    (hg : P.globalNamed name = some g) (hty : (P.globals[g]?).map (·.type) = some t) (ht : P.underlying t = some (.array n e)) (he : P.underlying e = some .string) (hce : P.cellsOf e = 1) (hct : P.cellsOf t = n)
    (h : laidMet P ((name, .agg (zs.map fun z => .lit (.string z))) :: rest) W) : W.var? P name = some (zs.map fun z => Value.string ⟨z.toArray⟩).toArray := by
  obtain ⟨ps, ⟨g', t', cs, fuel, p, q, hg', ht', hvar, hd, _, _⟩, _⟩ := h
  obtain rfl := Option.some.inj (hg.symm.trans hg')
  obtain rfl := Option.some.inj (hty.symm.trans ht')
  rw [hvar, ← cells_of_strs ht he hce hct hd]

abbrev laidL : List (String × DataW Unit) := [("math/bits.deBruijn32tab", Rows.laid_math_bits_deBruijn32tab), ("math/bits.deBruijn64tab", Rows.laid_math_bits_deBruijn64tab), ("internal/strconv.uint64pow10", Rows.laid_internal_strconv_uint64pow10), ("concord/date.lengths", Rows.laid_concord_date_lengths), ("concord/date.fields", Rows.laid_concord_date_fields)]
theorem dv_of {w : World} (h : laidMet Tryd.prog laidL w) : DV w :=
  ⟨fv_of (strs_of_head (zs := [[89, 89, 89, 89], [77, 77], [77], [68, 68], [68]]) (g := 1) (t := 85) (e := 9) (n := 5) (by kernel_rfl) (by kernel_rfl) (by kernel_rfl) (by kernel_rfl) (by kernel_rfl) (by kernel_rfl) h.tail.tail.tail.tail),
   Lib.tabIs_of_head (g := 0) (t := 69) (e := 3) (n := 12) (by kernel_rfl) (by kernel_rfl) (by kernel_rfl) (by kernel_rfl) (by kernel_rfl) (by kernel_rfl) (show laidMet Tryd.prog [("concord/date.lengths", Lib.tabData .i64 lensL), ("concord/date.fields", Rows.laid_concord_date_fields)] w from h.tail.tail.tail),
   Lib.tabIs_of_head (g := 2) (t := 97) (e := 91) (n := 20) (by kernel_rfl) (by kernel_rfl) (by kernel_rfl) (by kernel_rfl) (by kernel_rfl) (by kernel_rfl) (show laidMet Tryd.prog [("internal/strconv.uint64pow10", Lib.tabData .u64 Lib.pow10Tab), ("concord/date.lengths", Rows.laid_concord_date_lengths), ("concord/date.fields", Rows.laid_concord_date_fields)] w from h.tail.tail)⟩
set_option maxRecDepth 1000000 in
theorem laid_at (os : Os) (args : Array Value) : laidMet Tryd.prog laidL ((laidWorld os).forCall (fun _ _ => 0) ⟨#[], args, []⟩).memory :=
  have h : LaidIn Tryd.prog ((laidWorld os).forCall (fun _ _ => 0) ⟨#[], args, []⟩).memory laidL [3, 4, 2, 0, 1] :=
    LaidIn.of_run [3, 4, 2, 0, 1] 8 (by kernel_rfl) (by kernel_rfl) (by kernel_rfl) (by kernel_rfl)
  h.met

set_option maxRecDepth 100000 in
theorem int_arg {H : Type} {enc : TypeId × Value → H} {W : World} {base : Nat} {v : Value} {d : DataW H} {p : List MemPlace} (hok : Value.okWide Tryd.prog W .any base 3 v) (h : DataW.Trod enc Tryd.prog W 0 (fun _ => true) true 3 v d p) : ∃ n : Int, v = .int .i64 n ∧ -9223372036854775808 ≤ n ∧ n ≤ 9223372036854775807 := by
  obtain ⟨n, rfl, _, _, hw⟩ := open_int Tryd.underlying3 hok h
  have a1 : IntKind.i64.min = -9223372036854775808 := rfl
  have a2 : IntKind.i64.max = 9223372036854775807 := rfl
  refine ⟨n, rfl, ?_⟩
  simpa [Lit.wf, a1, a2] using hw
set_option maxRecDepth 100000 in
theorem byte_arg {H : Type} {enc : TypeId × Value → H} {W : World} {base : Nat} {v : Value} {d : DataW H} {p : List MemPlace} (hok : Value.okWide Tryd.prog W .any base 5 v) (h : DataW.Trod enc Tryd.prog W 0 (fun _ => true) true 5 v d p) : ∃ n : Nat, v = .int .u8 (n : Int) ∧ n ≤ 255 := by
  obtain ⟨n, rfl, _, _, hw⟩ := open_int Tryd.underlying5 hok h
  have a1 : IntKind.u8.min = 0 := rfl
  have a2 : IntKind.u8.max = 255 := rfl
  have hb : 0 ≤ n ∧ n ≤ 255 := by simpa [Lit.wf, a1, a2] using hw
  exact ⟨n.toNat, by rw [Int.toNat_of_nonneg hb.1], by omega⟩
set_option maxRecDepth 100000 in
theorem u16_arg {H : Type} {enc : TypeId × Value → H} {W : World} {base : Nat} {v : Value} {d : DataW H} {p : List MemPlace} (hok : Value.okWide Tryd.prog W .any base 35 v) (h : DataW.Trod enc Tryd.prog W 0 (fun _ => true) true 35 v d p) : ∃ n : Nat, v = .int .u16 (n : Int) ∧ n ≤ 65535 := by
  obtain ⟨n, rfl, _, _, hw⟩ := open_int Tryd.underlying35 hok h
  have a1 : IntKind.u16.min = 0 := rfl
  have a2 : IntKind.u16.max = 65535 := rfl
  have hb : 0 ≤ n ∧ n ≤ 65535 := by simpa [Lit.wf, a1, a2] using hw
  exact ⟨n.toNat, by rw [Int.toNat_of_nonneg hb.1], by omega⟩
set_option maxRecDepth 100000 in
theorem u32_arg {H : Type} {enc : TypeId × Value → H} {W : World} {base : Nat} {v : Value} {d : DataW H} {p : List MemPlace} (hok : Value.okWide Tryd.prog W .any base 33 v) (h : DataW.Trod enc Tryd.prog W 0 (fun _ => true) true 33 v d p) : ∃ n : Nat, v = .int .u32 (n : Int) ∧ n ≤ 4294967295 := by
  obtain ⟨n, rfl, _, _, hw⟩ := open_int Tryd.underlying33 hok h
  have a1 : IntKind.u32.min = 0 := rfl
  have a2 : IntKind.u32.max = 4294967295 := rfl
  have hb : 0 ≤ n ∧ n ≤ 4294967295 := by simpa [Lit.wf, a1, a2] using hw
  exact ⟨n.toNat, by rw [Int.toNat_of_nonneg hb.1], by omega⟩
set_option maxRecDepth 100000 in
theorem str_arg {H : Type} {enc : TypeId × Value → H} {W : World} {base : Nat} {v : Value} {d : DataW H} {p : List MemPlace} (hok : Value.okWide Tryd.prog W .any base 9 v) (h : DataW.Trod enc Tryd.prog W 0 (fun _ => true) true 9 v d p) : ∃ s : ByteArray, v = .string s ∧ s.size ≤ maxLen := by
  obtain ⟨s, rfl⟩ := okWide_string Tryd.underlying9 hok
  obtain ⟨fuel, hf⟩ := h
  refine ⟨s, rfl, ?_⟩
  cases fuel with
  | zero => simp [DataW.trod] at hf
  | succ n =>
    simp [DataW.trod, Value.cells, Tryd.underlying9] at hf
    exact hf.1
theorem wf_i64 {n : Int} (h : (Lit.int .i64 n).wf = true) : -9223372036854775808 ≤ n ∧ n ≤ 9223372036854775807 := by
  have a1 : IntKind.i64.min = -9223372036854775808 := rfl
  have a2 : IntKind.i64.max = 9223372036854775807 := rfl
  simpa [Lit.wf, a1, a2] using h
theorem wf_u8 {n : Int} (h : (Lit.int .u8 n).wf = true) : ∃ m : Nat, n = (m : Int) ∧ m ≤ 255 := by
  have a1 : IntKind.u8.min = 0 := rfl
  have a2 : IntKind.u8.max = 255 := rfl
  have hb : 0 ≤ n ∧ n ≤ 255 := by simpa [Lit.wf, a1, a2] using h
  exact ⟨n.toNat, by rw [Int.toNat_of_nonneg hb.1], by omega⟩
/-- An argument that is an array of 2 numbers. -/
theorem arr2_arg {P : Program} {k : IntKind} {t e : TypeId} (ht : P.underlying t = some (.array 2 e)) (he : P.underlying e = some (.int k)) (hc : P.cellsOf t = 2) (hce : P.cellsOf e = 1) {H : Type} {enc : TypeId × Value → H} {W : World} {base : Nat} {v : Value} {d : DataW H} {p : List MemPlace} (hok : Value.okWide P W .any base t v) (h : DataW.Trod enc P W 0 (fun _ => true) true t v d p) : ∃ a0 a1 : Int, v = .agg #[.int k a0, .int k a1] ∧ (Lit.int k a0).wf = true ∧ (Lit.int k a1).wf = true := by
  simp only [Value.okWide, ht] at hok
  obtain ⟨cs, rfl, hsz, _⟩ := hok
  obtain ⟨fuel, hf⟩ := h
  rw [hc] at hsz
  obtain ⟨x0, x1, rfl⟩ : ∃ x0 x1, cs = #[x0, x1] := by
    rcases cs with ⟨l⟩
    match l, hsz with
    | [x0, x1], _ => exact ⟨x0, x1, rfl⟩
  obtain ⟨xs, m, _, _, _, hlen, hf2⟩ := DataW.trod_array ht hf
  have h0 := hf2 0 (by decide)
  have h1 := hf2 1 (by decide)
  rw [hce] at h0 h1
  match xs, hlen with
  | [y0, y1], _ =>
    obtain ⟨a0, e0, _, w0⟩ := DataW.trod_int he (x := y0) (by simpa using h0)
    obtain ⟨a1, e1, _, w1⟩ := DataW.trod_int he (x := y1) (by simpa using h1)
    simp [Value.cells] at e0 e1
    exact ⟨a0, a1, by rw [e0, e1], w0, w1⟩
/-- An argument that is an array of 3 numbers. -/
theorem arr3_arg {P : Program} {k : IntKind} {t e : TypeId} (ht : P.underlying t = some (.array 3 e)) (he : P.underlying e = some (.int k)) (hc : P.cellsOf t = 3) (hce : P.cellsOf e = 1) {H : Type} {enc : TypeId × Value → H} {W : World} {base : Nat} {v : Value} {d : DataW H} {p : List MemPlace} (hok : Value.okWide P W .any base t v) (h : DataW.Trod enc P W 0 (fun _ => true) true t v d p) : ∃ a0 a1 a2 : Int, v = .agg #[.int k a0, .int k a1, .int k a2] ∧ (Lit.int k a0).wf = true ∧ (Lit.int k a1).wf = true ∧ (Lit.int k a2).wf = true := by
  simp only [Value.okWide, ht] at hok
  obtain ⟨cs, rfl, hsz, _⟩ := hok
  obtain ⟨fuel, hf⟩ := h
  rw [hc] at hsz
  obtain ⟨x0, x1, x2, rfl⟩ : ∃ x0 x1 x2, cs = #[x0, x1, x2] := by
    rcases cs with ⟨l⟩
    match l, hsz with
    | [x0, x1, x2], _ => exact ⟨x0, x1, x2, rfl⟩
  obtain ⟨xs, m, _, _, _, hlen, hf2⟩ := DataW.trod_array ht hf
  have h0 := hf2 0 (by decide)
  have h1 := hf2 1 (by decide)
  have h2 := hf2 2 (by decide)
  rw [hce] at h0 h1 h2
  match xs, hlen with
  | [y0, y1, y2], _ =>
    obtain ⟨a0, e0, _, w0⟩ := DataW.trod_int he (x := y0) (by simpa using h0)
    obtain ⟨a1, e1, _, w1⟩ := DataW.trod_int he (x := y1) (by simpa using h1)
    obtain ⟨a2, e2, _, w2⟩ := DataW.trod_int he (x := y2) (by simpa using h2)
    simp [Value.cells] at e0 e1 e2
    exact ⟨a0, a1, a2, by rw [e0, e1, e2], w0, w1, w2⟩
/-- An argument that is an array of 8 numbers. -/
theorem arr8_arg {P : Program} {k : IntKind} {t e : TypeId} (ht : P.underlying t = some (.array 8 e)) (he : P.underlying e = some (.int k)) (hc : P.cellsOf t = 8) (hce : P.cellsOf e = 1) {H : Type} {enc : TypeId × Value → H} {W : World} {base : Nat} {v : Value} {d : DataW H} {p : List MemPlace} (hok : Value.okWide P W .any base t v) (h : DataW.Trod enc P W 0 (fun _ => true) true t v d p) : ∃ a0 a1 a2 a3 a4 a5 a6 a7 : Int, v = .agg #[.int k a0, .int k a1, .int k a2, .int k a3, .int k a4, .int k a5, .int k a6, .int k a7] ∧ (Lit.int k a0).wf = true ∧ (Lit.int k a1).wf = true ∧ (Lit.int k a2).wf = true ∧ (Lit.int k a3).wf = true ∧ (Lit.int k a4).wf = true ∧ (Lit.int k a5).wf = true ∧ (Lit.int k a6).wf = true ∧ (Lit.int k a7).wf = true := by
  simp only [Value.okWide, ht] at hok
  obtain ⟨cs, rfl, hsz, _⟩ := hok
  obtain ⟨fuel, hf⟩ := h
  rw [hc] at hsz
  obtain ⟨x0, x1, x2, x3, x4, x5, x6, x7, rfl⟩ : ∃ x0 x1 x2 x3 x4 x5 x6 x7, cs = #[x0, x1, x2, x3, x4, x5, x6, x7] := by
    rcases cs with ⟨l⟩
    match l, hsz with
    | [x0, x1, x2, x3, x4, x5, x6, x7], _ => exact ⟨x0, x1, x2, x3, x4, x5, x6, x7, rfl⟩
  obtain ⟨xs, m, _, _, _, hlen, hf2⟩ := DataW.trod_array ht hf
  have h0 := hf2 0 (by decide)
  have h1 := hf2 1 (by decide)
  have h2 := hf2 2 (by decide)
  have h3 := hf2 3 (by decide)
  have h4 := hf2 4 (by decide)
  have h5 := hf2 5 (by decide)
  have h6 := hf2 6 (by decide)
  have h7 := hf2 7 (by decide)
  rw [hce] at h0 h1 h2 h3 h4 h5 h6 h7
  match xs, hlen with
  | [y0, y1, y2, y3, y4, y5, y6, y7], _ =>
    obtain ⟨a0, e0, _, w0⟩ := DataW.trod_int he (x := y0) (by simpa using h0)
    obtain ⟨a1, e1, _, w1⟩ := DataW.trod_int he (x := y1) (by simpa using h1)
    obtain ⟨a2, e2, _, w2⟩ := DataW.trod_int he (x := y2) (by simpa using h2)
    obtain ⟨a3, e3, _, w3⟩ := DataW.trod_int he (x := y3) (by simpa using h3)
    obtain ⟨a4, e4, _, w4⟩ := DataW.trod_int he (x := y4) (by simpa using h4)
    obtain ⟨a5, e5, _, w5⟩ := DataW.trod_int he (x := y5) (by simpa using h5)
    obtain ⟨a6, e6, _, w6⟩ := DataW.trod_int he (x := y6) (by simpa using h6)
    obtain ⟨a7, e7, _, w7⟩ := DataW.trod_int he (x := y7) (by simpa using h7)
    simp [Value.cells] at e0 e1 e2 e3 e4 e5 e6 e7
    exact ⟨a0, a1, a2, a3, a4, a5, a6, a7, by rw [e0, e1, e2, e3, e4, e5, e6, e7], w0, w1, w2, w3, w4, w5, w6, w7⟩
theorem gr_low {w w' : World} (hg : w.grownBy w' none) : Below w.heap.size w w' := ⟨hg.os, hg.tape, hg.output, hg.size, fun k hk => hg.block k hk (by simp)⟩
end Go.Proofs.YtchbefaflhimcaaDoor
namespace Go.Proofs.YtchbefaflhimcaaDoor
open Go.RowKit Mth

theorem rleap_any (y : Nat) (w : World) :
    Calls Tryd.prog 52 #[.int .i64 y] w fun e w' => e = .returned (.bool (leap y)) ∧ w = w' := by
  go_enter Tryd.func52, Tryd.ntmps52
  go_wp2
  all_goals
    go_ret
    refine ⟨?_, rfl⟩
    first
    | (rw [leap_true ⟨by omega, by omega⟩]; rfl)
    | (rw [leap_false (by omega)]; rfl)
    | skip
  by_cases h : y % 400 = 0
  · rw [leap_true ⟨by omega, by omega⟩, show ((y : Int) % 400 == 0) = true from by rw [beq_iff_eq]; omega]; rfl
  · rw [leap_false (by omega), show ((y : Int) % 400 == 0) = false from by rw [beq_eq_false_iff_ne]; omega]; rfl

theorem days_any (y m : Nat) (w : World) :
    Calls Tryd.prog 39 #[.int .i64 y, .int .i64 m] w fun e w' => e = .returned (.int .i64 (dim y m : Nat)) ∧ w = w' := by
  by_cases h2 : m = 2
  · subst h2
    cases hl : leap y with
    | true =>
      have hd : dim y 2 = 29 := by unfold dim; rw [hl]; rfl
      rw [hd]
      go_enter Tryd.func39, Tryd.ntmps39
      go_wp2_with fail
      refine (rleap_any y w).mono ?_
      rintro e w' ⟨rfl, rfl⟩
      rw [hl]
      go_wp2
      go_ret
      exact ⟨rfl, rfl⟩
    | false =>
      have hd : dim y 2 = 28 := by unfold dim; rw [hl]; rfl
      rw [hd]
      go_enter Tryd.func39, Tryd.ntmps39
      go_wp2_with fail
      refine (rleap_any y w).mono ?_
      rintro e w' ⟨rfl, rfl⟩
      rw [hl]
      go_wp2
      go_ret
      exact ⟨rfl, rfl⟩
  · by_cases h3 : m = 4 ∨ m = 6 ∨ m = 9 ∨ m = 11
    · have hd : dim y m = 30 := by unfold dim; rw [if_neg h2, if_pos h3]
      rw [hd]
      have h2' : ((m : Int) == 2) = false := by rw [beq_eq_false_iff_ne]; omega
      clear hd
      rcases h3 with rfl | rfl | rfl | rfl
      all_goals
        go_enter Tryd.func39, Tryd.ntmps39
        go_wp2
        go_ret
        exact ⟨rfl, rfl⟩
    · have hd : dim y m = 31 := by unfold dim; rw [if_neg h2, if_neg h3]
      rw [hd]
      have h2' : ((m : Int) == 2) = false := by rw [beq_eq_false_iff_ne]; omega
      have h4' : ((m : Int) == 4) = false := by rw [beq_eq_false_iff_ne]; omega
      have h6' : ((m : Int) == 6) = false := by rw [beq_eq_false_iff_ne]; omega
      have h9' : ((m : Int) == 9) = false := by rw [beq_eq_false_iff_ne]; omega
      have h11' : ((m : Int) == 11) = false := by rw [beq_eq_false_iff_ne]; omega
      clear h2 h3 hd
      go_enter Tryd.func39, Tryd.ntmps39
      go_wp2
      go_ret
      exact ⟨rfl, rfl⟩

theorem rvalid_any (y m d : Int) (w : World) :
    Calls Tryd.prog 37 #[.int .i64 y, .int .i64 m, .int .i64 d] w fun e w' => e = .returned (.bool (okD y m d)) ∧ w = w' := by
  by_cases h1 : 1 ≤ y ∧ y ≤ 9999 ∧ 1 ≤ m ∧ m ≤ 12 ∧ 1 ≤ d
  · obtain ⟨a1, a2, a3, a4, a5⟩ := h1
    obtain ⟨ny, rfl⟩ := Int.eq_ofNat_of_zero_le (show 0 ≤ y by omega)
    obtain ⟨nm, rfl⟩ := Int.eq_ofNat_of_zero_le (show 0 ≤ m by omega)
    have hk : okD ny nm d = decide (d ≤ (dim ny nm : Nat)) := by unfold okD; simp [a1, a2, a3, a4, a5]
    rw [hk]
    go_enter Tryd.func37, Tryd.ntmps37
    go_wp2_with fail
    refine (days_any ny nm w).mono ?_
    rintro e w' ⟨rfl, rfl⟩
    go_wp2
    go_ret
    exact ⟨rfl, rfl⟩
  · have hk : okD y m d = false := by unfold okD; rw [decide_eq_false]; intro h; exact h1 ⟨h.1, h.2.1, h.2.2.1, h.2.2.2.1, h.2.2.2.2.1⟩
    rw [hk]
    go_enter Tryd.func37, Tryd.ntmps37
    go_wp2_with fail
    all_goals
      go_ret
      exact ⟨rfl, rfl⟩

theorem rfirst_any (t : Nat) (z : Int) (hz : z = (t : Int) + 1) (ht : t ≤ 10000000000000000) (w : World) :
    Calls Tryd.prog 38 #[.int .i64 z] w fun e w' => e = .returned (.int .i64 (bef t : Nat)) ∧ w = w' := by
  have h1 : (bef t : Int) = 365 * (t : Int) + (t : Int) / 4 - (t : Int) / 100 + (t : Int) / 400 := by unfold bef; omega
  subst hz
  rw [h1]
  go_enter Tryd.func38, Tryd.ntmps38
  go_wp2
  go_ret
  exact ⟨rfl, rfl⟩

set_option maxRecDepth 100000 in
theorem rnumber_any (y m d : Int) (w : World) :
    Calls Tryd.prog 15 #[.int .i64 y, .int .i64 m, .int .i64 d] w fun e w' => e = .returned (.tuple #[.int .i64 (numD y m d).1, .bool (numD y m d).2]) ∧ w = w' := by
  cases hk : okD y m d with
  | false =>
    have hn : numD y m d = (0, false) := by unfold numD; rw [hk]; rfl
    rw [hn]
    go_enter Tryd.func15, Tryd.ntmps15
    go_wp2_with fail
    refine (rvalid_any y m d w).mono ?_
    rintro e w' ⟨rfl, rfl⟩
    rw [hk]
    go_wp2
    go_ret2
    exact ⟨rfl, rfl⟩
  | true =>
    have hn : numD y m d = (((numOf y.toNat m.toNat d.toNat : Nat) : Int), true) := by unfold numD; rw [hk]; rfl
    have ho := hk
    unfold okD at ho
    rw [decide_eq_true_eq] at ho
    obtain ⟨a1, a2, a3, a4, a5, a6⟩ := ho
    obtain ⟨t, rfl⟩ : ∃ t : Nat, y = (t : Int) + 1 := ⟨(y - 1).toNat, by omega⟩
    obtain ⟨nm, rfl⟩ := Int.eq_ofNat_of_zero_le (show 0 ≤ m by omega)
    obtain ⟨nd, rfl⟩ := Int.eq_ofNat_of_zero_le (show 0 ≤ d by omega)
    rw [hn]
    simp only [Int.toNat_natCast, show ((t : Int) + 1).toNat = t + 1 from by omega] at a6 ⊢
    have HK := Lib.hid hk
    have hb : bef t ≤ 3652059 := by
      have := bef_le (show t ≤ 9999 by omega)
      rwa [show bef 9999 = 3652059 from by decide] at this
    have hdl := dim_le (t + 1) nm
    clear hk hn
    go_enter Tryd.func15, Tryd.ntmps15
    go_wp2_with fail
    refine (rvalid_any _ _ _ w).mono ?_
    rintro e w' ⟨rfl, rfl⟩
    rw [HK.out]
    go_wp2_with fail
    refine (rfirst_any t _ rfl (by omega) w).mono ?_
    rintro e w' ⟨rfl, rfl⟩
    go_wp2
    go_loop [9, 10] (fun u v => ∃ k : Nat, k + 1 ≤ nm ∧ u = .int .i64 ((bef t : Int) + (cum (t + 1) k : Nat) + nd - 1) ∧ v = .int .i64 ((k : Int) + 1)) (fun _ v => (nm - intOf v).toNat)
    case atStart => exact ⟨0, by omega, by simp [cum], by simp⟩
    case round =>
      obtain ⟨k, hk, rfl, rfl⟩ := hrel
      have hcl := cum_le (t + 1) (show k ≤ 12 by omega)
      rw [cum_12] at hcl
      have hcl2 : cum (t + 1) k ≤ 366 := by split at hcl <;> omega
      clear hcl
      by_cases hkm : k + 1 = nm
      · subst hkm
        go_wp2
        go_ret2
        refine ⟨?_, rfl⟩
        unfold numOf
        rw [Nat.add_sub_cancel, Nat.add_sub_cancel, show ((bef t + cum (t + 1) k + nd - 1 : Nat) : Int) = (bef t : Int) + (cum (t + 1) k : Nat) + nd - 1 from by omega]
        rfl
      · have hdl := dim_le (t + 1) (k + 1)
        have hlt : (k : Int) + 1 < nm := by omega
        go_wp2_with fail
        refine (days_any (t + 1) (k + 1) w).mono ?_
        rintro e w' ⟨rfl, rfl⟩
        go_wp2
        refine ⟨⟨k + 1, by omega, by congr 1; simp only [cum]; omega, by congr 1⟩, ?_⟩
        simp only [intOf]
        omega

theorem rright_any (n : Int) (w : World) :
    Calls Tryd.prog 42 #[.int .i64 n] w fun e w' => e = .returned (.bool (isN n)) ∧ w = w' := by
  by_cases h : 0 ≤ n
  · rw [show isN n = decide (n ≤ 3652058) from by unfold isN; simp [h]]
    go_enter Tryd.func42, Tryd.ntmps42
    go_wp2
    go_ret
    exact ⟨rfl, rfl⟩
  · rw [isN_false (by omega)]
    go_enter Tryd.func42, Tryd.ntmps42
    go_wp2
    go_ret
    exact ⟨rfl, rfl⟩

set_option maxHeartbeats 1000000 in
set_option maxRecDepth 100000 in
theorem rcivil_any (n : Int) (w : World) :
    Calls Tryd.prog 18 #[.int .i64 n] w fun e w' => e = .returned (civD n) ∧ w = w' := by
  by_cases h : 0 ≤ n ∧ n ≤ 3652058
  · obtain ⟨k, rfl⟩ := Int.eq_ofNat_of_zero_le h.1
    have hc : ∀ y m d, Civ k y m d → civD (k : Int) = .tuple #[.int .i64 (y : Nat), .int .i64 (m : Nat), .int .i64 (d : Nat), .bool true] := by
      intro y m d hc
      unfold civD
      rw [isN_true h, Int.toNat_natCast, hc.eq hc.le]
      rfl
    have hk : k ≤ 3652058 := by omega
    have HC := Lib.hid hc
    clear hc
    go_enter Tryd.func18, Tryd.ntmps18
    go_wp2_with fail
    refine (rright_any _ w).mono ?_
    rintro e w' ⟨rfl, rfl⟩
    rw [isN_true h]
    go_wp2
    go_loop [6, 7] (fun u v => ∃ a b : Nat, a ≤ b ∧ b ≤ 9998 ∧ Hid (bef a ≤ k ∧ k < bef (b + 1)) ∧ u = .int .i64 ((a : Int) + 1) ∧ v = .int .i64 ((b : Int) + 1)) (fun u v => (intOf v - intOf u).toNat)
    case atStart => exact ⟨0, 9998, by omega, by omega, ⟨by simp [bef], by rw [show bef (9998 + 1) = 3652059 from by decide]; omega⟩, by simp, by simp⟩
    case round =>
      obtain ⟨a, b, hab, hb, HB, rfl, rfl⟩ := hrel
      by_cases he : a = b
      · subst he
        have hy : yr k = a := yr_uniq HB.out.1 HB.out.2
        subst hy
        have hst := InYear.start (n := k)
        have hle := (yr_spec k).1
        have hyl := yr_le (n := k) hk
        go_wp2_with fail
        refine (rfirst_any (yr k) _ rfl (by omega) w).mono ?_
        rintro e w' ⟨rfl, rfl⟩
        generalize yr k = t at *
        go_wp2
        go_loop [10, 9] (fun u v => ∃ j r : Nat, Hid (InYear k t j r) ∧ r ≤ 366 ∧ j ≤ 11 ∧ u = .int .i64 ((j : Int) + 1) ∧ v = .int .i64 (r : Int)) (fun u _ => (12 - intOf u).toNat)
        case atStart => exact ⟨0, k - bef t, hst, hst.small, by omega, by simp, by congr 1; omega⟩
        case round =>
          obtain ⟨j, r, hin, hr, hj, rfl, rfl⟩ := hrel
          have hmo := days_any (t + 1) (j + 1) w
          have HM := Lib.hid hmo
          clear hmo
          by_cases hd : dim (t + 1) (j + 1) ≤ r
          · go_wp2_with fail
            refine HM.out.mono ?_
            rintro e w' ⟨rfl, rfl⟩
            go_wp2_with fail
            refine HM.out.mono ?_
            rintro e w' ⟨rfl, rfl⟩
            have hn := hin.out.next hd
            go_wp2
            refine ⟨⟨j + 1, r - dim (t + 1) (j + 1), hn, hn.small, hn.le, by congr 1, by congr 1; omega⟩, ?_⟩
            have := hn.le
            simp only [intOf]
            omega
          · go_wp2_with fail
            refine HM.out.mono ?_
            rintro e w' ⟨rfl, rfl⟩
            go_wp2
            (try simp only [Exit.inBlock, Exit.then])
            refine bodyPost_ret (results_tmp4 rfl _ _ _) rfl ?_
            rw [HC.out _ _ _ (hin.out.done (by omega) hyl)]
            exact ⟨by simp, rfl⟩
      · have hlt : (a : Int) + 1 < (b : Int) + 1 := by omega
        obtain ⟨c, hc⟩ : ∃ c, c = (a + b + 1) / 2 := ⟨_, rfl⟩
        have hac : a < c := by omega
        have hcb : c ≤ b := by omega
        have HZ := Lib.hid hc
        clear hc
        by_cases hm : bef c ≤ k
        · go_wp2_with fail
          refine (rfirst_any c _ (by have := HZ.out; omega) (by omega) w).mono ?_
          rintro e w' ⟨rfl, rfl⟩
          go_wp2
          refine ⟨⟨c, b, hcb, hb, ⟨hm, HB.out.2⟩, by have := HZ.out; congr 1; omega, rfl⟩, ?_⟩
          have := HZ.out
          simp only [intOf]
          omega
        · go_wp2_with fail
          refine (rfirst_any c _ (by have := HZ.out; omega) (by omega) w).mono ?_
          rintro e w' ⟨rfl, rfl⟩
          go_wp2
          refine ⟨⟨a, c - 1, by omega, by omega, ⟨HB.out.1, by rw [show c - 1 + 1 = c from by omega]; omega⟩, rfl, by have := HZ.out; congr 1; omega⟩, ?_⟩
          have := HZ.out
          simp only [intOf]
          omega
  · have hc : civD n = .tuple #[.int .i64 0, .int .i64 0, .int .i64 0, .bool false] := by unfold civD; rw [isN_false h]; rfl
    rw [hc]
    have hf := isN_false h
    clear h
    go_enter Tryd.func18, Tryd.ntmps18
    go_wp2_with fail
    refine (rright_any _ w).mono ?_
    rintro e w' ⟨rfl, rfl⟩
    rw [hf]
    go_wp2
    (try simp only [Exit.inBlock, Exit.then])
    refine bodyPost_ret (results_tmp4 rfl _ _ _) rfl ?_
    exact ⟨rfl, rfl⟩
end Go.Proofs.YtchbefaflhimcaaDoor
namespace Go.Proofs.YtchbefaflhimcaaDoor
open Go.RowKit Mth

theorem rweekday_any (n : Int) (w : World) :
    Calls Tryd.prog 22 #[.int .i64 n] w fun e w' => e = .returned (.tuple #[.int .i64 (wkD n).1, .bool (wkD n).2]) ∧ w = w' := by
  by_cases h : 0 ≤ n ∧ n ≤ 3652058
  · rw [show wkD n = (n % 7 + 1, true) from by unfold wkD; rw [isN_true h]; rfl]
    go_enter Tryd.func22, Tryd.ntmps22
    go_wp2_with fail
    refine (rright_any _ w).mono ?_
    rintro e w' ⟨rfl, rfl⟩
    rw [isN_true h]
    go_wp2
    go_ret2
    exact ⟨by rw [Int.add_comm]; rfl, rfl⟩
  · rw [show wkD n = (0, false) from by unfold wkD; rw [isN_false h]; rfl]
    have hf := isN_false h
    clear h
    go_enter Tryd.func22, Tryd.ntmps22
    go_wp2_with fail
    refine (rright_any _ w).mono ?_
    rintro e w' ⟨rfl, rfl⟩
    rw [hf]
    go_wp2
    go_ret2
    exact ⟨rfl, rfl⟩

set_option maxRecDepth 100000 in
theorem radd_any (n k : Int) (w : World) :
    Calls Tryd.prog 20 #[.int .i64 n, .int .i64 k] w fun e w' => e = .returned (.tuple #[.int .i64 (addD n k).1, .bool (addD n k).2]) ∧ w = w' := by
  by_cases h : 0 ≤ n ∧ n ≤ 3652058
  · have ht := isN_true h
    by_cases hk : -3652058 ≤ k ∧ k ≤ 3652058
    · have ha : addD n k = (if isN (n + k) then n + k else 0, isN (n + k)) := by
        unfold addD; rw [ht, Bool.true_and]; cases isN (n + k) <;> rfl
      rw [ha]
      generalize hb : isN (n + k) = b
      have HB := Lib.hid hb
      clear ha hb
      cases b
      all_goals
        go_enter Tryd.func20, Tryd.ntmps20
        go_wp2_with fail
        refine (rright_any _ w).mono ?_
        rintro e w' ⟨rfl, rfl⟩
        rw [ht]
        go_wp2_with fail
        refine (rright_any _ w).mono ?_
        rintro e w' ⟨rfl, rfl⟩
        rw [HB.out]
        go_wp2
        go_ret2
        exact ⟨rfl, rfl⟩
    · have ha : addD n k = (0, false) := by unfold addD; rw [ht, isN_false (n := n + k) (by omega)]; rfl
      rw [ha]
      clear ha
      by_cases h1 : k < -3652058
      · clear hk
        go_enter Tryd.func20, Tryd.ntmps20
        go_wp2_with fail
        refine (rright_any _ w).mono ?_
        rintro e w' ⟨rfl, rfl⟩
        rw [ht]
        go_wp2
        go_ret2
        exact ⟨rfl, rfl⟩
      · have h2 : 3652058 < k := by omega
        clear hk
        go_enter Tryd.func20, Tryd.ntmps20
        go_wp2_with fail
        refine (rright_any _ w).mono ?_
        rintro e w' ⟨rfl, rfl⟩
        rw [ht]
        go_wp2
        go_ret2
        exact ⟨rfl, rfl⟩
  · rw [show addD n k = (0, false) from by unfold addD; rw [isN_false h]; rfl]
    have hf := isN_false h
    clear h
    go_enter Tryd.func20, Tryd.ntmps20
    go_wp2_with fail
    refine (rright_any _ w).mono ?_
    rintro e w' ⟨rfl, rfl⟩
    rw [hf]
    go_wp2
    go_ret2
    exact ⟨rfl, rfl⟩

theorem days_at (z u : Int) (y m : Nat) (hz : z = (y : Int)) (hu : u = (m : Int)) (w : World) :
    Calls Tryd.prog 39 #[.int .i64 z, .int .i64 u] w fun e w' => e = .returned (.int .i64 (dim y m : Nat)) ∧ w = w' := by
  subst hz; subst hu; exact days_any y m w

set_option maxRecDepth 100000 in
theorem rmonths_any (n M : Int) (w : World) :
    Calls Tryd.prog 24 #[.int .i64 n, .int .i64 M] w fun e w' => e = .returned (.tuple #[.int .i64 (monD n M).1, .bool (monD n M).2]) ∧ w = w' := by
  by_cases h : 0 ≤ n ∧ n ≤ 3652058
  · obtain ⟨k, rfl⟩ := Int.eq_ofNat_of_zero_le h.1
    have hc := civ_spec (n := k) (show k ≤ maxDay by unfold maxDay; omega)
    have hcd : civD (k : Int) = .tuple #[.int .i64 ((civ k).1 : Nat), .int .i64 ((civ k).2.1 : Nat), .int .i64 ((civ k).2.2 : Nat), .bool true] := by
      unfold civD; rw [isN_true h]; rfl
    have hm : monD (k : Int) M = if 12 ≤ monC k M ∧ monC k M < 120000 then (((monN (monC k M).toNat (civ k).2.2 : Nat) : Int), true) else (0, false) := by
      unfold monD; rw [isN_true h]; simp only [Int.toNat_natCast, Bool.true_and, decide_eq_true_eq]
    have hmc : monC k M = 12 * ((civ k).1 : Nat) + ((civ k).2.1 : Nat) - 1 + M := rfl
    rw [hm]
    obtain ⟨h1, h2, h3, h4, h5, h6⟩ := hc.ok
    clear hm hc
    generalize (civ k).1 = y at *
    generalize (civ k).2.1 = m at *
    generalize (civ k).2.2 = d at *
    have hdl := dim_le y m
    have hd31 : d ≤ 31 := by omega
    clear h6 hdl
    have HCD := Lib.hid hcd
    clear hcd
    by_cases hM : -120000 ≤ M ∧ M ≤ 120000
    · by_cases hin : 12 ≤ monC k M ∧ monC k M < 120000
      · rw [if_pos hin]
        obtain ⟨q, hq⟩ := Int.eq_ofNat_of_zero_le (show 0 ≤ monC k M by omega)
        have hw : 12 * (y : Int) + m - 1 + M = q := by omega
        rw [hq] at hin ⊢
        rw [Int.toNat_natCast]
        have hq1 : 12 ≤ q := by omega
        have hq2 : q < 120000 := by omega
        have hnum : ∀ dd : Int, dd = (min d (dim (q / 12) (q % 12 + 1)) : Nat) → numD ((q : Int) / 12) ((q : Int) % 12 + 1) dd = (((monN q d : Nat) : Int), true) := by
          intro dd hdd
          subst hdd
          have e1 : ((q : Int) / 12).toNat = q / 12 := by omega
          have e2 : ((q : Int) % 12 + 1).toNat = q % 12 + 1 := by omega
          have hdp := dim_pos (q / 12) (q % 12 + 1)
          have ho : okD ((q : Int) / 12) ((q : Int) % 12 + 1) (min d (dim (q / 12) (q % 12 + 1)) : Nat) = true := by
            unfold okD
            rw [e1, e2]
            apply decide_eq_true
            omega
          unfold numD
          rw [ho, e1, e2, Int.toNat_natCast]
          rfl
        obtain ⟨ln, hln⟩ : ∃ ln, ln = dim (q / 12) (q % 12 + 1) := ⟨_, rfl⟩
        rw [← hln] at hnum
        have HL := Lib.hid hln
        have HN := Lib.hid hnum
        have hln31 : ln ≤ 31 := by rw [hln]; exact dim_le _ _
        have hM1 := hM.1
        have hM2 := hM.2
        clear hnum hmc hq hin h hln hM
        go_enter Tryd.func24, Tryd.ntmps24
        go_wp2_with fail
        refine (rcivil_any _ w).mono ?_
        rintro e w' ⟨rfl, rfl⟩
        rw [HCD.out]
        go_wp2_with fail
        refine (days_at _ _ (q / 12) (q % 12 + 1) (by omega) (by omega) w).mono ?_
        rintro e w' ⟨rfl, rfl⟩
        rw [← HL.out]
        go_wp2_with fail
        all_goals
          refine (rnumber_any _ _ _ w).mono ?_
          rintro e w' ⟨rfl, rfl⟩
          rw [HN.out _ (by omega)]
          go_wp2
          go_ret2
          exact ⟨rfl, rfl⟩
      · rw [if_neg hin]
        have hM1 := hM.1
        have hM2 := hM.2
        rw [hmc] at hin
        clear hmc h hM
        by_cases hlo : 12 * (y : Int) + m - 1 + M < 12
        · clear hin
          go_enter Tryd.func24, Tryd.ntmps24
          go_wp2_with fail
          refine (rcivil_any _ w).mono ?_
          rintro e w' ⟨rfl, rfl⟩
          rw [HCD.out]
          go_wp2
          go_ret2
          exact ⟨rfl, rfl⟩
        · have hhi : 120000 ≤ 12 * (y : Int) + m - 1 + M := by omega
          clear hin
          go_enter Tryd.func24, Tryd.ntmps24
          go_wp2_with fail
          refine (rcivil_any _ w).mono ?_
          rintro e w' ⟨rfl, rfl⟩
          rw [HCD.out]
          go_wp2
          go_ret2
          exact ⟨rfl, rfl⟩
    · rw [if_neg (by omega)]
      by_cases h1 : M < -120000
      · clear hM hmc h
        go_enter Tryd.func24, Tryd.ntmps24
        go_wp2_with fail
        refine (rcivil_any _ w).mono ?_
        rintro e w' ⟨rfl, rfl⟩
        rw [HCD.out]
        go_wp2
        go_ret2
        exact ⟨rfl, rfl⟩
      · have h2 : 120000 < M := by omega
        clear hM hmc h
        go_enter Tryd.func24, Tryd.ntmps24
        go_wp2_with fail
        refine (rcivil_any _ w).mono ?_
        rintro e w' ⟨rfl, rfl⟩
        rw [HCD.out]
        go_wp2
        go_ret2
        exact ⟨rfl, rfl⟩
  · rw [show monD n M = (0, false) from by unfold monD; rw [isN_false h]; rfl]
    have hcd : civD n = .tuple #[.int .i64 0, .int .i64 0, .int .i64 0, .bool false] := by unfold civD; rw [isN_false h]; rfl
    have HCD := Lib.hid hcd
    clear h hcd
    go_enter Tryd.func24, Tryd.ntmps24
    go_wp2_with fail
    refine (rcivil_any _ w).mono ?_
    rintro e w' ⟨rfl, rfl⟩
    rw [HCD.out]
    go_wp2
    go_ret2
    exact ⟨rfl, rfl⟩
end Go.Proofs.YtchbefaflhimcaaDoor
namespace Go.Proofs.YtchbefaflhimcaaDoor
open Go.RowKit Mth

theorem conv_one (w : World) (c : Nat) : Sem.run Tryd.prog (convert 46 9 (.slice (some ⟨w.heap.size, 0, none⟩) 1 1)) (w.alloc (.cells #[.int .u8 (c : Int)] 5)) = .ok (.string ⟨#[UInt8.ofNat c]⟩) (w.alloc (.cells #[.int .u8 (c : Int)] 5)) := by
  rw [run_convert_bytes_arg (P := Tryd.prog) _ 46 5 Tryd.underlying46 Tryd.underlying5 w.heap.size 0 1 1 [(c : Int)] rfl (fun i hi => by
    obtain rfl : i = 0 := by omega
    rw [cell_of_row _ _ _ _ _ (0, 0) (heap_alloc_new w _)]; rfl) 9 Tryd.underlying9]
  congr 2

set_option maxRecDepth 100000 in
set_option maxHeartbeats 1000000 in
theorem rdigits_any (n k : Nat) (hn : n ≤ 1000000000) (hk : k ≤ 1000) (w : World) :
    Calls Tryd.prog 43 #[.int .i64 (n : Int), .int .i64 (k : Int)] w fun e w' => e = .returned (.string ⟨(padD n k).toArray⟩) ∧ w.grownBy w' none := by
  obtain ⟨e, he⟩ : ∃ e, e = k + 10 := ⟨_, rfl⟩
  have hlen := (padD_len (n := n) (k := k) (w := e) (Nat.lt_of_le_of_lt hn (Nat.lt_of_lt_of_le (show 1000000000 < 10 ^ 10 by decide) (Nat.pow_le_pow_right (by decide) (by omega)))) (by omega)).2
  have hlen : (padD n k).length ≤ 1010 := by omega
  clear he
  have HLEN := Lib.hid hlen
  clear hlen
  go_enter Tryd.func43, Tryd.ntmps43
  go_wp2
  go_loopw [0, 1, 5] (fun u v x wr => ∃ (m : Nat) (l : Int) (t : ByteArray), u = .int .i64 (m : Int) ∧ v = .int .i64 l ∧ x = .string t ∧ m ≤ n ∧ l ≤ k ∧ -2000000000 + (m : Int) ≤ l ∧ Hid (padD n k = padD m l.toNat ++ t.data.toList) ∧ w.grownBy wr none) (fun u v _ _ => (intOf u).toNat + (intOf v).toNat)
  case atStart => exact ⟨n, k, ⟨#[]⟩, rfl, rfl, rfl, Nat.le_refl _, Int.le_refl _, by omega, Lib.hid (by simp), World.grownBy.refl _ _⟩
  case round =>
    obtain ⟨m, l, t, rfl, rfl, rfl, hmn, hlk, hlm, HT, hg⟩ := hrel
    by_cases h0 : m = 0 ∧ l.toNat = 0
    · obtain ⟨rfl, hl⟩ := h0
      have hl0 : ¬ (0 : Int) < l := by omega
      have hr : (⟨(padD n k).toArray⟩ : ByteArray) = t := toArray_eq t (by rw [HT.out, hl, padD_zero]; rfl)
      have HR := Lib.hid hr
      clear hr hl hlm
      go_wp2
      go_ret
      rw [HR.out]
      exact ⟨rfl, hg⟩
    · have HS := Lib.hid (show padD n k = padD (m / 10) (l.toNat - 1) ++ ([UInt8.ofNat (48 + m % 10)] ++ t.data.toList) from by rw [HT.out, padD_step h0, List.append_assoc])
      have hts : t.size ≤ 1010 := by
        have := congrArg List.length HT.out
        rw [List.length_append, len_toList] at this
        have := HLEN.out
        omega
      obtain ⟨d, hd⟩ : ∃ d, d = m % 10 := ⟨_, rfl⟩
      have hdz : (m : Int) % 10 = (d : Int) := by omega
      have hd9 : d < 10 := by omega
      rw [← hd] at HS
      obtain ⟨q, hq⟩ : ∃ q, q = m / 10 := ⟨_, rfl⟩
      have hqz : (m : Int) / 10 = (q : Int) := by omega
      rw [← hq] at HS
      have hq1 : q ≤ m := by omega
      have hq2 : m = 0 ∨ q + 1 ≤ m := by omega
      have hc := conv_one wr (48 + d)
      rw [show ((48 + d : Nat) : Int) = 48 + (d : Int) from by omega] at hc
      have hga := gr_then hg (gr_alloc wr (.cells #[.int .u8 (48 + (d : Int))] 5) none)
      clear hd hq HT
      have HM : (0 < m ∨ (0 : Int) < l) := by omega
      obtain ⟨u8, hu8⟩ : ∃ u8 : UInt8, u8 = UInt8.ofNat (48 + d) := ⟨_, rfl⟩
      rw [← hu8] at hc
      have FIN : (padD n k = padD q (l.toNat - 1) ++ ((⟨#[u8]⟩ : ByteArray) ++ t).data.toList) := by
        rw [cat_list, hu8]; exact HS.out
      have HU := Lib.hid hu8
      clear hu8
      have HF := Lib.hid FIN
      have hll : (l - 1).toNat = l.toNat - 1 := by omega
      clear FIN
      rcases Nat.eq_zero_or_pos m with hm0 | hm0
      · subst hm0
        obtain rfl : q = 0 := by omega
        obtain rfl : d = 0 := by omega
        have hl1 : (0 : Int) < l := by omega
        have hc2 : Sem.run Tryd.prog (convert 46 9 (.slice (some ⟨wr.heap.size, 0, none⟩) 1 1)) (wr.alloc (.cells #[.int .u8 48] 5)) = .ok (.string ⟨#[u8]⟩) (wr.alloc (.cells #[.int .u8 48] 5)) := by rw [HU.out]; exact conv_one wr 48
        have hga2 := gr_then hg (gr_alloc wr (.cells #[.int .u8 48] 5) none)
        clear hc hdz hqz
        go_wp2
        refine ⟨⟨0, l - 1, _, rfl, rfl, rfl, by omega, by omega, by omega, Lib.hid (by rw [hll]; exact HF.out), hga2⟩, ?_⟩
        simp only [intOf]
        omega
      · go_wp2
        refine ⟨⟨q, l - 1, _, rfl, rfl, rfl, by omega, by omega, by omega, Lib.hid (by rw [hll]; exact HF.out), hga⟩, ?_⟩
        simp only [intOf]
        omega
end Go.Proofs.YtchbefaflhimcaaDoor
