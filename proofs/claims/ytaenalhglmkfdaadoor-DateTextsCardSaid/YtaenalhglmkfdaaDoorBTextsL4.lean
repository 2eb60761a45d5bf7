/- Contracts of the program and of the reference, part 4: RTxt, Inverse, Years, MonthsL, AddsL, TextsL, TextsLRow. -/
import Derived.Test.YtaenalhglmkfdaaDoorBTextsL3
import Derived.Laws.BitsLemmas
import Derived.BigRegion
import Derived.Laws.IdiomStrings
import Derived.Laws.Tables
namespace Go.Proofs.YtaenalhglmkfdaaDoor
open Go.RowKit Mth

theorem rdig_at (z : Int) (n k : Nat) (hz : z = (n : Int)) (u : Int) (hu : u = (k : Int)) (hn : n ≤ 1000000000) (hk : k ≤ 1000) (w : World) :
    Calls Tryd.prog 43 #[.int .i64 z, .int .i64 u] w fun e w' => e = .returned (.string ⟨(padD n k).toArray⟩) ∧ w.grownBy w' none := by
  subst hz; subst hu; exact rdigits_any n k hn hk w

theorem textD_val {n : Int} (h : isN n = true) : textD n = padD (civ n.toNat).1 4 ++ 45 :: (padD (civ n.toNat).2.1 2 ++ 45 :: padD (civ n.toNat).2.2 2) := by
  unfold textD formD
  rw [h, show isRightL layI.data.toList = true from by rw [← rightE_eq]; decide +kernel]
  show fmt _ (toks layI.data.toList) = _
  rw [show toks layI.data.toList = iso from by rw [← toksF_eq 10 _ (by decide)]; decide +kernel, fmt_iso]
theorem textD_none {n : Int} (h : isN n = false) : textD n = [] := by
  unfold textD formD
  rw [h]; rfl

set_option maxRecDepth 100000 in
set_option maxHeartbeats 1000000 in
theorem rtext_any (n : Int) (w : World) :
    Calls Tryd.prog 26 #[.int .i64 n] w fun e w' => e = .returned (.string ⟨(textD n).toArray⟩) ∧ w.grownBy w' none := by
  cases hn : isN n with
  | false =>
    rw [textD_none hn]
    have hc : civD n = .tuple #[.int .i64 0, .int .i64 0, .int .i64 0, .bool false] := by unfold civD; rw [hn]; rfl
    have HC := Lib.hid hc
    clear hc hn
    go_enter Tryd.func26, Tryd.ntmps26
    go_wp2_with fail
    refine (rcivil_any _ w).mono ?_
    rintro e w' ⟨rfl, rfl⟩
    rw [HC.out]
    go_wp2
    go_ret
    exact ⟨rfl, World.grownBy.refl _ _⟩
  | true =>
    have hc : civD n = .tuple #[.int .i64 ((civ n.toNat).1 : Nat), .int .i64 ((civ n.toNat).2.1 : Nat), .int .i64 ((civ n.toNat).2.2 : Nat), .bool true] := by unfold civD; rw [hn]; rfl
    have hn2 : n.toNat ≤ 3652058 := by unfold isN at hn; rw [decide_eq_true_eq] at hn; omega
    obtain ⟨h1, h2, h3⟩ := civ_small hn2
    have hv := textD_val hn
    generalize (civ n.toNat).1 = y at *
    generalize (civ n.toNat).2.1 = m at *
    generalize (civ n.toNat).2.2 = d at *
    have hfin : ∀ a b c : ByteArray, a.data.toList = padD y 4 → b.data.toList = padD m 2 → c.data.toList = padD d 2 → (⟨(textD n).toArray⟩ : ByteArray) = a ++ ⟨#[45]⟩ ++ b ++ ⟨#[45]⟩ ++ c := by
      intro a b c ha hb hc
      apply toArray_eq
      rw [hv, cat_list, cat_list, cat_list, cat_list, ha, hb, hc]
      simp
    have HF := Lib.hid hfin
    have HC := Lib.hid hc
    have l1 := (padD_len (n := y) (k := 4) (w := 4) (by simp; omega) (by omega)).2
    have l2 := (padD_len (n := m) (k := 2) (w := 2) (by simp; omega) (by omega)).2
    have l3 := (padD_len (n := d) (k := 2) (w := 2) (by simp; omega) (by omega)).2
    obtain ⟨a, ha⟩ : ∃ a : ByteArray, a = ⟨(padD y 4).toArray⟩ := ⟨_, rfl⟩
    obtain ⟨b, hb⟩ : ∃ a : ByteArray, a = ⟨(padD m 2).toArray⟩ := ⟨_, rfl⟩
    obtain ⟨c, hcc⟩ : ∃ a : ByteArray, a = ⟨(padD d 2).toArray⟩ := ⟨_, rfl⟩
    have sa : a.size ≤ 4 := by rw [ha]; exact l1
    have sb : b.size ≤ 2 := by rw [hb]; exact l2
    have sc : c.size ≤ 2 := by rw [hcc]; exact l3
    have HE := Lib.hid (HF.out a b c (by rw [ha]) (by rw [hb]) (by rw [hcc]))
    have HA := Lib.hid (And.intro ha (And.intro hb hcc))
    clear hc hn hn2 hv hfin l1 l2 l3 ha hb hcc HF
    go_enter Tryd.func26, Tryd.ntmps26
    go_wp2_with fail
    refine (rcivil_any _ w).mono ?_
    rintro e w' ⟨rfl, rfl⟩
    rw [HC.out]
    go_wp2_with fail
    refine (rdig_at _ y 4 rfl _ rfl (by omega) (by omega) w).mono ?_
    rintro e w1 ⟨rfl, g1⟩
    rw [← HA.out.1]
    go_wp2_with fail
    refine (rdig_at _ m 2 rfl _ rfl (by omega) (by omega) w1).mono ?_
    rintro e w2 ⟨rfl, g2⟩
    rw [← HA.out.2.1]
    go_wp2_with fail
    refine (rdig_at _ d 2 rfl _ rfl (by omega) (by omega) w2).mono ?_
    rintro e w3 ⟨rfl, g3⟩
    rw [← HA.out.2.2]
    have hgg := Lib.hid (gr_then g1 (gr_then g2 g3))
    clear g1 g2 g3
    go_wp2
    go_ret
    rw [HE.out]
    exact ⟨rfl, hgg.out⟩

set_option maxRecDepth 100000 in
set_option maxHeartbeats 1000000 in
theorem rnum_any (s : ByteArray) (hs : s.size ≤ 10) (w : World) :
    Calls Tryd.prog 44 #[.string s] w fun e w' => e = .returned (.tuple #[.int .i64 ((numR s.data.toList).1 : Nat), .bool (numR s.data.toList).2]) ∧ w.grownBy w' none := by
  go_enter Tryd.func44, Tryd.ntmps44
  go_wp2
  go_loop [4, 5] (fun u v => ∃ i N : Nat, i ≤ s.size ∧ u = .int .i64 (N : Int) ∧ v = .int .i64 (i : Int) ∧ Hid (Led s.data.toList i N)) (fun _ v => s.size - (intOf v).toNat)
  case atStart => exact ⟨0, 0, by omega, by simp, by simp, ⟨by simp, by simp [dval]⟩⟩
  case round =>
    obtain ⟨i, N, his, rfl, rfl, HL⟩ := hrel
    have hN : N < 10000000000 := Nat.lt_of_lt_of_le HL.out.lt (by rw [show 10000000000 = 10 ^ 10 from rfl]; exact Nat.pow_le_pow_right (by decide) (by omega))
    by_cases hlt : i < s.size
    · cases hd : isDg s[i] with
      | true =>
        have hv1 : (48 : Int) ≤ (s[i].toNat : Int) := by simp only [isDg, Bool.and_eq_true, decide_eq_true_eq] at hd; omega
        have hv2 : (s[i].toNat : Int) ≤ 57 := by simp only [isDg, Bool.and_eq_true, decide_eq_true_eq] at hd; omega
        have HD := Lib.hid hd
        clear hd
        go_wp2
        refine ⟨⟨i + 1, 10 * N + (s[i].toNat - 48), by omega, by congr 1; omega, by congr 1, HL.out.next hlt HD.out⟩, ?_⟩
        simp only [intOf]
        omega
      | false =>
        have hno : numR s.data.toList = (0, false) := by
          unfold numR
          rw [if_neg]
          intro ha
          rw [List.all_eq_true] at ha
          have := ha s[i] (by
            have : s[i] = s.data.toList[i]'(by simpa using hlt) := rfl
            rw [this]; exact List.getElem_mem _)
          rw [this] at hd
          cases hd
        have HNO := Lib.hid hno
        by_cases h1 : (s[i].toNat : Int) < 48
        · clear hd hno
          go_wp2
          go_ret2
          rw [HNO.out]
          exact ⟨rfl, World.grownBy.refl _ _⟩
        · have h2 : (57 : Int) < (s[i].toNat : Int) := by
            simp only [isDg, Bool.and_eq_false_iff, decide_eq_false_iff_not] at hd
            omega
          have h1 : (48 : Int) ≤ (s[i].toNat : Int) := by omega
          clear hd hno
          go_wp2
          go_ret2
          rw [HNO.out]
          exact ⟨rfl, World.grownBy.refl _ _⟩
    · have hie : i = s.size := by omega
      subst hie
      have hall : s.data.toList.take s.size = s.data.toList := by rw [List.take_of_length_le]; rw [len_toList]; exact Nat.le_refl _
      have hyes : numR s.data.toList = (N, decide ((0 : Int) < s.size) && decide ((s.size : Int) < 5)) := by
        have h1 := HL.out.dig
        have h2 := HL.out.val
        rw [hall] at h1 h2
        unfold numR
        rw [if_pos (List.all_eq_true.2 h1), ← h2, len_toList]
        congr 2
        · exact decide_eq_decide.2 (by omega)
        · exact decide_eq_decide.2 (by omega)
      have HY := Lib.hid hyes
      clear hall hyes
      go_wp2_with fail
      all_goals
        go_ret2
        refine ⟨?_, World.grownBy.refl _ _⟩
        rw [HY.out]
        simp_all

/-- Parse of the reference is Read in the layout of Text. -/
theorem readL_iso (s : List UInt8) : readL layI.data.toList s = parseR s := by
  unfold readL
  rw [show isRightL layI.data.toList = true from by rw [← rightE_eq]; decide +kernel, show toks layI.data.toList = iso from by rw [← toksF_eq 10 _ (by decide)]; decide +kernel, parse_same]
  rfl
theorem u8_45 (c : UInt8) : (c.toNat : Int) = 45 ↔ c = 45 := by
  constructor
  · intro h
    apply UInt8.toNat_inj.1
    show c.toNat = 45
    omega
  · rintro rfl; rfl
theorem at_byte {s : ByteArray} {i : Nat} (hi : i < s.size) : s.data.toList[i]? = some s[i] := by
  rw [List.getElem?_eq_getElem (by simpa using hi)]; rfl

set_option maxRecDepth 100000 in
set_option maxHeartbeats 2000000 in
theorem rparse_any (s : ByteArray) (w : World) :
    Calls Tryd.prog 28 #[.string s] w fun e w' => e = .returned (.tuple #[.int .i64 ((readL layI.data.toList s.data.toList).1 : Nat), .bool (readL layI.data.toList s.data.toList).2]) ∧ w.grownBy w' none := by
  rw [readL_iso]
  by_cases h10 : s.size = 10
  · have hlen : s.data.toList.length = 10 := h10
    have e4 := at_byte (s := s) (i := 4) (by omega)
    have e7 := at_byte (s := s) (i := 7) (by omega)
    have hb4 : 4 < s.size := by omega
    have hb7 : 7 < s.size := by omega
    have hz4 := u8_45 s[4]
    have hz7 := u8_45 s[7]
    by_cases h4 : s[4] = 45
    · by_cases h7 : s[7] = 45
      · have hp : parseR s.data.toList = if (numR (s.data.toList.take 4)).2 = true ∧ (numR ((s.data.toList.drop 5).take 2)).2 = true ∧ (numR (s.data.toList.drop 8)).2 = true ∧ validC (parts10 s.data.toList) then (numC (parts10 s.data.toList), true) else (0, false) := by
          unfold parseR
          rw [e4, e7, h4, h7]
          simp only [hlen, true_and]
        rw [hp]
        have x1 := ext_head s 4
        have x2 := ext_list s 5 7
        have x3 := ext_tail s 8
        have n1 := rnum_any (s.extract 0 4) (by simp [ByteArray.size_extract]; omega) w
        have n2 := fun w => rnum_any (s.extract 5 7) (by simp [ByteArray.size_extract]; omega) w
        have n3 := fun w => rnum_any (s.extract 8 s.size) (by simp [ByteArray.size_extract]; omega) w
        rw [x1] at n1
        rw [x2, show 7 - 5 = 2 from rfl] at n2
        rw [x3] at n3
        rw [h10] at n3
        unfold parts10
        generalize numR (s.data.toList.take 4) = y at *
        generalize numR ((s.data.toList.drop 5).take 2) = m at *
        generalize numR (s.data.toList.drop 8) = d at *
        obtain ⟨y, by'⟩ := y
        obtain ⟨m, bm⟩ := m
        obtain ⟨d, bd⟩ := d
        have hv : ∃ nz ok, numD (y : Nat) (m : Nat) (d : Nat) = (nz, ok) ∧ ((ok = true ∧ validC (y, m, d) ∧ nz = ((numC (y, m, d) : Nat) : Int)) ∨ (ok = false ∧ ¬ validC (y, m, d))) := by
          by_cases h : validC (y, m, d)
          · exact ⟨_, _, numD_ok h, .inl ⟨rfl, h, rfl⟩⟩
          · exact ⟨_, _, numD_no h, .inr ⟨rfl, h⟩⟩
        obtain ⟨nz, ok, hnd, hv⟩ := hv
        have f4 : (s[4].toNat : Int) = 45 := hz4.2 h4
        have f7 : (s[7].toNat : Int) = 45 := hz7.2 h7
        have HN := Lib.hid (And.intro n1 (And.intro n2 n3))
        have HD := Lib.hid hnd
        have HV := Lib.hid hv
        clear hp e4 e7 x1 x2 x3 hz4 hz7 n1 n2 n3 hlen h4 h7 hnd hv
        generalize hN : numC (y, m, d) = N at *
        clear hN
        go_enter Tryd.func28, Tryd.ntmps28
        go_wp2_with fail
        refine HN.out.1.mono ?_
        rintro e w1 ⟨rfl, g1⟩
        go_wp2_with fail
        refine (HN.out.2.1 _).mono ?_
        rintro e w2 ⟨rfl, g2⟩
        go_wp2_with fail
        refine (HN.out.2.2 _).mono ?_
        rintro e w3 ⟨rfl, g3⟩
        have hg := Lib.hid (gr_then g1 (gr_then g2 g3))
        clear g1 g2 g3
        go_wp2_with fail
        refine (rnumber_any _ _ _ _).mono ?_
        rintro e w4 ⟨rfl, rfl⟩
        rw [HD.out]
        go_wp2
        all_goals
          go_ret2
          refine ⟨?_, hg.out⟩
          rcases HV.out with ⟨rfl, h2, rfl⟩ | ⟨rfl, h2⟩ <;> simp_all
      · have hp : parseR s.data.toList = (0, false) := by
          unfold parseR
          rw [if_neg]
          rintro ⟨_, _, h, _⟩
          rw [e7] at h
          exact h7 (Option.some.inj h)
        rw [hp]
        have f4 : (s[4].toNat : Int) = 45 := hz4.2 h4
        have f7 : ¬ (s[7].toNat : Int) = 45 := fun h => h7 (hz7.1 h)
        clear hp e4 e7 hz4 hz7 h4 h7 hlen
        go_enter Tryd.func28, Tryd.ntmps28
        go_wp2
        go_ret2
        exact ⟨rfl, World.grownBy.refl _ _⟩
    · have hp : parseR s.data.toList = (0, false) := by
        unfold parseR
        rw [if_neg]
        rintro ⟨_, h, _⟩
        rw [e4] at h
        exact h4 (Option.some.inj h)
      rw [hp]
      have f4 : ¬ (s[4].toNat : Int) = 45 := fun h => h4 (hz4.1 h)
      clear hp e4 e7 hz4 hz7 h4 hlen
      go_enter Tryd.func28, Tryd.ntmps28
      go_wp2
      go_ret2
      exact ⟨rfl, World.grownBy.refl _ _⟩
  · have hp : parseR s.data.toList = (0, false) := by
      unfold parseR
      rw [if_neg]
      rintro ⟨h, _⟩
      exact h10 h
    rw [hp]
    clear hp
    go_enter Tryd.func28, Tryd.ntmps28
    go_wp2
    go_ret2
    exact ⟨rfl, World.grownBy.refl _ _⟩
end Go.Proofs.YtaenalhglmkfdaaDoor
namespace Go.Proofs.YtaenalhglmkfdaaDoor
open Go.RowKit Mth

theorem civ_val {k : Nat} (hk : k ≤ 3652058) : civD (k : Int) = .tuple #[.int .i64 ((civ k).1 : Nat), .int .i64 ((civ k).2.1 : Nat), .int .i64 ((civ k).2.2 : Nat), .bool true] := by
  unfold civD; rw [isN_true ⟨by omega, by omega⟩]; rfl
theorem numD_civ {k y m d : Nat} (h : Civ k y m d) : numD (y : Nat) (m : Nat) (d : Nat) = ((k : Int), true) := by
  have := numD_ok (v := (y, m, d)) h.ok
  rw [show numC (y, m, d) = k from h.num] at this
  exact this
theorem okD_nat (y m d : Nat) : okD (y : Nat) (m : Nat) (d : Nat) = decide (valid y m d) := by
  unfold okD valid
  simp only [Int.toNat_natCast]
  exact decide_eq_decide.2 (by omega)

set_option maxRecDepth 100000 in
set_option maxHeartbeats 4000000 in
theorem inverse_true (n : Nat) (w : World) (hd : DV w) (hn : n ≤ 4294967295) :
    Calls Tryd.prog 4 #[.int .u32 (n : Int)] w fun e w' => e = .returned (.bool true) ∧ w.grownBy w' none := by
  obtain ⟨k, hk⟩ : ∃ k, k = n % 3652058 := ⟨_, rfl⟩
  have hkz : (n : Int) % 3652058 = (k : Int) := by omega
  have hk1 : k < 3652058 := by omega
  have hc := civ_spec (n := k) (show k ≤ 3652058 by omega)
  have hc' := civ_spec (n := k + 1) (show k + 1 ≤ 3652058 by omega)
  have hv := civ_val (k := k) (by omega)
  have hv' := civ_val (k := k + 1) (by omega)
  generalize hy : (civ k).1 = y at *
  generalize hm : (civ k).2.1 = m at *
  generalize hdd : (civ k).2.2 = d at *
  generalize ha : (civ (k + 1)).1 = a at *
  generalize hb : (civ (k + 1)).2.1 = b at *
  generalize hcc : (civ (k + 1)).2.2 = c at *
  have hnext := hc.next hc'
  have hnum := numD_civ hc
  obtain ⟨b1, b2, b3, b4, b5, b6⟩ := hc.ok
  have hok := okD_nat y m d
  rw [decide_eq_true hc.ok] at hok
  have hok1 : c = 1 → okD (y : Nat) (m : Nat) (((d + 1 : Nat)) : Int) = false := by
    intro h1
    rw [okD_nat]
    refine decide_eq_false ?_
    intro hv
    have := hv.2.2.2.2.2
    omega
  have hdim := dim_le y m
  rw [show ((k + 1 : Nat) : Int) = (k : Int) + 1 from by omega] at hv'
  rw [show ((d + 1 : Nat) : Int) = (d : Int) + 1 from by omega] at hok1
  have HV := Lib.hid (And.intro hv (And.intro hv' (And.intro hnum (And.intro hok hok1))))
  clear hv hv' hnum hok hok1 hc hc' hy hm hdd ha hb hcc hk
  go_enter Tryd.func4, Tryd.ntmps4
  go_wp2_with fail
  refine (sanity_any w hd).mono ?_
  rintro e w1 ⟨rfl, hg1⟩
  have hd1 := hd.grown hg1
  have HG := Lib.hid hg1
  clear hg1
  go_wp2_with fail
  refine (civil_any _ _ hd1.l).mono ?_
  rintro e w' ⟨rfl, rfl⟩
  rw [HV.out.1]
  go_wp2_with fail
  refine (civil_any _ _ hd1.l).mono ?_
  rintro e w' ⟨rfl, rfl⟩
  rw [HV.out.2.1]
  go_wp2_with fail
  refine (number_any _ _ _ _ hd1.l).mono ?_
  rintro e w' ⟨rfl, rfl⟩
  rw [HV.out.2.2.1]
  rcases hnext with ⟨h1, rfl, rfl, rfl⟩ | ⟨h1, rfl, ⟨h2, rfl, rfl⟩ | ⟨rfl, rfl, rfl⟩⟩
  · go_wp2_with fail
    refine (valid_any _ _ _ _ hd1.l).mono ?_
    rintro e w' ⟨rfl, rfl⟩
    rw [HV.out.2.2.2.1]
    go_wp2
    go_ret
    exact ⟨rfl, HG.out⟩
  · clear h1
    go_wp2_with fail
    refine (valid_any _ _ _ _ hd1.l).mono ?_
    rintro e w' ⟨rfl, rfl⟩
    rw [HV.out.2.2.2.2 trivial]
    go_wp2_with fail
    refine (valid_any _ _ _ _ hd1.l).mono ?_
    rintro e w' ⟨rfl, rfl⟩
    rw [HV.out.2.2.2.1]
    go_wp2
    go_ret
    exact ⟨rfl, HG.out⟩
  · clear h1
    go_wp2_with fail
    refine (valid_any _ _ _ _ hd1.l).mono ?_
    rintro e w' ⟨rfl, rfl⟩
    rw [show okD (y : Int) 12 ((d : Int) + 1) = false from HV.out.2.2.2.2 trivial]
    go_wp2_with fail
    refine (valid_any _ _ _ _ hd1.l).mono ?_
    rintro e w' ⟨rfl, rfl⟩
    rw [show okD (y : Int) 12 (d : Int) = true from HV.out.2.2.2.1]
    go_wp2
    go_ret
    exact ⟨rfl, HG.out⟩
end Go.Proofs.YtaenalhglmkfdaaDoor
namespace Go.Proofs.YtaenalhglmkfdaaDoor
open Go.RowKit Mth

theorem numD_val {y m d : Nat} (h : valid y m d) : numD (y : Nat) (m : Nat) (d : Nat) = (((numOf y m d : Nat) : Int), true) := numD_ok (v := (y, m, d)) h
theorem numD_none {y m d : Nat} (h : ¬ valid y m d) : numD (y : Nat) (m : Nat) (d : Nat) = (0, false) := numD_no (v := (y, m, d)) h
theorem dim_feb (y : Nat) : dim y 2 = if leap y then 29 else 28 := rfl
theorem valid_400 (y m d : Nat) (h : y ≤ 9599) : valid (y + 400) m d ↔ valid y m d ∧ 1 ≤ y ∨ (y = 0 ∧ valid 400 m d) := by
  unfold valid
  rw [dim_400]
  rcases Nat.eq_zero_or_pos y with rfl | hy
  · simp [show dim 400 m = dim 0 m from dim_400 0 m]
  · omega
theorem numOf_400 {y m d : Nat} (h : 1 ≤ y) (hd : 1 ≤ d) : numOf (y + 400) m d = numOf y m d + 146097 := by
  unfold numOf
  rw [cum_400, show y + 400 - 1 = (y - 1) + 400 from by omega, bef_400]
  omega

set_option maxRecDepth 100000 in
set_option maxHeartbeats 4000000 in
theorem years_true (n mo da : Nat) (w : World) (hd : DV w) (hn : n ≤ 65535) (hmo : mo ≤ 255) (hda : da ≤ 255) :
    Calls Tryd.prog 5 #[.int .u16 (n : Int), .int .u8 (mo : Int), .int .u8 (da : Int)] w fun e w' => e = .returned (.bool true) ∧ w.grownBy w' none := by
  obtain ⟨t, ht⟩ : ∃ t, t = n % 9599 := ⟨_, rfl⟩
  obtain ⟨m, hm⟩ : ∃ m, m = mo % 14 := ⟨_, rfl⟩
  obtain ⟨d, hdd⟩ : ∃ d, d = da % 33 := ⟨_, rfl⟩
  have hz1 : (n : Int) % 9599 = (t : Int) := by omega
  have hz2 : (mo : Int) % 14 = (m : Int) := by omega
  have hz3 : (da : Int) % 33 = (d : Int) := by omega
  have ht1 : t < 9599 := by omega
  have hm1 : m < 14 := by omega
  have hd1 : d < 33 := by omega
  clear ht hm hdd
  have hdp1 := dim_pos (t + 1) 1
  have hb := bef_next t
  have hbl : bef t ≤ 3652059 := by
    have := bef_le (show t ≤ 9999 by omega)
    rwa [show bef 9999 = 3652059 from by decide] at this
  have hd12 : dim (t + 1) 12 = 31 := rfl
  have c12 := cum_12 (t + 1)
  have c11 : cum (t + 1) 12 = cum (t + 1) 11 + dim (t + 1) 12 := rfl
  have a1 : numD (t + 1 : Nat) (1 : Nat) (1 : Nat) = (((bef t : Nat) : Int), true) := by
    rw [numD_val ⟨by omega, by omega, by omega, by omega, by omega, by omega⟩]
    unfold numOf
    simp [cum]
  have a2 : numD (t + 1 : Nat) (12 : Nat) (31 : Nat) = (((bef t : Nat) : Int) + (if leap (t + 1) then 365 else 364), true) := by
    rw [numD_val ⟨by omega, by omega, by omega, by omega, by omega, by omega⟩]
    unfold numOf
    rw [Nat.add_sub_cancel, show (12 : Nat) - 1 = 11 from rfl]
    cases hl : leap (t + 1) <;> rw [hl] at c12 <;> simp at c12 ⊢ <;> omega
  have a3 : okD (t + 1 : Nat) (2 : Nat) (29 : Nat) = leap (t + 1) := by
    rw [okD_nat]
    have := dim_feb (t + 1)
    cases hl : leap (t + 1)
    · rw [hl] at this
      exact decide_eq_false (fun h => by have := h.2.2.2.2.2; simp at *; omega)
    · rw [hl] at this
      exact decide_eq_true ⟨by omega, by omega, by omega, by omega, by omega, by simp at *; omega⟩
  have a4 : okD (t + 1 : Nat) (2 : Nat) (30 : Nat) = false := by
    rw [okD_nat]
    have hf := dim_feb (t + 1)
    exact decide_eq_false (fun h => by have h6 := h.2.2.2.2.2; rw [hf] at h6; split at h6 <;> omega)
  have a5 : okD (t + 1 : Nat) (2 : Nat) (28 : Nat) = true := by
    rw [okD_nat]
    have := dim_pos (t + 1) 2
    exact decide_eq_true ⟨by omega, by omega, by omega, by omega, by omega, by omega⟩
  have hv := valid_400 (t + 1) m d (by omega)
  rw [show (((t + 1 : Nat)) : Int) = 1 + (t : Int) from by omega] at a1 a2 a3 a4 a5
  by_cases hval : valid (t + 1) m d
  · have a6 := numD_val hval
    have hval2 : valid (t + 1 + 400) m d := hv.2 (.inl ⟨hval, by omega⟩)
    have a7 := numD_val hval2
    have hnl := numOf_le hval
    rw [numOf_400 (by omega) hval.2.2.2.2.1] at a7
    rw [show (((t + 1 : Nat)) : Int) = 1 + (t : Int) from by omega] at a6
    rw [show (((t + 1 + 400 : Nat)) : Int) = 1 + (t : Int) + 400 from by omega, show ((numOf (t + 1) m d + 146097 : Nat) : Int) = ((numOf (t + 1) m d : Nat) : Int) + 146097 from by omega] at a7
    unfold maxDay at hnl
    generalize numOf (t + 1) m d = q at *
    cases hl : leap (t + 1)
    all_goals
      rw [hl] at a2 a3
      simp only [if_true, Bool.false_eq_true, if_false] at a2
      have HA := Lib.hid (And.intro a1 (And.intro a2 (And.intro a3 (And.intro a4 (And.intro a5 (And.intro a6 a7))))))
      clear a1 a2 a3 a4 a5 a6 a7 hb hd12 c12 c11 hv hdp1 hval hval2 hl
      go_enter Tryd.func5, Tryd.ntmps5
      go_wp2_with fail
      refine (sanity_any w hd).mono ?_
      rintro e w1 ⟨rfl, hg1⟩
      have hd1 := hd.grown hg1
      have HG := Lib.hid hg1
      clear hg1
      go_wp2_with fail
      refine (number_any _ _ _ _ hd1.l).mono ?_
      rintro e w' ⟨rfl, rfl⟩
      rw [show numD (1 + (t : Int)) 1 1 = _ from HA.out.1]
      go_wp2_with fail
      refine (number_any _ _ _ _ hd1.l).mono ?_
      rintro e w' ⟨rfl, rfl⟩
      rw [show numD (1 + (t : Int)) 12 31 = _ from HA.out.2.1]
      go_wp2_with fail
      refine (valid_any _ _ _ _ hd1.l).mono ?_
      rintro e w' ⟨rfl, rfl⟩
      rw [show okD (1 + (t : Int)) 2 29 = _ from HA.out.2.2.1]
      go_wp2_with fail
      refine (number_any _ _ _ _ hd1.l).mono ?_
      rintro e w' ⟨rfl, rfl⟩
      rw [HA.out.2.2.2.2.2.1]
      go_wp2_with fail
      refine (number_any _ _ _ _ hd1.l).mono ?_
      rintro e w' ⟨rfl, rfl⟩
      rw [HA.out.2.2.2.2.2.2]
      go_wp2_with fail
      refine (valid_any _ _ _ _ hd1.l).mono ?_
      rintro e w' ⟨rfl, rfl⟩
      rw [show okD (1 + (t : Int)) 2 30 = _ from HA.out.2.2.2.1]
      go_wp2_with fail
      refine (valid_any _ _ _ _ hd1.l).mono ?_
      rintro e w' ⟨rfl, rfl⟩
      rw [show okD (1 + (t : Int)) 2 28 = _ from HA.out.2.2.2.2.1]
      go_wp2
      go_ret
      exact ⟨rfl, HG.out⟩
  · have a6 := numD_none hval
    have hval2 : ¬ valid (t + 1 + 400) m d := fun h => by
      rcases hv.1 h with h | h
      · exact hval h.1
      · omega
    have a7 := numD_none hval2
    rw [show (((t + 1 : Nat)) : Int) = 1 + (t : Int) from by omega] at a6
    rw [show (((t + 1 + 400 : Nat)) : Int) = 1 + (t : Int) + 400 from by omega] at a7
    cases hl : leap (t + 1)
    all_goals
      rw [hl] at a2 a3
      simp only [if_true, Bool.false_eq_true, if_false] at a2
      have HA := Lib.hid (And.intro a1 (And.intro a2 (And.intro a3 (And.intro a4 (And.intro a5 (And.intro a6 a7))))))
      clear a1 a2 a3 a4 a5 a6 a7 hb hd12 c12 c11 hv hdp1 hval hval2 hl
      go_enter Tryd.func5, Tryd.ntmps5
      go_wp2_with fail
      refine (sanity_any w hd).mono ?_
      rintro e w1 ⟨rfl, hg1⟩
      have hd1 := hd.grown hg1
      have HG := Lib.hid hg1
      clear hg1
      go_wp2_with fail
      refine (number_any _ _ _ _ hd1.l).mono ?_
      rintro e w' ⟨rfl, rfl⟩
      rw [show numD (1 + (t : Int)) 1 1 = _ from HA.out.1]
      go_wp2_with fail
      refine (number_any _ _ _ _ hd1.l).mono ?_
      rintro e w' ⟨rfl, rfl⟩
      rw [show numD (1 + (t : Int)) 12 31 = _ from HA.out.2.1]
      go_wp2_with fail
      refine (valid_any _ _ _ _ hd1.l).mono ?_
      rintro e w' ⟨rfl, rfl⟩
      rw [show okD (1 + (t : Int)) 2 29 = _ from HA.out.2.2.1]
      go_wp2_with fail
      refine (number_any _ _ _ _ hd1.l).mono ?_
      rintro e w' ⟨rfl, rfl⟩
      rw [HA.out.2.2.2.2.2.1]
      go_wp2_with fail
      refine (number_any _ _ _ _ hd1.l).mono ?_
      rintro e w' ⟨rfl, rfl⟩
      rw [HA.out.2.2.2.2.2.2]
      go_wp2_with fail
      refine (valid_any _ _ _ _ hd1.l).mono ?_
      rintro e w' ⟨rfl, rfl⟩
      rw [show okD (1 + (t : Int)) 2 30 = _ from HA.out.2.2.2.1]
      go_wp2_with fail
      refine (valid_any _ _ _ _ hd1.l).mono ?_
      rintro e w' ⟨rfl, rfl⟩
      rw [show okD (1 + (t : Int)) 2 28 = _ from HA.out.2.2.2.2.1]
      go_wp2
      go_ret
      exact ⟨rfl, HG.out⟩
end Go.Proofs.YtaenalhglmkfdaaDoor
namespace Go.Proofs.YtaenalhglmkfdaaDoor
open Go.RowKit Mth

theorem and_rng (x : Int) (m : Nat) (hm : m < 9223372036854775808) : 0 ≤ bits .and .i64 x (m : Int) ∧ bits .and .i64 x (m : Int) ≤ m := by
  have h : bits .and .i64 x (m : Int) = IntKind.i64.wrap (((BitVec.ofInt 64 x &&& BitVec.ofInt 64 (m : Int)).toNat : Nat) : Int) := rfl
  have hb : (BitVec.ofInt 64 (m : Int)).toNat = m := by
    rw [BitVec.toNat_ofInt]
    omega
  have hle : (BitVec.ofInt 64 x &&& BitVec.ofInt 64 (m : Int)).toNat ≤ m := by
    rw [BitVec.toNat_and, hb]
    exact Nat.and_le_right
  rw [h, IntKind.wrap_i64]
  omega

theorem wrap_rng (x : Int) : -9223372036854775808 ≤ wrap64 x ∧ wrap64 x ≤ 9223372036854775807 := by
  unfold wrap64; omega

set_option maxRecDepth 100000 in
set_option maxHeartbeats 4000000 in
theorem monthsL_true (n ms : Int) (w : World) (hd : DV w) (hn : -9223372036854775808 ≤ n ∧ n ≤ 9223372036854775807) (hm : -9223372036854775808 ≤ ms ∧ ms ≤ 9223372036854775807) :
    Calls Tryd.prog 7 #[.int .i64 n, .int .i64 ms] w fun e w' => e = .returned (.bool true) ∧ w.grownBy w' none := by
  have r2 := and_rng ms 8191 (by decide)
  have r3 := and_rng ms 3 (by decide)
  obtain ⟨hm1, hm2⟩ := hm
  go_enter Tryd.func7, Tryd.ntmps7
  go_wp2_with fail
  refine (sanity_any w hd).mono ?_
  rintro e w1 ⟨rfl, hg1⟩
  have hd1 := hd.grown hg1
  obtain ⟨W0, hW0⟩ : ∃ W0 : World, W0 = w1.alloc (.cells #[.int .i64 n, .int .i64 ms, .int .i64 (bits .and .i64 n 4194303), .int .i64 ms, .int .i64 (bits .and .i64 n 4194303), .int .i64 (bits .and .i64 ms 8191), .int .i64 (bits .and .i64 n 4194303), .int .i64 (wrap64 (-bits .and .i64 ms 8191)), .int .i64 (bits .and .i64 n 4194303), .int .i64 (bits .and .i64 ms 3)] 37) := ⟨_, rfl⟩
  have hpair : ∀ i, i < 5 → ∃ p q : Int, W0.cell? ⟨w1.heap.size, i * 2, none⟩ = some (.int .i64 p) ∧ W0.cell? ⟨w1.heap.size, i * 2 + 1, none⟩ = some (.int .i64 q) ∧ -9223372036854775808 ≤ q ∧ q ≤ 9223372036854775807 := by
    have key : ∀ (t : TypeId) (xs : Array Value) (j : Nat), (w1.alloc (.cells xs t)).cell? ⟨w1.heap.size, j, none⟩ = xs[j]? := fun t xs j => cell_of_row _ _ j xs t (0, 0) (heap_alloc_new w1 _)
    rw [hW0]
    intro i hi
    have r2' : 0 ≤ bits .and .i64 ms 8191 ∧ bits .and .i64 ms 8191 ≤ 8191 := r2
    have r3' : 0 ≤ bits .and .i64 ms 3 ∧ bits .and .i64 ms 3 ≤ 3 := r3
    rcases i with _ | _ | _ | _ | _ | i
    · exact ⟨_, _, by rw [key]; rfl, by rw [key]; rfl, hm1, hm2⟩
    · exact ⟨_, _, by rw [key]; rfl, by rw [key]; rfl, hm1, hm2⟩
    · exact ⟨_, _, by rw [key]; rfl, by rw [key]; rfl, by omega, by omega⟩
    · exact ⟨_, _, by rw [key]; rfl, by rw [key]; rfl, wrap_rng _⟩
    · exact ⟨_, _, by rw [key]; rfl, by rw [key]; rfl, by omega, by omega⟩
    · omega
  have hgw : w.grownBy W0 none := by rw [hW0]; exact gr_then hg1 (gr_alloc w1 _ none)
  have hd0 : DV W0 := hd.grown hgw
  have HG := Lib.hid hgw
  clear hg1 hgw r2 r3
  go_wp2
  rw [← hW0]
  generalize w1.heap.size = G at hpair ⊢
  have HP := Lib.hid hpair
  clear hW0 hpair
  go_loopw [37] (fun kv wr => ∃ k : Nat, k ≤ 5 ∧ kv = .int .i64 k ∧ W0.grownBy wr none) (fun kv _ => 5 - (intOf kv).toNat)
  case atStart => exact ⟨0, by omega, rfl, World.grownBy.refl _ _⟩
  case round =>
    obtain ⟨k, hk, rfl, hgr⟩ := hrel
    by_cases hlt : k < 5
    · obtain ⟨p, q, hc0, hc1, hq1, hq2⟩ := HP.out k hlt
      have hc0 := hgr.cell hc0 (by simp)
      have hc1 := hgr.cell hc1 (by simp)
      have hdr := hd0.grown hgr
      have hdr2 := hdr.grown (gr_alloc wr (.cells #[.int .i64 p, .int .i64 q] 37) none)
      have hm1 := months_any p q hq1 hq2 _ hdr2.l
      have hm2 := rmonths_any p q (wr.alloc (.cells #[.int .i64 p, .int .i64 q] 37))
      generalize monD p q = z at hm1 hm2
      obtain ⟨z1, z2⟩ := z
      have HM := Lib.hid (And.intro hm1 hm2)
      clear hm1 hm2 hq1 hq2
      go_wp2_with fail
      refine HM.out.1.mono ?_
      rintro e w' ⟨rfl, rfl⟩
      go_wp2_with fail
      refine HM.out.2.mono ?_
      rintro e w' ⟨rfl, rfl⟩
      have hgr2 := gr_then hgr (gr_alloc wr (.cells #[.int .i64 p, .int .i64 q] 37) none)
      go_wp2
      exact ⟨⟨k + 1, by omega, by congr 1, hgr2⟩, by simp [intOf]; omega⟩
    · obtain rfl : k = 5 := by omega
      go_wp2
      go_ret
      exact ⟨rfl, gr_then HG.out hgr⟩
end Go.Proofs.YtaenalhglmkfdaaDoor
namespace Go.Proofs.YtaenalhglmkfdaaDoor
open Go.RowKit Mth

set_option maxRecDepth 100000 in
set_option maxHeartbeats 4000000 in
theorem addsL_true (n ms : Int) (w : World) (hd : DV w) (hn : -9223372036854775808 ≤ n ∧ n ≤ 9223372036854775807) (hm : -9223372036854775808 ≤ ms ∧ ms ≤ 9223372036854775807) :
    Calls Tryd.prog 6 #[.int .i64 n, .int .i64 ms] w fun e w' => e = .returned (.bool true) ∧ w.grownBy w' none := by
  have r2 := and_rng ms 8191 (by decide)
  have r3 := and_rng ms 1 (by decide)
  obtain ⟨hm1, hm2⟩ := hm
  go_enter Tryd.func6, Tryd.ntmps6
  go_wp2_with fail
  refine (sanity_any w hd).mono ?_
  rintro e w1 ⟨rfl, hg1⟩
  have hd1 := hd.grown hg1
  obtain ⟨W0, hW0⟩ : ∃ W0 : World, W0 = w1.alloc (.cells #[.int .i64 n, .int .i64 ms, .int .i64 (bits .and .i64 n 2097151), .int .i64 ms, .int .i64 (bits .and .i64 n 2097151), .int .i64 (bits .and .i64 ms 8191), .int .i64 (bits .and .i64 n 2097151), .int .i64 (wrap64 (-bits .and .i64 ms 8191)), .int .i64 3652058, .int .i64 (bits .and .i64 ms 1), .int .i64 0, .int .i64 (wrap64 (-bits .and .i64 ms 1))] 37) := ⟨_, rfl⟩
  have hpair : ∀ i, i < 6 → ∃ p q : Int, W0.cell? ⟨w1.heap.size, i * 2, none⟩ = some (.int .i64 p) ∧ W0.cell? ⟨w1.heap.size, i * 2 + 1, none⟩ = some (.int .i64 q) ∧ -9223372036854775808 ≤ q ∧ q ≤ 9223372036854775807 := by
    have key : ∀ (t : TypeId) (xs : Array Value) (j : Nat), (w1.alloc (.cells xs t)).cell? ⟨w1.heap.size, j, none⟩ = xs[j]? := fun t xs j => cell_of_row _ _ j xs t (0, 0) (heap_alloc_new w1 _)
    rw [hW0]
    intro i hi
    have r2' : 0 ≤ bits .and .i64 ms 8191 ∧ bits .and .i64 ms 8191 ≤ 8191 := r2
    have r3' : 0 ≤ bits .and .i64 ms 1 ∧ bits .and .i64 ms 1 ≤ 1 := r3
    rcases i with _ | _ | _ | _ | _ | _ | i
    · exact ⟨_, _, by rw [key]; rfl, by rw [key]; rfl, hm1, hm2⟩
    · exact ⟨_, _, by rw [key]; rfl, by rw [key]; rfl, hm1, hm2⟩
    · exact ⟨_, _, by rw [key]; rfl, by rw [key]; rfl, by omega, by omega⟩
    · exact ⟨_, _, by rw [key]; rfl, by rw [key]; rfl, wrap_rng _⟩
    · exact ⟨_, _, by rw [key]; rfl, by rw [key]; rfl, by omega, by omega⟩
    · exact ⟨_, _, by rw [key]; rfl, by rw [key]; rfl, wrap_rng _⟩
    · omega
  have hgw : w.grownBy W0 none := by rw [hW0]; exact gr_then hg1 (gr_alloc w1 _ none)
  have hd0 : DV W0 := hd.grown hgw
  have HG := Lib.hid hgw
  clear hg1 hgw r2 r3
  go_wp2
  rw [← hW0]
  generalize w1.heap.size = G at hpair ⊢
  have HP := Lib.hid hpair
  clear hW0 hpair
  go_loopw [50] (fun kv wr => ∃ k : Nat, k ≤ 6 ∧ kv = .int .i64 k ∧ W0.grownBy wr none) (fun kv _ => 6 - (intOf kv).toNat)
  case atStart => exact ⟨0, by omega, rfl, World.grownBy.refl _ _⟩
  case round =>
    obtain ⟨k, hk, rfl, hgr⟩ := hrel
    by_cases hlt : k < 6
    · obtain ⟨p, q, hc0, hc1, hq1, hq2⟩ := HP.out k hlt
      have hc0 := hgr.cell hc0 (by simp)
      have hc1 := hgr.cell hc1 (by simp)
      have hdr := hd0.grown hgr
      have hdr2 := hdr.grown (gr_alloc wr (.cells #[.int .i64 p, .int .i64 q] 37) none)
      have hm1 := add_any p q hq1 hq2 (wr.alloc (.cells #[.int .i64 p, .int .i64 q] 37))
      have hm2 := radd_any p q (wr.alloc (.cells #[.int .i64 p, .int .i64 q] 37))
      have hm3 := weekday_any p (wr.alloc (.cells #[.int .i64 p, .int .i64 q] 37))
      have hm4 := rweekday_any p (wr.alloc (.cells #[.int .i64 p, .int .i64 q] 37))
      generalize addD p q = z at hm1 hm2
      generalize wkD p = u at hm3 hm4
      obtain ⟨z1, z2⟩ := z
      obtain ⟨u1, u2⟩ := u
      have HM := Lib.hid (And.intro hm1 (And.intro hm2 (And.intro hm3 hm4)))
      clear hm1 hm2 hm3 hm4 hq1 hq2
      go_wp2_with fail
      refine HM.out.1.mono ?_
      rintro e w' ⟨rfl, rfl⟩
      go_wp2_with fail
      refine HM.out.2.1.mono ?_
      rintro e w' ⟨rfl, rfl⟩
      go_wp2_with fail
      refine HM.out.2.2.1.mono ?_
      rintro e w' ⟨rfl, rfl⟩
      go_wp2_with fail
      refine HM.out.2.2.2.mono ?_
      rintro e w' ⟨rfl, rfl⟩
      have hgr2 := gr_then hgr (gr_alloc wr (.cells #[.int .i64 p, .int .i64 q] 37) none)
      go_wp2
      exact ⟨⟨k + 1, by omega, by congr 1, hgr2⟩, by simp [intOf]; omega⟩
    · obtain rfl : k = 6 := by omega
      have r1' : 0 ≤ bits .and .i64 n 2097151 ∧ bits .and .i64 n 2097151 ≤ 2097151 := and_rng n 2097151 (by decide)
      generalize bits .and .i64 n 2097151 = q at r1' ⊢
      have e1 : wkD q = (q % 7 + 1, true) := by unfold wkD; rw [isN_true ⟨by omega, by omega⟩]; rfl
      have e2 : wkD (q + 7) = (q % 7 + 1, true) := by unfold wkD; rw [isN_true ⟨by omega, by omega⟩, show (q + 7) % 7 = q % 7 from by omega]; rfl
      have e3 : wkD (q + 1) = ((q + 1) % 7 + 1, true) := by unfold wkD; rw [isN_true ⟨by omega, by omega⟩]; rfl
      have HE := Lib.hid (And.intro e1 (And.intro e2 e3))
      have e4 : (((q + 1) % 7 + 1 : Int) == (q % 7 + 1) % 7 + 1) = true := by rw [beq_iff_eq]; omega
      obtain ⟨q1, q2⟩ := r1'
      clear e1 e2 e3
      go_wp2_with fail
      refine (weekday_any _ _).mono ?_
      rintro e w' ⟨rfl, rfl⟩
      rw [HE.out.1]
      go_wp2_with fail
      refine (weekday_any _ _).mono ?_
      rintro e w' ⟨rfl, rfl⟩
      rw [HE.out.2.1]
      go_wp2_with fail
      refine (weekday_any _ _).mono ?_
      rintro e w' ⟨rfl, rfl⟩
      rw [HE.out.2.2]
      go_wp2
      go_ret
      exact ⟨rfl, gr_then HG.out hgr⟩
end Go.Proofs.YtaenalhglmkfdaaDoor
namespace Go.Proofs.YtaenalhglmkfdaaDoor
open Go.RowKit Mth

/-- A block of bytes that '[]byte(s)' has laid, one of them changed. -/
theorem bytes_laid (w : World) (T : ByteArray) (cap m q : Nat) (e : TypeId) (fz : Nat × Nat) (hcap : T.size ≤ cap) (hm : m < T.size) (hfz : cap ≤ fz.1) :
    (∀ W1, W1 = w.alloc (.cells (bytesRow T cap) e fz) → (∃ v, W1.cell? ⟨w.heap.size, m, none⟩ = some v) ∧ W1.frozen? ⟨w.heap.size, m, none⟩ = false ∧
      ∃ xs : List Int, xs.length = T.size ∧ ∀ i, i < T.size → (W1.setCell ⟨w.heap.size, m, none⟩ (.int .u8 (q : Int))).cell? ⟨w.heap.size, 0 + i, none⟩ = some (.int .u8 (xs.getD i 0))) := by
  rintro W1 rfl
  have hrow := heap_alloc_new w (.cells (bytesRow T cap) e fz)
  have hsz : (bytesRow T cap).size = cap := by unfold bytesRow; simp; show T.data.size + _ = _; have : T.data.size = T.size := rfl; omega
  refine ⟨?_, ?_, ((T.data.toList.map fun b => (b.toNat : Int)).set m (q : Int)), by simp, fun i hi => ?_⟩
  · rw [cell_of_row _ _ m _ e fz hrow]
    exact ⟨_, Array.getElem?_eq_getElem (by rw [hsz]; omega)⟩
  · simp only [World.frozen?]
    rw [hrow]
    simp; omega
  · rw [Nat.zero_add, setCell_eq_setRow _ _ m _ e fz _ hrow, cell_of_row _ _ i _ e fz (setRow_heap _ _ _ _ e fz hrow)]
    rw [Array.getElem?_setIfInBounds]
    have hT : T.data.size = T.size := rfl
    by_cases h : m = i
    · subst h
      rw [if_pos rfl, if_pos (by rw [hsz]; omega)]
      simp [List.getD, hT, hm]
    · rw [if_neg h]
      unfold bytesRow
      rw [Array.getElem?_append_left (by simp; omega)]
      have e1 : T.data[i]? = some (T.data[i]'(by omega)) := Array.getElem?_eq_getElem _
      simp [List.getD, List.getElem?_set_ne h, e1]

theorem textD_len {n : Int} (h : isN n = true) : (textD n).length = 10 := by
  rw [textD_val h]
  have hn2 : n.toNat ≤ 3652058 := by unfold isN at h; rw [decide_eq_true_eq] at h; omega
  obtain ⟨h1, h2, h3⟩ := civ_small hn2
  have l1 := padD_full (n := (civ n.toNat).1) (k := 4) (by simp; omega)
  have l2 := padD_full (n := (civ n.toNat).2.1) (k := 2) (by simp; omega)
  have l3 := padD_full (n := (civ n.toNat).2.2) (k := 2) (by simp; omega)
  simp [l1, l2, l3]
theorem textD_back {n : Int} (h : isN n = true) : readL layI.data.toList (textD n) = (n.toNat, true) := by
  have hn2 : n.toNat ≤ 3652058 := by unfold isN at h; rw [decide_eq_true_eq] at h; omega
  have hc := civ_spec (n := n.toNat) hn2
  rw [readL_iso, textD_val h, ← fmt_iso, parse_fmt hc.ok]
  rw [show numC (civ n.toNat) = n.toNat from hc.num]

set_option maxHeartbeats 8000000 in
set_option maxRecDepth 100000 in
theorem dtexts_true (n : Int) (raw : ByteArray) (q0 q1 : Nat) (w : World) (hd : DV w) (_hn : -9223372036854775808 ≤ n ∧ n ≤ 9223372036854775807) (hraw : raw.size ≤ maxLen) (_hq0 : q0 ≤ 255) (_hq1 : q1 ≤ 255) :
    Calls Tryd.prog 9 #[.int .i64 n, .string raw, .agg #[.int .u8 (q0 : Int), .int .u8 (q1 : Int)]] w fun e w' => e = .returned (.bool true) ∧ w.grownBy w' none := by
  have hraw : raw.size ≤ 9223372036854775807 := hraw
  have hw0 := gr_alloc w (.cells #[.int .u8 (q0 : Int), .int .u8 (q1 : Int)] 43) none
  have hb0 : (w.alloc (.cells #[.int .u8 (q0 : Int), .int .u8 (q1 : Int)] 43)).cell? ⟨w.heap.size, 0, none⟩ = some (.int .u8 (q0 : Int)) := by rw [cell_of_row _ _ _ _ _ (0, 0) (heap_alloc_new w _)]; rfl
  have hb1 : (w.alloc (.cells #[.int .u8 (q0 : Int), .int .u8 (q1 : Int)] 43)).cell? ⟨w.heap.size, 1, none⟩ = some (.int .u8 (q1 : Int)) := by rw [cell_of_row _ _ _ _ _ (0, 0) (heap_alloc_new w _)]; rfl
  have hd0 := hd.grown hw0
  obtain ⟨k, hk⟩ : ∃ k, k = bits .and .i64 n 4194303 := ⟨_, rfl⟩
  have r0 : 0 ≤ k ∧ k ≤ 4194303 := by rw [hk]; exact and_rng n 4194303 (by decide)
  have HK := Lib.hid hk
  clear hk
  go_enter Tryd.func9, Tryd.ntmps9
  go_wp2_with fail
  refine (sanity_any _ hd0).mono ?_
  rintro _ w0 ⟨rfl, h0⟩
  have hg := gr_then hw0 h0
  have hc0 := h0.cell hb0 (by simp)
  have hc1 := h0.cell hb1 (by simp)
  generalize w.heap.size = B at hc0 hc1 ⊢
  clear hw0 hb0 hb1 h0
  go_wp2_with fail
  rw [← HK.out]
  refine (text_any k _ (hd.grown hg)).mono ?_
  rintro _ w1 ⟨rfl, h1⟩
  have hc0 := h1.cell hc0 (by simp)
  have hc1 := h1.cell hc1 (by simp)
  have hg := gr_then hg h1
  clear h1
  go_wp2_with fail
  refine (rtext_any k _).mono ?_
  rintro _ w2 ⟨rfl, h2⟩
  have hc0 := h2.cell hc0 (by simp)
  have hc1 := h2.cell hc1 (by simp)
  have hg := gr_then hg h2
  clear h2
  go_wp2_with fail
  refine (text_any n _ (hd.grown hg)).mono ?_
  rintro _ w3 ⟨rfl, h3⟩
  have hc0 := h3.cell hc0 (by simp)
  have hc1 := h3.cell hc1 (by simp)
  have hg := gr_then hg h3
  clear h3
  go_wp2_with fail
  refine (rtext_any n _).mono ?_
  rintro _ w4 ⟨rfl, h4⟩
  have hc0 := h4.cell hc0 (by simp)
  have hc1 := h4.cell hc1 (by simp)
  have hg := gr_then hg h4
  clear h4
  obtain ⟨T, hT⟩ : ∃ T : ByteArray, T = ⟨(textD k).toArray⟩ := ⟨_, rfl⟩
  rw [← hT]
  have hTl : T.data.toList = textD k := by rw [hT]
  have HT := Lib.hid hT
  clear hT
  go_wp2_with fail
  refine (parse_any T _ (by rw [size_of hTl]; cases h : isN k; rw [textD_none h]; decide; rw [textD_len h]; decide) (hd.grown hg)).mono ?_
  rintro _ w5 ⟨rfl, h5⟩
  have hc0 := h5.cell hc0 (by simp)
  have hc1 := h5.cell hc1 (by simp)
  have hg := gr_then hg h5
  clear h5
  cases hN : isN k with
  | true =>
    have hb := textD_back hN
    rw [← hTl] at hb
    have hb2 : readL layI.data.toList T.data.toList = (k.toNat, true) := hb
    have hkz : ((k.toNat : Nat) : Int) = k := by omega
    have hlen := textD_len hN
    rw [← hTl, len_toList] at hlen
    rw [hb2]
    simp only [hkz]
    have hL1 : 0 < T.size := by omega
    have hL2 : T.size ≤ 10 := by omega
    have hem : T.toList.isEmpty = false := by
      rw [ByteArray.toList_eq]
      cases h : T.data.toList with
      | nil => rw [← len_toList, h] at hlen; simp at hlen
      | cons _ _ => rfl
    clear hb hb2 hkz hlen hN hTl r0
    have hcv := run_bytes_of_string (P := Tryd.prog) w5 9 46 5 T Tryd.underlying9 Tryd.underlying46 Tryd.underlying5
    have hcap := grownCap_ge w5 T.size 0 5
    generalize grownCap w5 T.size 0 5 = cap at hcv hcap
    obtain ⟨m, hm⟩ : ∃ m, m = q0 % T.size := ⟨_, rfl⟩
    have hmlt : m < T.size := by rw [hm]; exact Nat.mod_lt _ (by omega)
    have hmod : (q0 : Int) % (T.size : Int) = (m : Int) := by rw [hm]; simp
    have htmod : (q0 : Int).tmod (T.size : Int) = (m : Int) := by rw [hm]; rfl
    have hnz : ¬ T.size = 0 := by omega
    have hne : ((T.size : Int) == 0) = false := by rw [beq_eq_false_iff_ne]; omega
    obtain ⟨fz, hfz⟩ : ∃ fz : Nat × Nat, fz = ((bytesRow T cap).size, (bytesRow T cap).size + 1) := ⟨_, rfl⟩
    have hfz1 : cap ≤ fz.1 := by
      have : (bytesRow T cap).size = cap := by unfold bytesRow; simp; show T.data.size + _ = _; have : T.data.size = T.size := rfl; omega
      rw [hfz]; show cap ≤ (bytesRow T cap).size; omega
    rw [← hfz] at hcv
    obtain ⟨W1, hW1⟩ : ∃ W1 : World, W1 = w5.drew.alloc (.cells (bytesRow T cap) 5 fz) := ⟨_, rfl⟩
    rw [← hW1] at hcv
    have hg1 : w5.grownBy W1 none := by rw [hW1]; exact gr_then (gr_drewN w5 1 none) (gr_alloc _ _ none)
    obtain ⟨⟨old, hold⟩, hfr, xs, hxs, hcells⟩ := bytes_laid w5.drew T cap m q1 5 fz (by omega) hmlt hfz1 W1 hW1
    have hG : w5.drew.heap.size = w5.heap.size := rfl
    rw [hG] at hold hfr hcells
    have hge := hg.size
    generalize w5.heap.size = G at hcv hold hfr hcells hge
    have hc0 := hg1.cell hc0 (by simp)
    have hc1 := hg1.cell hc1 (by simp)
    have hg := gr_then hg hg1
    have hd0 : W1.drew.cell? ⟨B, 0, none⟩ = some (.int .u8 (q0 : Int)) := hc0
    have hd1 : W1.drew.cell? ⟨B, 1, none⟩ = some (.int .u8 (q1 : Int)) := hc1
    have hdm : W1.drew.cell? ⟨G, m, none⟩ = some old := hold
    have hdf : W1.drew.frozen? ⟨G, m, none⟩ = false := hfr
    obtain ⟨U, hU⟩ : ∃ U : ByteArray, U = strOfNums xs := ⟨_, rfl⟩
    have hUs : U.size = T.size := by rw [hU, ← hxs]; unfold strOfNums; show (List.toArray _).size = _; simp
    have hcv2 := run_convert_bytes_arg (P := Tryd.prog) (W1.setCell ⟨G, m, none⟩ (.int .u8 (q1 : Int))).drew 46 5 Tryd.underlying46 Tryd.underlying5 G 0 T.size cap xs hxs (fun i hi => hcells i hi) 9 Tryd.underlying9
    rw [← hU] at hcv2
    clear hm hfz hfz1 hW1 hg1 hxs hcells hG hU hcap
    obtain ⟨W2, hW2⟩ : ∃ W2 : World, W2 = W1.setCell ⟨G, m, none⟩ (.int .u8 (q1 : Int)) := ⟨_, rfl⟩
    have hs2 : W2.heap.size = W1.heap.size := by rw [hW2]; simp [World.setCell]
    have hgw2 : w.grownBy W2 none := by
      rw [hW2]
      refine ⟨hg.os, hg.tape, hg.output, by have := hg.size; simp [World.setCell]; exact this, fun b hb _ => ?_⟩
      have h1 := hg.block b hb (by simp)
      have h2 : (W1.setCell ⟨G, m, none⟩ (.int .u8 (q1 : Int))).heap[b]? = W1.heap[b]? := Below.heap_setCell _ _ _ _ (by show b ≠ G; omega)
      exact h2.trans h1
    obtain ⟨W3, hW3⟩ : ∃ W3 : World, W3 = (W2.alloc (.cells #[.string U, .string raw, .string (T ++ ⟨#[48]⟩), .string (⟨#[48]⟩ ++ T)] 9)).drew := ⟨_, rfl⟩
    have hgw3 : w.grownBy W3 none := by rw [hW3]; exact gr_then hgw2 (gr_then (gr_alloc W2 _ none) (gr_drewN _ 1 none))
    have hsix : ∀ i, i < 4 → ∃ t : ByteArray, W3.cell? ⟨W1.heap.size, i, none⟩ = some (.string t) ∧ t.size ≤ 9223372036854775807 := by
      have key : ∀ (e : TypeId) (ys : Array Value) (j : Nat), (W2.alloc (.cells ys e)).drew.cell? ⟨W1.heap.size, j, none⟩ = ys[j]? := fun e ys j => by
        rw [← hs2]
        exact cell_of_row (W2.alloc (.cells ys e)).drew W2.heap.size j ys e (0, 0) (heap_alloc_new W2 _)
      rw [hW3]
      intro i hi
      rcases i with _ | _ | _ | _ | i
      · exact ⟨U, by rw [key]; rfl, by omega⟩
      · exact ⟨_, by rw [key]; rfl, hraw⟩
      · refine ⟨_, by rw [key]; rfl, ?_⟩
        rw [ByteArray.size_append]; show T.size + 1 ≤ _; omega
      · refine ⟨_, by rw [key]; rfl, ?_⟩
        rw [ByteArray.size_append]; show 1 + T.size ≤ _; omega
      · omega
    have HSIX := Lib.hid hsix
    have HW2 := Lib.hid hW2
    have HW3 := Lib.hid hW3
    clear hsix hs2 hgw2 hW2 hW3 hge hraw
    go_wp2
    go_region
    go_wp2
    rw [← HW2.out, ← HW3.out]
    go_loopw [76] (fun kv wr => ∃ k : Nat, k ≤ 4 ∧ kv = .int .i64 k ∧ W3.grownBy wr none) (fun kv _ => 4 - (RowKit.intOf kv).toNat)
    case atStart => exact ⟨0, by omega, rfl, World.grownBy.refl _ _⟩
    case round =>
      obtain ⟨k, hk, rfl, hgr⟩ := hrel
      by_cases hlt : k < 4
      · obtain ⟨t, hct, ht⟩ := HSIX.out k hlt
        have hct := hgr.cell hct (by simp)
        have hgrw := gr_then hgw3 hgr
        have p1 := parse_any t wr ht (hd.grown hgrw)
        have p2 := fun w => rparse_any t w
        generalize readL layI.data.toList t.data.toList = z at p1 p2
        obtain ⟨z1, z2⟩ := z
        have HP := Lib.hid (And.intro p1 p2)
        clear p1 p2 ht
        go_wp2_with fail
        refine HP.out.1.mono ?_
        rintro _ w9 ⟨rfl, h9⟩
        have hgr := gr_then hgr h9
        go_wp2_with fail
        refine (HP.out.2 _).mono ?_
        rintro _ w10 ⟨rfl, h10⟩
        have hgr := gr_then hgr h10
        go_wp2
        exact ⟨⟨k + 1, by omega, by congr 1, hgr⟩, by simp [RowKit.intOf]; omega⟩
      · obtain rfl : k = 4 := by omega
        go_wp2
        go_ret
        exact ⟨rfl, gr_then hgw3 hgr⟩
  | false =>
    have hTe : T = ⟨#[]⟩ := by
      rw [textD_none hN] at hTl
      have : T.data = #[] := Array.toList_inj.1 (by simpa using hTl)
      cases T; simp_all
    subst hTe
    have hb2 : readL layI.data.toList (⟨#[]⟩ : ByteArray).data.toList = (0, false) := by rw [readL_iso]; decide +kernel
    rw [hb2]
    clear hb2 hN hTl r0
    have hcv := run_bytes_of_string (P := Tryd.prog) w5 9 46 5 ⟨#[]⟩ Tryd.underlying9 Tryd.underlying46 Tryd.underlying5
    rw [show (⟨#[]⟩ : ByteArray).size = 0 from rfl] at hcv
    generalize grownCap w5 0 0 5 = cap at hcv
    obtain ⟨W1, hW1⟩ : ∃ W1 : World, W1 = w5.drew.alloc (.cells (bytesRow ⟨#[]⟩ cap) 5 ((bytesRow ⟨#[]⟩ cap).size, (bytesRow ⟨#[]⟩ cap).size + 1)) := ⟨_, rfl⟩
    rw [← hW1] at hcv
    have hg1 : w5.grownBy W1 none := by rw [hW1]; exact gr_then (gr_drewN w5 1 none) (gr_alloc _ _ none)
    have hcv2 := run_convert_bytes_arg (P := Tryd.prog) W1 46 5 Tryd.underlying46 Tryd.underlying5 w5.heap.size 0 0 cap [] rfl (fun i hi => by omega) 9 Tryd.underlying9
    rw [show strOfNums [] = ⟨#[]⟩ from rfl] at hcv2
    have hg := gr_then hg hg1
    obtain ⟨W2, hW2⟩ : ∃ W2 : World, W2 = W1 := ⟨_, rfl⟩
    obtain ⟨W3, hW3⟩ : ∃ W3 : World, W3 = W1.alloc (.cells #[.string ⟨#[]⟩, .string raw, .string (⟨#[]⟩ ++ ⟨#[48]⟩), .string (⟨#[48]⟩ ++ ⟨#[]⟩)] 9) := ⟨_, rfl⟩
    have hgw3 : w.grownBy W3 none := by rw [hW3]; exact gr_then hg (gr_alloc W1 _ none)
    have hsix : ∀ i, i < 4 → ∃ t : ByteArray, W3.cell? ⟨W1.heap.size, i, none⟩ = some (.string t) ∧ t.size ≤ 9223372036854775807 := by
      have key : ∀ (e : TypeId) (ys : Array Value) (j : Nat), (W1.alloc (.cells ys e)).cell? ⟨W1.heap.size, j, none⟩ = ys[j]? := fun e ys j => cell_of_row _ W1.heap.size j ys e (0, 0) (heap_alloc_new W1 _)
      rw [hW3]
      intro i hi
      rcases i with _ | _ | _ | _ | i
      · exact ⟨_, by rw [key]; rfl, by decide⟩
      · exact ⟨_, by rw [key]; rfl, hraw⟩
      · exact ⟨_, by rw [key]; rfl, by rw [ByteArray.size_append]; decide⟩
      · exact ⟨_, by rw [key]; rfl, by rw [ByteArray.size_append]; decide⟩
      · omega
    have HSIX := Lib.hid hsix
    have HW2 := Lib.hid hW2
    have HW3 := Lib.hid hW3
    clear hsix hW2 hW3 hraw hW1 hg1
    go_wp2
    rw [← HW3.out]
    go_loopw [76] (fun kv wr => ∃ k : Nat, k ≤ 4 ∧ kv = .int .i64 k ∧ W3.grownBy wr none) (fun kv _ => 4 - (RowKit.intOf kv).toNat)
    case atStart => exact ⟨0, by omega, rfl, World.grownBy.refl _ _⟩
    case round =>
      obtain ⟨k, hk, rfl, hgr⟩ := hrel
      by_cases hlt : k < 4
      · obtain ⟨t, hct, ht⟩ := HSIX.out k hlt
        have hct := hgr.cell hct (by simp)
        have hgrw := gr_then hgw3 hgr
        have p1 := parse_any t wr ht (hd.grown hgrw)
        have p2 := fun w => rparse_any t w
        generalize readL layI.data.toList t.data.toList = z at p1 p2
        obtain ⟨z1, z2⟩ := z
        have HP := Lib.hid (And.intro p1 p2)
        clear p1 p2 ht
        go_wp2_with fail
        refine HP.out.1.mono ?_
        rintro _ w9 ⟨rfl, h9⟩
        have hgr := gr_then hgr h9
        go_wp2_with fail
        refine (HP.out.2 _).mono ?_
        rintro _ w10 ⟨rfl, h10⟩
        have hgr := gr_then hgr h10
        go_wp2
        exact ⟨⟨k + 1, by omega, by congr 1, hgr⟩, by simp [RowKit.intOf]; omega⟩
      · obtain rfl : k = 4 := by omega
        go_wp2
        go_ret
        exact ⟨rfl, gr_then hgw3 hgr⟩
end Go.Proofs.YtaenalhglmkfdaaDoor
namespace Go.Proofs.YtaenalhglmkfdaaDoor
open Go.ChangeShapes Go.WideShapes Go.ChangeAt Go.RowKit Mth

set_option maxRecDepth 1000000 in
set_option maxHeartbeats 4000000 in
theorem dtexts_lifted (os : Os) (started : os.Started) (H : Type) (enc : TypeId × Value → H) :
    ReturnsInHanded {} Tryd.checked os 9 .any (fun w args => (Rows.dateTextsSpec.pre enc Tryd.prog Tryd.f9 Rows.dateTextsRow.domain false w args ∧ laidMet Tryd.prog Rows.dateTextsRow.laid w) ∧ sizedMet enc Tryd.prog Tryd.f9 (OpenSpec.ofChange Rows.dateTextsSpec) false w args)
      (Rows.dateTextsSpec.post enc Tryd.prog Tryd.f9 false true false false) := by
  refine returnsInHanded_of_change_and (C := Tryd.checked) (X := fun w _ => laidMet Tryd.prog Rows.dateTextsRow.laid w) (fun _ _ _ hh h => h.of_heap hh) own0 started (by kernel_rfl) Tryd.func9
    (ChangeSpec.witness_at (enc := enc) (C := Tryd.checked) (os := os) (X := fun w _ => laidMet Tryd.prog Rows.dateTextsRow.laid w) false (laidWorld os) #[.int .i64 0, .string ⟨#[]⟩, .agg #[.int .u8 0, .int .u8 0]] 8 rfl (by kernel_rfl) (by kernel_rfl) (by kernel_rfl) (by kernel_rfl) (by kernel_rfl) (laid_at os _)) ?_
  intro W base args ds gs before hval0 hW hcnd0 _ hL _
  have hval : ∀ (j : Nat) t v, Tryd.f9.params[j]? = some t → args[j]? = some v → Value.okWide Tryd.prog W .any base t v := hval0
  have hW' := hW
  obtain ⟨p, q, hA0, hV, rfl, hfz, hnd⟩ := hW
  have hA : DataW.TrodAll enc Tryd.prog W 0 (fun _ => true) true Tryd.f9.params.toList args.toList ds p := hA0
  rw [Tryd.params9] at hA hval
  obtain ⟨v0, v1, v2, d0, d1, d2, p0, p1, p2, rfl, rfl, rfl, h0, h1, h2⟩ := trodAll_three hA
  obtain ⟨rfl, rfl⟩ := trodVars_none hV
  clear hA0 hval0 hA
  simp only [List.append_nil] at hW'
  have k0 := hval 0 3 v0 rfl rfl
  have k1 := hval 1 9 v1 rfl rfl
  have k2 := hval 2 43 v2 rfl rfl
  obtain ⟨n0, rfl, w0⟩ := int_arg k0 h0
  obtain ⟨n1, rfl, w1⟩ := str_arg k1 h1
  obtain ⟨n2_0, n2_1, rfl, w2_0, w2_1⟩ := arr2_arg Tryd.underlying43 Tryd.underlying5 (by kernel_rfl) (by kernel_rfl) k2 h2
  obtain ⟨m2_0, rfl, x2_0⟩ := wf_u8 w2_0
  obtain ⟨m2_1, rfl, x2_1⟩ := wf_u8 w2_1
  refine (dtexts_true n0 n1 m2_0 m2_1 W (dv_of hL) w0 w1 x2_0 x2_1).mono fun e W' ⟨he, hg⟩ => ?_
  subst he
  have hb : Below W.heap.size W W' := gr_low hg
  have hlt : ∀ x ∈ p0 ++ p1 ++ p2, x.block < W.heap.size := fun x hx => by simpa using hW'.lt x hx
  have hl0 : ∀ x ∈ p0, x.block < W.heap.size := fun x hx => hlt x (by simp [hx])
  have hl1 : ∀ x ∈ p1, x.block < W.heap.size := fun x hx => hlt x (by simp [hx])
  have hl2 : ∀ x ∈ p2, x.block < W.heap.size := fun x hx => hlt x (by simp [hx])
  refine ⟨_, rfl, _, _, _, [], p0 ++ p1 ++ p2, [], hW', ?_, ?_, rfl, hb.frame _, fun h => by cases h⟩
  · exact trodAll_mk1 (shut_bool Tryd.underlying4 true)
  · have h3 := trodAll_mk3 (Below.trod laidOut0 (by kernel_rfl) (of_decide_eq_true (by kernel_rfl)) h0 hb hl0) (Below.trod laidOut0 (by kernel_rfl) (of_decide_eq_true (by kernel_rfl)) h1 hb hl1) (Below.trod laidOut0 (by kernel_rfl) (of_decide_eq_true (by kernel_rfl)) h2 hb hl2)
    rw [← List.append_assoc] at h3
    exact h3

theorem dtexts_row : Rows.DateTextsSaid :=
  OpenClaim.holds_of_wide 9 Tryd.f9 rfl rfl rfl rfl rfl rfl rfl ⟨rfl, rfl, rfl, rfl, rfl⟩ rfl rfl rfl rfl rfl (by kernel_rfl) Tryd.func9 (by kernel_rfl)
    (of_decide_eq_true (by kernel_rfl)) (by unfold Func.isWrapper; first | (rw [if_pos (by decide +kernel)]; kernel_rfl) | (rw [if_neg (by decide +kernel)]; exact ⟨rfl, rfl⟩))
    (fun os started H enc _ => dtexts_lifted os started H enc)
end Go.Proofs.YtaenalhglmkfdaaDoor
