/- Contracts of the program and of the reference, part 4: Dp, Ds, RefS. -/
import Derived.Test.YtmlmjhlakpgagaaDoorBRing3
namespace Go.Proofs.YtmlmjhlakpgagaaDoor
open Go.RowKit Mth Dm

/-- What stands before and behind the first point. -/
def sp : List UInt8 → List UInt8 × List UInt8
  | [] => ([], [])
  | b :: l => if b = 46 then ([], l) else (b :: (sp l).1, (sp l).2)
theorem sp_miss (l : List UInt8) (h : Lib.indexByte l 46 = -1) : sp l = (l, []) := by
  induction l with
  | nil => rfl
  | cons b l ih =>
    simp only [Lib.indexByte] at h
    by_cases hb : b = 46
    · subst hb; simp at h
    · rw [if_neg (by simpa using hb)] at h
      have h1 : Lib.indexByte l 46 = -1 := by
        by_cases h2 : Lib.indexByte l 46 = -1
        · exact h2
        · rw [if_neg (by simpa using h2)] at h
          have := Lib.indexByte_ge l 46
          omega
      simp only [sp]; rw [if_neg hb, ih h1]
theorem sp_hit (l : List UInt8) (i : Nat) (h : Lib.indexByte l 46 = (i : Int)) : i < l.length ∧ sp l = (l.take i, l.drop (i + 1)) := by
  induction l generalizing i with
  | nil => simp [Lib.indexByte] at h
  | cons b l ih =>
    simp only [Lib.indexByte] at h
    by_cases hb : b = 46
    · subst hb
      simp at h
      have : i = 0 := by omega
      subst this
      simp [sp]
    · rw [if_neg (by simpa using hb)] at h
      by_cases h2 : Lib.indexByte l 46 = -1
      · rw [if_pos (by simpa using h2)] at h; omega
      · rw [if_neg (by simpa using h2)] at h
        have := Lib.indexByte_ge l 46
        obtain ⟨j, hj⟩ : ∃ j : Nat, Lib.indexByte l 46 = (j : Int) := ⟨(Lib.indexByte l 46).toNat, by omega⟩
        obtain ⟨h3, h4⟩ := ih j hj
        obtain rfl : i = j + 1 := by omega
        refine ⟨by simp; omega, ?_⟩
        simp only [sp]; rw [if_neg hb, h4]; rfl
theorem sp_len (l : List UInt8) : (sp l).1.length + (sp l).2.length ≤ l.length := by
  induction l with
  | nil => simp [sp]
  | cons b l ih =>
    simp only [sp]; split
    · simp
    · simp; omega
def bs (l : List UInt8) : ByteArray := ⟨l.toArray⟩
set_option maxRecDepth 100000 in
theorem cutL_any (s : ByteArray) (w : World) (hs : s.size ≤ 1000) :
    Calls Tryd.prog 73 #[.string s, .string ⟨#[46]⟩] w fun e w' => ∃ p, e = .returned (.tuple #[.string (bs (sp s.data.toList).1), .string (bs (sp s.data.toList).2), .bool p]) ∧ w.grownBy w' none := by
  have hix := fun w => Tryd.stringslite_Index_one s 46 w
  by_cases h : Lib.indexByte s.data.toList 46 = -1
  · rw [h] at hix
    have hsp := sp_miss _ h
    rw [hsp]
    have hb1 : bs s.data.toList = s := ba_eq rfl
    have hb2 : bs [] = ⟨#[]⟩ := rfl
    dsimp only
    rw [hb1, hb2]
    have HIX := Lib.hid hix
    clear hix h hsp hb1 hb2
    go_enter Tryd.func73, Tryd.ntmps73
    go_wp2_with fail
    refine (HIX.out _).mono ?_
    rintro e w' ⟨rfl, rfl⟩
    go_wp2
    go_ret3
    exact ⟨false, rfl, World.grownBy.refl _ _⟩
  · have := Lib.indexByte_ge s.data.toList 46
    obtain ⟨i, hi⟩ : ∃ i : Nat, Lib.indexByte s.data.toList 46 = (i : Int) := ⟨(Lib.indexByte s.data.toList 46).toNat, by omega⟩
    obtain ⟨h3, hsp⟩ := sp_hit _ i hi
    rw [hi] at hix
    rw [hsp]
    rw [len_toList] at h3
    have hb1 : bs (s.data.toList.take i) = s.extract 0 i := ba_eq (by rw [ext_take]; rfl)
    have hb2 : bs (s.data.toList.drop (i + 1)) = s.extract (i + 1) s.size := ba_eq (by rw [Lib.extract_to_end]; rfl)
    dsimp only
    rw [hb1, hb2]
    have HIX := Lib.hid hix
    have hw : IntKind.i64.wrap ((i : Int) + 1) = (i : Int) + 1 := IntWalk.i64_in _ (by omega)
    have hw0 : (0 : Int) ≤ (i : Int) + 1 := by omega
    have hw1 : (i : Int) + 1 ≤ (s.size : Int) := by omega
    have hw2 : ((i : Int) + 1).toNat = i + 1 := by omega
    have hi1 : (i : Int) ≤ (s.size : Int) := by omega
    clear hix h hi hsp hb1 hb2 this
    go_enter Tryd.func73, Tryd.ntmps73
    go_wp2_with fail
    refine (HIX.out _).mono ?_
    rintro e w' ⟨rfl, rfl⟩
    go_wp2
    go_quiet (fail)
    go_wp2
    go_ret3
    exact ⟨true, rfl, gr_drewN _ _ none⟩
theorem cut_any (s : ByteArray) (w : World) (hs : s.size ≤ 1000) :
    Calls Tryd.prog 56 #[.string s, .string ⟨#[46]⟩] w fun e w' => ∃ p, e = .returned (.tuple #[.string (bs (sp s.data.toList).1), .string (bs (sp s.data.toList).2), .bool p]) ∧ w.grownBy w' none := by
  have hc := fun w => cutL_any s w hs
  generalize bs (sp s.data.toList).1 = x at *
  generalize bs (sp s.data.toList).2 = y at *
  have HC := Lib.hid hc
  clear hc
  go_enter Tryd.func56, Tryd.ntmps56
  go_wp2_with fail
  refine (HC.out _).mono ?_
  rintro e w' ⟨p, rfl, g⟩
  go_wp2
  go_ret3
  exact ⟨p, rfl, g⟩
/-- What the error variables hold. -/
structure EV (w : World) : Prop where
  t : Tab w
  p : PrV w
  s : ∃ te pe, w.cell? ⟨2, 0, none⟩ = some (.iface te pe)
  r : ∃ te pe, w.cell? ⟨3, 0, none⟩ = some (.iface te pe)
theorem EV.grown {w w' : World} (h : EV w) (hg : w.grownBy w' none) : EV w' := by
  obtain ⟨te, pe, hs⟩ := h.s
  obtain ⟨te2, pe2, hr⟩ := h.r
  exact ⟨tabis_grown h.t hg, tabis_grown h.p hg, ⟨te, pe, hg.cell hs (by simp)⟩, ⟨te2, pe2, hg.cell hr (by simp)⟩⟩
theorem gr_below {w w' : World} (h : Below w.heap.size w w') (r : Option Nat) : w.grownBy w' r := ⟨h.os, h.tape, h.output, h.size, fun k hk _ => h.block k hk⟩
/-- What Atoi gives. -/
def AtoiRes (l : List UInt8) (v : Value) : Prop := (∃ n, Lib.atoiAll l = .ok n ∧ v = .tuple #[.int .i64 n, .nilIface]) ∨ ((∀ n, Lib.atoiAll l ≠ .ok n) ∧ ∃ (z : Int) (t : TypeId) (p : Value), v = .tuple #[.int .i64 z, .iface t p])
theorem gr_bytesWorld (w : World) (t : TypeId) (s : ByteArray) : w.grownBy (Lib.bytesWorld w t s) none := gr_below (Lib.bytesWorld_below _ _ _) none
theorem atoi_any (l : List UInt8) (w : World) (hl : l.length ≤ 1000) (hd : EV w) :
    Calls Tryd.prog 57 #[.string (bs l)] w fun e w' => ∃ v, e = .returned v ∧ AtoiRes l v ∧ w.grownBy w' none := by
  have hsz : (bs l).size ≤ 1000 := by unfold bs; show l.toArray.size ≤ _; simpa using hl
  obtain ⟨te, pe, hs⟩ := hd.s
  obtain ⟨te2, pe2, hr⟩ := hd.r
  have hbl : (bs l).data.toList = l := rfl
  rcases ha : Lib.atoiAll l with n | _ | _
  · refine (Tryd.strconv_Atoi_ok (bs l) (by omega) n (by rw [hbl]; exact ha) w).mono ?_
    rintro e w' ⟨rfl, hw⟩
    refine ⟨_, rfl, .inl ⟨n, ha, rfl⟩, ?_⟩
    rcases hw with rfl | ⟨t, rfl⟩
    · exact World.grownBy.refl _ _
    · exact gr_bytesWorld _ _ _
  · refine (Tryd.strconv_Atoi_syntax (bs l) (by omega) (by rw [hbl]; exact ha) _ w hs (.inr ⟨te, pe, rfl⟩)).mono ?_
    rintro e w' ⟨N, rfl, _, _, hb⟩
    exact ⟨_, rfl, .inr ⟨(by intro n h; rw [ha] at h; cases h), _, _, _, rfl⟩, gr_below hb none⟩
  · refine (Tryd.strconv_Atoi_range (bs l) (by omega) (by rw [hbl]; exact ha) _ w hr (.inr ⟨te2, pe2, rfl⟩)).mono ?_
    rintro e w' ⟨N, rfl, _, _, hb⟩
    exact ⟨_, rfl, .inr ⟨(by intro n h; rw [ha] at h; cases h), _, _, _, rfl⟩, gr_below hb none⟩
/-- What Parse gives. -/
def parseD (l : List UInt8) : Int × Nat × Bool :=
  match Lib.atoiAll ((sp l).1 ++ (sp l).2) with
  | .ok n => if rightD n ((sp l).2.length : Nat) = true ∧ textD (n, (sp l).2.length) = l then (n, (sp l).2.length, true) else (0, 0, false)
  | _ => (0, 0, false)
theorem parse_ok {l : List UInt8} {n : Int} (h : Lib.atoiAll ((sp l).1 ++ (sp l).2) = .ok n) : parseD l = if rightD n ((sp l).2.length : Nat) = true ∧ textD (n, (sp l).2.length) = l then (n, (sp l).2.length, true) else (0, 0, false) := by
  unfold parseD; rw [h]
theorem parse_bad {l : List UInt8} (h : ∀ n, Lib.atoiAll ((sp l).1 ++ (sp l).2) ≠ .ok n) : parseD l = (0, 0, false) := by
  unfold parseD
  split
  · rename_i n hn; exact absurd hn (h n)
  · rfl
theorem bs_size (l : List UInt8) : (bs l).size = l.length := by unfold bs; show l.toArray.size = _; simp
theorem bs_append (a b : List UInt8) : bs a ++ bs b = bs (a ++ b) := ba_eq (by rw [ByteArray.data_append, Array.toList_append]; rfl)
theorem atoi_bounds {l : List UInt8} {n : Int} (h : Lib.atoiAll l = .ok n) : -9223372036854775808 ≤ n ∧ n ≤ 9223372036854775807 := by
  unfold Lib.atoiAll at h
  split at h
  · cases h
  · dsimp only at h
    split at h
    · cases h
    · cases h
    · rename_i c r u hu
      split at h
      · cases h
      · split at h
        · cases h
        · injection h with h
          subst h
          split <;> omega
set_option maxHeartbeats 2000000 in
set_option maxRecDepth 100000 in
theorem parse_any (s : ByteArray) (w : World) (hs : s.size ≤ 1000) (hd : EV w) : Gives 32 #[.string s] w (dres (parseD s.data.toList)) := by
  have hcut := fun w => cut_any s w hs
  have hsl := sp_len s.data.toList
  have hsl2 : (sp s.data.toList).1.length + (sp s.data.toList).2.length ≤ 1000 := Nat.le_trans hsl (by rw [len_toList]; exact hs)
  obtain ⟨l, hl⟩ : ∃ l, l = s.data.toList := ⟨_, rfl⟩
  rw [← hl] at hcut hsl2 ⊢
  obtain ⟨X, hX⟩ : ∃ X, X = (sp l).1 := ⟨_, rfl⟩
  obtain ⟨Y, hY⟩ : ∃ Y, Y = (sp l).2 := ⟨_, rfl⟩
  have hok := fun n => parse_ok (l := l) (n := n)
  have hbad := parse_bad (l := l)
  rw [← hX, ← hY] at hcut hsl2 hok hbad
  have hat := fun w hd => atoi_any (X ++ Y) w (by rw [List.length_append]; omega) hd
  rw [← bs_append] at hat
  have hx1 : (bs X).size ≤ 1000 := by rw [bs_size]; omega
  have hy1 : (bs Y).size ≤ 1000 := by rw [bs_size]; omega
  have hy2 : (((bs Y).size : Nat) : Int) = (Y.length : Int) := by rw [bs_size]
  generalize parseD l = r at *
  have T0 := Two.new w (.int .i64 0) (.int .i64 0) 23
  have HCUT := Lib.hid hcut
  have HAT := Lib.hid hat
  have HOK := Lib.hid hok
  have HBAD := Lib.hid hbad
  have HL := Lib.hid hl
  have HD := Lib.hid hd
  have hYb : Y.length ≤ 1000 := by omega
  clear hcut hat hok hbad hl hd hX hY hsl hsl2
  go_enter Tryd.func32, Tryd.ntmps32
  go_wp2_with fail
  refine (HCUT.out _).mono ?_
  rintro e w1 ⟨p, rfl, g1⟩
  have T0 := T0.kept g1
  have G := Lib.hid (gr_then (gr_alloc w (.cells #[.int .i64 0, .int .i64 0] 23) none) g1)
  clear g1
  go_wp2_with fail
  refine (HAT.out _ (HD.out.grown G.out)).mono ?_
  rintro e w2 ⟨v, rfl, hv, g2⟩
  have T0 := T0.kept g2
  have G := Lib.hid (gr_then G.out g2)
  clear g2
  rcases hv with ⟨n, hn, rfl⟩ | ⟨hno, z, t, p2, rfl⟩
  · have hr := HOK.out n hn
    have hnb := atoi_bounds hn
    obtain ⟨hn1, hn2⟩ := hnb
    have hrr := fun w => right_any n (Y.length : Int) w
    have htx := fun w ht => text_any n (Y.length : Int) w ht
    generalize hR : rightD n (Y.length : Int) = rb at hr hrr
    have hval : rb = true → valD n (Y.length : Int) = (n, Y.length) := fun h => by rw [valD_right (by rw [hR]; exact h)]; simp
    have HRR := Lib.hid hrr
    have HTX := Lib.hid htx
    have HR := Lib.hid hr
    have HVAL := Lib.hid hval
    clear hr hrr htx hR hval hn
    cases rb
    · have hres : r = (0, 0, false) := by rw [HR.out, if_neg (by simp)]
      have HRES := Lib.hid hres
      clear hres
      go_wp2_with fail
      refine (HRR.out _).mono ?_
      rintro e w3 ⟨rfl, g3⟩
      have T1 := (T0.alloc (.cells #[.int .i64 n, .int .i64 (Y.length : Int)] 23)).kept g3
      have G3 := Lib.hid (gr_then (gr_then G.out (gr_alloc w2 (.cells #[.int .i64 n, .int .i64 (Y.length : Int)] 23) none)) g3)
      have e0 := T1.c0
      have e1 := T1.c1
      have f0 := T1.fr 0
      have f1 := T1.fr 1
      go_wp2
      exact bodyPost_ret (v := .tuple #[.agg #[.int .i64 0, .int .i64 0], .bool false]) (by simp [results, Tryd.results32, go_sem, e0, e1]) rfl ⟨by rw [HRES.out]; rfl, gr_setn (gr_setn G3.out (by omega)) (by omega)⟩
    · have hvv := HVAL.out rfl
      have htx := HTX.out
      rw [hvv] at htx
      have HTX := Lib.hid htx
      clear htx hvv
      go_wp2_with fail
      refine (HRR.out _).mono ?_
      rintro e w3 ⟨rfl, g3⟩
      have T1 := (T0.alloc (.cells #[.int .i64 n, .int .i64 (Y.length : Int)] 23)).kept g3
      have T2 := (Two.new w2 (.int .i64 n) (.int .i64 (Y.length : Int)) 23).kept g3
      have G3 := Lib.hid (gr_then (gr_then G.out (gr_alloc w2 (.cells #[.int .i64 n, .int .i64 (Y.length : Int)] 23) none)) g3)
      have c0 := T2.c0
      have c1 := T2.c1
      clear g3
      go_wp2_with fail
      refine (HTX.out _ (HD.out.grown G3.out).t).mono ?_
      rintro e w4 ⟨rfl, g4⟩
      have T1 := T1.kept g4
      have T2 := T2.kept g4
      have G4 := Lib.hid (gr_then G3.out g4)
      have e0 := T1.c0
      have e1 := T1.c1
      have f0 := T1.fr 0
      have f1 := T1.fr 1
      have c0 := T2.c0
      have c1 := T2.c1
      clear g4
      by_cases ht : textD (n, Y.length) = l
      · have hres : r = (n, Y.length, true) := by rw [HR.out, if_pos (by simp [ht])]
        have HRES := Lib.hid hres
        have hsb : (⟨(textD (n, Y.length)).toArray⟩ : ByteArray) = s := ba_eq (by rw [← HL.out, ← ht])
        rw [hsb]
        clear hres ht hsb
        go_wp2
        exact bodyPost_ret (v := .tuple #[.agg #[.int .i64 n, .int .i64 (Y.length : Int)], .bool true]) (by simp [results, Tryd.results32, go_sem, e0, e1]) rfl ⟨by rw [HRES.out]; rfl, gr_setn (gr_setn G4.out (by omega)) (by omega)⟩
      · have hres : r = (0, 0, false) := by rw [HR.out, if_neg (fun h => ht h.2)]
        have HRES := Lib.hid hres
        have hne : ((⟨(textD (n, Y.length)).toArray⟩ : ByteArray).toList == s.toList) = false := by
          rw [beq_eq_false_iff_ne, Lib.toList_data, Lib.toList_data, ← HL.out]; exact ht
        generalize (⟨(textD (n, Y.length)).toArray⟩ : ByteArray) = tx at *
        clear hres ht
        go_wp2
        exact bodyPost_ret (v := .tuple #[.agg #[.int .i64 0, .int .i64 0], .bool false]) (by simp [results, Tryd.results32, go_sem, e0, e1]) rfl ⟨by rw [HRES.out]; rfl, gr_setn (gr_setn G4.out (by omega)) (by omega)⟩
  · have hres : r = (0, 0, false) := HBAD.out hno
    have HRES := Lib.hid hres
    clear hres hno
    have T1 := (T0.alloc (.cells #[.int .i64 z, .int .i64 (Y.length : Int)] 23))
    have G3 := Lib.hid (gr_then G.out (gr_alloc w2 (.cells #[.int .i64 z, .int .i64 (Y.length : Int)] 23) none))
    have e0 := T1.c0
    have e1 := T1.c1
    have f0 := T1.fr 0
    have f1 := T1.fr 1
    go_wp2
    exact bodyPost_ret (v := .tuple #[.agg #[.int .i64 0, .int .i64 0], .bool false]) (by simp [results, Tryd.results32, go_sem, e0, e1]) rfl ⟨by rw [HRES.out]; rfl, gr_setn (gr_setn G3.out (by omega)) (by omega)⟩
end Go.Proofs.YtmlmjhlakpgagaaDoor
namespace Go.Proofs.YtmlmjhlakpgagaaDoor
open Go.RowKit Mth Dm

theorem d_any (n s : Int) (w : World) : Gives 34 #[.int .i64 n, .int .i64 s] w (.agg #[.int .i64 n, .int .i64 s]) := by
  go_enter Tryd.func34, Tryd.ntmps34
  go_wp2
  exact bodyPost_ret (v := .agg #[.int .i64 n, .int .i64 s]) (by simp [results, Tryd.results34, go_sem]) rfl ⟨rfl, gr_alloc _ _ _⟩
theorem gives_yes (n s : Int) (w : World) : Gives 35 #[.agg #[.int .i64 n, .int .i64 s], .bool true, .agg #[.int .i64 n, .int .i64 s]] w (.bool true) := by
  go_enter Tryd.func35, Tryd.ntmps35
  go_wp2
  go_ret
  exact ⟨rfl, gr_then (gr_alloc w _ none) (gr_alloc _ _ none)⟩
theorem mk_a : makeD 1500 3 = (15, 1, true) := by decide +kernel
theorem mk_b : makeD (-5) 1 = (-5, 1, true) := by decide +kernel
theorem mk_c : makeD 1 7 = (0, 0, false) := by decide +kernel
theorem ad_a : addD (valD 1 1) (valD 2 1) = (3, 1, true) := by decide +kernel
theorem ml_a : mulD (valD 15 1) (valD 4 1) = (6, 1, true) := by decide +kernel
theorem ml_b : mulD (valD 1 3) (valD 1 4) = (0, 0, false) := by decide +kernel
theorem rn_a : roundD (valD 2345 3) 2 = (235, 2, true) := by decide +kernel
theorem rn_b : roundD (valD (-2345) 3) 2 = (-235, 2, true) := by decide +kernel
theorem rn_c : roundD (valD 25 1) 0 = (3, 0, true) := by decide +kernel
theorem of_a : fitD 1000000000000001 0 = (0, 0, false) := by decide +kernel
theorem cm_a : cmpD (valD 1 1) (valD 2 2) = 1 := by decide +kernel
theorem tx_a : textD (valD (-5) 2) = [45, 48, 46, 48, 53] := by
  rw [show valD (-5) 2 = (-5, 2) from by decide +kernel]
  unfold textD
  rw [show Lib.decDigits ((-5 : Int).natAbs / 10 ^ 2) = [48] from Lib.decDigits_one (i := 0) (by omega)]
  decide +kernel
theorem ps_a : parseD [49, 46, 53, 48] = (0, 0, false) := by
  rw [parse_ok (n := 150) (by decide +kernel), if_neg (by intro h; revert h; rw [show rightD 150 ((sp [49, 46, 53, 48]).2.length : Nat) = false from by decide +kernel]; simp)]
theorem ps_b : parseD [45, 48] = (0, 0, false) := by
  rw [parse_ok (n := 0) (by decide +kernel), if_neg]
  intro h
  have h2 := h.2
  rw [show ((0 : Int), (sp [45, 48]).2.length) = (0, 0) from by decide +kernel] at h2
  unfold textD at h2
  rw [show Lib.decDigits ((0 : Int).natAbs / 10 ^ 0) = [48] from Lib.decDigits_one (i := 0) (by omega)] at h2
  exact absurd h2 (by decide +kernel)
set_option maxHeartbeats 8000000 in
set_option maxRecDepth 100000 in
theorem sanity_any (w : World) (hd : EV w) : Gives 11 #[] w (.bool true) := by
  have HD := Lib.hid hd
  go_enter Tryd.func11, Tryd.ntmps11
  go_wp2_with fail
  have k := make_any 1500 3 w (by decide) (by decide)
  rw [mk_a] at k
  refine k.mono ?_
  clear k
  rintro e w1 ⟨rfl, g1⟩
  have hlw1 : w.heap.size ≤ w1.heap.size := g1.size
  have T1 := Two.new w1 (.int .i64 15) (.int .i64 1) 23
  unfold dres
  go_wp2_with fail
  have k := make_any (-5) 1 (w1.alloc (.cells #[.int .i64 15, .int .i64 1] 23)) (by decide) (by decide)
  rw [mk_b] at k
  refine k.mono ?_
  clear k
  rintro e w2 ⟨rfl, g2⟩
  have T1 := T1.kept g2
  have G := Lib.hid (gr_then (gr_then g1 (gr_alloc w1 (.cells #[.int .i64 15, .int .i64 1] 23) none)) g2)
  have T3 := Two.new w2 (.int .i64 (-5)) (.int .i64 1) 23
  have T1 := T1.alloc (.cells #[.int .i64 (-5), .int .i64 1] 23)
  have l1 : w1.heap.size < w2.heap.size := by have := g2.size; simp at this; omega
  clear g1 g2
  unfold dres
  go_wp2_with fail
  have k := make_any 1 7 (w2.alloc (.cells #[.int .i64 (-5), .int .i64 1] 23)) (by decide) (by decide)
  rw [mk_c] at k
  refine k.mono ?_
  clear k
  rintro e w3 ⟨rfl, g3⟩
  have T1 := T1.kept g3
  have T3 := T3.kept g3
  have G := Lib.hid (gr_then (gr_then G.out (gr_alloc w2 (.cells #[.int .i64 (-5), .int .i64 1] 23) none)) g3)
  have l2 : w2.heap.size < w3.heap.size := by have := g3.size; simp at this; omega
  clear g3
  unfold dres
  go_wp2_with fail
  have T1 := (T1.alloc (.cells #[.int .i64 0, .int .i64 0] 23)).drew
  have T3 := (T3.alloc (.cells #[.int .i64 0, .int .i64 0] 23)).drew
  have gg := gr_then (gr_then G.out (gr_alloc w3 (.cells #[.int .i64 0, .int .i64 0] 23) none)) (gr_drew _ none)
  have c10 := T1.c0
  have c11 := T1.c1
  have c30 := T3.c0
  have c31 := T3.c1
  go_region_held3 (fun w' => w'.cell? ⟨w1.heap.size, 0, none⟩ = some (.int .i64 (15)) ∧ w'.cell? ⟨w1.heap.size, 1, none⟩ = some (.int .i64 (1)) ∧ w'.cell? ⟨w2.heap.size, 0, none⟩ = some (.int .i64 (-5)) ∧ w'.cell? ⟨w2.heap.size, 1, none⟩ = some (.int .i64 (1))) (first | exact ⟨Two.c0 (by assumption), Two.c1 (by assumption), Two.c0 (by assumption), Two.c1 (by assumption)⟩ | go_keep)
    (first
    | (go_at_call 34; refine (d_any _ _ _).mono ?_; rintro e wd ⟨rfl, kD⟩; have hD0 := Two.kept (b := w1.heap.size) (x := .int .i64 (15)) (y := .int .i64 (1)) (by assumption) kD; have cD0a := hD0.c0; have cD0b := hD0.c1; have hD1 := Two.kept (b := w2.heap.size) (x := .int .i64 (-5)) (y := .int .i64 (1)) (by assumption) kD; have cD1a := hD1.c0; have cD1b := hD1.c1; have gD := gr_then (a := w) (by assumption) kD)
    | (go_at_call 35; refine (gives_yes _ _ _).mono ?_; rintro e wg ⟨rfl, kG⟩; have hG0 := Two.kept (b := w1.heap.size) (x := .int .i64 (15)) (y := .int .i64 (1)) (by assumption) kG; have cG0a := hG0.c0; have cG0b := hG0.c1; have hG1 := Two.kept (b := w2.heap.size) (x := .int .i64 (-5)) (y := .int .i64 (1)) (by assumption) kG; have cG1a := hG1.c0; have cG1b := hG1.c1; have gG := gr_then (a := w) (by assumption) kG))
  all_goals
    have U1 := hG0
    have U3 := hG1
    have GG := gG
    have b1 := T1.lt
    have lw1 : w.heap.size ≤ w1.heap.size := hlw1
    have lw2 : w.heap.size ≤ w2.heap.size := by omega
    clear hG0 hG1 gG
    go_wp2_with fail
    refine (d_any 1 1 _).mono ?_
    rintro e v4 ⟨rfl, gn⟩
    have U1 := U1.kept gn
    have U3 := U3.kept gn
    have GG := gr_then GG gn
    clear gn
    go_wp2_with fail
    refine (d_any 2 1 _).mono ?_
    rintro e v5 ⟨rfl, gn⟩
    have U1 := U1.kept gn
    have U3 := U3.kept gn
    have GG := gr_then GG gn
    clear gn
    have k := fun w => add_any 1 1 2 1 w
    simp only [ad_a] at k
    have K := Lib.hid k
    clear k
    go_wp2_with fail
    refine (K.out _).mono ?_
    rintro e v6 ⟨rfl, gn⟩
    have U1 := U1.kept gn
    have U3 := U3.kept gn
    have GG := gr_then GG gn
    clear gn
    clear K
    unfold dres
    have e0 := U1.c0
    have e1 := U1.c1
    have f0 := U1.fr 0
    have f1 := U1.fr 1
    have U1 := U1.set2 (.int .i64 (3)) (.int .i64 (1))
    have U3 := (U3.other (b' := w1.heap.size) (i := 0) (v := .int .i64 (3)) (by omega)).other (b' := w1.heap.size) (i := 1) (v := .int .i64 (1)) (by omega)
    have GG := gr_setn (g := w1.heap.size) (i := 1) (v := .int .i64 (1)) (gr_setn (g := w1.heap.size) (i := 0) (v := .int .i64 (3)) GG (by omega)) (by omega)
    go_wp2_with fail
    refine (d_any 15 1 _).mono ?_
    rintro e v7 ⟨rfl, gn⟩
    have U1 := U1.kept gn
    have U3 := U3.kept gn
    have GG := gr_then GG gn
    clear gn
    go_wp2_with fail
    refine (d_any 4 1 _).mono ?_
    rintro e v8 ⟨rfl, gn⟩
    have U1 := U1.kept gn
    have U3 := U3.kept gn
    have GG := gr_then GG gn
    clear gn
    have k := fun w hv => mul_any 15 1 4 1 w hv
    simp only [ml_a] at k
    have K := Lib.hid k
    clear k
    go_wp2_with fail
    refine (K.out _ (tabis_grown HD.out.p GG)).mono ?_
    rintro e v9 ⟨rfl, gn⟩
    have U1 := U1.kept gn
    have U3 := U3.kept gn
    have GG := gr_then GG gn
    clear gn K
    unfold dres
    have e0 := U3.c0
    have e1 := U3.c1
    have f0 := U3.fr 0
    have f1 := U3.fr 1
    have U3 := U3.set2 (.int .i64 (6)) (.int .i64 (1))
    have U1 := (U1.other (b' := w2.heap.size) (i := 0) (v := .int .i64 (6)) (by omega)).other (b' := w2.heap.size) (i := 1) (v := .int .i64 (1)) (by omega)
    have GG := gr_setn (g := w2.heap.size) (i := 1) (v := .int .i64 (1)) (gr_setn (g := w2.heap.size) (i := 0) (v := .int .i64 (6)) GG (by omega)) (by omega)
    go_wp2_with fail
    refine (d_any 1 3 _).mono ?_
    rintro e v10 ⟨rfl, gn⟩
    have U1 := U1.kept gn
    have U3 := U3.kept gn
    have GG := gr_then GG gn
    clear gn
    go_wp2_with fail
    refine (d_any 1 4 _).mono ?_
    rintro e v11 ⟨rfl, gn⟩
    have U1 := U1.kept gn
    have U3 := U3.kept gn
    have GG := gr_then GG gn
    clear gn
    have k := fun w hv => mul_any 1 3 1 4 w hv
    simp only [ml_b] at k
    have K := Lib.hid k
    clear k
    go_wp2_with fail
    refine (K.out _ (tabis_grown HD.out.p GG)).mono ?_
    rintro e v12 ⟨rfl, gn⟩
    have U1 := U1.kept gn
    have U3 := U3.kept gn
    have GG := gr_then GG gn
    clear gn K
    unfold dres
    clear e0 e1 f0 f1
    go_wp2_with fail
    have U1 := U1.drew
    have U3 := U3.drew
    have GG := gr_then GG (gr_drew _ none)
    have c10 := U1.c0
    have c11 := U1.c1
    have c30 := U3.c0
    have c31 := U3.c1
    go_region_held3 (fun w' => w'.cell? ⟨w1.heap.size, 0, none⟩ = some (.int .i64 (3)) ∧ w'.cell? ⟨w1.heap.size, 1, none⟩ = some (.int .i64 (1)) ∧ w'.cell? ⟨w2.heap.size, 0, none⟩ = some (.int .i64 (6)) ∧ w'.cell? ⟨w2.heap.size, 1, none⟩ = some (.int .i64 (1))) (first | exact ⟨Two.c0 (by assumption), Two.c1 (by assumption), Two.c0 (by assumption), Two.c1 (by assumption)⟩ | go_keep)
      (first
      | (go_at_call 34; refine (d_any _ _ _).mono ?_; rintro e wd ⟨rfl, kD⟩; have hD0 := Two.kept (b := w1.heap.size) (x := .int .i64 (3)) (y := .int .i64 (1)) (by assumption) kD; have cD0a := hD0.c0; have cD0b := hD0.c1; have hD1 := Two.kept (b := w2.heap.size) (x := .int .i64 (6)) (y := .int .i64 (1)) (by assumption) kD; have cD1a := hD1.c0; have cD1b := hD1.c1; have gD := gr_then (a := w) (by assumption) kD)
      | (go_at_call 35; refine (gives_yes _ _ _).mono ?_; rintro e wg ⟨rfl, kG⟩; have hG0 := Two.kept (b := w1.heap.size) (x := .int .i64 (3)) (y := .int .i64 (1)) (by assumption) kG; have cG0a := hG0.c0; have cG0b := hG0.c1; have hG1 := Two.kept (b := w2.heap.size) (x := .int .i64 (6)) (y := .int .i64 (1)) (by assumption) kG; have cG1a := hG1.c0; have cG1b := hG1.c1; have gG := gr_then (a := w) (by assumption) kG))
    all_goals
      have U1 := hG0
      have U3 := hG1
      have GG := gG
      clear hG0 hG1 gG
      go_wp2_with fail
      refine (d_any 2345 3 _).mono ?_
      rintro e v13 ⟨rfl, gn⟩
      have U1 := U1.kept gn
      have U3 := U3.kept gn
      have GG := gr_then GG gn
      clear gn
      have k := fun w => round_any 2345 3 2 w
      simp only [rn_a] at k
      have K := Lib.hid k
      clear k
      go_wp2_with fail
      refine (K.out _).mono ?_
      rintro e v14 ⟨rfl, gn⟩
      have U1 := U1.kept gn
      have U3 := U3.kept gn
      have GG := gr_then GG gn
      clear gn
      clear K
      unfold dres
      have e0 := U1.c0
      have e1 := U1.c1
      have f0 := U1.fr 0
      have f1 := U1.fr 1
      have U1 := U1.set2 (.int .i64 (235)) (.int .i64 (2))
      have U3 := (U3.other (b' := w1.heap.size) (i := 0) (v := .int .i64 (235)) (by omega)).other (b' := w1.heap.size) (i := 1) (v := .int .i64 (2)) (by omega)
      have GG := gr_setn (g := w1.heap.size) (i := 1) (v := .int .i64 (2)) (gr_setn (g := w1.heap.size) (i := 0) (v := .int .i64 (235)) GG (by omega)) (by omega)
      go_wp2_with fail
      refine (d_any (-2345) 3 _).mono ?_
      rintro e v15 ⟨rfl, gn⟩
      have U1 := U1.kept gn
      have U3 := U3.kept gn
      have GG := gr_then GG gn
      clear gn
      have k := fun w => round_any (-2345) 3 2 w
      simp only [rn_b] at k
      have K := Lib.hid k
      clear k
      go_wp2_with fail
      refine (K.out _).mono ?_
      rintro e v16 ⟨rfl, gn⟩
      have U1 := U1.kept gn
      have U3 := U3.kept gn
      have GG := gr_then GG gn
      clear gn
      clear K
      unfold dres
      have e0 := U3.c0
      have e1 := U3.c1
      have f0 := U3.fr 0
      have f1 := U3.fr 1
      have U3 := U3.set2 (.int .i64 (-235)) (.int .i64 (2))
      have U1 := (U1.other (b' := w2.heap.size) (i := 0) (v := .int .i64 (-235)) (by omega)).other (b' := w2.heap.size) (i := 1) (v := .int .i64 (2)) (by omega)
      have GG := gr_setn (g := w2.heap.size) (i := 1) (v := .int .i64 (2)) (gr_setn (g := w2.heap.size) (i := 0) (v := .int .i64 (-235)) GG (by omega)) (by omega)
      go_wp2_with fail
      refine (d_any 25 1 _).mono ?_
      rintro e v17 ⟨rfl, gn⟩
      have U1 := U1.kept gn
      have U3 := U3.kept gn
      have GG := gr_then GG gn
      clear gn
      have k := fun w => round_any 25 1 0 w
      simp only [rn_c] at k
      have K := Lib.hid k
      clear k
      go_wp2_with fail
      refine (K.out _).mono ?_
      rintro e v18 ⟨rfl, gn⟩
      have U1 := U1.kept gn
      have U3 := U3.kept gn
      have GG := gr_then GG gn
      clear gn
      clear K
      unfold dres
      have l7a := U1.lt
      have l7b := U3.lt
      have U7 := Two.new v18 (.int .i64 3) (.int .i64 0) 23
      have U1 := U1.alloc (.cells #[.int .i64 (3), .int .i64 (0)] 23)
      have U3 := U3.alloc (.cells #[.int .i64 (3), .int .i64 (0)] 23)
      have GG := gr_then GG (gr_alloc v18 (.cells #[.int .i64 (3), .int .i64 (0)] 23) none)
      have k := fun w hd => parse_any ⟨#[49, 46, 53, 48]⟩ w (by decide) hd
      rw [show (⟨#[49, 46, 53, 48]⟩ : ByteArray).data.toList = [49, 46, 53, 48] from rfl, ps_a] at k
      have K := Lib.hid k
      clear k
      go_wp2_with fail
      refine (K.out _ (HD.out.grown GG)).mono ?_
      rintro e v20 ⟨rfl, gn⟩
      have U1 := U1.kept gn
      have U3 := U3.kept gn
      have U7 := U7.kept gn
      have GG := gr_then GG gn
      clear gn K
      unfold dres
      have U1 := U1.alloc (.cells #[.int .i64 (0), .int .i64 (0)] 23)
      have U3 := U3.alloc (.cells #[.int .i64 (0), .int .i64 (0)] 23)
      have U7 := U7.alloc (.cells #[.int .i64 (0), .int .i64 (0)] 23)
      have GG := gr_then GG (gr_alloc v20 (.cells #[.int .i64 (0), .int .i64 (0)] 23) none)
      have k := fun w hd => parse_any ⟨#[45, 48]⟩ w (by decide) hd
      rw [show (⟨#[45, 48]⟩ : ByteArray).data.toList = [45, 48] from rfl, ps_b] at k
      have K := Lib.hid k
      clear k
      go_wp2_with fail
      refine (K.out _ (HD.out.grown GG)).mono ?_
      rintro e v21 ⟨rfl, gn⟩
      have U1 := U1.kept gn
      have U3 := U3.kept gn
      have U7 := U7.kept gn
      have GG := gr_then GG gn
      clear gn K
      unfold dres
      have U1 := U1.alloc (.cells #[.int .i64 (0), .int .i64 (0)] 23)
      have U3 := U3.alloc (.cells #[.int .i64 (0), .int .i64 (0)] 23)
      have U7 := U7.alloc (.cells #[.int .i64 (0), .int .i64 (0)] 23)
      have GG := gr_then GG (gr_alloc v21 (.cells #[.int .i64 (0), .int .i64 (0)] 23) none)
      have k := fun w => of_any 1000000000000001 w (by decide) (by decide)
      simp only [of_a] at k
      have K := Lib.hid k
      clear k
      go_wp2_with fail
      refine (K.out _).mono ?_
      rintro e v22 ⟨rfl, gn⟩
      have U1 := U1.kept gn
      have U3 := U3.kept gn
      have U7 := U7.kept gn
      have GG := gr_then GG gn
      clear gn K
      unfold dres
      have U1 := U1.alloc (.cells #[.int .i64 (0), .int .i64 (0)] 23)
      have U3 := U3.alloc (.cells #[.int .i64 (0), .int .i64 (0)] 23)
      have U7 := U7.alloc (.cells #[.int .i64 (0), .int .i64 (0)] 23)
      have GG := gr_then GG (gr_alloc v22 (.cells #[.int .i64 (0), .int .i64 (0)] 23) none)
      clear e0 e1 f0 f1
      go_wp2_with fail
      have U1 := U1.drew
      have U3 := U3.drew
      have U7 := U7.drew
      have GG := gr_then GG (gr_drew _ none)
      have c10 := U1.c0
      have c11 := U1.c1
      have c30 := U3.c0
      have c31 := U3.c1
      have c70 := U7.c0
      have c71 := U7.c1
      have k := fun w ht => text_any (-5) 2 w ht
      rw [tx_a] at k
      have KT := Lib.hid k
      clear k
      have k := fun w => cmp_any 1 1 2 2 w
      rw [cm_a] at k
      have KC := Lib.hid k
      clear k
      go_region_held3 (fun w' => w'.cell? ⟨w1.heap.size, 0, none⟩ = some (.int .i64 (235)) ∧ w'.cell? ⟨w1.heap.size, 1, none⟩ = some (.int .i64 (2)) ∧ w'.cell? ⟨w2.heap.size, 0, none⟩ = some (.int .i64 (-235)) ∧ w'.cell? ⟨w2.heap.size, 1, none⟩ = some (.int .i64 (2)) ∧ w'.cell? ⟨v18.heap.size, 0, none⟩ = some (.int .i64 (3)) ∧ w'.cell? ⟨v18.heap.size, 1, none⟩ = some (.int .i64 (0))) (first | exact ⟨Two.c0 (by assumption), Two.c1 (by assumption), Two.c0 (by assumption), Two.c1 (by assumption), Two.c0 (by assumption), Two.c1 (by assumption)⟩ | go_keep)
        (first
        | (go_at_call 34; refine (d_any _ _ _).mono ?_; rintro e wd ⟨rfl, kD⟩; have hD0 := Two.kept (b := w1.heap.size) (x := .int .i64 (235)) (y := .int .i64 (2)) (by assumption) kD; have cD0a := hD0.c0; have cD0b := hD0.c1; have hD1 := Two.kept (b := w2.heap.size) (x := .int .i64 (-235)) (y := .int .i64 (2)) (by assumption) kD; have cD1a := hD1.c0; have cD1b := hD1.c1; have hD2 := Two.kept (b := v18.heap.size) (x := .int .i64 (3)) (y := .int .i64 (0)) (by assumption) kD; have cD2a := hD2.c0; have cD2b := hD2.c1; have gD := gr_then (a := w) (by assumption) kD)
        | (go_at_call 35; refine (gives_yes _ _ _).mono ?_; rintro e wg ⟨rfl, kG⟩; have hG0 := Two.kept (b := w1.heap.size) (x := .int .i64 (235)) (y := .int .i64 (2)) (by assumption) kG; have cG0a := hG0.c0; have cG0b := hG0.c1; have hG1 := Two.kept (b := w2.heap.size) (x := .int .i64 (-235)) (y := .int .i64 (2)) (by assumption) kG; have cG1a := hG1.c0; have cG1b := hG1.c1; have hG2 := Two.kept (b := v18.heap.size) (x := .int .i64 (3)) (y := .int .i64 (0)) (by assumption) kG; have cG2a := hG2.c0; have cG2b := hG2.c1; have gG := gr_then (a := w) (by assumption) kG)
        | (go_at_call 30; refine (KT.out _ (HD.out.grown (by assumption)).t).mono ?_; rintro e wt ⟨rfl, kT⟩; have hT0 := Two.kept (b := w1.heap.size) (x := .int .i64 (235)) (y := .int .i64 (2)) (by assumption) kT; have cT0a := hT0.c0; have cT0b := hT0.c1; have hT1 := Two.kept (b := w2.heap.size) (x := .int .i64 (-235)) (y := .int .i64 (2)) (by assumption) kT; have cT1a := hT1.c0; have cT1b := hT1.c1; have hT2 := Two.kept (b := v18.heap.size) (x := .int .i64 (3)) (y := .int .i64 (0)) (by assumption) kT; have cT2a := hT2.c0; have cT2b := hT2.c1; have gT := gr_then (a := w) (by assumption) kT)
        | (go_at_call 24; refine (KC.out _).mono ?_; rintro e wc ⟨rfl, kC⟩; have hC0 := Two.kept (b := w1.heap.size) (x := .int .i64 (235)) (y := .int .i64 (2)) (by assumption) kC; have cC0a := hC0.c0; have cC0b := hC0.c1; have hC1 := Two.kept (b := w2.heap.size) (x := .int .i64 (-235)) (y := .int .i64 (2)) (by assumption) kC; have cC1a := hC1.c0; have cC1b := hC1.c1; have hC2 := Two.kept (b := v18.heap.size) (x := .int .i64 (3)) (y := .int .i64 (0)) (by assumption) kC; have cC2a := hC2.c0; have cC2b := hC2.c1; have gC := gr_then (a := w) (by assumption) kC))
      all_goals
        go_wp2
        go_ret
        exact ⟨rfl, gC⟩
end Go.Proofs.YtmlmjhlakpgagaaDoor
namespace Go.Proofs.YtmlmjhlakpgagaaDoor
open Go.RowKit Mth

theorem num_take_le (l : List UInt8) (k : Nat) : num (l.take k) ≤ num l := by
  have h := num_append (l.take k) (l.drop k)
  rw [List.take_append_drop] at h
  rw [h]
  exact Nat.le_trans (Nat.le_mul_of_pos_right _ (Nat.pow_pos (by decide))) (Nat.le_add_right _ _)
theorem num_take_succ (t : ByteArray) {k : Nat} (h : k < t.size) : num (t.data.toList.take (k + 1)) = 256 * num (t.data.toList.take k) + t[k].toNat := by
  rw [List.take_succ_eq_append_getElem (by rw [len_toList]; exact h), num_snoc]; rfl
theorem canon_size_le {t : ByteArray} (hr : Rt t.data.toList) {k : Nat} (h : num t.data.toList < 256 ^ k) : t.size ≤ k := by
  rcases Nat.lt_or_ge k t.size with h1 | h1
  · have hne : t.data.toList ≠ [] := by intro e; have := len_toList t; rw [e] at this; simp at this; omega
    have h2 := num_ge hr hne
    rw [len_toList] at h2
    have h3 : 256 ^ k ≤ 256 ^ (t.size - 1) := Nat.pow_le_pow_right (by decide) (by omega)
    omega
  · exact h1
theorem canon_size_gt {t : ByteArray} {k : Nat} (h : 256 ^ k ≤ num t.data.toList) : k < t.size := by
  have h1 := num_lt t.data.toList
  rw [len_toList] at h1
  exact (Nat.pow_lt_pow_iff_right (by decide)).1 (Nat.lt_of_le_of_lt h h1)
theorem canon_first {t : ByteArray} (h8 : t.size = 8) : (t[0]'(by omega)).toNat * 256 ^ 7 ≤ num t.data.toList ∧ num t.data.toList < ((t[0]'(by omega)).toNat + 1) * 256 ^ 7 := by
  have hlen : (t.data.toList.drop 1).length = 7 := by rw [List.length_drop, len_toList, h8]
  have hnl := num_lt (t.data.toList.drop 1)
  rw [hlen] at hnl
  have hn : num t.data.toList = t[0].toNat * 256 ^ 7 + num (t.data.toList.drop 1) := by
    conv => lhs; rw [cons_of_size (show 0 < t.size by omega)]
    rw [num_cons, hlen]
  rw [Nat.add_mul]
  omega

theorem rint_yes (s : ByteArray) (w : World) (hs : s.size ≤ 1000000000000) (h : num s.data.toList ≤ 9223372036854775807) :
    Calls Tryd.prog 58 #[.string s] w fun e w' => e = .returned (.tuple #[.int .i64 ((num s.data.toList : Nat) : Int), .bool true]) ∧ w = w' := by
  have hrt : Rt (bytesOf s).data.toList := rt_canon _
  have hnum : num (bytesOf s).data.toList = num s.data.toList := num_canon _
  rw [← hnum] at h ⊢
  generalize ht : (bytesOf s) = t at hrt hnum h ⊢
  have HT := Lib.hid ht
  have h8 : t.size ≤ 8 := canon_size_le hrt (by omega)
  have hfirst : (t.size : Int) = 8 → ∃ h : 0 < t.size, (t[0].toNat : Int) ≤ 127 := fun e => by
    have h1 := (canon_first (t := t) (by omega)).1
    exact ⟨by omega, by omega⟩
  have HN := Lib.hid h
  clear ht hnum h hrt
  go_enter Tryd.func58, Tryd.ntmps58
  go_wp2_with fail
  refine (canon_any s _ hs).mono ?_
  rintro e w' ⟨rfl, rfl⟩
  rw [show (⟨(canon s.data.toList).toArray⟩ : ByteArray) = t from HT.out]
  have hlen8 : ¬ (8 : Int) < (t.size : Int) := by omega
  rcases Nat.lt_or_ge t.size 8 with h7 | h7
  · clear hfirst
    go_wp2
    go_loop [4, 5] (fun u v => ∃ (k n : Nat), k ≤ t.size ∧ v = .int .i64 k ∧ u = .int .i64 n ∧ Hid (n = num (t.data.toList.take k))) (fun _ v => t.size - (intOf v).toNat)
    case atStart => exact ⟨0, 0, Nat.zero_le _, rfl, rfl, rfl⟩
    case round =>
      obtain ⟨k, n, hk, rfl, rfl, HNK⟩ := hrel
      by_cases hlt : k < t.size
      · have hsucc := num_take_succ t hlt
        rw [← HNK.out] at hsucc
        have hle2 := num_take_le t.data.toList (k + 1)
        rw [hsucc] at hle2
        have hb := HN.out
        have HS := Lib.hid hsucc
        have hbound : 256 * n + t[k].toNat ≤ 9223372036854775807 := by omega
        clear hsucc hle2 hb
        go_wp2
        refine ⟨⟨k + 1, 256 * n + t[k].toNat, by omega, by go_num, ?_, HS.out.symm⟩, by simp [intOf]; omega⟩
        go_num
      · obtain rfl : k = t.size := by omega
        have hfin : n = num t.data.toList := by rw [HNK.out, List.take_of_length_le (by rw [len_toList]; omega)]
        have HF := Lib.hid hfin
        clear hfin
        go_wp2
        go_ret2
        exact ⟨by rw [← HF.out]; rfl, rfl⟩
  · obtain ⟨hpos, hle⟩ := hfirst (by omega)
    clear hfirst
    go_wp2
    go_loop [4, 5] (fun u v => ∃ (k n : Nat), k ≤ t.size ∧ v = .int .i64 k ∧ u = .int .i64 n ∧ Hid (n = num (t.data.toList.take k))) (fun _ v => t.size - (intOf v).toNat)
    case atStart => exact ⟨0, 0, Nat.zero_le _, rfl, rfl, rfl⟩
    case round =>
      obtain ⟨k, n, hk, rfl, rfl, HNK⟩ := hrel
      by_cases hlt : k < t.size
      · have hsucc := num_take_succ t hlt
        rw [← HNK.out] at hsucc
        have hle2 := num_take_le t.data.toList (k + 1)
        rw [hsucc] at hle2
        have hb := HN.out
        have HS := Lib.hid hsucc
        have hbound : 256 * n + t[k].toNat ≤ 9223372036854775807 := by omega
        clear hsucc hle2 hb
        go_wp2
        refine ⟨⟨k + 1, 256 * n + t[k].toNat, by omega, by go_num, ?_, HS.out.symm⟩, by simp [intOf]; omega⟩
        go_num
      · obtain rfl : k = t.size := by omega
        have hfin : n = num t.data.toList := by rw [HNK.out, List.take_of_length_le (by rw [len_toList]; omega)]
        have HF := Lib.hid hfin
        clear hfin
        go_wp2
        go_ret2
        exact ⟨by rw [← HF.out]; rfl, rfl⟩
theorem rint_no (s : ByteArray) (w : World) (hs : s.size ≤ 1000000000000) (h : 9223372036854775807 < num s.data.toList) :
    Calls Tryd.prog 58 #[.string s] w fun e w' => e = .returned (.tuple #[.int .i64 0, .bool false]) ∧ w = w' := by
  have hrt : Rt (bytesOf s).data.toList := rt_canon _
  have hnum : num (bytesOf s).data.toList = num s.data.toList := num_canon _
  rw [← hnum] at h
  generalize ht : (bytesOf s) = t at hrt hnum h
  have HT := Lib.hid ht
  have h8 : 7 < t.size := canon_size_gt (by omega)
  have hfirst : t.size = 8 → ∃ h : 0 < t.size, (127 : Int) < (t[0].toNat : Int) := fun e => by
    have h1 := (canon_first (t := t) e).2
    exact ⟨by omega, by omega⟩
  clear ht hnum h hrt
  go_enter Tryd.func58, Tryd.ntmps58
  go_wp2_with fail
  refine (canon_any s _ hs).mono ?_
  rintro e w' ⟨rfl, rfl⟩
  rw [show (⟨(canon s.data.toList).toArray⟩ : ByteArray) = t from HT.out]
  rcases Nat.lt_or_ge 8 t.size with h9 | h9
  · clear hfirst
    go_wp2
    go_ret2
    exact ⟨rfl, rfl⟩
  · obtain ⟨hpos, hle⟩ := hfirst (by omega)
    clear hfirst
    go_wp2
    go_ret2
    exact ⟨rfl, rfl⟩
theorem small_yes (s : ByteArray) (k : Nat) (hk : k ≤ 7) (w : World) (hs : s.size ≤ 1000000000000) (h : num s.data.toList < 256 ^ k) :
    Calls Tryd.prog 63 #[.string s, .int .i64 (k : Int)] w fun e w' => e = .returned (.tuple #[.int .i64 ((num s.data.toList : Nat) : Int), .bool true]) ∧ w = w' := by
  have hrt : Rt (bytesOf s).data.toList := rt_canon _
  have hnum : num (bytesOf s).data.toList = num s.data.toList := num_canon _
  have hsz : (bytesOf s).size ≤ k := canon_size_le hrt (by omega)
  have hle : num s.data.toList ≤ 9223372036854775807 := by
    have : 256 ^ k ≤ 256 ^ 7 := Nat.pow_le_pow_right (by decide) hk
    omega
  have HLE := Lib.hid hle
  generalize ht : (bytesOf s) = t at hsz
  have HT := Lib.hid ht
  clear ht hnum h hrt hle
  go_enter Tryd.func63, Tryd.ntmps63
  go_wp2_with fail
  refine (canon_any s _ hs).mono ?_
  rintro e w' ⟨rfl, rfl⟩
  rw [show (⟨(canon s.data.toList).toArray⟩ : ByteArray) = t from HT.out]
  have hd : ¬ (k : Int) < (t.size : Int) := by omega
  go_wp2_with fail
  refine (rint_yes s _ hs HLE.out).mono ?_
  rintro e w' ⟨rfl, rfl⟩
  generalize hN : num s.data.toList = N
  have HNN := Lib.hid hN
  clear hN
  go_wp2
  go_ret2
  exact ⟨by rw [HNN.out]; rfl, rfl⟩
theorem small_no (s : ByteArray) (k : Nat) (w : World) (hs : s.size ≤ 1000000000000) (h : 256 ^ k ≤ num s.data.toList) :
    Calls Tryd.prog 63 #[.string s, .int .i64 (k : Int)] w fun e w' => e = .returned (.tuple #[.int .i64 0, .bool false]) ∧ w = w' := by
  have hnum : num (bytesOf s).data.toList = num s.data.toList := num_canon _
  have hsz : k < (bytesOf s).size := canon_size_gt (by omega)
  generalize ht : (bytesOf s) = t at hsz
  have HT := Lib.hid ht
  clear ht hnum h
  go_enter Tryd.func63, Tryd.ntmps63
  go_wp2_with fail
  refine (canon_any s _ hs).mono ?_
  rintro e w' ⟨rfl, rfl⟩
  rw [show (⟨(canon s.data.toList).toArray⟩ : ByteArray) = t from HT.out]
  have hd : (k : Int) < (t.size : Int) := by omega
  go_wp2
  go_ret2
  exact ⟨rfl, rfl⟩

set_option maxRecDepth 100000 in
theorem rof_le (n : Int) (w : World) (h : n ≤ 0) :
    Calls Tryd.prog 52 #[.int .i64 n] w fun e w' => e = .returned (.string ⟨#[]⟩) ∧ w = w' := by
  have hcv := run_convert_bytes_nil (P := Tryd.prog) w 90 5 Tryd.underlying90 Tryd.underlying5 0 0 56 Tryd.underlying56
  go_enter Tryd.func52, Tryd.ntmps52
  go_wp2
  go_loop [3, 4] (fun u v => u = .slice none 0 0 ∧ v = .int .i64 56) (fun _ _ => 0)
  case atStart => exact ⟨rfl, rfl⟩
  case round =>
    obtain ⟨rfl, rfl⟩ := hrel
    go_wp2_with fail
    refine (canon_any ByteArray.empty _ (Nat.zero_le _)).mono ?_
    rintro e w' ⟨rfl, rfl⟩
    rw [show (⟨(canon ByteArray.empty.data.toList).toArray⟩ : ByteArray) = ⟨#[]⟩ from rfl]
    go_wp2
    go_ret
    exact ⟨rfl, rfl⟩

/-- The bytes of n, the m last ones left out. -/
theorem of_byte {n m : Nat} : num (u8s [n / 256 ^ m % 256]) = n / 256 ^ m % 256 := by
  simp [u8s, num]
theorem u8s_append (a b : List Nat) : u8s (a ++ b) = u8s a ++ u8s b := by simp [u8s]
theorem of_step {l : List Nat} {n m : Nat} (h : num (u8s l) = n / 256 ^ (m + 1)) : num (u8s (l ++ [n / 256 ^ m % 256])) = n / 256 ^ m := by
  rw [u8s_append, show u8s [n / 256 ^ m % 256] = [UInt8.ofNat (n / 256 ^ m % 256)] from rfl, num_snoc, h, Nat.pow_succ, ← Nat.div_div_eq_div_mul]
  have : (UInt8.ofNat (n / 256 ^ m % 256)).toNat = n / 256 ^ m % 256 := by simp
  rw [this]; omega

set_option maxHeartbeats 2000000 in
set_option maxRecDepth 100000 in
theorem rof_pos (n : Nat) (w : World) (h0 : 0 < n) (h : n ≤ 9223372036854775807) :
    Calls Tryd.prog 52 #[.int .i64 (n : Int)] w fun e w' => e = .returned (.string ⟨(enc n).toArray⟩) ∧ w.grownBy w' none := by
  obtain ⟨i0, hi, hz0, hz1, hz2⟩ := info_parts infoB
  have hn8 : n / 256 ^ 8 = 0 := Nat.div_eq_of_lt (by omega)
  have HB := Lib.hid (show num (u8s []) = n / 256 ^ 8 from by rw [hn8]; rfl)
  clear hn8
  go_enter Tryd.func52, Tryd.ntmps52
  go_wp2
  go_loopw [3, 4] (fun u v wr => ∃ (m : Nat) (l : List Nat), m ≤ 8 ∧ v = .int .i64 (8 * (m : Int) - 8) ∧ Acc .u8 5 w wr u l ∧ l.length + m = 8 ∧ Hid (num (u8s l) = n / 256 ^ m)) (fun _ v _ => (intOf v + 8).toNat)
  case atStart => exact ⟨8, [], Nat.le_refl _, rfl, .nil _ _ _, rfl, HB⟩
  case round =>
    obtain ⟨m, l, hm, rfl, hacc, hlen, HN⟩ := hrel
    rcases m with _ | m
    · have HA := Lib.hid hacc
      have hcv := hacc.str (P := Tryd.prog) 90 56 Tryd.underlying90 Tryd.underlying5 Tryd.underlying56
      have hl8 : l.length = 8 := by omega
      have hsz : (⟨(u8s l).toArray⟩ : ByteArray).size ≤ 1000000000000 := by
        have : (⟨(u8s l).toArray⟩ : ByteArray).size = l.length := by show (u8s l).toArray.size = _; simp [u8s]
        omega
      generalize hstr : (⟨(u8s l).toArray⟩ : ByteArray) = str at hcv hsz
      have HSTR := Lib.hid hstr
      clear hstr hacc hi hz0 hz1 hz2 hl8
      go_wp2_with fail
      refine (canon_any str _ hsz).mono ?_
      rintro e w' ⟨rfl, rfl⟩
      have hfin : (⟨(canon str.data.toList).toArray⟩ : ByteArray) = ⟨(enc n).toArray⟩ := by
        rw [← HSTR.out, ← enc_num_canon]
        have h1 := HN.out
        rw [Nat.pow_zero, Nat.div_one] at h1
        rw [h1]
      rw [hfin]
      go_wp2
      go_ret
      exact ⟨rfl, HA.out.gr⟩
    · rw [show 8 * ((m + 1 : Nat) : Int) - 8 = 8 * (m : Int) from by omega]
      have hbv : ((n : Int) / (2 : Int) ^ (8 * m) % 256) = ((n / 256 ^ m % 256 : Nat) : Int) := byte_word n m
      have HBV := Lib.hid hbv
      obtain ⟨d, hd⟩ : ∃ d, d = n / 256 ^ m % 256 := ⟨_, rfl⟩
      have HNX := Lib.hid (of_step HN.out)
      rw [← hd] at HNX
      have HD := Lib.hid hd
      have hnpos : (0 : Int) < (n : Int) := by omega
      have hm8 : (0 : Int) ≤ 8 * (m : Int) := by omega
      clear hd hbv
      go_wp2_with (at_builtin; rw [HBV.out, ← HD.out]; refine wpList_acc rfl (.tmp 13) (.tmp 18) 90 rfl .u8 5 i0 1 Tryd.underlying90 hi hz0 hz1 hz2 _ l [d] hacc rfl rfl (by simp) ?_ ?_ ?_)
      case refine_1 => unfold maxLen; simp; omega
      case refine_2 => simp; omega
      intro v' w' hacc'
      clear hacc hi hz0 hz1 hz2
      go_wp2
      refine ⟨⟨m, l ++ [d], by omega, by rfl, hacc', by simp; omega, HNX⟩, ?_⟩
      simp [intOf]; omega
theorem rof_any (n : Nat) (w : World) (h : n ≤ 9223372036854775807) :
    Calls Tryd.prog 52 #[.int .i64 (n : Int)] w fun e w' => e = .returned (.string ⟨(enc n).toArray⟩) ∧ w.grownBy w' none := by
  rcases Nat.eq_zero_or_pos n with h0 | h0
  · subst h0
    refine (rof_le 0 w (Int.le_refl _)).mono ?_
    rintro e w' ⟨rfl, rfl⟩
    exact ⟨by rw [enc_zero], World.grownBy.refl _ _⟩
  · exact rof_pos n w h0 h
end Go.Proofs.YtmlmjhlakpgagaaDoor
