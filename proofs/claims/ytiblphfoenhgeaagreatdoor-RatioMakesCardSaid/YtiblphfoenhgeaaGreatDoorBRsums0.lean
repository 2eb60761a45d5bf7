/- The law of the claim at the level of the call, and its row: Rw, RowQ, Rsums, RsumsRow. -/
import Derived.Test.YtiblphfoenhgeaaGreatDoorBRat17
namespace Go.Proofs.YtiblphfoenhgeaaGreatDoor
open Go.RowKit Mth Go.Lib

theorem three2 {w v : World} {A B C : Nat} {x y z x1 y1 z1 x2 y2 z2 : Value} {t : TypeId} (hC : Three v C x y z t) (hB : Three v B x2 y2 z2 t) (hG : w.grownBy v none) (lA : w.heap.size ≤ A) (lB : w.heap.size ≤ B) (nAB : B ≠ A) (nA : C ≠ A) (nB : C ≠ B) :
    Three ((((((v.setCell ⟨A, 0, none⟩ x1).setCell ⟨A, 1, none⟩ y1).setCell ⟨A, 2, none⟩ z1).setCell ⟨B, 0, none⟩ x2).setCell ⟨B, 1, none⟩ y2).setCell ⟨B, 2, none⟩ z2) B x2 y2 z2 t ∧ Three ((((((v.setCell ⟨A, 0, none⟩ x1).setCell ⟨A, 1, none⟩ y1).setCell ⟨A, 2, none⟩ z1).setCell ⟨B, 0, none⟩ x2).setCell ⟨B, 1, none⟩ y2).setCell ⟨B, 2, none⟩ z2) C x y z t ∧ w.grownBy ((((((v.setCell ⟨A, 0, none⟩ x1).setCell ⟨A, 1, none⟩ y1).setCell ⟨A, 2, none⟩ z1).setCell ⟨B, 0, none⟩ x2).setCell ⟨B, 1, none⟩ y2).setCell ⟨B, 2, none⟩ z2) none :=
  ⟨(hB.oth3 nAB _ _ _).all _ _ _, (hC.oth3 nA _ _ _).oth3 nB _ _ _, gr_set3 (gr_set3 hG lA _ _ _) lB _ _ _⟩
set_option maxHeartbeats 3000000 in
set_option maxRecDepth 100000 in
theorem quoq_zero (p q : Rat) (k : Nat) (w : World) (h0 : q = 0) (hp : Bd k p) (hq : Bd k q) (hk : k ≤ 1000) : Gives 39 #[RV p, RV q] w (.tuple #[.agg #[.bool false, .string ⟨#[]⟩, .string ⟨#[]⟩], .bool false]) := by
  have HV1 := Lib.hid (fun w => value_rv p k w hp (by omega))
  have HV2 := Lib.hid (fun w => value_rv q k w hq (by omega))
  have hn : q.num.natAbs = 0 := num_abs_zero.2 h0
  have e1 : (S q.num.natAbs).toList = [] := by rw [hn]; exact tl_zero
  have e2 : (S q.num.natAbs).toList.isEmpty = true := by rw [hn, tl_zero]; rfl
  clear hk hp hq h0 hn
  unfold RV RW at *
  generalize decide (p.num < 0) = a at *
  generalize decide (q.num < 0) = b at *
  generalize S p.num.natAbs = pn at *
  generalize S p.den = pd at *
  generalize S q.num.natAbs = qn at *
  generalize S q.den = qd at *
  have n01 : w.heap.size ≠ w.heap.size + 1 := by omega
  have n10 : w.heap.size + 1 ≠ w.heap.size := by omega
  have n02 : w.heap.size ≠ w.heap.size + 1 + 1 := by omega
  have n20 : w.heap.size + 1 + 1 ≠ w.heap.size := by omega
  have n12 : w.heap.size + 1 ≠ w.heap.size + 1 + 1 := by omega
  have n21 : w.heap.size + 1 + 1 ≠ w.heap.size + 1 := by omega
  have hA0 := (((Three.new w (.bool a) (.string pn) (.string pd) 49).alloc (.cells #[.bool b, .string qn, .string qd] 49)).alloc (.cells #[.bool false, .string ⟨#[]⟩, .string ⟨#[]⟩] 49)).drew
  have hB0 := ((Three.new1 w (.cells #[.bool a, .string pn, .string pd] 49) (.bool b) (.string qn) (.string qd) 49).alloc (.cells #[.bool false, .string ⟨#[]⟩, .string ⟨#[]⟩] 49)).drew
  have hC0 := (Three.new2 w (.cells #[.bool a, .string pn, .string pd] 49) (.cells #[.bool b, .string qn, .string qd] 49) (.bool false) (.string ⟨#[]⟩) (.string ⟨#[]⟩) 49).drew
  have G0 : w.grownBy ((((w.alloc (.cells #[.bool a, .string pn, .string pd] 49)).alloc (.cells #[.bool b, .string qn, .string qd] 49)).alloc (.cells #[.bool false, .string ⟨#[]⟩, .string ⟨#[]⟩] 49)).drew) none := gr_dr (gr_al (gr_al (gr_al (gr_rfl _))))
  go_enter Tryz.func39, Tryz.ntmps39
  go_wp2_with fail
  have a0 := hA0.c0
  have b0 := hB0.c0
  have a1 := hA0.c1
  have b1 := hB0.c1
  have a2 := hA0.c2
  have b2 := hB0.c2
  go_cut [] from 6 to 10 (fun wx => Three wx (w.heap.size + 1) (.bool b) (.string qn) (.string qd) 49 ∧ Three wx (w.heap.size + 1 + 1) (.bool false) (.string ⟨#[]⟩) (.string ⟨#[]⟩) 49 ∧ w.grownBy wx none)
  case first =>
    go_region_with (first
      | (go_at_call_of 102 ((Value.agg #[Value.bool a, Value.string pn, Value.string pd])); refine (HV1.out _).mono ?_; rintro e v1 ⟨rfl, gv1⟩; have hAv1 : Three v1 (w.heap.size) (.bool a) (.string pn) (.string pd) 49 := Three.kept (by assumption) gv1; have hBv1 : Three v1 (w.heap.size + 1) (.bool b) (.string qn) (.string qd) 49 := Three.kept (by assumption) gv1; have hCv1 : Three v1 (w.heap.size + 1 + 1) (.bool false) (.string ⟨#[]⟩) (.string ⟨#[]⟩) 49 := Three.kept (by assumption) gv1; have Gv1 : w.grownBy v1 none := gr_then (by assumption) gv1; have fa0v1 := hAv1.fr 0; have fb0v1 := hBv1.fr 0; have xa0v1 := hAv1.c0; have xb0v1 := hBv1.c0; have fa1v1 := hAv1.fr 1; have fb1v1 := hBv1.fr 1; have xa1v1 := hAv1.c1; have xb1v1 := hBv1.c1; have fa2v1 := hAv1.fr 2; have fb2v1 := hBv1.fr 2; have xa2v1 := hAv1.c2; have xb2v1 := hBv1.c2)
      | (go_at_call_of 102 ((Value.agg #[Value.bool b, Value.string qn, Value.string qd])); refine (HV2.out _).mono ?_; rintro e v2 ⟨rfl, gv2⟩; have hAv2 : Three v2 (w.heap.size) (.bool a) (.string pn) (.string pd) 49 := Three.kept (by assumption) gv2; have hBv2 : Three v2 (w.heap.size + 1) (.bool b) (.string qn) (.string qd) 49 := Three.kept (by assumption) gv2; have hCv2 : Three v2 (w.heap.size + 1 + 1) (.bool false) (.string ⟨#[]⟩) (.string ⟨#[]⟩) 49 := Three.kept (by assumption) gv2; have Gv2 : w.grownBy v2 none := gr_then (by assumption) gv2; have fa0v2 := hAv2.fr 0; have fb0v2 := hBv2.fr 0; have xa0v2 := hAv2.c0; have xb0v2 := hBv2.c0; have fa1v2 := hAv2.fr 1; have fb1v2 := hBv2.fr 1; have xa1v2 := hAv2.c1; have xb1v2 := hBv2.c1; have fa2v2 := hAv2.fr 2; have fb2v2 := hBv2.fr 2; have xa2v2 := hAv2.c2; have xb2v2 := hBv2.c2))
    all_goals
      go_wp2_with fail
      go_meet
      first
      | with_reducible exact three2 hCv2 hBv2 Gv2 (Nat.le_refl _) (Nat.le_succ _) n10 n20 n21
      | with_reducible exact three2 hCv1 hBv1 Gv1 (Nat.le_refl _) (Nat.le_succ _) n10 n20 n21
  case rest =>
    clear a0 b0 a1 b1 a2 b2 hA0 hB0 hC0 G0
    obtain ⟨hB, hC, G⟩ := hcut
    have HG := Lib.hid G
    clear G
    have b0 := hB.c0
    have b1 := hB.c1
    have b2 := hB.c2
    have k0 := hC.c0
    have k1 := hC.c1
    have k2 := hC.c2
    have f0 := hC.fr 0
    have f1 := hC.fr 1
    have f2 := hC.fr 2
    go_wp2
    exact bodyPost_ret (v := .tuple #[.agg #[.bool false, .string ⟨#[]⟩, .string ⟨#[]⟩], .bool false]) (by simp [results, Tryz.results39, go_sem, k0, k1, k2]) rfl ⟨rfl, gr_set3 HG.out (by omega) _ _ _⟩
end Go.Proofs.YtiblphfoenhgeaaGreatDoor
namespace Go.Proofs.YtiblphfoenhgeaaGreatDoor
open Go.ChangeShapes Go.WideShapes Go.ChangeAt Go.RowKit Mth

theorem wf_i64 {n : Int} (h : (Lit.int .i64 n).wf = true) : -9223372036854775808 ≤ n ∧ n ≤ 9223372036854775807 := by
  have a1 : IntKind.i64.min = -9223372036854775808 := rfl
  have a2 : IntKind.i64.max = 9223372036854775807 := rfl
  simpa [Lit.wf, a1, a2] using h
set_option maxRecDepth 100000 in
/-- An argument that is an array of 3 numbers. -/
theorem arr3_arg {P : Program} {k : IntKind} {t e : TypeId} (ht : P.underlying t = some (.array 3 e)) (he : P.underlying e = some (.int k)) (hc : P.cellsOf t = 3) (hce : P.cellsOf e = 1) {H : Type} {enc : TypeId × Value → H} {W : World} {base : Nat} {v : Value} {d : DataW H} {p : List MemPlace} (hok : Value.okWide P W .any base t v) (h : DataW.Trod enc P W 0 (fun _ => true) true t v d p) : ∃ a0 a1 a2 : Int, v = .agg #[.int k a0, .int k a1, .int k a2] ∧ (Lit.int k a0).wf = true ∧ (Lit.int k a1).wf = true ∧ (Lit.int k a2).wf = true := by
  simp only [Value.okWide, ht] at hok
  obtain ⟨cs, rfl, hsz, _⟩ := hok
  obtain ⟨fuel, hf⟩ := h
  rw [hc] at hsz
  obtain ⟨x0, x1, x2, rfl⟩ : ∃ x0 x1 x2, cs = #[x0, x1, x2] := by
    rcases cs with ⟨l⟩
    match l, hsz with
    | [x0, x1, x2], _ => exact ⟨x0, x1, x2, rfl⟩
  obtain ⟨xs, m, _, _, _, hlen, hf2⟩ := DataW.trod_array ht hf
  have h0 := hf2 0 (by decide)
  have h1 := hf2 1 (by decide)
  have h2 := hf2 2 (by decide)
  rw [hce] at h0 h1 h2
  match xs, hlen with
  | [y0, y1, y2], _ =>
    obtain ⟨a0, e0, _, w0⟩ := DataW.trod_int he (x := y0) (by simpa using h0)
    obtain ⟨a1, e1, _, w1⟩ := DataW.trod_int he (x := y1) (by simpa using h1)
    obtain ⟨a2, e2, _, w2⟩ := DataW.trod_int he (x := y2) (by simpa using h2)
    simp [Value.cells] at e0 e1 e2
    exact ⟨a0, a1, a2, by rw [e0, e1, e2], w0, w1, w2⟩
end Go.Proofs.YtiblphfoenhgeaaGreatDoor
namespace Go.Proofs.YtiblphfoenhgeaaGreatDoor
open Go.RowKit Mth Go.Lib

/-- Quotients of the program and of the reference are the same. -/
theorem quo_both (p q : Rat) (h1 : Bd 16 p) (h2 : Bd 16 q) : ∃ (a : Bool) (x y : ByteArray) (o : Bool), (∀ w, Gives 39 #[RV p, RV q] w (.tuple #[.agg #[.bool a, .string x, .string y], .bool o])) ∧ (∀ w, Gives 40 #[RV p, RV q] w (.tuple #[.agg #[.bool a, .string x, .string y], .bool o])) := by
  by_cases h : q = 0
  · exact ⟨_, _, _, _, fun w => quoq_zero p q 16 w h h1 h2 (by decide), fun w => rquoq_zero p q 16 w h h1 h2 (by decide)⟩
  · exact ⟨_, _, _, _, fun w => quoq_dev p q 16 w h h1 h2 (by decide), fun w => rquoq_pos p q 16 w h h1 h2 (by decide)⟩
theorem rv_parts (q : Rat) : ∃ (a : Bool) (x y : ByteArray), RV q = .agg #[.bool a, .string x, .string y] := ⟨_, _, _, rfl⟩
set_option maxHeartbeats 8000000 in
set_option maxRecDepth 100000 in
theorem sumsq_true (q0 q1 q2 q3 q4 q5 : Int) (W : World) (htab : Tab W) (h0 : -9223372036854775808 ≤ q0 ∧ q0 ≤ 9223372036854775807) (h1 : -9223372036854775808 ≤ q1 ∧ q1 ≤ 9223372036854775807) (h2 : -9223372036854775808 ≤ q2 ∧ q2 ≤ 9223372036854775807) (h3 : -9223372036854775808 ≤ q3 ∧ q3 ≤ 9223372036854775807) (h4 : -9223372036854775808 ≤ q4 ∧ q4 ≤ 9223372036854775807) (h5 : -9223372036854775808 ≤ q5 ∧ q5 ≤ 9223372036854775807) :
    Gives 8 #[.agg #[.int .i64 q0, .int .i64 q1, .int .i64 q2], .agg #[.int .i64 q3, .int .i64 q4, .int .i64 q5]] W (.bool true) := by
  obtain ⟨p, bp, mp⟩ := madeq_any q0 q1 q2 h0 h1 h2
  obtain ⟨q, bq, mq⟩ := madeq_any q3 q4 q5 h3 h4 h5
  unfold MadeQ at mp mq
  obtain ⟨qa, qx, qy, qo, HQ1, HQ2⟩ := quo_both p q bp bq
  have HS0 := Lib.hid (sanityq_true)
  have HT := Lib.hid htab
  have HA1 := Lib.hid (fun w => addq_any p q 16 w bp bq (by decide))
  have HA2 := Lib.hid (fun w => raddq_any p q 16 w bp bq (by decide))
  have HB1 := Lib.hid (fun w => subq_any p q 16 w bp bq (by decide))
  have HB2 := Lib.hid (fun w => rsubq_any p q 16 w bp bq (by decide))
  have HM1 := Lib.hid (fun w => mulq_any p q 16 w bp bq (by decide))
  have HM2 := Lib.hid (fun w => rmulq_any p q 16 w bp bq (by decide))
  have HC1 := Lib.hid (fun w => cmpq_any p q 16 w bp bq (by decide))
  have HC2 := Lib.hid (fun w => rcmpq_any p q 16 w bp bq (by decide))
  have HG1 := Lib.hid (fun w => signq_any p 16 w bp (by decide))
  have HG2 := Lib.hid (fun w => rsignq_any p 16 w bp (by decide))
  have HN1 := Lib.hid (fun w => negq_any p 16 w bp (by decide))
  have HN2 := Lib.hid (fun w => rnegq_any p 16 w bp (by decide))
  have MP := Lib.hid mp
  have MQ := Lib.hid mq
  have HQ1' := Lib.hid HQ1
  have HQ2' := Lib.hid HQ2
  clear HQ1 HQ2
  have HQ1 := HQ1'
  have HQ2 := HQ2'
  clear HQ1' HQ2'
  clear mp mq htab bp bq h0 h1 h2 h3 h4 h5
  generalize cmpQ p q = cz at *
  generalize sgnQ p = sz at *
  obtain ⟨aa, ax, ay, ea⟩ := rv_parts (p + q)
  obtain ⟨ba, bx, by', eb⟩ := rv_parts (p - q)
  obtain ⟨ma, mx, my, em⟩ := rv_parts (p * q)
  obtain ⟨na, nx, ny, en⟩ := rv_parts (-p)
  obtain ⟨a, pn, pd, ep⟩ := rv_parts p
  obtain ⟨b, qn, qd, eq⟩ := rv_parts q
  rw [ea] at HA1 HA2
  rw [eb] at HB1 HB2
  rw [em] at HM1 HM2
  rw [en] at HN1 HN2
  rw [ep] at HA1 HA2 HB1 HB2 HM1 HM2 HC1 HC2 HG1 HG2 HN1 HN2 MP HQ1 HQ2
  rw [eq] at HA1 HA2 HB1 HB2 HM1 HM2 HC1 HC2 MQ HQ1 HQ2
  clear ea eb em en ep eq
  go_enter Tryz.func8, Tryz.ntmps8
  have P0 := (Three.new W (.int .i64 q0) (.int .i64 q1) (.int .i64 q2) 47).alloc (.cells #[.int .i64 q3, .int .i64 q4, .int .i64 q5] 47)
  have X0 := Three.new1 W (.cells #[.int .i64 q0, .int .i64 q1, .int .i64 q2] 47) (.int .i64 q3) (.int .i64 q4) (.int .i64 q5) 47
  have G0 := Lib.hid (gr_al (o := .cells #[.int .i64 q3, .int .i64 q4, .int .i64 q5] 47) (gr_al (o := .cells #[.int .i64 q0, .int .i64 q1, .int .i64 q2] 47) (gr_rfl W)))
  go_wp2_with fail
  refine (HS0.out _ (tab_gr HT.out G0.out)).mono ?_
  rintro e w1 ⟨rfl, g1⟩
  have P1 := P0.kept g1
  have X1 := X0.kept g1
  have G1 := Lib.hid (gr_then G0.out g1)
  have c0 := P1.c0
  have c1 := P1.c1
  have c2 := P1.c2
  clear g1 P0 X0 G0
  go_wp2_with fail
  refine (MP.out _).mono ?_
  rintro e w2 ⟨rfl, g1⟩
  have X2 := (X1.kept g1).alloc (.cells #[.bool a, .string pn, .string pd] 49)
  have A2 := Three.new w2 (.bool a) (.string pn) (.string pd) 49
  have G2 := Lib.hid (gr_al (o := .cells #[.bool a, .string pn, .string pd] 49) (gr_then G1.out g1))
  clear g1 P1 X1 G1 c0 c1 c2
  have c0 := X2.c0
  have c1 := X2.c1
  have c2 := X2.c2
  go_wp2_with fail
  refine (MQ.out _).mono ?_
  rintro e w3 ⟨rfl, g1⟩
  have A3 := (A2.kept g1).alloc (.cells #[.bool b, .string qn, .string qd] 49)
  have B3 := Three.new w3 (.bool b) (.string qn) (.string qd) 49
  have G3 := Lib.hid (gr_al (o := .cells #[.bool b, .string qn, .string qd] 49) (gr_then G2.out g1))
  clear g1 X2 A2 G2 c0 c1 c2
  have c0 := A3.c0
  have c1 := A3.c1
  have c2 := A3.c2
  go_wp2_with fail
  refine (HQ1.out _).mono ?_
  rintro e w4 ⟨rfl, g1⟩
  have A4 := (A3.kept g1).alloc (.cells #[.bool qa, .string qx, .string qy] 49)
  have B4 := (B3.kept g1).alloc (.cells #[.bool qa, .string qx, .string qy] 49)
  have Q4 := Three.new w4 (.bool qa) (.string qx) (.string qy) 49
  have G4 := Lib.hid (gr_al (o := .cells #[.bool qa, .string qx, .string qy] 49) (gr_then G3.out g1))
  clear g1 A3 B3 G3 c0 c1 c2
  have c0 := A4.c0
  have c1 := A4.c1
  have c2 := A4.c2
  have d0 := B4.c0
  have d1 := B4.c1
  have d2 := B4.c2
  go_wp2_with fail
  refine (HQ2.out _).mono ?_
  rintro e w5 ⟨rfl, g1⟩
  have A5 := ((A4.kept g1).alloc (.cells #[.bool qa, .string qx, .string qy] 49)).drew
  have B5 := ((B4.kept g1).alloc (.cells #[.bool qa, .string qx, .string qy] 49)).drew
  have Q5 := ((Q4.kept g1).alloc (.cells #[.bool qa, .string qx, .string qy] 49)).drew
  have R5 := (Three.new w5 (.bool qa) (.string qx) (.string qy) 49).drew
  have G5 := gr_dr (gr_al (o := .cells #[.bool qa, .string qx, .string qy] 49) (gr_then G4.out g1))
  clear g1 A4 B4 Q4 G4 c0 c1 c2 d0 d1 d2
  have c0 := A5.c0
  go_wp2_with fail
  go_region_held3 (fun w' => w'.cell? ⟨w2.heap.size, 0, none⟩ = some (.bool a) ∧ w'.cell? ⟨w2.heap.size, 1, none⟩ = some (.string pn) ∧ w'.cell? ⟨w2.heap.size, 2, none⟩ = some (.string pd) ∧ w'.cell? ⟨w3.heap.size, 0, none⟩ = some (.bool b) ∧ w'.cell? ⟨w3.heap.size, 1, none⟩ = some (.string qn) ∧ w'.cell? ⟨w3.heap.size, 2, none⟩ = some (.string qd) ∧ w'.cell? ⟨w4.heap.size, 0, none⟩ = some (.bool qa) ∧ w'.cell? ⟨w4.heap.size, 1, none⟩ = some (.string qx) ∧ w'.cell? ⟨w4.heap.size, 2, none⟩ = some (.string qy) ∧ w'.cell? ⟨w5.heap.size, 0, none⟩ = some (.bool qa) ∧ w'.cell? ⟨w5.heap.size, 1, none⟩ = some (.string qx) ∧ w'.cell? ⟨w5.heap.size, 2, none⟩ = some (.string qy)) (first | exact ⟨Three.c0 (by assumption), Three.c1 (by assumption), Three.c2 (by assumption), Three.c0 (by assumption), Three.c1 (by assumption), Three.c2 (by assumption), Three.c0 (by assumption), Three.c1 (by assumption), Three.c2 (by assumption), Three.c0 (by assumption), Three.c1 (by assumption), Three.c2 (by assumption)⟩ | go_keep)
    (first
    | (go_at_call 41; with_reducible refine (HA1.out _).mono ?_; rintro e v1 ⟨rfl, g1⟩; have TA : Three v1 (w2.heap.size) (.bool a) (.string pn) (.string pd) 49 := Three.kept (by assumption) g1; have TB : Three v1 (w3.heap.size) (.bool b) (.string qn) (.string qd) 49 := Three.kept (by assumption) g1; have TQ : Three v1 (w4.heap.size) (.bool qa) (.string qx) (.string qy) 49 := Three.kept (by assumption) g1; have TR : Three v1 (w5.heap.size) (.bool qa) (.string qx) (.string qy) 49 := Three.kept (by assumption) g1; have GG : W.grownBy v1 none := gr_then (by assumption) g1)
    | (go_at_call 42; with_reducible refine (HA2.out _).mono ?_; rintro e v1 ⟨rfl, g1⟩; have TA : Three v1 (w2.heap.size) (.bool a) (.string pn) (.string pd) 49 := Three.kept (by assumption) g1; have TB : Three v1 (w3.heap.size) (.bool b) (.string qn) (.string qd) 49 := Three.kept (by assumption) g1; have TQ : Three v1 (w4.heap.size) (.bool qa) (.string qx) (.string qy) 49 := Three.kept (by assumption) g1; have TR : Three v1 (w5.heap.size) (.bool qa) (.string qx) (.string qy) 49 := Three.kept (by assumption) g1; have GG : W.grownBy v1 none := gr_then (by assumption) g1)
    | (go_at_call 43; with_reducible refine (HB1.out _).mono ?_; rintro e v1 ⟨rfl, g1⟩; have TA : Three v1 (w2.heap.size) (.bool a) (.string pn) (.string pd) 49 := Three.kept (by assumption) g1; have TB : Three v1 (w3.heap.size) (.bool b) (.string qn) (.string qd) 49 := Three.kept (by assumption) g1; have TQ : Three v1 (w4.heap.size) (.bool qa) (.string qx) (.string qy) 49 := Three.kept (by assumption) g1; have TR : Three v1 (w5.heap.size) (.bool qa) (.string qx) (.string qy) 49 := Three.kept (by assumption) g1; have GG : W.grownBy v1 none := gr_then (by assumption) g1)
    | (go_at_call 44; with_reducible refine (HB2.out _).mono ?_; rintro e v1 ⟨rfl, g1⟩; have TA : Three v1 (w2.heap.size) (.bool a) (.string pn) (.string pd) 49 := Three.kept (by assumption) g1; have TB : Three v1 (w3.heap.size) (.bool b) (.string qn) (.string qd) 49 := Three.kept (by assumption) g1; have TQ : Three v1 (w4.heap.size) (.bool qa) (.string qx) (.string qy) 49 := Three.kept (by assumption) g1; have TR : Three v1 (w5.heap.size) (.bool qa) (.string qx) (.string qy) 49 := Three.kept (by assumption) g1; have GG : W.grownBy v1 none := gr_then (by assumption) g1)
    | (go_at_call 45; with_reducible refine (HM1.out _).mono ?_; rintro e v1 ⟨rfl, g1⟩; have TA : Three v1 (w2.heap.size) (.bool a) (.string pn) (.string pd) 49 := Three.kept (by assumption) g1; have TB : Three v1 (w3.heap.size) (.bool b) (.string qn) (.string qd) 49 := Three.kept (by assumption) g1; have TQ : Three v1 (w4.heap.size) (.bool qa) (.string qx) (.string qy) 49 := Three.kept (by assumption) g1; have TR : Three v1 (w5.heap.size) (.bool qa) (.string qx) (.string qy) 49 := Three.kept (by assumption) g1; have GG : W.grownBy v1 none := gr_then (by assumption) g1)
    | (go_at_call 46; with_reducible refine (HM2.out _).mono ?_; rintro e v1 ⟨rfl, g1⟩; have TA : Three v1 (w2.heap.size) (.bool a) (.string pn) (.string pd) 49 := Three.kept (by assumption) g1; have TB : Three v1 (w3.heap.size) (.bool b) (.string qn) (.string qd) 49 := Three.kept (by assumption) g1; have TQ : Three v1 (w4.heap.size) (.bool qa) (.string qx) (.string qy) 49 := Three.kept (by assumption) g1; have TR : Three v1 (w5.heap.size) (.bool qa) (.string qx) (.string qy) 49 := Three.kept (by assumption) g1; have GG : W.grownBy v1 none := gr_then (by assumption) g1))
  all_goals
    have A6 : Three v1 w2.heap.size (.bool a) (.string pn) (.string pd) 49 := by assumption
    have B6 : Three v1 w3.heap.size (.bool b) (.string qn) (.string qd) 49 := by assumption
    have G6 : W.grownBy v1 none := by assumption
    go_wp2_with fail
    have A7 := A6.drew
    have B7 := B6.drew
    have G7 := gr_dr G6
    go_region_held3 (fun w' => w'.cell? ⟨w2.heap.size, 0, none⟩ = some (.bool a) ∧ w'.cell? ⟨w2.heap.size, 1, none⟩ = some (.string pn) ∧ w'.cell? ⟨w2.heap.size, 2, none⟩ = some (.string pd) ∧ w'.cell? ⟨w3.heap.size, 0, none⟩ = some (.bool b) ∧ w'.cell? ⟨w3.heap.size, 1, none⟩ = some (.string qn) ∧ w'.cell? ⟨w3.heap.size, 2, none⟩ = some (.string qd)) (first | exact ⟨Three.c0 (by assumption), Three.c1 (by assumption), Three.c2 (by assumption), Three.c0 (by assumption), Three.c1 (by assumption), Three.c2 (by assumption)⟩ | go_keep)
      (first
      | (go_at_call 47; with_reducible refine (HC1.out _).mono ?_; rintro e v1 ⟨rfl, g1⟩; have TA : Three v1 (w2.heap.size) (.bool a) (.string pn) (.string pd) 49 := Three.kept (by assumption) g1; have TB : Three v1 (w3.heap.size) (.bool b) (.string qn) (.string qd) 49 := Three.kept (by assumption) g1; have GG : W.grownBy v1 none := gr_then (by assumption) g1)
      | (go_at_call 48; with_reducible refine (HC2.out _).mono ?_; rintro e v1 ⟨rfl, g1⟩; have TA : Three v1 (w2.heap.size) (.bool a) (.string pn) (.string pd) 49 := Three.kept (by assumption) g1; have TB : Three v1 (w3.heap.size) (.bool b) (.string qn) (.string qd) 49 := Three.kept (by assumption) g1; have GG : W.grownBy v1 none := gr_then (by assumption) g1)
      | (go_at_call 49; with_reducible refine (HG1.out _).mono ?_; rintro e v1 ⟨rfl, g1⟩; have TA : Three v1 (w2.heap.size) (.bool a) (.string pn) (.string pd) 49 := Three.kept (by assumption) g1; have TB : Three v1 (w3.heap.size) (.bool b) (.string qn) (.string qd) 49 := Three.kept (by assumption) g1; have GG : W.grownBy v1 none := gr_then (by assumption) g1)
      | (go_at_call 50; with_reducible refine (HG2.out _).mono ?_; rintro e v1 ⟨rfl, g1⟩; have TA : Three v1 (w2.heap.size) (.bool a) (.string pn) (.string pd) 49 := Three.kept (by assumption) g1; have TB : Three v1 (w3.heap.size) (.bool b) (.string qn) (.string qd) 49 := Three.kept (by assumption) g1; have GG : W.grownBy v1 none := gr_then (by assumption) g1)
      | (go_at_call 51; with_reducible refine (HN1.out _).mono ?_; rintro e v1 ⟨rfl, g1⟩; have TA : Three v1 (w2.heap.size) (.bool a) (.string pn) (.string pd) 49 := Three.kept (by assumption) g1; have TB : Three v1 (w3.heap.size) (.bool b) (.string qn) (.string qd) 49 := Three.kept (by assumption) g1; have GG : W.grownBy v1 none := gr_then (by assumption) g1)
      | (go_at_call 52; with_reducible refine (HN2.out _).mono ?_; rintro e v1 ⟨rfl, g1⟩; have TA : Three v1 (w2.heap.size) (.bool a) (.string pn) (.string pd) 49 := Three.kept (by assumption) g1; have TB : Three v1 (w3.heap.size) (.bool b) (.string qn) (.string qd) 49 := Three.kept (by assumption) g1; have GG : W.grownBy v1 none := gr_then (by assumption) g1))
    all_goals
      go_wp2
      go_ret
      exact ⟨rfl, by assumption⟩
end Go.Proofs.YtiblphfoenhgeaaGreatDoor
namespace Go.Proofs.YtiblphfoenhgeaaGreatDoor
open Go.ChangeShapes Go.WideShapes Go.ChangeAt Go.RowKit Mth

set_option maxRecDepth 1000000 in
theorem sumsq_laid (os : Os) (args : Array Value) : laidMet Tryz.prog Rows.ratioSumsRow.laid ((laidWorld os).forCall (fun _ _ => 0) ⟨#[], args, []⟩).memory :=
  have h : LaidIn Tryz.prog ((laidWorld os).forCall (fun _ _ => 0) ⟨#[], args, []⟩).memory Rows.ratioSumsRow.laid [4, 5, 2] :=
    LaidIn.of_run [4, 5, 2] 8 (by kernel_rfl) (by kernel_rfl) (by kernel_rfl) (by kernel_rfl)
  h.met
theorem sumsq_tab {w : World} (h : laidMet Tryz.prog Rows.ratioSumsRow.laid w) : Tab w :=
  Lib.tabIs_of_head (g := 2) (t := 178) (e := 96) (n := 20) (by kernel_rfl) (by kernel_rfl) (by kernel_rfl) (by kernel_rfl) (by kernel_rfl) (by kernel_rfl) (show laidMet Tryz.prog [("internal/strconv.uint64pow10", Lib.tabData .u64 Lib.pow10Tab)] w from h.tail.tail)

set_option maxRecDepth 1000000 in
set_option maxHeartbeats 4000000 in
theorem sumsq_lifted (os : Os) (started : os.Started) (H : Type) (enc : TypeId × Value → H) :
    ReturnsInHanded {} Tryz.checked os 8 .any (fun w args => (Rows.ratioSumsSpec.pre enc Tryz.prog Tryz.f8 Rows.ratioSumsRow.domain false w args ∧ laidMet Tryz.prog Rows.ratioSumsRow.laid w) ∧ sizedMet enc Tryz.prog Tryz.f8 (OpenSpec.ofChange Rows.ratioSumsSpec) false w args)
      (Rows.ratioSumsSpec.post enc Tryz.prog Tryz.f8 false true false false) := by
  refine returnsInHanded_of_change_and (C := Tryz.checked) (X := fun w _ => laidMet Tryz.prog Rows.ratioSumsRow.laid w) (fun _ _ _ hh h => h.of_heap hh) own0 started (by kernel_rfl) Tryz.func8
    (ChangeSpec.witness_at (enc := enc) (C := Tryz.checked) (os := os) (X := fun w _ => laidMet Tryz.prog Rows.ratioSumsRow.laid w) false (laidWorld os) #[.agg #[.int .i64 0, .int .i64 0, .int .i64 0], .agg #[.int .i64 0, .int .i64 0, .int .i64 0]] 8 rfl (by kernel_rfl) (by kernel_rfl) (by kernel_rfl) (by kernel_rfl) (by kernel_rfl) (sumsq_laid os _)) ?_
  intro W base args ds gs before hval0 hW hcnd0 _ hL _
  have hval : ∀ (j : Nat) t v, Tryz.f8.params[j]? = some t → args[j]? = some v → Value.okWide Tryz.prog W .any base t v := hval0
  have hW' := hW
  obtain ⟨p, q, hA0, hV, rfl, hfz, hnd⟩ := hW
  have hA : DataW.TrodAll enc Tryz.prog W 0 (fun _ => true) true Tryz.f8.params.toList args.toList ds p := hA0
  rw [Tryz.params8] at hA hval
  obtain ⟨v0, v1, d0, d1, p0, p1, rfl, rfl, rfl, h0, h1⟩ := trodAll_two hA
  obtain ⟨rfl, rfl⟩ := trodVars_none hV
  clear hA0 hval0 hA
  simp only [List.append_nil] at hW'
  have k0 := hval 0 47 v0 rfl rfl
  have k1 := hval 1 47 v1 rfl rfl
  obtain ⟨n0_0, n0_1, n0_2, rfl, w0_0, w0_1, w0_2⟩ := arr3_arg Tryz.underlying47 Tryz.underlying3 (by kernel_rfl) (by kernel_rfl) k0 h0
  obtain ⟨n1_0, n1_1, n1_2, rfl, w1_0, w1_1, w1_2⟩ := arr3_arg Tryz.underlying47 Tryz.underlying3 (by kernel_rfl) (by kernel_rfl) k1 h1
  refine (sumsq_true n0_0 n0_1 n0_2 n1_0 n1_1 n1_2 W (sumsq_tab hL) (wf_i64 w0_0) (wf_i64 w0_1) (wf_i64 w0_2) (wf_i64 w1_0) (wf_i64 w1_1) (wf_i64 w1_2)).mono fun e W' ⟨he, hg⟩ => ?_
  subst he
  have hb : Below W.heap.size W W' := gr_low hg (Nat.le_refl _)
  have hlt : ∀ x ∈ p0 ++ p1, x.block < W.heap.size := fun x hx => by simpa using hW'.lt x hx
  have hl0 : ∀ x ∈ p0, x.block < W.heap.size := fun x hx => hlt x (by simp [hx])
  have hl1 : ∀ x ∈ p1, x.block < W.heap.size := fun x hx => hlt x (by simp [hx])
  refine ⟨_, rfl, _, _, _, [], p0 ++ p1, [], hW', ?_, ?_, rfl, hb.frame _, fun h => by cases h⟩
  · exact trodAll_mk1 (shut_bool Tryz.underlying4 true)
  · have h3 := trodAll_mk2 (Below.trod laidOut0 (by kernel_rfl) (of_decide_eq_true (by kernel_rfl)) h0 hb hl0) (Below.trod laidOut0 (by kernel_rfl) (of_decide_eq_true (by kernel_rfl)) h1 hb hl1)
    exact h3

theorem sumsq_row : Rows.RatioSumsSaid :=
  OpenClaim.holds_of_wide 8 Tryz.f8 rfl rfl rfl rfl rfl rfl rfl ⟨rfl, rfl, rfl, rfl, rfl⟩ rfl rfl rfl rfl rfl (by kernel_rfl) Tryz.func8 (by kernel_rfl)
    (of_decide_eq_true (by kernel_rfl)) (by unfold Func.isWrapper; first | (rw [if_pos (by decide +kernel)]; kernel_rfl) | (rw [if_neg (by decide +kernel)]; exact ⟨rfl, rfl⟩))
    (fun os started H enc _ => sumsq_lifted os started H enc)
end Go.Proofs.YtiblphfoenhgeaaGreatDoor
