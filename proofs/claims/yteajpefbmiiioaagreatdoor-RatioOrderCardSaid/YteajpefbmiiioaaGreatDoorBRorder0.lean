/- The law of the claim at the level of the call, and its row: Rx, RowQ, RordN, RordZ, RordP, Rorder, RorderRow. -/
import Derived.Test.YteajpefbmiiioaaGreatDoorBRat17
namespace Go.Proofs.YteajpefbmiiioaaGreatDoor
open Go.RowKit Mth Go.Lib

theorem bd_fold {k : Nat} : ∀ (qs : List Rat) (p : Rat) (j : Nat), Bd j p → (∀ q ∈ qs, Bd k q) → Bd (j + (k + 1) * qs.length) (qs.foldl (· + ·) p)
  | [], p, j, h, _ => by simpa using h
  | q :: qs, p, j, h, hb => by
    have := bd_fold qs (p + q) (j + k + 1) (bd_add h (hb q (by simp))) (fun x hx => hb x (by simp [hx]))
    rw [List.foldl_cons, List.length_cons, show j + (k + 1) * (qs.length + 1) = j + k + 1 + (k + 1) * qs.length from by rw [Nat.mul_succ]; omega]
    exact this
set_option maxHeartbeats 2000000 in
set_option maxRecDepth 100000 in
theorem fold2_any (qs : List Rat) (k g o c : Nat) (w : World) (hr : Rats w g o qs) (hb : ∀ q ∈ qs, Bd k q) (hk : 1 + (k + 1) * qs.length ≤ 900) (hk2 : k ≤ 900) (hn : qs.length ≤ 1000) :
    Gives 111 #[.slice (some ⟨g, o, none⟩) qs.length c, RV 0, .func (.func 105) #[] #[]] w (RV (qs.foldl (· + ·) 0)) := by
  have HR := Lib.hid hr
  have HB := Lib.hid hb
  have HN := Lib.hid hn
  have HK := Lib.hid hk
  have HSUM := Lib.hid (fun (j : Nat) (hj : j < qs.length) w => sumq_any ((qs.take j).foldl (· + ·) 0) qs[j] 900 w (bd_mono (bd_fold (k := k) (qs.take j) 0 1 (bd1 (by decide) (by decide)) (fun q hq => hb q (List.mem_of_mem_take hq))) (by
    have : (k + 1) * (qs.take j).length ≤ (k + 1) * qs.length := Nat.mul_le_mul_left _ (by rw [List.length_take]; omega)
    omega)) (bd_mono (hb _ (List.getElem_mem hj)) hk2) (by decide))
  clear hr hb hk hk2
  obtain ⟨F, hF0, hFs, hFn, hFt⟩ : ∃ F : Nat → Rat, F 0 = 0 ∧ (∀ j (h : j < qs.length), F j + qs[j] = F (j + 1)) ∧ F qs.length = qs.foldl (· + ·) 0 ∧ ∀ j, (qs.take j).foldl (· + ·) 0 = F j :=
    ⟨fun j => (qs.take j).foldl (· + ·) 0, rfl, fun j h => by show (qs.take j).foldl (· + ·) 0 + qs[j] = (qs.take (j + 1)).foldl (· + ·) 0; rw [← List.take_append_getElem h, List.foldl_append]; rfl, by show (qs.take qs.length).foldl (· + ·) 0 = _; rw [List.take_length], fun j => rfl⟩
  have HS2 := Lib.hid (fun (j : Nat) (hj : j < qs.length) w => (by have h := HSUM.out j hj w; rw [hFt, hFs j hj] at h; exact h : Gives 105 #[RV (F j), RV qs[j]] w (RV (F (j + 1)))))
  rw [← hFn]
  have hz : RV 0 = .agg #[.bool (decide ((F 0).num < 0)), .string (S (F 0).num.natAbs), .string (S (F 0).den)] := by rw [hF0]; rfl
  rw [hz]
  clear hz HSUM hFt hFs hFn hF0
  have T0 := (Three.new w (.bool (decide ((F 0).num < 0))) (.string (S (F 0).num.natAbs)) (.string (S (F 0).den)) 49).alloc (.cells #[.bool false, .string ⟨#[]⟩, .string ⟨#[]⟩] 49)
  have U0 := Three.new1 w (.cells #[.bool (decide ((F 0).num < 0)), .string (S (F 0).num.natAbs), .string (S (F 0).den)] 49) (.bool false) (.string ⟨#[]⟩) (.string ⟨#[]⟩) 49
  have G0 := gr_al (o := .cells #[.bool false, .string ⟨#[]⟩, .string ⟨#[]⟩] 49) (gr_al (o := .cells #[.bool (decide ((F 0).num < 0)), .string (S (F 0).num.natAbs), .string (S (F 0).den)] 49) (gr_rfl w))
  have HT0 := Lib.hid T0
  have HU0 := Lib.hid U0
  have HG0 := Lib.hid G0
  clear T0 U0 G0
  have n01 : w.heap.size ≠ w.heap.size + 1 := by omega
  have n10 : w.heap.size + 1 ≠ w.heap.size := by omega
  unfold RV RW at *
  go_enter Tryz.func111, Tryz.ntmps111
  go_wp2
  go_loopw [11] (fun u wr => ∃ j : Nat, j ≤ qs.length ∧ u = .int .i64 j ∧ Three wr w.heap.size (.bool (decide ((F j).num < 0))) (.string (S (F j).num.natAbs)) (.string (S (F j).den)) 49 ∧ Three wr (w.heap.size + 1) (.bool false) (.string ⟨#[]⟩) (.string ⟨#[]⟩) 49 ∧ w.grownBy wr none) (fun u _ => qs.length - (RowKit.intOf u).toNat)
  case atStart => exact ⟨0, Nat.zero_le _, rfl, HT0.out, HU0.out, HG0.out⟩
  case round =>
    obtain ⟨j, hj, rfl, T1, U1, G1⟩ := hrel
    by_cases hlt : j < qs.length
    · obtain ⟨c0, c1, c2⟩ := HR.out.kept G1 j hlt
      have hb1 : (j : Int) < (qs.length : Int) := by omega
      have HV := Lib.hid (HS2.out j hlt)
      have T2 := T1.alloc (.cells #[.bool (decide (qs[j].num < 0)), .string (S qs[j].num.natAbs), .string (S qs[j].den)] 49)
      have U2 := U1.alloc (.cells #[.bool (decide (qs[j].num < 0)), .string (S qs[j].num.natAbs), .string (S qs[j].den)] 49)
      have G2 := gr_al (o := .cells #[.bool (decide (qs[j].num < 0)), .string (S qs[j].num.natAbs), .string (S qs[j].den)] 49) G1
      have a0 := T2.c0
      have a1 := T2.c1
      have a2 := T2.c2
      have b0 := T1.c0
      have b1 := T1.c1
      have b2 := T1.c2
      go_wp2_with fail
      refine (HV.out _).mono ?_
      rintro e w1 ⟨rfl, g1⟩
      have T3 := T2.kept g1
      have HT3 := Lib.hid T3
      have HU3 := Lib.hid (U2.kept g1)
      have HG3 := Lib.hid (gr_then G2 g1)
      have k0 := T3.c0
      have k1 := T3.c1
      have k2 := T3.c2
      have f0 := T3.fr 0
      have f1 := T3.fr 1
      have f2 := T3.fr 2
      clear T3 T2 U2 G2 g1 T1 U1 G1 c0 c1 c2 a0 a1 a2 b0 b1 b2
      go_wp2
      exact ⟨⟨j + 1, by omega, by go_num, HT3.out.all _ _ _, HU3.out.oth3 n10 _ _ _, gr_set3 HG3.out (Nat.le_refl _) _ _ _⟩, by simp [RowKit.intOf]; omega⟩
    · obtain rfl : j = qs.length := by omega
      have HG := Lib.hid G1
      have a0 := T1.c0
      have a1 := T1.c1
      have a2 := T1.c2
      have k0 := U1.c0
      have k1 := U1.c1
      have k2 := U1.c2
      have f0 := U1.fr 0
      have f1 := U1.fr 1
      have f2 := U1.fr 2
      clear G1
      go_wp2
      exact bodyPost_ret (v := .agg #[.bool (decide ((F qs.length).num < 0)), .string (S (F qs.length).num.natAbs), .string (S (F qs.length).den)]) (by simp [results, Tryz.results111, go_sem, k0, k1, k2]) rfl ⟨rfl, gr_set3 HG.out (Nat.le_succ _) _ _ _⟩
set_option maxHeartbeats 2000000 in
set_option maxRecDepth 100000 in
theorem sumlist_any (qs : List Rat) (k g o c : Nat) (w : World) (hr : Rats w g o qs) (hb : ∀ q ∈ qs, Bd k q) (hk : 1 + (k + 1) * qs.length ≤ 900) (hk2 : k ≤ 900) (hn : qs.length ≤ 1000) :
    Gives 59 #[.slice (some ⟨g, o, none⟩) qs.length c] w (RV (qs.foldl (· + ·) 0)) := by
  have T0 := (Three.new w (.bool false) (.string ⟨#[]⟩) (.string ⟨#[]⟩) 49).alloc (.cells #[.bool false] 118)
  have G0 := gr_al (o := .cells #[.bool false] 118) (gr_al (o := .cells #[.bool false, .string ⟨#[]⟩, .string ⟨#[]⟩] 49) (gr_rfl w))
  have HM := Lib.hid (fun pb => mappedv_any qs k g o c pb 0 _ (hr.kept G0) hb (by omega) hn)
  have HF := Lib.hid (fun m w hr => fold2_any qs k m 0 qs.length w hr hb hk hk2 hn)
  have HW := Lib.hid (fun w => whole_any false 0 w)
  have hz : RW false 0 1 = RV 0 := rfl
  rw [hz] at HW
  have HT0 := Lib.hid T0
  have HG0 := Lib.hid G0
  clear T0 G0 hr hb hk hk2 hz
  rw [s_zero] at HW
  generalize hX : RV 0 = X at *
  have HX := Lib.hid hX
  clear hX
  obtain ⟨ya, yx, yy, hy⟩ : ∃ a x y, RV (qs.foldl (· + ·) 0) = .agg #[.bool a, .string x, .string y] := ⟨_, _, _, rfl⟩
  rw [hy] at HF ⊢
  clear hy
  go_enter Tryz.func59, Tryz.ntmps59
  go_wp2_with fail
  refine (HM.out _).mono ?_
  rintro e w1 ⟨m1, rfl, B1, hm1, g1⟩
  have T1 := HT0.out.kept g1
  have R1 := Lib.hid B1.rats
  have G1 := Lib.hid (gr_then HG0.out g1)
  clear g1 B1
  go_wp2_with fail
  refine (HW.out _).mono ?_
  rintro e w2 ⟨rfl, g2⟩
  have T2 := T1.kept g2
  have R2 := Lib.hid (R1.out.kept g2)
  have G2 := Lib.hid (gr_then G1.out g2)
  clear g2 T1
  go_wp2_with fail
  refine (HF.out m1 _ R2.out).mono ?_
  rintro e w3 ⟨rfl, g3⟩
  have T3 := T2.kept g3
  have G3 := Lib.hid (gr_then G2.out g3)
  have k0 := T3.c0
  have k1 := T3.c1
  have k2 := T3.c2
  have f0 := T3.fr 0
  have f1 := T3.fr 1
  have f2 := T3.fr 2
  clear g3 T2
  go_wp2
  exact bodyPost_ret (v := .agg #[.bool ya, .string yx, .string yy]) (by simp [results, Tryz.results59, go_sem, k0, k1, k2]) rfl ⟨rfl, gr_set3 G3.out (Nat.le_refl _) _ _ _⟩
end Go.Proofs.YteajpefbmiiioaaGreatDoor
namespace Go.Proofs.YteajpefbmiiioaaGreatDoor
open Go.ChangeShapes Go.WideShapes Go.ChangeAt Go.RowKit Mth

theorem wf_i64 {n : Int} (h : (Lit.int .i64 n).wf = true) : -9223372036854775808 ≤ n ∧ n ≤ 9223372036854775807 := by
  have a1 : IntKind.i64.min = -9223372036854775808 := rfl
  have a2 : IntKind.i64.max = 9223372036854775807 := rfl
  simpa [Lit.wf, a1, a2] using h
set_option maxRecDepth 100000 in
/-- An argument that is an array of 3 numbers. -/
theorem arr3_arg {P : Program} {k : IntKind} {t e : TypeId} (ht : P.underlying t = some (.array 3 e)) (he : P.underlying e = some (.int k)) (hc : P.cellsOf t = 3) (hce : P.cellsOf e = 1) {H : Type} {enc : TypeId × Value → H} {W : World} {base : Nat} {v : Value} {d : DataW H} {p : List MemPlace} (hok : Value.okWide P W .any base t v) (h : DataW.Trod enc P W 0 (fun _ => true) true t v d p) : ∃ a0 a1 a2 : Int, v = .agg #[.int k a0, .int k a1, .int k a2] ∧ (Lit.int k a0).wf = true ∧ (Lit.int k a1).wf = true ∧ (Lit.int k a2).wf = true := by
  simp only [Value.okWide, ht] at hok
  obtain ⟨cs, rfl, hsz, _⟩ := hok
  obtain ⟨fuel, hf⟩ := h
  rw [hc] at hsz
  obtain ⟨x0, x1, x2, rfl⟩ : ∃ x0 x1 x2, cs = #[x0, x1, x2] := by
    rcases cs with ⟨l⟩
    match l, hsz with
    | [x0, x1, x2], _ => exact ⟨x0, x1, x2, rfl⟩
  obtain ⟨xs, m, _, _, _, hlen, hf2⟩ := DataW.trod_array ht hf
  have h0 := hf2 0 (by decide)
  have h1 := hf2 1 (by decide)
  have h2 := hf2 2 (by decide)
  rw [hce] at h0 h1 h2
  match xs, hlen with
  | [y0, y1, y2], _ =>
    obtain ⟨a0, e0, _, w0⟩ := DataW.trod_int he (x := y0) (by simpa using h0)
    obtain ⟨a1, e1, _, w1⟩ := DataW.trod_int he (x := y1) (by simpa using h1)
    obtain ⟨a2, e2, _, w2⟩ := DataW.trod_int he (x := y2) (by simpa using h2)
    simp [Value.cells] at e0 e1 e2
    exact ⟨a0, a1, a2, by rw [e0, e1, e2], w0, w1, w2⟩
end Go.Proofs.YteajpefbmiiioaaGreatDoor
namespace Go.Proofs.YteajpefbmiiioaaGreatDoor
open Go.RowKit Mth Go.Lib

theorem rv_partsN (q : Rat) : ∃ (a : Bool) (x y : ByteArray), RV q = .agg #[.bool a, .string x, .string y] := ⟨_, _, _, rfl⟩
set_option maxHeartbeats 16000000 in
set_option maxRecDepth 100000 in
theorem order_N (q0 q1 q2 q3 q4 q5 q6 q7 q8 : Int) (W : World) (htab : Tab W) (p q r : Rat) (bp : Bd 16 p) (bq : Bd 16 q) (br : Bd 16 r) (mp : MadeQ q0 q1 q2 p) (mq : MadeQ q3 q4 q5 q) (mr : MadeQ q6 q7 q8 r) (hz : cmpQ p q = -1) :
    Gives 11 #[.agg #[.int .i64 q0, .int .i64 q1, .int .i64 q2], .agg #[.int .i64 q3, .int .i64 q4, .int .i64 q5], .agg #[.int .i64 q6, .int .i64 q7, .int .i64 q8]] W (.bool true) := by
  unfold MadeQ at mp mq mr
  have MP := Lib.hid mp
  have MQ := Lib.hid mq
  have MR := Lib.hid mr
  clear mp mq mr
  have HS0 := Lib.hid (sanityq_true)
  have HT := Lib.hid htab
  clear htab
  have b0 : Bd 40 (0 : Rat) := bd_mono (bd1 (by decide) (by decide)) (by decide)
  have cp := bd_mono bp (by decide : 16 ≤ 40)
  have cr := bd_mono br (by decide : 16 ≤ 40)
  have cq := bd_mono bq (by decide : 16 ≤ 40)
  have C1 := Lib.hid (fun w => cmpq_any (p) (q) 40 w cp cq (by decide))
  rw [hz] at C1
  have C2 := Lib.hid (fun w => cmpq_any (q) (p) 40 w cq cp (by decide))
  rw [cmpQ_swap q p] at C2
  rw [hz] at C2
  rw [show -(-1 : Int) = 1 from rfl] at C2
  have C3 := Lib.hid (fun w => cmpq_any (q) (r) 40 w cq cr (by decide))
  have C4 := Lib.hid (fun w => cmpq_any (p) (r) 40 w cp cr (by decide))
  have C5 := Lib.hid (fun w => cmpq_any (p + r) (q + r) 40 w (bd_mono (bd_add bp br) (by decide)) (bd_mono (bd_add bq br) (by decide)) (by decide))
  rw [cmpQ_add] at C5
  rw [hz] at C5
  have C6 := Lib.hid (fun w => cmpq_any (p * r) (q * r) 40 w (bd_mono (bd_mul bp br) (by decide)) (bd_mono (bd_mul bq br) (by decide)) (by decide))
  rw [cmpQ_mul] at C6
  rw [hz] at C6
  have C7 := Lib.hid (fun w => cmpq_any (p) (0) 40 w cp b0 (by decide))
  rw [cmpQ_zero] at C7
  have A1 := Lib.hid (fun w => addq_any p r 40 w cp cr (by decide))
  have A2 := Lib.hid (fun w => addq_any q r 40 w cq cr (by decide))
  have M1 := Lib.hid (fun w => mulq_any p r 40 w cp cr (by decide))
  have M2 := Lib.hid (fun w => mulq_any q r 40 w cq cr (by decide))
  have S1 := Lib.hid (fun w => signq_any r 40 w cr (by decide))
  have S3 := Lib.hid (fun w => signq_any p 40 w cp (by decide))
  have B1 := Lib.hid (fun w => subq_any p q 40 w cp cq (by decide))
  have S2 := Lib.hid (fun w => signq_any (p - q) 40 w (bd_mono (bd_sub bp bq) (by decide)) (by decide))
  rw [show sgnQ (p - q) = -1 from hz] at S2
  have OZ0 : ∀ w, Gives 56 #[.int .i64 0] w (RW false 0 1) := fun w => ofq_nat 0 w (by decide)
  have OZ := Lib.hid OZ0
  clear OZ0
  rw [show RW false 0 1 = RV 0 from rfl] at OZ
  have hne : ¬ RV p = RV q := fun e => by have h := rv_inj e; rw [h, cmpQ_self] at hz; exact absurd hz (by decide)
  have hyx : True := trivial
  have ls := sgn_three r
  have hw0 : IntKind.i64.wrap 0 = 0 := rfl
  have hw1 : IntKind.i64.wrap 1 = 1 := rfl
  have hw2 : IntKind.i64.wrap (-1) = -1 := rfl
  have hw3 : IntKind.i64.wrap (-1 * sgnQ r) = -1 * sgnQ r := IntWalk.i64_in _ (by omega)
  generalize hy : cmpQ q r = y at *
  generalize hx : cmpQ p r = x at *
  clear hx hy
  generalize sgnQ r = sr at *
  generalize sgnQ p = sp at *
  obtain ⟨cv, hcv⟩ : ∃ cv : Int, -1 * sr = cv := ⟨_, rfl⟩
  rw [hcv] at C6 hw3
  have hw4 : -sr = cv := by omega
  clear ls bp br cp cr b0 bq cq hz
  obtain ⟨v1a, v1x, v1y, ev1⟩ := rv_partsN (p + r)
  obtain ⟨v2a, v2x, v2y, ev2⟩ := rv_partsN (q + r)
  obtain ⟨v3a, v3x, v3y, ev3⟩ := rv_partsN (p * r)
  obtain ⟨v4a, v4x, v4y, ev4⟩ := rv_partsN (q * r)
  obtain ⟨v5a, v5x, v5y, ev5⟩ := rv_partsN (p - q)
  obtain ⟨za, zx, zy, ez⟩ := rv_partsN (0)
  obtain ⟨ppa, ppx, ppy, epp⟩ := rv_partsN (p)
  obtain ⟨qqa, qqx, qqy, eqq⟩ := rv_partsN (q)
  obtain ⟨rra, rrx, rry, err⟩ := rv_partsN (r)
  try simp only [ev1] at MP MQ MR C1 C2 C3 C4 C5 C6 C7 A1 A2 M1 M2 S1 S2 S3 B1 OZ hne
  try simp only [ev2] at MP MQ MR C1 C2 C3 C4 C5 C6 C7 A1 A2 M1 M2 S1 S2 S3 B1 OZ hne
  try simp only [ev3] at MP MQ MR C1 C2 C3 C4 C5 C6 C7 A1 A2 M1 M2 S1 S2 S3 B1 OZ hne
  try simp only [ev4] at MP MQ MR C1 C2 C3 C4 C5 C6 C7 A1 A2 M1 M2 S1 S2 S3 B1 OZ hne
  try simp only [ev5] at MP MQ MR C1 C2 C3 C4 C5 C6 C7 A1 A2 M1 M2 S1 S2 S3 B1 OZ hne
  try simp only [ez] at MP MQ MR C1 C2 C3 C4 C5 C6 C7 A1 A2 M1 M2 S1 S2 S3 B1 OZ hne
  try simp only [epp] at MP MQ MR C1 C2 C3 C4 C5 C6 C7 A1 A2 M1 M2 S1 S2 S3 B1 OZ hne
  try simp only [eqq] at MP MQ MR C1 C2 C3 C4 C5 C6 C7 A1 A2 M1 M2 S1 S2 S3 B1 OZ hne
  try simp only [err] at MP MQ MR C1 C2 C3 C4 C5 C6 C7 A1 A2 M1 M2 S1 S2 S3 B1 OZ hne
  clear ev1 ev2 ev3 ev4 ev5 ez epp eqq err
  have P0 := ((Three.new W (.int .i64 q0) (.int .i64 q1) (.int .i64 q2) 47).alloc (.cells #[.int .i64 q3, .int .i64 q4, .int .i64 q5] 47)).alloc (.cells #[.int .i64 q6, .int .i64 q7, .int .i64 q8] 47)
  have X0 := (Three.new1 W (.cells #[.int .i64 q0, .int .i64 q1, .int .i64 q2] 47) (.int .i64 q3) (.int .i64 q4) (.int .i64 q5) 47).alloc (.cells #[.int .i64 q6, .int .i64 q7, .int .i64 q8] 47)
  have Y0 := Three.new2 W (.cells #[.int .i64 q0, .int .i64 q1, .int .i64 q2] 47) (.cells #[.int .i64 q3, .int .i64 q4, .int .i64 q5] 47) (.int .i64 q6) (.int .i64 q7) (.int .i64 q8) 47
  have G0 := Lib.hid (gr_al (o := (.cells #[.int .i64 q6, .int .i64 q7, .int .i64 q8] 47)) (gr_al (o := (.cells #[.int .i64 q3, .int .i64 q4, .int .i64 q5] 47)) (gr_al (o := (.cells #[.int .i64 q0, .int .i64 q1, .int .i64 q2] 47)) (gr_rfl W))))
  go_enter Tryz.func11, Tryz.ntmps11
  go_wp2_with fail
  refine (HS0.out _ (tab_gr HT.out G0.out)).mono ?_
  rintro e w1 ⟨rfl, g1⟩
  have P1 := P0.kept g1
  have X1 := X0.kept g1
  have Y1 := Y0.kept g1
  have G1 := Lib.hid (gr_then G0.out g1)
  have c0 := P1.c0
  have c1 := P1.c1
  have c2 := P1.c2
  clear g1 P0 X0 Y0 G0
  go_wp2_with fail
  refine (MP.out _).mono ?_
  rintro e w2 ⟨rfl, g1⟩
  have X1' := (X1.kept g1).alloc (.cells #[.bool ppa, .string ppx, .string ppy] 49)
  have Y1' := (Y1.kept g1).alloc (.cells #[.bool ppa, .string ppx, .string ppy] 49)
  have KP := Three.new w2 (.bool ppa) (.string ppx) (.string ppy) 49
  have G_w2 := Lib.hid (gr_al (o := (.cells #[.bool ppa, .string ppx, .string ppy] 49)) (gr_then G1.out g1))
  clear g1 X1 Y1 G1 P1 c0 c1 c2
  have X1 := X1'
  clear X1'
  have Y1 := Y1'
  clear Y1'
  have c0 := X1.c0
  have c1 := X1.c1
  have c2 := X1.c2
  go_wp2_with fail
  refine (MQ.out _).mono ?_
  rintro e w3 ⟨rfl, g1⟩
  have Y1' := (Y1.kept g1).alloc (.cells #[.bool qqa, .string qqx, .string qqy] 49)
  have KP' := (KP.kept g1).alloc (.cells #[.bool qqa, .string qqx, .string qqy] 49)
  have KQ := Three.new w3 (.bool qqa) (.string qqx) (.string qqy) 49
  have G_w3 := Lib.hid (gr_al (o := (.cells #[.bool qqa, .string qqx, .string qqy] 49)) (gr_then G_w2.out g1))
  clear g1 Y1 KP G_w2 X1 c0 c1 c2
  have Y1 := Y1'
  clear Y1'
  have KP := KP'
  clear KP'
  have c0 := Y1.c0
  have c1 := Y1.c1
  have c2 := Y1.c2
  go_wp2_with fail
  refine (MR.out _).mono ?_
  rintro e w4 ⟨rfl, g1⟩
  have KP' := (KP.kept g1).alloc (.cells #[.bool rra, .string rrx, .string rry] 49)
  have KQ' := (KQ.kept g1).alloc (.cells #[.bool rra, .string rrx, .string rry] 49)
  have KR := Three.new w4 (.bool rra) (.string rrx) (.string rry) 49
  have G_w4 := Lib.hid (gr_al (o := (.cells #[.bool rra, .string rrx, .string rry] 49)) (gr_then G_w3.out g1))
  clear g1 KP KQ G_w3 Y1 c0 c1 c2
  have KP := KP'
  clear KP'
  have KQ := KQ'
  clear KQ'
  have dP0 := KP.c0
  have dP1 := KP.c1
  have dP2 := KP.c2
  have dQ0 := KQ.c0
  have dQ1 := KQ.c1
  have dQ2 := KQ.c2
  go_wp2_with fail
  refine (C1.out _).mono ?_
  rintro e w5 ⟨rfl, g1⟩
  have LP := (KP.kept g1).drew
  have LQ := (KQ.kept g1).drew
  have LR := (KR.kept g1).drew
  have HG5 := Lib.hid (gr_dr (gr_then G_w4.out g1))
  have G5 := HG5.out
  clear g1 G_w4 KP KQ KR dP0 dP1 dP2 dQ0 dQ1 dQ2
  go_wp2_with fail
  clear hyx
  rcases fields hne with hf | ⟨rfl, hf⟩ | ⟨rfl, rfl, hf⟩
  · clear hne
    refine wp_region_held_drew (S := fun w' => w'.cell? ⟨w2.heap.size, 0, none⟩ = some (.bool ppa) ∧ w'.cell? ⟨w2.heap.size, 1, none⟩ = some (.string ppx) ∧ w'.cell? ⟨w2.heap.size, 2, none⟩ = some (.string ppy) ∧ w'.cell? ⟨w3.heap.size, 0, none⟩ = some (.bool qqa) ∧ w'.cell? ⟨w3.heap.size, 1, none⟩ = some (.string qqx) ∧ w'.cell? ⟨w3.heap.size, 2, none⟩ = some (.string qqy) ∧ w'.cell? ⟨w4.heap.size, 0, none⟩ = some (.bool rra) ∧ w'.cell? ⟨w4.heap.size, 1, none⟩ = some (.string rrx) ∧ w'.cell? ⟨w4.heap.size, 2, none⟩ = some (.string rry)) (by kernel_rfl) ?_ (fun hHeld => ?_)
    · (first | exact ⟨Three.c0 (by assumption), Three.c1 (by assumption), Three.c2 (by assumption), Three.c0 (by assumption), Three.c1 (by assumption), Three.c2 (by assumption), Three.c0 (by assumption), Three.c1 (by assumption), Three.c2 (by assumption)⟩ | go_keep)
    refine wpAnyH_take (i := 0) (oi := _) (v := ?v1) rfl (by kernel_rfl) (by kernel_rfl) (by kernel_rfl) (fun _ _ _ h => h) (Or.inl ⟨by rfl, ?hy1⟩) (by assumption) ?rest1
    case hy1 => ((intro w hSw; (try dsimp only at hSw); go_simp); try (with_reducible rfl))
    ((try dsimp only [List.getElem_toArray, List.getElem_cons_succ, List.getElem_cons_zero]); try simp only [Act.put, List.setIfInBounds_toArray, List.set_cons_zero, List.set_cons_succ])
    refine wpAnyH_take (i := 1) (oi := _) (v := ?v2) rfl (by kernel_rfl) (by kernel_rfl) (by kernel_rfl) (fun _ _ _ h => h) (Or.inl ⟨by rfl, ?hy2⟩) (by assumption) ?rest2
    case hy2 => ((intro w hSw; (try dsimp only at hSw); go_simp); try (with_reducible rfl))
    ((try dsimp only [List.getElem_toArray, List.getElem_cons_succ, List.getElem_cons_zero]); try simp only [Act.put, List.setIfInBounds_toArray, List.set_cons_zero, List.set_cons_succ])
    refine wpAnyH_take (i := 2) (oi := _) (v := ?v3) rfl (by kernel_rfl) (by kernel_rfl) (by kernel_rfl) (fun _ _ _ h => h) (Or.inl ⟨by rfl, ?hy3⟩) (by assumption) ?rest3
    case hy3 => ((intro w hSw; (try dsimp only at hSw); go_simp); try (with_reducible rfl))
    ((try dsimp only [List.getElem_toArray, List.getElem_cons_succ, List.getElem_cons_zero]); try simp only [Act.put, List.setIfInBounds_toArray, List.set_cons_zero, List.set_cons_succ])
    refine wpAnyH_ready (rs := [3]) (by kernel_rfl) (by simp) ?_
    refine AllReadyH.cons (o := _) rfl (fun K hK => ?_) AllReadyH.nil
    go_simp
    ( with_reducible refine (C2.out _).mono ?_); rintro e v1 ⟨rfl, g1⟩; have TP : Three v1 (w2.heap.size) (.bool ppa) (.string ppx) (.string ppy) 49 := Three.kept (by assumption) g1; have TQ : Three v1 (w3.heap.size) (.bool qqa) (.string qqx) (.string qqy) 49 := Three.kept (by assumption) g1; have TR : Three v1 (w4.heap.size) (.bool rra) (.string rrx) (.string rry) 49 := Three.kept (by assumption) g1; have GG : W.grownBy v1 none := gr_then (by assumption) g1
    refine hK.out _ _ ?_ (fun hHeld => ?_)
    · (try dsimp only); (first | exact ⟨Three.c0 (by assumption), Three.c1 (by assumption), Three.c2 (by assumption), Three.c0 (by assumption), Three.c1 (by assumption), Three.c2 (by assumption), Three.c0 (by assumption), Three.c1 (by assumption), Three.c2 (by assumption)⟩ | go_keep)
    clear hK K
    ((try dsimp only [List.getElem_toArray, List.getElem_cons_succ, List.getElem_cons_zero]); try simp only [Act.put, List.setIfInBounds_toArray, List.set_cons_zero, List.set_cons_succ])
    refine wpAnyH_take (i := 4) (oi := _) (v := ?v4) rfl (by kernel_rfl) (by kernel_rfl) (by kernel_rfl) (fun _ _ _ h => h) (Or.inl ⟨by rfl, ?hy4⟩) (by assumption) ?rest4
    case hy4 => ((intro w hSw; (try dsimp only at hSw); go_simp); try (with_reducible rfl))
    ((try dsimp only [List.getElem_toArray, List.getElem_cons_succ, List.getElem_cons_zero]); try simp only [Act.put, List.setIfInBounds_toArray, List.set_cons_zero, List.set_cons_succ])
    refine wpAnyH_take (i := 5) (oi := _) (v := ?v5) rfl (by kernel_rfl) (by kernel_rfl) (by kernel_rfl) (fun _ _ _ h => h) (Or.inl ⟨by rfl, ?hy5⟩) (by assumption) ?rest5
    case hy5 => ((intro w hSw; (try dsimp only at hSw); go_simp); try (with_reducible rfl))
    ((try dsimp only [List.getElem_toArray, List.getElem_cons_succ, List.getElem_cons_zero]); try simp only [Act.put, List.setIfInBounds_toArray, List.set_cons_zero, List.set_cons_succ])
    refine wpAnyH_take (i := 6) (oi := _) (v := ?v6) rfl (by kernel_rfl) (by kernel_rfl) (by kernel_rfl) (fun _ _ _ h => h) (Or.inl ⟨by rfl, ?hy6⟩) (by assumption) ?rest6
    case hy6 => ((intro w hSw; (try dsimp only at hSw); go_simp); try (with_reducible rfl))
    ((try dsimp only [List.getElem_toArray, List.getElem_cons_succ, List.getElem_cons_zero]); try simp only [Act.put, List.setIfInBounds_toArray, List.set_cons_zero, List.set_cons_succ])
    refine wpAnyH_take (i := 7) (oi := _) (v := ?v7) rfl (by kernel_rfl) (by kernel_rfl) (by kernel_rfl) (fun _ _ _ h => h) (Or.inl ⟨by rfl, ?hy7⟩) (by assumption) ?rest7
    case hy7 => ((intro w hSw; (try dsimp only at hSw); go_simp); try (with_reducible rfl))
    ((try dsimp only [List.getElem_toArray, List.getElem_cons_succ, List.getElem_cons_zero]); try simp only [Act.put, List.setIfInBounds_toArray, List.set_cons_zero, List.set_cons_succ])
    refine wpAnyH_take (i := 8) (oi := _) (v := ?v8) rfl (by kernel_rfl) (by kernel_rfl) (by kernel_rfl) (fun _ _ _ h => h) (Or.inl ⟨by rfl, ?hy8⟩) (by assumption) ?rest8
    case hy8 => ((intro w hSw; (try dsimp only at hSw); go_simp); try (with_reducible rfl))
    ((try dsimp only [List.getElem_toArray, List.getElem_cons_succ, List.getElem_cons_zero]); try simp only [Act.put, List.setIfInBounds_toArray, List.set_cons_zero, List.set_cons_succ])
    refine wpAnyH_take (i := 9) (oi := _) (v := ?v9) rfl (by kernel_rfl) (by kernel_rfl) (by kernel_rfl) (fun _ _ _ h => h) (Or.inl ⟨by rfl, ?hy9⟩) (by assumption) ?rest9
    case hy9 => ((intro w hSw; (try dsimp only at hSw); go_simp); try (with_reducible rfl))
    ((try dsimp only [List.getElem_toArray, List.getElem_cons_succ, List.getElem_cons_zero]); try simp only [Act.put, List.setIfInBounds_toArray, List.set_cons_zero, List.set_cons_succ])
    refine wpAnyH_take (i := 10) (oi := _) (v := ?v10) rfl (by kernel_rfl) (by kernel_rfl) (by kernel_rfl) (fun _ _ _ h => h) (Or.inl ⟨by rfl, ?hy10⟩) (by assumption) ?rest10
    case hy10 => ((intro w hSw; (try dsimp only at hSw); go_simp); try (with_reducible rfl))
    ((try dsimp only [List.getElem_toArray, List.getElem_cons_succ, List.getElem_cons_zero]); try simp only [Act.put, List.setIfInBounds_toArray, List.set_cons_zero, List.set_cons_succ])
    refine wpAnyH_take (i := 11) (oi := _) (v := ?v11) rfl (by kernel_rfl) (by kernel_rfl) (by kernel_rfl) (fun _ _ _ h => h) (Or.inl ⟨by rfl, ?hy11⟩) (by assumption) ?rest11
    case hy11 => ((intro w hSw; (try dsimp only at hSw); go_simp); try (with_reducible rfl))
    ((try dsimp only [List.getElem_toArray, List.getElem_cons_succ, List.getElem_cons_zero]); try simp only [Act.put, List.setIfInBounds_toArray, List.set_cons_zero, List.set_cons_succ])
    refine wpAnyH_take (i := 12) (oi := _) (v := ?v12) rfl (by kernel_rfl) (by kernel_rfl) (by kernel_rfl) (fun _ _ _ h => h) (Or.inl ⟨by rfl, ?hy12⟩) (by assumption) ?rest12
    case hy12 => ((intro w hSw; (try dsimp only at hSw); go_simp); try (with_reducible rfl))
    ((try dsimp only [List.getElem_toArray, List.getElem_cons_succ, List.getElem_cons_zero]); try simp only [Act.put, List.setIfInBounds_toArray, List.set_cons_zero, List.set_cons_succ])
    refine wpAnyH_take (i := 13) (oi := _) (v := ?v13) rfl (by kernel_rfl) (by kernel_rfl) (by kernel_rfl) (fun _ _ _ h => h) (Or.inl ⟨by rfl, ?hy13⟩) (by assumption) ?rest13
    case hy13 => ((intro w hSw; (try dsimp only at hSw); go_simp); try (with_reducible rfl))
    ((try dsimp only [List.getElem_toArray, List.getElem_cons_succ, List.getElem_cons_zero]); try simp only [Act.put, List.setIfInBounds_toArray, List.set_cons_zero, List.set_cons_succ])
    refine wpAnyH_take (i := 14) (oi := _) (v := ?v14) rfl (by kernel_rfl) (by kernel_rfl) (by kernel_rfl) (fun _ _ _ h => h) (Or.inl ⟨by rfl, ?hy14⟩) (by assumption) ?rest14
    case hy14 => ((intro w hSw; (try dsimp only at hSw); go_simp); try (with_reducible rfl))
    ((try dsimp only [List.getElem_toArray, List.getElem_cons_succ, List.getElem_cons_zero]); try simp only [Act.put, List.setIfInBounds_toArray, List.set_cons_zero, List.set_cons_succ])
    refine wpAnyH_take (i := 15) (oi := _) (v := ?v15) rfl (by kernel_rfl) (by kernel_rfl) (by kernel_rfl) (fun _ _ _ h => h) (Or.inl ⟨by rfl, ?hy15⟩) (by assumption) ?rest15
    case hy15 => ((intro w hSw; (try dsimp only at hSw); go_simp); try (with_reducible rfl))
    ((try dsimp only [List.getElem_toArray, List.getElem_cons_succ, List.getElem_cons_zero]); try simp only [Act.put, List.setIfInBounds_toArray, List.set_cons_zero, List.set_cons_succ])
    refine wpAnyH_take (i := 16) (oi := _) (v := ?v16) rfl (by kernel_rfl) (by kernel_rfl) (by kernel_rfl) (fun _ _ _ h => h) (Or.inl ⟨by rfl, ?hy16⟩) (by assumption) ?rest16
    case hy16 => ((intro w hSw; (try dsimp only at hSw); go_simp); try (with_reducible rfl))
    ((try dsimp only [List.getElem_toArray, List.getElem_cons_succ, List.getElem_cons_zero]); try simp only [Act.put, List.setIfInBounds_toArray, List.set_cons_zero, List.set_cons_succ])
    refine wpAnyH_take (i := 17) (oi := _) (v := ?v17) rfl (by kernel_rfl) (by kernel_rfl) (by kernel_rfl) (fun _ _ _ h => h) (Or.inl ⟨by rfl, ?hy17⟩) (by assumption) ?rest17
    case hy17 => ((intro w hSw; (try dsimp only at hSw); go_simp); try (with_reducible rfl))
    ((try dsimp only [List.getElem_toArray, List.getElem_cons_succ, List.getElem_cons_zero]); try simp only [Act.put, List.setIfInBounds_toArray, List.set_cons_zero, List.set_cons_succ])
    refine wpAnyH_take (i := 18) (oi := _) (v := _) rfl (by kernel_rfl) (by kernel_rfl) (by kernel_rfl) (fun _ _ _ h => h) (Or.inr ⟨by rfl, rfl⟩) (by assumption) ?rest18
    ((try dsimp only [List.getElem_toArray, List.getElem_cons_succ, List.getElem_cons_zero]); try simp only [Act.put, List.setIfInBounds_toArray, List.set_cons_zero, List.set_cons_succ])
    refine wpAnyH_take (i := 19) (oi := _) (v := _) rfl (by kernel_rfl) (by kernel_rfl) (by kernel_rfl) (fun _ _ _ h => h) (Or.inr ⟨by rfl, rfl⟩) (by assumption) ?rest19
    ((try dsimp only [List.getElem_toArray, List.getElem_cons_succ, List.getElem_cons_zero]); try simp only [Act.put, List.setIfInBounds_toArray, List.set_cons_zero, List.set_cons_succ])
    refine wpAnyH_take (i := 20) (oi := _) (v := _) rfl (by kernel_rfl) (by kernel_rfl) (by kernel_rfl) (fun _ _ _ h => h) (Or.inr ⟨by rfl, rfl⟩) (by assumption) ?rest20
    ((try dsimp only [List.getElem_toArray, List.getElem_cons_succ, List.getElem_cons_zero]); try simp only [Act.put, List.setIfInBounds_toArray, List.set_cons_zero, List.set_cons_succ])
    refine wpAnyH_take (i := 21) (oi := _) (v := _) rfl (by kernel_rfl) (by kernel_rfl) (by kernel_rfl) (fun _ _ _ h => h) (Or.inr ⟨by rfl, rfl⟩) (by assumption) ?rest21
    ((try dsimp only [List.getElem_toArray, List.getElem_cons_succ, List.getElem_cons_zero]); try simp only [Act.put, List.setIfInBounds_toArray, List.set_cons_zero, List.set_cons_succ])
    refine wpAnyH_take (i := 22) (oi := _) (v := ?v22) rfl (by kernel_rfl) (by kernel_rfl) (by kernel_rfl) (fun _ _ _ h => h) (Or.inl ⟨by rfl, ?hy22⟩) (by assumption) ?rest22
    case hy22 => ((intro w hSw; (try dsimp only at hSw); go_simp); try (with_reducible rfl))
    ((try dsimp only [List.getElem_toArray, List.getElem_cons_succ, List.getElem_cons_zero]); try simp only [Act.put, List.setIfInBounds_toArray, List.set_cons_zero, List.set_cons_succ])
    refine wpAnyH_take (i := 23) (oi := _) (v := ?v23) rfl (by kernel_rfl) (by kernel_rfl) (by kernel_rfl) (fun _ _ _ h => h) (Or.inl ⟨by rfl, ?hy23⟩) (by assumption) ?rest23
    case hy23 => ((intro w hSw; (try dsimp only at hSw); go_simp); try (with_reducible rfl))
    ((try dsimp only [List.getElem_toArray, List.getElem_cons_succ, List.getElem_cons_zero]); try simp only [Act.put, List.setIfInBounds_toArray, List.set_cons_zero, List.set_cons_succ])
    refine wpAnyH_take (i := 24) (oi := _) (v := _) rfl (by kernel_rfl) (by kernel_rfl) (by kernel_rfl) (fun _ _ _ h => h) (Or.inr ⟨by rfl, rfl⟩) (by assumption) ?rest24
    ((try dsimp only [List.getElem_toArray, List.getElem_cons_succ, List.getElem_cons_zero]); try simp only [Act.put, List.setIfInBounds_toArray, List.set_cons_zero, List.set_cons_succ])
    refine wpAnyH_take (i := 25) (oi := _) (v := _) rfl (by kernel_rfl) (by kernel_rfl) (by kernel_rfl) (fun _ _ _ h => h) (Or.inr ⟨by rfl, rfl⟩) (by assumption) ?rest25
    ((try dsimp only [List.getElem_toArray, List.getElem_cons_succ, List.getElem_cons_zero]); try simp only [Act.put, List.setIfInBounds_toArray, List.set_cons_zero, List.set_cons_succ])
    refine wpAnyH_take (i := 26) (oi := _) (v := _) rfl (by kernel_rfl) (by kernel_rfl) (by kernel_rfl) (fun _ _ _ h => h) (Or.inr ⟨by rfl, rfl⟩) (by assumption) ?rest26
    ((try dsimp only [List.getElem_toArray, List.getElem_cons_succ, List.getElem_cons_zero]); try simp only [Act.put, List.setIfInBounds_toArray, List.set_cons_zero, List.set_cons_succ])
    refine wpAnyH_take (i := 27) (oi := _) (v := _) rfl (by kernel_rfl) (by kernel_rfl) (by kernel_rfl) (fun _ _ _ h => h) (Or.inr ⟨by rfl, rfl⟩) (by assumption) ?rest27
    ((try dsimp only [List.getElem_toArray, List.getElem_cons_succ, List.getElem_cons_zero]); try simp only [Act.put, List.setIfInBounds_toArray, List.set_cons_zero, List.set_cons_succ])
    refine wpAnyH_take (i := 28) (oi := _) (v := ?v28) rfl (by kernel_rfl) (by kernel_rfl) (by kernel_rfl) (fun _ _ _ h => h) (Or.inl ⟨by rfl, ?hy28⟩) (by assumption) ?rest28
    case hy28 => ((intro w hSw; (try dsimp only at hSw); go_simp); try (with_reducible rfl))
    ((try dsimp only [List.getElem_toArray, List.getElem_cons_succ, List.getElem_cons_zero]); try simp only [Act.put, List.setIfInBounds_toArray, List.set_cons_zero, List.set_cons_succ])
    refine wpAnyH_take (i := 29) (oi := _) (v := ?v29) rfl (by kernel_rfl) (by kernel_rfl) (by kernel_rfl) (fun _ _ _ h => h) (Or.inl ⟨by rfl, ?hy29⟩) (by assumption) ?rest29
    case hy29 => ((intro w hSw; (try dsimp only at hSw); go_simp); try (with_reducible rfl))
    ((try dsimp only [List.getElem_toArray, List.getElem_cons_succ, List.getElem_cons_zero]); try simp only [Act.put, List.setIfInBounds_toArray, List.set_cons_zero, List.set_cons_succ])
    refine wpAnyH_take (i := 30) (oi := _) (v := ?v30) rfl (by kernel_rfl) (by kernel_rfl) (by kernel_rfl) (fun _ _ _ h => h) (Or.inl ⟨by rfl, ?hy30⟩) (by assumption) ?rest30
    case hy30 => ((intro w hSw; (try dsimp only at hSw); go_simp); try (with_reducible rfl))
    ((try dsimp only [List.getElem_toArray, List.getElem_cons_succ, List.getElem_cons_zero]); try simp only [Act.put, List.setIfInBounds_toArray, List.set_cons_zero, List.set_cons_succ])
    refine wpAnyH_take (i := 31) (oi := _) (v := ?v31) rfl (by kernel_rfl) (by kernel_rfl) (by kernel_rfl) (fun _ _ _ h => h) (Or.inl ⟨by rfl, ?hy31⟩) (by assumption) ?rest31
    case hy31 => ((intro w hSw; (try dsimp only at hSw); go_simp); try (with_reducible rfl))
    ((try dsimp only [List.getElem_toArray, List.getElem_cons_succ, List.getElem_cons_zero]); try simp only [Act.put, List.setIfInBounds_toArray, List.set_cons_zero, List.set_cons_succ])
    refine wpAnyH_take (i := 32) (oi := _) (v := ?v32) rfl (by kernel_rfl) (by kernel_rfl) (by kernel_rfl) (fun _ _ _ h => h) (Or.inl ⟨by rfl, ?hy32⟩) (by assumption) ?rest32
    case hy32 => ((intro w hSw; (try dsimp only at hSw); go_simp); try (with_reducible rfl))
    ((try dsimp only [List.getElem_toArray, List.getElem_cons_succ, List.getElem_cons_zero]); try simp only [Act.put, List.setIfInBounds_toArray, List.set_cons_zero, List.set_cons_succ])
    refine wpAnyH_take (i := 34) (oi := _) (v := ?v33) rfl (by kernel_rfl) (by kernel_rfl) (by kernel_rfl) (fun _ _ _ h => h) (Or.inl ⟨by rfl, ?hy33⟩) (by assumption) ?rest33
    case hy33 => ((intro w hSw; (try dsimp only at hSw); go_simp); try (with_reducible rfl))
    ((try dsimp only [List.getElem_toArray, List.getElem_cons_succ, List.getElem_cons_zero]); try simp only [Act.put, List.setIfInBounds_toArray, List.set_cons_zero, List.set_cons_succ])
    refine wpAnyH_take (i := 35) (oi := _) (v := ?v34) rfl (by kernel_rfl) (by kernel_rfl) (by kernel_rfl) (fun _ _ _ h => h) (Or.inl ⟨by rfl, ?hy34⟩) (by assumption) ?rest34
    case hy34 => ((intro w hSw; (try dsimp only at hSw); go_simp); try (with_reducible rfl))
    ((try dsimp only [List.getElem_toArray, List.getElem_cons_succ, List.getElem_cons_zero]); try simp only [Act.put, List.setIfInBounds_toArray, List.set_cons_zero, List.set_cons_succ])
    refine wpAnyH_take (i := 38) (oi := _) (v := ?v35) rfl (by kernel_rfl) (by kernel_rfl) (by kernel_rfl) (fun _ _ _ h => h) (Or.inl ⟨by rfl, ?hy35⟩) (by assumption) ?rest35
    case hy35 => ((intro w hSw; (try dsimp only at hSw); go_simp); try (with_reducible rfl))
    ((try dsimp only [List.getElem_toArray, List.getElem_cons_succ, List.getElem_cons_zero]); try simp only [Act.put, List.setIfInBounds_toArray, List.set_cons_zero, List.set_cons_succ])
    refine wpAnyH_ready (rs := [33]) (by kernel_rfl) (by simp) ?_
    refine AllReadyH.cons (o := _) rfl (fun K hK => ?_) AllReadyH.nil
    go_simp
    ( with_reducible refine (A1.out _).mono ?_); rintro e v1 ⟨rfl, g1⟩; have TP : Three v1 (w2.heap.size) (.bool ppa) (.string ppx) (.string ppy) 49 := Three.kept (by assumption) g1; have TQ : Three v1 (w3.heap.size) (.bool qqa) (.string qqx) (.string qqy) 49 := Three.kept (by assumption) g1; have TR : Three v1 (w4.heap.size) (.bool rra) (.string rrx) (.string rry) 49 := Three.kept (by assumption) g1; have GG : W.grownBy v1 none := gr_then (by assumption) g1
    refine hK.out _ _ ?_ (fun hHeld => ?_)
    · (try dsimp only); (first | exact ⟨Three.c0 (by assumption), Three.c1 (by assumption), Three.c2 (by assumption), Three.c0 (by assumption), Three.c1 (by assumption), Three.c2 (by assumption), Three.c0 (by assumption), Three.c1 (by assumption), Three.c2 (by assumption)⟩ | go_keep)
    clear hK K
    ((try dsimp only [List.getElem_toArray, List.getElem_cons_succ, List.getElem_cons_zero]); try simp only [Act.put, List.setIfInBounds_toArray, List.set_cons_zero, List.set_cons_succ])
    refine wpAnyH_ready (rs := [36]) (by kernel_rfl) (by simp) ?_
    refine AllReadyH.cons (o := _) rfl (fun K hK => ?_) AllReadyH.nil
    go_simp
    ( with_reducible refine (A2.out _).mono ?_); rintro e v1 ⟨rfl, g1⟩; have TP : Three v1 (w2.heap.size) (.bool ppa) (.string ppx) (.string ppy) 49 := Three.kept (by assumption) g1; have TQ : Three v1 (w3.heap.size) (.bool qqa) (.string qqx) (.string qqy) 49 := Three.kept (by assumption) g1; have TR : Three v1 (w4.heap.size) (.bool rra) (.string rrx) (.string rry) 49 := Three.kept (by assumption) g1; have GG : W.grownBy v1 none := gr_then (by assumption) g1
    refine hK.out _ _ ?_ (fun hHeld => ?_)
    · (try dsimp only); (first | exact ⟨Three.c0 (by assumption), Three.c1 (by assumption), Three.c2 (by assumption), Three.c0 (by assumption), Three.c1 (by assumption), Three.c2 (by assumption), Three.c0 (by assumption), Three.c1 (by assumption), Three.c2 (by assumption)⟩ | go_keep)
    clear hK K
    ((try dsimp only [List.getElem_toArray, List.getElem_cons_succ, List.getElem_cons_zero]); try simp only [Act.put, List.setIfInBounds_toArray, List.set_cons_zero, List.set_cons_succ])
    refine wpAnyH_ready (rs := [37]) (by kernel_rfl) (by simp) ?_
    refine AllReadyH.cons (o := _) rfl (fun K hK => ?_) AllReadyH.nil
    go_simp
    ( with_reducible refine (C5.out _).mono ?_); rintro e v1 ⟨rfl, g1⟩; have TP : Three v1 (w2.heap.size) (.bool ppa) (.string ppx) (.string ppy) 49 := Three.kept (by assumption) g1; have TQ : Three v1 (w3.heap.size) (.bool qqa) (.string qqx) (.string qqy) 49 := Three.kept (by assumption) g1; have TR : Three v1 (w4.heap.size) (.bool rra) (.string rrx) (.string rry) 49 := Three.kept (by assumption) g1; have GG : W.grownBy v1 none := gr_then (by assumption) g1
    refine hK.out _ _ ?_ (fun hHeld => ?_)
    · (try dsimp only); (first | exact ⟨Three.c0 (by assumption), Three.c1 (by assumption), Three.c2 (by assumption), Three.c0 (by assumption), Three.c1 (by assumption), Three.c2 (by assumption), Three.c0 (by assumption), Three.c1 (by assumption), Three.c2 (by assumption)⟩ | go_keep)
    clear hK K
    ((try dsimp only [List.getElem_toArray, List.getElem_cons_succ, List.getElem_cons_zero]); try simp only [Act.put, List.setIfInBounds_toArray, List.set_cons_zero, List.set_cons_succ])
    refine wpAnyH_take (i := 39) (oi := _) (v := ?v36) rfl (by kernel_rfl) (by kernel_rfl) (by kernel_rfl) (fun _ _ _ h => h) (Or.inl ⟨by rfl, ?hy36⟩) (by assumption) ?rest36
    case hy36 => ((intro w hSw; (try dsimp only at hSw); go_simp); try (with_reducible rfl))
    ((try dsimp only [List.getElem_toArray, List.getElem_cons_succ, List.getElem_cons_zero]); try simp only [Act.put, List.setIfInBounds_toArray, List.set_cons_zero, List.set_cons_succ])
    refine wpAnyH_take (i := 40) (oi := _) (v := ?v37) rfl (by kernel_rfl) (by kernel_rfl) (by kernel_rfl) (fun _ _ _ h => h) (Or.inl ⟨by rfl, ?hy37⟩) (by assumption) ?rest37
    case hy37 => ((intro w hSw; (try dsimp only at hSw); go_simp); try (with_reducible rfl))
    ((try dsimp only [List.getElem_toArray, List.getElem_cons_succ, List.getElem_cons_zero]); try simp only [Act.put, List.setIfInBounds_toArray, List.set_cons_zero, List.set_cons_succ])
    refine wpAnyH_take (i := 41) (oi := _) (v := ?v38) rfl (by kernel_rfl) (by kernel_rfl) (by kernel_rfl) (fun _ _ _ h => h) (Or.inl ⟨by rfl, ?hy38⟩) (by assumption) ?rest38
    case hy38 => ((intro w hSw; (try dsimp only at hSw); go_simp); try (with_reducible rfl))
    ((try dsimp only [List.getElem_toArray, List.getElem_cons_succ, List.getElem_cons_zero]); try simp only [Act.put, List.setIfInBounds_toArray, List.set_cons_zero, List.set_cons_succ])
    refine wpAnyH_done (by kernel_rfl) ?_ _
    have M0P : Three v1 (w2.heap.size) (.bool ppa) (.string ppx) (.string ppy) 49 := by assumption
    have M0Q : Three v1 (w3.heap.size) (.bool qqa) (.string qqx) (.string qqy) 49 := by assumption
    have M0R : Three v1 (w4.heap.size) (.bool rra) (.string rrx) (.string rry) 49 := by assumption
    have G40 : W.grownBy v1 none := by assumption
    go_wp2_with fail
    have M_P := M0P.drew
    have M_Q := M0Q.drew
    have M_R := M0R.drew
    have G4 := gr_dr G40
    go_region_held3 (fun w' => w'.cell? ⟨w2.heap.size, 0, none⟩ = some (.bool ppa) ∧ w'.cell? ⟨w2.heap.size, 1, none⟩ = some (.string ppx) ∧ w'.cell? ⟨w2.heap.size, 2, none⟩ = some (.string ppy) ∧ w'.cell? ⟨w3.heap.size, 0, none⟩ = some (.bool qqa) ∧ w'.cell? ⟨w3.heap.size, 1, none⟩ = some (.string qqx) ∧ w'.cell? ⟨w3.heap.size, 2, none⟩ = some (.string qqy) ∧ w'.cell? ⟨w4.heap.size, 0, none⟩ = some (.bool rra) ∧ w'.cell? ⟨w4.heap.size, 1, none⟩ = some (.string rrx) ∧ w'.cell? ⟨w4.heap.size, 2, none⟩ = some (.string rry)) (first | exact ⟨Three.c0 (by assumption), Three.c1 (by assumption), Three.c2 (by assumption), Three.c0 (by assumption), Three.c1 (by assumption), Three.c2 (by assumption), Three.c0 (by assumption), Three.c1 (by assumption), Three.c2 (by assumption)⟩ | go_keep)
      (first
      | (go_at_call 45; (first | with_reducible refine (M1.out _).mono ?_ | with_reducible refine (M2.out _).mono ?_); rintro e v1 ⟨rfl, g1⟩; have TP : Three v1 (w2.heap.size) (.bool ppa) (.string ppx) (.string ppy) 49 := Three.kept (by assumption) g1; have TQ : Three v1 (w3.heap.size) (.bool qqa) (.string qqx) (.string qqy) 49 := Three.kept (by assumption) g1; have TR : Three v1 (w4.heap.size) (.bool rra) (.string rrx) (.string rry) 49 := Three.kept (by assumption) g1; have GG : W.grownBy v1 none := gr_then (by assumption) g1)
      | (go_at_call 47; (first | with_reducible refine (C6.out _).mono ?_ | with_reducible refine (C7.out _).mono ?_); rintro e v1 ⟨rfl, g1⟩; have TP : Three v1 (w2.heap.size) (.bool ppa) (.string ppx) (.string ppy) 49 := Three.kept (by assumption) g1; have TQ : Three v1 (w3.heap.size) (.bool qqa) (.string qqx) (.string qqy) 49 := Three.kept (by assumption) g1; have TR : Three v1 (w4.heap.size) (.bool rra) (.string rrx) (.string rry) 49 := Three.kept (by assumption) g1; have GG : W.grownBy v1 none := gr_then (by assumption) g1)
      | (go_at_call 49; (first | with_reducible refine (S1.out _).mono ?_ | with_reducible refine (S2.out _).mono ?_ | with_reducible refine (S3.out _).mono ?_); rintro e v1 ⟨rfl, g1⟩; have TP : Three v1 (w2.heap.size) (.bool ppa) (.string ppx) (.string ppy) 49 := Three.kept (by assumption) g1; have TQ : Three v1 (w3.heap.size) (.bool qqa) (.string qqx) (.string qqy) 49 := Three.kept (by assumption) g1; have TR : Three v1 (w4.heap.size) (.bool rra) (.string rrx) (.string rry) 49 := Three.kept (by assumption) g1; have GG : W.grownBy v1 none := gr_then (by assumption) g1)
      | (go_at_call 43; (first | with_reducible refine (B1.out _).mono ?_); rintro e v1 ⟨rfl, g1⟩; have TP : Three v1 (w2.heap.size) (.bool ppa) (.string ppx) (.string ppy) 49 := Three.kept (by assumption) g1; have TQ : Three v1 (w3.heap.size) (.bool qqa) (.string qqx) (.string qqy) 49 := Three.kept (by assumption) g1; have TR : Three v1 (w4.heap.size) (.bool rra) (.string rrx) (.string rry) 49 := Three.kept (by assumption) g1; have GG : W.grownBy v1 none := gr_then (by assumption) g1)
      | (go_at_call 56; (first | with_reducible refine (OZ.out _).mono ?_); rintro e v1 ⟨rfl, g1⟩; have TP : Three v1 (w2.heap.size) (.bool ppa) (.string ppx) (.string ppy) 49 := Three.kept (by assumption) g1; have TQ : Three v1 (w3.heap.size) (.bool qqa) (.string qqx) (.string qqy) 49 := Three.kept (by assumption) g1; have TR : Three v1 (w4.heap.size) (.bool rra) (.string rrx) (.string rry) 49 := Three.kept (by assumption) g1; have GG : W.grownBy v1 none := gr_then (by assumption) g1))
    all_goals
      go_wp2
      go_ret
      exact ⟨rfl, by assumption⟩
  · clear hne
    refine wp_region_held_drew (S := fun w' => w'.cell? ⟨w2.heap.size, 0, none⟩ = some (.bool ppa) ∧ w'.cell? ⟨w2.heap.size, 1, none⟩ = some (.string ppx) ∧ w'.cell? ⟨w2.heap.size, 2, none⟩ = some (.string ppy) ∧ w'.cell? ⟨w3.heap.size, 0, none⟩ = some (.bool ppa) ∧ w'.cell? ⟨w3.heap.size, 1, none⟩ = some (.string qqx) ∧ w'.cell? ⟨w3.heap.size, 2, none⟩ = some (.string qqy) ∧ w'.cell? ⟨w4.heap.size, 0, none⟩ = some (.bool rra) ∧ w'.cell? ⟨w4.heap.size, 1, none⟩ = some (.string rrx) ∧ w'.cell? ⟨w4.heap.size, 2, none⟩ = some (.string rry)) (by kernel_rfl) ?_ (fun hHeld => ?_)
    · (first | exact ⟨Three.c0 (by assumption), Three.c1 (by assumption), Three.c2 (by assumption), Three.c0 (by assumption), Three.c1 (by assumption), Three.c2 (by assumption), Three.c0 (by assumption), Three.c1 (by assumption), Three.c2 (by assumption)⟩ | go_keep)
    refine wpAnyH_take (i := 0) (oi := _) (v := ?v39) rfl (by kernel_rfl) (by kernel_rfl) (by kernel_rfl) (fun _ _ _ h => h) (Or.inl ⟨by rfl, ?hy39⟩) (by assumption) ?rest39
    case hy39 => ((intro w hSw; (try dsimp only at hSw); go_simp); try (with_reducible rfl))
    ((try dsimp only [List.getElem_toArray, List.getElem_cons_succ, List.getElem_cons_zero]); try simp only [Act.put, List.setIfInBounds_toArray, List.set_cons_zero, List.set_cons_succ])
    refine wpAnyH_take (i := 1) (oi := _) (v := ?v40) rfl (by kernel_rfl) (by kernel_rfl) (by kernel_rfl) (fun _ _ _ h => h) (Or.inl ⟨by rfl, ?hy40⟩) (by assumption) ?rest40
    case hy40 => ((intro w hSw; (try dsimp only at hSw); go_simp); try (with_reducible rfl))
    ((try dsimp only [List.getElem_toArray, List.getElem_cons_succ, List.getElem_cons_zero]); try simp only [Act.put, List.setIfInBounds_toArray, List.set_cons_zero, List.set_cons_succ])
    refine wpAnyH_take (i := 2) (oi := _) (v := ?v41) rfl (by kernel_rfl) (by kernel_rfl) (by kernel_rfl) (fun _ _ _ h => h) (Or.inl ⟨by rfl, ?hy41⟩) (by assumption) ?rest41
    case hy41 => ((intro w hSw; (try dsimp only at hSw); go_simp); try (with_reducible rfl))
    ((try dsimp only [List.getElem_toArray, List.getElem_cons_succ, List.getElem_cons_zero]); try simp only [Act.put, List.setIfInBounds_toArray, List.set_cons_zero, List.set_cons_succ])
    refine wpAnyH_ready (rs := [3]) (by kernel_rfl) (by simp) ?_
    refine AllReadyH.cons (o := _) rfl (fun K hK => ?_) AllReadyH.nil
    go_simp
    ( with_reducible refine (C2.out _).mono ?_); rintro e v1 ⟨rfl, g1⟩; have TP : Three v1 (w2.heap.size) (.bool ppa) (.string ppx) (.string ppy) 49 := Three.kept (by assumption) g1; have TQ : Three v1 (w3.heap.size) (.bool ppa) (.string qqx) (.string qqy) 49 := Three.kept (by assumption) g1; have TR : Three v1 (w4.heap.size) (.bool rra) (.string rrx) (.string rry) 49 := Three.kept (by assumption) g1; have GG : W.grownBy v1 none := gr_then (by assumption) g1
    refine hK.out _ _ ?_ (fun hHeld => ?_)
    · (try dsimp only); (first | exact ⟨Three.c0 (by assumption), Three.c1 (by assumption), Three.c2 (by assumption), Three.c0 (by assumption), Three.c1 (by assumption), Three.c2 (by assumption), Three.c0 (by assumption), Three.c1 (by assumption), Three.c2 (by assumption)⟩ | go_keep)
    clear hK K
    ((try dsimp only [List.getElem_toArray, List.getElem_cons_succ, List.getElem_cons_zero]); try simp only [Act.put, List.setIfInBounds_toArray, List.set_cons_zero, List.set_cons_succ])
    refine wpAnyH_take (i := 4) (oi := _) (v := ?v42) rfl (by kernel_rfl) (by kernel_rfl) (by kernel_rfl) (fun _ _ _ h => h) (Or.inl ⟨by rfl, ?hy42⟩) (by assumption) ?rest42
    case hy42 => ((intro w hSw; (try dsimp only at hSw); go_simp); try (with_reducible rfl))
    ((try dsimp only [List.getElem_toArray, List.getElem_cons_succ, List.getElem_cons_zero]); try simp only [Act.put, List.setIfInBounds_toArray, List.set_cons_zero, List.set_cons_succ])
    refine wpAnyH_take (i := 5) (oi := _) (v := ?v43) rfl (by kernel_rfl) (by kernel_rfl) (by kernel_rfl) (fun _ _ _ h => h) (Or.inl ⟨by rfl, ?hy43⟩) (by assumption) ?rest43
    case hy43 => ((intro w hSw; (try dsimp only at hSw); go_simp); try (with_reducible rfl))
    ((try dsimp only [List.getElem_toArray, List.getElem_cons_succ, List.getElem_cons_zero]); try simp only [Act.put, List.setIfInBounds_toArray, List.set_cons_zero, List.set_cons_succ])
    refine wpAnyH_take (i := 6) (oi := _) (v := ?v44) rfl (by kernel_rfl) (by kernel_rfl) (by kernel_rfl) (fun _ _ _ h => h) (Or.inl ⟨by rfl, ?hy44⟩) (by assumption) ?rest44
    case hy44 => ((intro w hSw; (try dsimp only at hSw); go_simp); try (with_reducible rfl))
    ((try dsimp only [List.getElem_toArray, List.getElem_cons_succ, List.getElem_cons_zero]); try simp only [Act.put, List.setIfInBounds_toArray, List.set_cons_zero, List.set_cons_succ])
    refine wpAnyH_take (i := 7) (oi := _) (v := ?v45) rfl (by kernel_rfl) (by kernel_rfl) (by kernel_rfl) (fun _ _ _ h => h) (Or.inl ⟨by rfl, ?hy45⟩) (by assumption) ?rest45
    case hy45 => ((intro w hSw; (try dsimp only at hSw); go_simp); try (with_reducible rfl))
    ((try dsimp only [List.getElem_toArray, List.getElem_cons_succ, List.getElem_cons_zero]); try simp only [Act.put, List.setIfInBounds_toArray, List.set_cons_zero, List.set_cons_succ])
    refine wpAnyH_take (i := 8) (oi := _) (v := ?v46) rfl (by kernel_rfl) (by kernel_rfl) (by kernel_rfl) (fun _ _ _ h => h) (Or.inl ⟨by rfl, ?hy46⟩) (by assumption) ?rest46
    case hy46 => ((intro w hSw; (try dsimp only at hSw); go_simp); try (with_reducible rfl))
    ((try dsimp only [List.getElem_toArray, List.getElem_cons_succ, List.getElem_cons_zero]); try simp only [Act.put, List.setIfInBounds_toArray, List.set_cons_zero, List.set_cons_succ])
    refine wpAnyH_take (i := 9) (oi := _) (v := ?v47) rfl (by kernel_rfl) (by kernel_rfl) (by kernel_rfl) (fun _ _ _ h => h) (Or.inl ⟨by rfl, ?hy47⟩) (by assumption) ?rest47
    case hy47 => ((intro w hSw; (try dsimp only at hSw); go_simp); try (with_reducible rfl))
    ((try dsimp only [List.getElem_toArray, List.getElem_cons_succ, List.getElem_cons_zero]); try simp only [Act.put, List.setIfInBounds_toArray, List.set_cons_zero, List.set_cons_succ])
    refine wpAnyH_take (i := 10) (oi := _) (v := ?v48) rfl (by kernel_rfl) (by kernel_rfl) (by kernel_rfl) (fun _ _ _ h => h) (Or.inl ⟨by rfl, ?hy48⟩) (by assumption) ?rest48
    case hy48 => ((intro w hSw; (try dsimp only at hSw); go_simp); try (with_reducible rfl))
    ((try dsimp only [List.getElem_toArray, List.getElem_cons_succ, List.getElem_cons_zero]); try simp only [Act.put, List.setIfInBounds_toArray, List.set_cons_zero, List.set_cons_succ])
    refine wpAnyH_take (i := 11) (oi := _) (v := ?v49) rfl (by kernel_rfl) (by kernel_rfl) (by kernel_rfl) (fun _ _ _ h => h) (Or.inl ⟨by rfl, ?hy49⟩) (by assumption) ?rest49
    case hy49 => ((intro w hSw; (try dsimp only at hSw); go_simp); try (with_reducible rfl))
    ((try dsimp only [List.getElem_toArray, List.getElem_cons_succ, List.getElem_cons_zero]); try simp only [Act.put, List.setIfInBounds_toArray, List.set_cons_zero, List.set_cons_succ])
    refine wpAnyH_take (i := 12) (oi := _) (v := ?v50) rfl (by kernel_rfl) (by kernel_rfl) (by kernel_rfl) (fun _ _ _ h => h) (Or.inl ⟨by rfl, ?hy50⟩) (by assumption) ?rest50
    case hy50 => ((intro w hSw; (try dsimp only at hSw); go_simp); try (with_reducible rfl))
    ((try dsimp only [List.getElem_toArray, List.getElem_cons_succ, List.getElem_cons_zero]); try simp only [Act.put, List.setIfInBounds_toArray, List.set_cons_zero, List.set_cons_succ])
    refine wpAnyH_take (i := 13) (oi := _) (v := ?v51) rfl (by kernel_rfl) (by kernel_rfl) (by kernel_rfl) (fun _ _ _ h => h) (Or.inl ⟨by rfl, ?hy51⟩) (by assumption) ?rest51
    case hy51 => ((intro w hSw; (try dsimp only at hSw); go_simp); try (with_reducible rfl))
    ((try dsimp only [List.getElem_toArray, List.getElem_cons_succ, List.getElem_cons_zero]); try simp only [Act.put, List.setIfInBounds_toArray, List.set_cons_zero, List.set_cons_succ])
    refine wpAnyH_take (i := 14) (oi := _) (v := ?v52) rfl (by kernel_rfl) (by kernel_rfl) (by kernel_rfl) (fun _ _ _ h => h) (Or.inl ⟨by rfl, ?hy52⟩) (by assumption) ?rest52
    case hy52 => ((intro w hSw; (try dsimp only at hSw); go_simp); try (with_reducible rfl))
    ((try dsimp only [List.getElem_toArray, List.getElem_cons_succ, List.getElem_cons_zero]); try simp only [Act.put, List.setIfInBounds_toArray, List.set_cons_zero, List.set_cons_succ])
    refine wpAnyH_take (i := 15) (oi := _) (v := ?v53) rfl (by kernel_rfl) (by kernel_rfl) (by kernel_rfl) (fun _ _ _ h => h) (Or.inl ⟨by rfl, ?hy53⟩) (by assumption) ?rest53
    case hy53 => ((intro w hSw; (try dsimp only at hSw); go_simp); try (with_reducible rfl))
    ((try dsimp only [List.getElem_toArray, List.getElem_cons_succ, List.getElem_cons_zero]); try simp only [Act.put, List.setIfInBounds_toArray, List.set_cons_zero, List.set_cons_succ])
    refine wpAnyH_take (i := 16) (oi := _) (v := ?v54) rfl (by kernel_rfl) (by kernel_rfl) (by kernel_rfl) (fun _ _ _ h => h) (Or.inl ⟨by rfl, ?hy54⟩) (by assumption) ?rest54
    case hy54 => ((intro w hSw; (try dsimp only at hSw); go_simp); try (with_reducible rfl))
    ((try dsimp only [List.getElem_toArray, List.getElem_cons_succ, List.getElem_cons_zero]); try simp only [Act.put, List.setIfInBounds_toArray, List.set_cons_zero, List.set_cons_succ])
    refine wpAnyH_take (i := 17) (oi := _) (v := ?v55) rfl (by kernel_rfl) (by kernel_rfl) (by kernel_rfl) (fun _ _ _ h => h) (Or.inl ⟨by rfl, ?hy55⟩) (by assumption) ?rest55
    case hy55 => ((intro w hSw; (try dsimp only at hSw); go_simp); try (with_reducible rfl))
    ((try dsimp only [List.getElem_toArray, List.getElem_cons_succ, List.getElem_cons_zero]); try simp only [Act.put, List.setIfInBounds_toArray, List.set_cons_zero, List.set_cons_succ])
    refine wpAnyH_take (i := 18) (oi := _) (v := _) rfl (by kernel_rfl) (by kernel_rfl) (by kernel_rfl) (fun _ _ _ h => h) (Or.inr ⟨by rfl, rfl⟩) (by assumption) ?rest56
    ((try dsimp only [List.getElem_toArray, List.getElem_cons_succ, List.getElem_cons_zero]); try simp only [Act.put, List.setIfInBounds_toArray, List.set_cons_zero, List.set_cons_succ])
    refine wpAnyH_take (i := 19) (oi := _) (v := _) rfl (by kernel_rfl) (by kernel_rfl) (by kernel_rfl) (fun _ _ _ h => h) (Or.inr ⟨by rfl, rfl⟩) (by assumption) ?rest57
    ((try dsimp only [List.getElem_toArray, List.getElem_cons_succ, List.getElem_cons_zero]); try simp only [Act.put, List.setIfInBounds_toArray, List.set_cons_zero, List.set_cons_succ])
    refine wpAnyH_take (i := 20) (oi := _) (v := _) rfl (by kernel_rfl) (by kernel_rfl) (by kernel_rfl) (fun _ _ _ h => h) (Or.inr ⟨by rfl, rfl⟩) (by assumption) ?rest58
    ((try dsimp only [List.getElem_toArray, List.getElem_cons_succ, List.getElem_cons_zero]); try simp only [Act.put, List.setIfInBounds_toArray, List.set_cons_zero, List.set_cons_succ])
    refine wpAnyH_take (i := 21) (oi := _) (v := _) rfl (by kernel_rfl) (by kernel_rfl) (by kernel_rfl) (fun _ _ _ h => h) (Or.inr ⟨by rfl, rfl⟩) (by assumption) ?rest59
    ((try dsimp only [List.getElem_toArray, List.getElem_cons_succ, List.getElem_cons_zero]); try simp only [Act.put, List.setIfInBounds_toArray, List.set_cons_zero, List.set_cons_succ])
    refine wpAnyH_take (i := 22) (oi := _) (v := ?v60) rfl (by kernel_rfl) (by kernel_rfl) (by kernel_rfl) (fun _ _ _ h => h) (Or.inl ⟨by rfl, ?hy60⟩) (by assumption) ?rest60
    case hy60 => ((intro w hSw; (try dsimp only at hSw); go_simp); try (with_reducible rfl))
    ((try dsimp only [List.getElem_toArray, List.getElem_cons_succ, List.getElem_cons_zero]); try simp only [Act.put, List.setIfInBounds_toArray, List.set_cons_zero, List.set_cons_succ])
    refine wpAnyH_take (i := 23) (oi := _) (v := ?v61) rfl (by kernel_rfl) (by kernel_rfl) (by kernel_rfl) (fun _ _ _ h => h) (Or.inl ⟨by rfl, ?hy61⟩) (by assumption) ?rest61
    case hy61 => ((intro w hSw; (try dsimp only at hSw); go_simp); try (with_reducible rfl))
    ((try dsimp only [List.getElem_toArray, List.getElem_cons_succ, List.getElem_cons_zero]); try simp only [Act.put, List.setIfInBounds_toArray, List.set_cons_zero, List.set_cons_succ])
    refine wpAnyH_take (i := 24) (oi := _) (v := _) rfl (by kernel_rfl) (by kernel_rfl) (by kernel_rfl) (fun _ _ _ h => h) (Or.inr ⟨by rfl, rfl⟩) (by assumption) ?rest62
    ((try dsimp only [List.getElem_toArray, List.getElem_cons_succ, List.getElem_cons_zero]); try simp only [Act.put, List.setIfInBounds_toArray, List.set_cons_zero, List.set_cons_succ])
    refine wpAnyH_take (i := 25) (oi := _) (v := _) rfl (by kernel_rfl) (by kernel_rfl) (by kernel_rfl) (fun _ _ _ h => h) (Or.inr ⟨by rfl, rfl⟩) (by assumption) ?rest63
    ((try dsimp only [List.getElem_toArray, List.getElem_cons_succ, List.getElem_cons_zero]); try simp only [Act.put, List.setIfInBounds_toArray, List.set_cons_zero, List.set_cons_succ])
    refine wpAnyH_take (i := 26) (oi := _) (v := _) rfl (by kernel_rfl) (by kernel_rfl) (by kernel_rfl) (fun _ _ _ h => h) (Or.inr ⟨by rfl, rfl⟩) (by assumption) ?rest64
    ((try dsimp only [List.getElem_toArray, List.getElem_cons_succ, List.getElem_cons_zero]); try simp only [Act.put, List.setIfInBounds_toArray, List.set_cons_zero, List.set_cons_succ])
    refine wpAnyH_take (i := 27) (oi := _) (v := _) rfl (by kernel_rfl) (by kernel_rfl) (by kernel_rfl) (fun _ _ _ h => h) (Or.inr ⟨by rfl, rfl⟩) (by assumption) ?rest65
    ((try dsimp only [List.getElem_toArray, List.getElem_cons_succ, List.getElem_cons_zero]); try simp only [Act.put, List.setIfInBounds_toArray, List.set_cons_zero, List.set_cons_succ])
    refine wpAnyH_take (i := 28) (oi := _) (v := ?v66) rfl (by kernel_rfl) (by kernel_rfl) (by kernel_rfl) (fun _ _ _ h => h) (Or.inl ⟨by rfl, ?hy66⟩) (by assumption) ?rest66
    case hy66 => ((intro w hSw; (try dsimp only at hSw); go_simp); try (with_reducible rfl))
    ((try dsimp only [List.getElem_toArray, List.getElem_cons_succ, List.getElem_cons_zero]); try simp only [Act.put, List.setIfInBounds_toArray, List.set_cons_zero, List.set_cons_succ])
    refine wpAnyH_take (i := 29) (oi := _) (v := ?v67) rfl (by kernel_rfl) (by kernel_rfl) (by kernel_rfl) (fun _ _ _ h => h) (Or.inl ⟨by rfl, ?hy67⟩) (by assumption) ?rest67
    case hy67 => ((intro w hSw; (try dsimp only at hSw); go_simp); try (with_reducible rfl))
    ((try dsimp only [List.getElem_toArray, List.getElem_cons_succ, List.getElem_cons_zero]); try simp only [Act.put, List.setIfInBounds_toArray, List.set_cons_zero, List.set_cons_succ])
    refine wpAnyH_take (i := 30) (oi := _) (v := ?v68) rfl (by kernel_rfl) (by kernel_rfl) (by kernel_rfl) (fun _ _ _ h => h) (Or.inl ⟨by rfl, ?hy68⟩) (by assumption) ?rest68
    case hy68 => ((intro w hSw; (try dsimp only at hSw); go_simp); try (with_reducible rfl))
    ((try dsimp only [List.getElem_toArray, List.getElem_cons_succ, List.getElem_cons_zero]); try simp only [Act.put, List.setIfInBounds_toArray, List.set_cons_zero, List.set_cons_succ])
    refine wpAnyH_take (i := 31) (oi := _) (v := ?v69) rfl (by kernel_rfl) (by kernel_rfl) (by kernel_rfl) (fun _ _ _ h => h) (Or.inl ⟨by rfl, ?hy69⟩) (by assumption) ?rest69
    case hy69 => ((intro w hSw; (try dsimp only at hSw); go_simp); try (with_reducible rfl))
    ((try dsimp only [List.getElem_toArray, List.getElem_cons_succ, List.getElem_cons_zero]); try simp only [Act.put, List.setIfInBounds_toArray, List.set_cons_zero, List.set_cons_succ])
    refine wpAnyH_take (i := 32) (oi := _) (v := ?v70) rfl (by kernel_rfl) (by kernel_rfl) (by kernel_rfl) (fun _ _ _ h => h) (Or.inl ⟨by rfl, ?hy70⟩) (by assumption) ?rest70
    case hy70 => ((intro w hSw; (try dsimp only at hSw); go_simp); try (with_reducible rfl))
    ((try dsimp only [List.getElem_toArray, List.getElem_cons_succ, List.getElem_cons_zero]); try simp only [Act.put, List.setIfInBounds_toArray, List.set_cons_zero, List.set_cons_succ])
    refine wpAnyH_take (i := 34) (oi := _) (v := ?v71) rfl (by kernel_rfl) (by kernel_rfl) (by kernel_rfl) (fun _ _ _ h => h) (Or.inl ⟨by rfl, ?hy71⟩) (by assumption) ?rest71
    case hy71 => ((intro w hSw; (try dsimp only at hSw); go_simp); try (with_reducible rfl))
    ((try dsimp only [List.getElem_toArray, List.getElem_cons_succ, List.getElem_cons_zero]); try simp only [Act.put, List.setIfInBounds_toArray, List.set_cons_zero, List.set_cons_succ])
    refine wpAnyH_take (i := 35) (oi := _) (v := ?v72) rfl (by kernel_rfl) (by kernel_rfl) (by kernel_rfl) (fun _ _ _ h => h) (Or.inl ⟨by rfl, ?hy72⟩) (by assumption) ?rest72
    case hy72 => ((intro w hSw; (try dsimp only at hSw); go_simp); try (with_reducible rfl))
    ((try dsimp only [List.getElem_toArray, List.getElem_cons_succ, List.getElem_cons_zero]); try simp only [Act.put, List.setIfInBounds_toArray, List.set_cons_zero, List.set_cons_succ])
    refine wpAnyH_take (i := 38) (oi := _) (v := ?v73) rfl (by kernel_rfl) (by kernel_rfl) (by kernel_rfl) (fun _ _ _ h => h) (Or.inl ⟨by rfl, ?hy73⟩) (by assumption) ?rest73
    case hy73 => ((intro w hSw; (try dsimp only at hSw); go_simp); try (with_reducible rfl))
    ((try dsimp only [List.getElem_toArray, List.getElem_cons_succ, List.getElem_cons_zero]); try simp only [Act.put, List.setIfInBounds_toArray, List.set_cons_zero, List.set_cons_succ])
    refine wpAnyH_ready (rs := [33]) (by kernel_rfl) (by simp) ?_
    refine AllReadyH.cons (o := _) rfl (fun K hK => ?_) AllReadyH.nil
    go_simp
    ( with_reducible refine (A1.out _).mono ?_); rintro e v1 ⟨rfl, g1⟩; have TP : Three v1 (w2.heap.size) (.bool ppa) (.string ppx) (.string ppy) 49 := Three.kept (by assumption) g1; have TQ : Three v1 (w3.heap.size) (.bool ppa) (.string qqx) (.string qqy) 49 := Three.kept (by assumption) g1; have TR : Three v1 (w4.heap.size) (.bool rra) (.string rrx) (.string rry) 49 := Three.kept (by assumption) g1; have GG : W.grownBy v1 none := gr_then (by assumption) g1
    refine hK.out _ _ ?_ (fun hHeld => ?_)
    · (try dsimp only); (first | exact ⟨Three.c0 (by assumption), Three.c1 (by assumption), Three.c2 (by assumption), Three.c0 (by assumption), Three.c1 (by assumption), Three.c2 (by assumption), Three.c0 (by assumption), Three.c1 (by assumption), Three.c2 (by assumption)⟩ | go_keep)
    clear hK K
    ((try dsimp only [List.getElem_toArray, List.getElem_cons_succ, List.getElem_cons_zero]); try simp only [Act.put, List.setIfInBounds_toArray, List.set_cons_zero, List.set_cons_succ])
    refine wpAnyH_ready (rs := [36]) (by kernel_rfl) (by simp) ?_
    refine AllReadyH.cons (o := _) rfl (fun K hK => ?_) AllReadyH.nil
    go_simp
    ( with_reducible refine (A2.out _).mono ?_); rintro e v1 ⟨rfl, g1⟩; have TP : Three v1 (w2.heap.size) (.bool ppa) (.string ppx) (.string ppy) 49 := Three.kept (by assumption) g1; have TQ : Three v1 (w3.heap.size) (.bool ppa) (.string qqx) (.string qqy) 49 := Three.kept (by assumption) g1; have TR : Three v1 (w4.heap.size) (.bool rra) (.string rrx) (.string rry) 49 := Three.kept (by assumption) g1; have GG : W.grownBy v1 none := gr_then (by assumption) g1
    refine hK.out _ _ ?_ (fun hHeld => ?_)
    · (try dsimp only); (first | exact ⟨Three.c0 (by assumption), Three.c1 (by assumption), Three.c2 (by assumption), Three.c0 (by assumption), Three.c1 (by assumption), Three.c2 (by assumption), Three.c0 (by assumption), Three.c1 (by assumption), Three.c2 (by assumption)⟩ | go_keep)
    clear hK K
    ((try dsimp only [List.getElem_toArray, List.getElem_cons_succ, List.getElem_cons_zero]); try simp only [Act.put, List.setIfInBounds_toArray, List.set_cons_zero, List.set_cons_succ])
    refine wpAnyH_ready (rs := [37]) (by kernel_rfl) (by simp) ?_
    refine AllReadyH.cons (o := _) rfl (fun K hK => ?_) AllReadyH.nil
    go_simp
    ( with_reducible refine (C5.out _).mono ?_); rintro e v1 ⟨rfl, g1⟩; have TP : Three v1 (w2.heap.size) (.bool ppa) (.string ppx) (.string ppy) 49 := Three.kept (by assumption) g1; have TQ : Three v1 (w3.heap.size) (.bool ppa) (.string qqx) (.string qqy) 49 := Three.kept (by assumption) g1; have TR : Three v1 (w4.heap.size) (.bool rra) (.string rrx) (.string rry) 49 := Three.kept (by assumption) g1; have GG : W.grownBy v1 none := gr_then (by assumption) g1
    refine hK.out _ _ ?_ (fun hHeld => ?_)
    · (try dsimp only); (first | exact ⟨Three.c0 (by assumption), Three.c1 (by assumption), Three.c2 (by assumption), Three.c0 (by assumption), Three.c1 (by assumption), Three.c2 (by assumption), Three.c0 (by assumption), Three.c1 (by assumption), Three.c2 (by assumption)⟩ | go_keep)
    clear hK K
    ((try dsimp only [List.getElem_toArray, List.getElem_cons_succ, List.getElem_cons_zero]); try simp only [Act.put, List.setIfInBounds_toArray, List.set_cons_zero, List.set_cons_succ])
    refine wpAnyH_take (i := 39) (oi := _) (v := ?v74) rfl (by kernel_rfl) (by kernel_rfl) (by kernel_rfl) (fun _ _ _ h => h) (Or.inl ⟨by rfl, ?hy74⟩) (by assumption) ?rest74
    case hy74 => ((intro w hSw; (try dsimp only at hSw); go_simp); try (with_reducible rfl))
    ((try dsimp only [List.getElem_toArray, List.getElem_cons_succ, List.getElem_cons_zero]); try simp only [Act.put, List.setIfInBounds_toArray, List.set_cons_zero, List.set_cons_succ])
    refine wpAnyH_take (i := 40) (oi := _) (v := ?v75) rfl (by kernel_rfl) (by kernel_rfl) (by kernel_rfl) (fun _ _ _ h => h) (Or.inl ⟨by rfl, ?hy75⟩) (by assumption) ?rest75
    case hy75 => ((intro w hSw; (try dsimp only at hSw); go_simp); try (with_reducible rfl))
    ((try dsimp only [List.getElem_toArray, List.getElem_cons_succ, List.getElem_cons_zero]); try simp only [Act.put, List.setIfInBounds_toArray, List.set_cons_zero, List.set_cons_succ])
    refine wpAnyH_take (i := 41) (oi := _) (v := ?v76) rfl (by kernel_rfl) (by kernel_rfl) (by kernel_rfl) (fun _ _ _ h => h) (Or.inl ⟨by rfl, ?hy76⟩) (by assumption) ?rest76
    case hy76 => ((intro w hSw; (try dsimp only at hSw); go_simp); try (with_reducible rfl))
    ((try dsimp only [List.getElem_toArray, List.getElem_cons_succ, List.getElem_cons_zero]); try simp only [Act.put, List.setIfInBounds_toArray, List.set_cons_zero, List.set_cons_succ])
    refine wpAnyH_done (by kernel_rfl) ?_ _
    have M0P : Three v1 (w2.heap.size) (.bool ppa) (.string ppx) (.string ppy) 49 := by assumption
    have M0Q : Three v1 (w3.heap.size) (.bool ppa) (.string qqx) (.string qqy) 49 := by assumption
    have M0R : Three v1 (w4.heap.size) (.bool rra) (.string rrx) (.string rry) 49 := by assumption
    have G40 : W.grownBy v1 none := by assumption
    go_wp2_with fail
    have M_P := M0P.drew
    have M_Q := M0Q.drew
    have M_R := M0R.drew
    have G4 := gr_dr G40
    go_region_held3 (fun w' => w'.cell? ⟨w2.heap.size, 0, none⟩ = some (.bool ppa) ∧ w'.cell? ⟨w2.heap.size, 1, none⟩ = some (.string ppx) ∧ w'.cell? ⟨w2.heap.size, 2, none⟩ = some (.string ppy) ∧ w'.cell? ⟨w3.heap.size, 0, none⟩ = some (.bool ppa) ∧ w'.cell? ⟨w3.heap.size, 1, none⟩ = some (.string qqx) ∧ w'.cell? ⟨w3.heap.size, 2, none⟩ = some (.string qqy) ∧ w'.cell? ⟨w4.heap.size, 0, none⟩ = some (.bool rra) ∧ w'.cell? ⟨w4.heap.size, 1, none⟩ = some (.string rrx) ∧ w'.cell? ⟨w4.heap.size, 2, none⟩ = some (.string rry)) (first | exact ⟨Three.c0 (by assumption), Three.c1 (by assumption), Three.c2 (by assumption), Three.c0 (by assumption), Three.c1 (by assumption), Three.c2 (by assumption), Three.c0 (by assumption), Three.c1 (by assumption), Three.c2 (by assumption)⟩ | go_keep)
      (first
      | (go_at_call 45; (first | with_reducible refine (M1.out _).mono ?_ | with_reducible refine (M2.out _).mono ?_); rintro e v1 ⟨rfl, g1⟩; have TP : Three v1 (w2.heap.size) (.bool ppa) (.string ppx) (.string ppy) 49 := Three.kept (by assumption) g1; have TQ : Three v1 (w3.heap.size) (.bool ppa) (.string qqx) (.string qqy) 49 := Three.kept (by assumption) g1; have TR : Three v1 (w4.heap.size) (.bool rra) (.string rrx) (.string rry) 49 := Three.kept (by assumption) g1; have GG : W.grownBy v1 none := gr_then (by assumption) g1)
      | (go_at_call 47; (first | with_reducible refine (C6.out _).mono ?_ | with_reducible refine (C7.out _).mono ?_); rintro e v1 ⟨rfl, g1⟩; have TP : Three v1 (w2.heap.size) (.bool ppa) (.string ppx) (.string ppy) 49 := Three.kept (by assumption) g1; have TQ : Three v1 (w3.heap.size) (.bool ppa) (.string qqx) (.string qqy) 49 := Three.kept (by assumption) g1; have TR : Three v1 (w4.heap.size) (.bool rra) (.string rrx) (.string rry) 49 := Three.kept (by assumption) g1; have GG : W.grownBy v1 none := gr_then (by assumption) g1)
      | (go_at_call 49; (first | with_reducible refine (S1.out _).mono ?_ | with_reducible refine (S2.out _).mono ?_ | with_reducible refine (S3.out _).mono ?_); rintro e v1 ⟨rfl, g1⟩; have TP : Three v1 (w2.heap.size) (.bool ppa) (.string ppx) (.string ppy) 49 := Three.kept (by assumption) g1; have TQ : Three v1 (w3.heap.size) (.bool ppa) (.string qqx) (.string qqy) 49 := Three.kept (by assumption) g1; have TR : Three v1 (w4.heap.size) (.bool rra) (.string rrx) (.string rry) 49 := Three.kept (by assumption) g1; have GG : W.grownBy v1 none := gr_then (by assumption) g1)
      | (go_at_call 43; (first | with_reducible refine (B1.out _).mono ?_); rintro e v1 ⟨rfl, g1⟩; have TP : Three v1 (w2.heap.size) (.bool ppa) (.string ppx) (.string ppy) 49 := Three.kept (by assumption) g1; have TQ : Three v1 (w3.heap.size) (.bool ppa) (.string qqx) (.string qqy) 49 := Three.kept (by assumption) g1; have TR : Three v1 (w4.heap.size) (.bool rra) (.string rrx) (.string rry) 49 := Three.kept (by assumption) g1; have GG : W.grownBy v1 none := gr_then (by assumption) g1)
      | (go_at_call 56; (first | with_reducible refine (OZ.out _).mono ?_); rintro e v1 ⟨rfl, g1⟩; have TP : Three v1 (w2.heap.size) (.bool ppa) (.string ppx) (.string ppy) 49 := Three.kept (by assumption) g1; have TQ : Three v1 (w3.heap.size) (.bool ppa) (.string qqx) (.string qqy) 49 := Three.kept (by assumption) g1; have TR : Three v1 (w4.heap.size) (.bool rra) (.string rrx) (.string rry) 49 := Three.kept (by assumption) g1; have GG : W.grownBy v1 none := gr_then (by assumption) g1))
    all_goals
      go_wp2
      go_ret
      exact ⟨rfl, by assumption⟩
  · clear hne
    refine wp_region_held_drew (S := fun w' => w'.cell? ⟨w2.heap.size, 0, none⟩ = some (.bool ppa) ∧ w'.cell? ⟨w2.heap.size, 1, none⟩ = some (.string ppx) ∧ w'.cell? ⟨w2.heap.size, 2, none⟩ = some (.string ppy) ∧ w'.cell? ⟨w3.heap.size, 0, none⟩ = some (.bool ppa) ∧ w'.cell? ⟨w3.heap.size, 1, none⟩ = some (.string ppx) ∧ w'.cell? ⟨w3.heap.size, 2, none⟩ = some (.string qqy) ∧ w'.cell? ⟨w4.heap.size, 0, none⟩ = some (.bool rra) ∧ w'.cell? ⟨w4.heap.size, 1, none⟩ = some (.string rrx) ∧ w'.cell? ⟨w4.heap.size, 2, none⟩ = some (.string rry)) (by kernel_rfl) ?_ (fun hHeld => ?_)
    · (first | exact ⟨Three.c0 (by assumption), Three.c1 (by assumption), Three.c2 (by assumption), Three.c0 (by assumption), Three.c1 (by assumption), Three.c2 (by assumption), Three.c0 (by assumption), Three.c1 (by assumption), Three.c2 (by assumption)⟩ | go_keep)
    refine wpAnyH_take (i := 0) (oi := _) (v := ?v77) rfl (by kernel_rfl) (by kernel_rfl) (by kernel_rfl) (fun _ _ _ h => h) (Or.inl ⟨by rfl, ?hy77⟩) (by assumption) ?rest77
    case hy77 => ((intro w hSw; (try dsimp only at hSw); go_simp); try (with_reducible rfl))
    ((try dsimp only [List.getElem_toArray, List.getElem_cons_succ, List.getElem_cons_zero]); try simp only [Act.put, List.setIfInBounds_toArray, List.set_cons_zero, List.set_cons_succ])
    refine wpAnyH_take (i := 1) (oi := _) (v := ?v78) rfl (by kernel_rfl) (by kernel_rfl) (by kernel_rfl) (fun _ _ _ h => h) (Or.inl ⟨by rfl, ?hy78⟩) (by assumption) ?rest78
    case hy78 => ((intro w hSw; (try dsimp only at hSw); go_simp); try (with_reducible rfl))
    ((try dsimp only [List.getElem_toArray, List.getElem_cons_succ, List.getElem_cons_zero]); try simp only [Act.put, List.setIfInBounds_toArray, List.set_cons_zero, List.set_cons_succ])
    refine wpAnyH_take (i := 2) (oi := _) (v := ?v79) rfl (by kernel_rfl) (by kernel_rfl) (by kernel_rfl) (fun _ _ _ h => h) (Or.inl ⟨by rfl, ?hy79⟩) (by assumption) ?rest79
    case hy79 => ((intro w hSw; (try dsimp only at hSw); go_simp); try (with_reducible rfl))
    ((try dsimp only [List.getElem_toArray, List.getElem_cons_succ, List.getElem_cons_zero]); try simp only [Act.put, List.setIfInBounds_toArray, List.set_cons_zero, List.set_cons_succ])
    refine wpAnyH_ready (rs := [3]) (by kernel_rfl) (by simp) ?_
    refine AllReadyH.cons (o := _) rfl (fun K hK => ?_) AllReadyH.nil
    go_simp
    ( with_reducible refine (C2.out _).mono ?_); rintro e v1 ⟨rfl, g1⟩; have TP : Three v1 (w2.heap.size) (.bool ppa) (.string ppx) (.string ppy) 49 := Three.kept (by assumption) g1; have TQ : Three v1 (w3.heap.size) (.bool ppa) (.string ppx) (.string qqy) 49 := Three.kept (by assumption) g1; have TR : Three v1 (w4.heap.size) (.bool rra) (.string rrx) (.string rry) 49 := Three.kept (by assumption) g1; have GG : W.grownBy v1 none := gr_then (by assumption) g1
    refine hK.out _ _ ?_ (fun hHeld => ?_)
    · (try dsimp only); (first | exact ⟨Three.c0 (by assumption), Three.c1 (by assumption), Three.c2 (by assumption), Three.c0 (by assumption), Three.c1 (by assumption), Three.c2 (by assumption), Three.c0 (by assumption), Three.c1 (by assumption), Three.c2 (by assumption)⟩ | go_keep)
    clear hK K
    ((try dsimp only [List.getElem_toArray, List.getElem_cons_succ, List.getElem_cons_zero]); try simp only [Act.put, List.setIfInBounds_toArray, List.set_cons_zero, List.set_cons_succ])
    refine wpAnyH_take (i := 4) (oi := _) (v := ?v80) rfl (by kernel_rfl) (by kernel_rfl) (by kernel_rfl) (fun _ _ _ h => h) (Or.inl ⟨by rfl, ?hy80⟩) (by assumption) ?rest80
    case hy80 => ((intro w hSw; (try dsimp only at hSw); go_simp); try (with_reducible rfl))
    ((try dsimp only [List.getElem_toArray, List.getElem_cons_succ, List.getElem_cons_zero]); try simp only [Act.put, List.setIfInBounds_toArray, List.set_cons_zero, List.set_cons_succ])
    refine wpAnyH_take (i := 5) (oi := _) (v := ?v81) rfl (by kernel_rfl) (by kernel_rfl) (by kernel_rfl) (fun _ _ _ h => h) (Or.inl ⟨by rfl, ?hy81⟩) (by assumption) ?rest81
    case hy81 => ((intro w hSw; (try dsimp only at hSw); go_simp); try (with_reducible rfl))
    ((try dsimp only [List.getElem_toArray, List.getElem_cons_succ, List.getElem_cons_zero]); try simp only [Act.put, List.setIfInBounds_toArray, List.set_cons_zero, List.set_cons_succ])
    refine wpAnyH_take (i := 6) (oi := _) (v := ?v82) rfl (by kernel_rfl) (by kernel_rfl) (by kernel_rfl) (fun _ _ _ h => h) (Or.inl ⟨by rfl, ?hy82⟩) (by assumption) ?rest82
    case hy82 => ((intro w hSw; (try dsimp only at hSw); go_simp); try (with_reducible rfl))
    ((try dsimp only [List.getElem_toArray, List.getElem_cons_succ, List.getElem_cons_zero]); try simp only [Act.put, List.setIfInBounds_toArray, List.set_cons_zero, List.set_cons_succ])
    refine wpAnyH_take (i := 7) (oi := _) (v := ?v83) rfl (by kernel_rfl) (by kernel_rfl) (by kernel_rfl) (fun _ _ _ h => h) (Or.inl ⟨by rfl, ?hy83⟩) (by assumption) ?rest83
    case hy83 => ((intro w hSw; (try dsimp only at hSw); go_simp); try (with_reducible rfl))
    ((try dsimp only [List.getElem_toArray, List.getElem_cons_succ, List.getElem_cons_zero]); try simp only [Act.put, List.setIfInBounds_toArray, List.set_cons_zero, List.set_cons_succ])
    refine wpAnyH_take (i := 8) (oi := _) (v := ?v84) rfl (by kernel_rfl) (by kernel_rfl) (by kernel_rfl) (fun _ _ _ h => h) (Or.inl ⟨by rfl, ?hy84⟩) (by assumption) ?rest84
    case hy84 => ((intro w hSw; (try dsimp only at hSw); go_simp); try (with_reducible rfl))
    ((try dsimp only [List.getElem_toArray, List.getElem_cons_succ, List.getElem_cons_zero]); try simp only [Act.put, List.setIfInBounds_toArray, List.set_cons_zero, List.set_cons_succ])
    refine wpAnyH_take (i := 9) (oi := _) (v := ?v85) rfl (by kernel_rfl) (by kernel_rfl) (by kernel_rfl) (fun _ _ _ h => h) (Or.inl ⟨by rfl, ?hy85⟩) (by assumption) ?rest85
    case hy85 => ((intro w hSw; (try dsimp only at hSw); go_simp); try (with_reducible rfl))
    ((try dsimp only [List.getElem_toArray, List.getElem_cons_succ, List.getElem_cons_zero]); try simp only [Act.put, List.setIfInBounds_toArray, List.set_cons_zero, List.set_cons_succ])
    refine wpAnyH_take (i := 10) (oi := _) (v := ?v86) rfl (by kernel_rfl) (by kernel_rfl) (by kernel_rfl) (fun _ _ _ h => h) (Or.inl ⟨by rfl, ?hy86⟩) (by assumption) ?rest86
    case hy86 => ((intro w hSw; (try dsimp only at hSw); go_simp); try (with_reducible rfl))
    ((try dsimp only [List.getElem_toArray, List.getElem_cons_succ, List.getElem_cons_zero]); try simp only [Act.put, List.setIfInBounds_toArray, List.set_cons_zero, List.set_cons_succ])
    refine wpAnyH_take (i := 11) (oi := _) (v := ?v87) rfl (by kernel_rfl) (by kernel_rfl) (by kernel_rfl) (fun _ _ _ h => h) (Or.inl ⟨by rfl, ?hy87⟩) (by assumption) ?rest87
    case hy87 => ((intro w hSw; (try dsimp only at hSw); go_simp); try (with_reducible rfl))
    ((try dsimp only [List.getElem_toArray, List.getElem_cons_succ, List.getElem_cons_zero]); try simp only [Act.put, List.setIfInBounds_toArray, List.set_cons_zero, List.set_cons_succ])
    refine wpAnyH_take (i := 12) (oi := _) (v := ?v88) rfl (by kernel_rfl) (by kernel_rfl) (by kernel_rfl) (fun _ _ _ h => h) (Or.inl ⟨by rfl, ?hy88⟩) (by assumption) ?rest88
    case hy88 => ((intro w hSw; (try dsimp only at hSw); go_simp); try (with_reducible rfl))
    ((try dsimp only [List.getElem_toArray, List.getElem_cons_succ, List.getElem_cons_zero]); try simp only [Act.put, List.setIfInBounds_toArray, List.set_cons_zero, List.set_cons_succ])
    refine wpAnyH_take (i := 13) (oi := _) (v := ?v89) rfl (by kernel_rfl) (by kernel_rfl) (by kernel_rfl) (fun _ _ _ h => h) (Or.inl ⟨by rfl, ?hy89⟩) (by assumption) ?rest89
    case hy89 => ((intro w hSw; (try dsimp only at hSw); go_simp); try (with_reducible rfl))
    ((try dsimp only [List.getElem_toArray, List.getElem_cons_succ, List.getElem_cons_zero]); try simp only [Act.put, List.setIfInBounds_toArray, List.set_cons_zero, List.set_cons_succ])
    refine wpAnyH_take (i := 14) (oi := _) (v := ?v90) rfl (by kernel_rfl) (by kernel_rfl) (by kernel_rfl) (fun _ _ _ h => h) (Or.inl ⟨by rfl, ?hy90⟩) (by assumption) ?rest90
    case hy90 => ((intro w hSw; (try dsimp only at hSw); go_simp); try (with_reducible rfl))
    ((try dsimp only [List.getElem_toArray, List.getElem_cons_succ, List.getElem_cons_zero]); try simp only [Act.put, List.setIfInBounds_toArray, List.set_cons_zero, List.set_cons_succ])
    refine wpAnyH_take (i := 15) (oi := _) (v := ?v91) rfl (by kernel_rfl) (by kernel_rfl) (by kernel_rfl) (fun _ _ _ h => h) (Or.inl ⟨by rfl, ?hy91⟩) (by assumption) ?rest91
    case hy91 => ((intro w hSw; (try dsimp only at hSw); go_simp); try (with_reducible rfl))
    ((try dsimp only [List.getElem_toArray, List.getElem_cons_succ, List.getElem_cons_zero]); try simp only [Act.put, List.setIfInBounds_toArray, List.set_cons_zero, List.set_cons_succ])
    refine wpAnyH_take (i := 16) (oi := _) (v := ?v92) rfl (by kernel_rfl) (by kernel_rfl) (by kernel_rfl) (fun _ _ _ h => h) (Or.inl ⟨by rfl, ?hy92⟩) (by assumption) ?rest92
    case hy92 => ((intro w hSw; (try dsimp only at hSw); go_simp); try (with_reducible rfl))
    ((try dsimp only [List.getElem_toArray, List.getElem_cons_succ, List.getElem_cons_zero]); try simp only [Act.put, List.setIfInBounds_toArray, List.set_cons_zero, List.set_cons_succ])
    refine wpAnyH_take (i := 17) (oi := _) (v := ?v93) rfl (by kernel_rfl) (by kernel_rfl) (by kernel_rfl) (fun _ _ _ h => h) (Or.inl ⟨by rfl, ?hy93⟩) (by assumption) ?rest93
    case hy93 => ((intro w hSw; (try dsimp only at hSw); go_simp); try (with_reducible rfl))
    ((try dsimp only [List.getElem_toArray, List.getElem_cons_succ, List.getElem_cons_zero]); try simp only [Act.put, List.setIfInBounds_toArray, List.set_cons_zero, List.set_cons_succ])
    refine wpAnyH_take (i := 18) (oi := _) (v := _) rfl (by kernel_rfl) (by kernel_rfl) (by kernel_rfl) (fun _ _ _ h => h) (Or.inr ⟨by rfl, rfl⟩) (by assumption) ?rest94
    ((try dsimp only [List.getElem_toArray, List.getElem_cons_succ, List.getElem_cons_zero]); try simp only [Act.put, List.setIfInBounds_toArray, List.set_cons_zero, List.set_cons_succ])
    refine wpAnyH_take (i := 19) (oi := _) (v := _) rfl (by kernel_rfl) (by kernel_rfl) (by kernel_rfl) (fun _ _ _ h => h) (Or.inr ⟨by rfl, rfl⟩) (by assumption) ?rest95
    ((try dsimp only [List.getElem_toArray, List.getElem_cons_succ, List.getElem_cons_zero]); try simp only [Act.put, List.setIfInBounds_toArray, List.set_cons_zero, List.set_cons_succ])
    refine wpAnyH_take (i := 20) (oi := _) (v := _) rfl (by kernel_rfl) (by kernel_rfl) (by kernel_rfl) (fun _ _ _ h => h) (Or.inr ⟨by rfl, rfl⟩) (by assumption) ?rest96
    ((try dsimp only [List.getElem_toArray, List.getElem_cons_succ, List.getElem_cons_zero]); try simp only [Act.put, List.setIfInBounds_toArray, List.set_cons_zero, List.set_cons_succ])
    refine wpAnyH_take (i := 21) (oi := _) (v := _) rfl (by kernel_rfl) (by kernel_rfl) (by kernel_rfl) (fun _ _ _ h => h) (Or.inr ⟨by rfl, rfl⟩) (by assumption) ?rest97
    ((try dsimp only [List.getElem_toArray, List.getElem_cons_succ, List.getElem_cons_zero]); try simp only [Act.put, List.setIfInBounds_toArray, List.set_cons_zero, List.set_cons_succ])
    refine wpAnyH_take (i := 22) (oi := _) (v := ?v98) rfl (by kernel_rfl) (by kernel_rfl) (by kernel_rfl) (fun _ _ _ h => h) (Or.inl ⟨by rfl, ?hy98⟩) (by assumption) ?rest98
    case hy98 => ((intro w hSw; (try dsimp only at hSw); go_simp); try (with_reducible rfl))
    ((try dsimp only [List.getElem_toArray, List.getElem_cons_succ, List.getElem_cons_zero]); try simp only [Act.put, List.setIfInBounds_toArray, List.set_cons_zero, List.set_cons_succ])
    refine wpAnyH_take (i := 23) (oi := _) (v := ?v99) rfl (by kernel_rfl) (by kernel_rfl) (by kernel_rfl) (fun _ _ _ h => h) (Or.inl ⟨by rfl, ?hy99⟩) (by assumption) ?rest99
    case hy99 => ((intro w hSw; (try dsimp only at hSw); go_simp); try (with_reducible rfl))
    ((try dsimp only [List.getElem_toArray, List.getElem_cons_succ, List.getElem_cons_zero]); try simp only [Act.put, List.setIfInBounds_toArray, List.set_cons_zero, List.set_cons_succ])
    refine wpAnyH_take (i := 24) (oi := _) (v := _) rfl (by kernel_rfl) (by kernel_rfl) (by kernel_rfl) (fun _ _ _ h => h) (Or.inr ⟨by rfl, rfl⟩) (by assumption) ?rest100
    ((try dsimp only [List.getElem_toArray, List.getElem_cons_succ, List.getElem_cons_zero]); try simp only [Act.put, List.setIfInBounds_toArray, List.set_cons_zero, List.set_cons_succ])
    refine wpAnyH_take (i := 25) (oi := _) (v := _) rfl (by kernel_rfl) (by kernel_rfl) (by kernel_rfl) (fun _ _ _ h => h) (Or.inr ⟨by rfl, rfl⟩) (by assumption) ?rest101
    ((try dsimp only [List.getElem_toArray, List.getElem_cons_succ, List.getElem_cons_zero]); try simp only [Act.put, List.setIfInBounds_toArray, List.set_cons_zero, List.set_cons_succ])
    refine wpAnyH_take (i := 26) (oi := _) (v := _) rfl (by kernel_rfl) (by kernel_rfl) (by kernel_rfl) (fun _ _ _ h => h) (Or.inr ⟨by rfl, rfl⟩) (by assumption) ?rest102
    ((try dsimp only [List.getElem_toArray, List.getElem_cons_succ, List.getElem_cons_zero]); try simp only [Act.put, List.setIfInBounds_toArray, List.set_cons_zero, List.set_cons_succ])
    refine wpAnyH_take (i := 27) (oi := _) (v := _) rfl (by kernel_rfl) (by kernel_rfl) (by kernel_rfl) (fun _ _ _ h => h) (Or.inr ⟨by rfl, rfl⟩) (by assumption) ?rest103
    ((try dsimp only [List.getElem_toArray, List.getElem_cons_succ, List.getElem_cons_zero]); try simp only [Act.put, List.setIfInBounds_toArray, List.set_cons_zero, List.set_cons_succ])
    refine wpAnyH_take (i := 28) (oi := _) (v := ?v104) rfl (by kernel_rfl) (by kernel_rfl) (by kernel_rfl) (fun _ _ _ h => h) (Or.inl ⟨by rfl, ?hy104⟩) (by assumption) ?rest104
    case hy104 => ((intro w hSw; (try dsimp only at hSw); go_simp); try (with_reducible rfl))
    ((try dsimp only [List.getElem_toArray, List.getElem_cons_succ, List.getElem_cons_zero]); try simp only [Act.put, List.setIfInBounds_toArray, List.set_cons_zero, List.set_cons_succ])
    refine wpAnyH_take (i := 29) (oi := _) (v := ?v105) rfl (by kernel_rfl) (by kernel_rfl) (by kernel_rfl) (fun _ _ _ h => h) (Or.inl ⟨by rfl, ?hy105⟩) (by assumption) ?rest105
    case hy105 => ((intro w hSw; (try dsimp only at hSw); go_simp); try (with_reducible rfl))
    ((try dsimp only [List.getElem_toArray, List.getElem_cons_succ, List.getElem_cons_zero]); try simp only [Act.put, List.setIfInBounds_toArray, List.set_cons_zero, List.set_cons_succ])
    refine wpAnyH_take (i := 30) (oi := _) (v := ?v106) rfl (by kernel_rfl) (by kernel_rfl) (by kernel_rfl) (fun _ _ _ h => h) (Or.inl ⟨by rfl, ?hy106⟩) (by assumption) ?rest106
    case hy106 => ((intro w hSw; (try dsimp only at hSw); go_simp); try (with_reducible rfl))
    ((try dsimp only [List.getElem_toArray, List.getElem_cons_succ, List.getElem_cons_zero]); try simp only [Act.put, List.setIfInBounds_toArray, List.set_cons_zero, List.set_cons_succ])
    refine wpAnyH_take (i := 31) (oi := _) (v := ?v107) rfl (by kernel_rfl) (by kernel_rfl) (by kernel_rfl) (fun _ _ _ h => h) (Or.inl ⟨by rfl, ?hy107⟩) (by assumption) ?rest107
    case hy107 => ((intro w hSw; (try dsimp only at hSw); go_simp); try (with_reducible rfl))
    ((try dsimp only [List.getElem_toArray, List.getElem_cons_succ, List.getElem_cons_zero]); try simp only [Act.put, List.setIfInBounds_toArray, List.set_cons_zero, List.set_cons_succ])
    refine wpAnyH_take (i := 32) (oi := _) (v := ?v108) rfl (by kernel_rfl) (by kernel_rfl) (by kernel_rfl) (fun _ _ _ h => h) (Or.inl ⟨by rfl, ?hy108⟩) (by assumption) ?rest108
    case hy108 => ((intro w hSw; (try dsimp only at hSw); go_simp); try (with_reducible rfl))
    ((try dsimp only [List.getElem_toArray, List.getElem_cons_succ, List.getElem_cons_zero]); try simp only [Act.put, List.setIfInBounds_toArray, List.set_cons_zero, List.set_cons_succ])
    refine wpAnyH_take (i := 34) (oi := _) (v := ?v109) rfl (by kernel_rfl) (by kernel_rfl) (by kernel_rfl) (fun _ _ _ h => h) (Or.inl ⟨by rfl, ?hy109⟩) (by assumption) ?rest109
    case hy109 => ((intro w hSw; (try dsimp only at hSw); go_simp); try (with_reducible rfl))
    ((try dsimp only [List.getElem_toArray, List.getElem_cons_succ, List.getElem_cons_zero]); try simp only [Act.put, List.setIfInBounds_toArray, List.set_cons_zero, List.set_cons_succ])
    refine wpAnyH_take (i := 35) (oi := _) (v := ?v110) rfl (by kernel_rfl) (by kernel_rfl) (by kernel_rfl) (fun _ _ _ h => h) (Or.inl ⟨by rfl, ?hy110⟩) (by assumption) ?rest110
    case hy110 => ((intro w hSw; (try dsimp only at hSw); go_simp); try (with_reducible rfl))
    ((try dsimp only [List.getElem_toArray, List.getElem_cons_succ, List.getElem_cons_zero]); try simp only [Act.put, List.setIfInBounds_toArray, List.set_cons_zero, List.set_cons_succ])
    refine wpAnyH_take (i := 38) (oi := _) (v := ?v111) rfl (by kernel_rfl) (by kernel_rfl) (by kernel_rfl) (fun _ _ _ h => h) (Or.inl ⟨by rfl, ?hy111⟩) (by assumption) ?rest111
    case hy111 => ((intro w hSw; (try dsimp only at hSw); go_simp); try (with_reducible rfl))
    ((try dsimp only [List.getElem_toArray, List.getElem_cons_succ, List.getElem_cons_zero]); try simp only [Act.put, List.setIfInBounds_toArray, List.set_cons_zero, List.set_cons_succ])
    refine wpAnyH_ready (rs := [33]) (by kernel_rfl) (by simp) ?_
    refine AllReadyH.cons (o := _) rfl (fun K hK => ?_) AllReadyH.nil
    go_simp
    ( with_reducible refine (A1.out _).mono ?_); rintro e v1 ⟨rfl, g1⟩; have TP : Three v1 (w2.heap.size) (.bool ppa) (.string ppx) (.string ppy) 49 := Three.kept (by assumption) g1; have TQ : Three v1 (w3.heap.size) (.bool ppa) (.string ppx) (.string qqy) 49 := Three.kept (by assumption) g1; have TR : Three v1 (w4.heap.size) (.bool rra) (.string rrx) (.string rry) 49 := Three.kept (by assumption) g1; have GG : W.grownBy v1 none := gr_then (by assumption) g1
    refine hK.out _ _ ?_ (fun hHeld => ?_)
    · (try dsimp only); (first | exact ⟨Three.c0 (by assumption), Three.c1 (by assumption), Three.c2 (by assumption), Three.c0 (by assumption), Three.c1 (by assumption), Three.c2 (by assumption), Three.c0 (by assumption), Three.c1 (by assumption), Three.c2 (by assumption)⟩ | go_keep)
    clear hK K
    ((try dsimp only [List.getElem_toArray, List.getElem_cons_succ, List.getElem_cons_zero]); try simp only [Act.put, List.setIfInBounds_toArray, List.set_cons_zero, List.set_cons_succ])
    refine wpAnyH_ready (rs := [36]) (by kernel_rfl) (by simp) ?_
    refine AllReadyH.cons (o := _) rfl (fun K hK => ?_) AllReadyH.nil
    go_simp
    ( with_reducible refine (A2.out _).mono ?_); rintro e v1 ⟨rfl, g1⟩; have TP : Three v1 (w2.heap.size) (.bool ppa) (.string ppx) (.string ppy) 49 := Three.kept (by assumption) g1; have TQ : Three v1 (w3.heap.size) (.bool ppa) (.string ppx) (.string qqy) 49 := Three.kept (by assumption) g1; have TR : Three v1 (w4.heap.size) (.bool rra) (.string rrx) (.string rry) 49 := Three.kept (by assumption) g1; have GG : W.grownBy v1 none := gr_then (by assumption) g1
    refine hK.out _ _ ?_ (fun hHeld => ?_)
    · (try dsimp only); (first | exact ⟨Three.c0 (by assumption), Three.c1 (by assumption), Three.c2 (by assumption), Three.c0 (by assumption), Three.c1 (by assumption), Three.c2 (by assumption), Three.c0 (by assumption), Three.c1 (by assumption), Three.c2 (by assumption)⟩ | go_keep)
    clear hK K
    ((try dsimp only [List.getElem_toArray, List.getElem_cons_succ, List.getElem_cons_zero]); try simp only [Act.put, List.setIfInBounds_toArray, List.set_cons_zero, List.set_cons_succ])
    refine wpAnyH_ready (rs := [37]) (by kernel_rfl) (by simp) ?_
    refine AllReadyH.cons (o := _) rfl (fun K hK => ?_) AllReadyH.nil
    go_simp
    ( with_reducible refine (C5.out _).mono ?_); rintro e v1 ⟨rfl, g1⟩; have TP : Three v1 (w2.heap.size) (.bool ppa) (.string ppx) (.string ppy) 49 := Three.kept (by assumption) g1; have TQ : Three v1 (w3.heap.size) (.bool ppa) (.string ppx) (.string qqy) 49 := Three.kept (by assumption) g1; have TR : Three v1 (w4.heap.size) (.bool rra) (.string rrx) (.string rry) 49 := Three.kept (by assumption) g1; have GG : W.grownBy v1 none := gr_then (by assumption) g1
    refine hK.out _ _ ?_ (fun hHeld => ?_)
    · (try dsimp only); (first | exact ⟨Three.c0 (by assumption), Three.c1 (by assumption), Three.c2 (by assumption), Three.c0 (by assumption), Three.c1 (by assumption), Three.c2 (by assumption), Three.c0 (by assumption), Three.c1 (by assumption), Three.c2 (by assumption)⟩ | go_keep)
    clear hK K
    ((try dsimp only [List.getElem_toArray, List.getElem_cons_succ, List.getElem_cons_zero]); try simp only [Act.put, List.setIfInBounds_toArray, List.set_cons_zero, List.set_cons_succ])
    refine wpAnyH_take (i := 39) (oi := _) (v := ?v112) rfl (by kernel_rfl) (by kernel_rfl) (by kernel_rfl) (fun _ _ _ h => h) (Or.inl ⟨by rfl, ?hy112⟩) (by assumption) ?rest112
    case hy112 => ((intro w hSw; (try dsimp only at hSw); go_simp); try (with_reducible rfl))
    ((try dsimp only [List.getElem_toArray, List.getElem_cons_succ, List.getElem_cons_zero]); try simp only [Act.put, List.setIfInBounds_toArray, List.set_cons_zero, List.set_cons_succ])
    refine wpAnyH_take (i := 40) (oi := _) (v := ?v113) rfl (by kernel_rfl) (by kernel_rfl) (by kernel_rfl) (fun _ _ _ h => h) (Or.inl ⟨by rfl, ?hy113⟩) (by assumption) ?rest113
    case hy113 => ((intro w hSw; (try dsimp only at hSw); go_simp); try (with_reducible rfl))
    ((try dsimp only [List.getElem_toArray, List.getElem_cons_succ, List.getElem_cons_zero]); try simp only [Act.put, List.setIfInBounds_toArray, List.set_cons_zero, List.set_cons_succ])
    refine wpAnyH_take (i := 41) (oi := _) (v := ?v114) rfl (by kernel_rfl) (by kernel_rfl) (by kernel_rfl) (fun _ _ _ h => h) (Or.inl ⟨by rfl, ?hy114⟩) (by assumption) ?rest114
    case hy114 => ((intro w hSw; (try dsimp only at hSw); go_simp); try (with_reducible rfl))
    ((try dsimp only [List.getElem_toArray, List.getElem_cons_succ, List.getElem_cons_zero]); try simp only [Act.put, List.setIfInBounds_toArray, List.set_cons_zero, List.set_cons_succ])
    refine wpAnyH_done (by kernel_rfl) ?_ _
    have M0P : Three v1 (w2.heap.size) (.bool ppa) (.string ppx) (.string ppy) 49 := by assumption
    have M0Q : Three v1 (w3.heap.size) (.bool ppa) (.string ppx) (.string qqy) 49 := by assumption
    have M0R : Three v1 (w4.heap.size) (.bool rra) (.string rrx) (.string rry) 49 := by assumption
    have G40 : W.grownBy v1 none := by assumption
    go_wp2_with fail
    have M_P := M0P.drew
    have M_Q := M0Q.drew
    have M_R := M0R.drew
    have G4 := gr_dr G40
    go_region_held3 (fun w' => w'.cell? ⟨w2.heap.size, 0, none⟩ = some (.bool ppa) ∧ w'.cell? ⟨w2.heap.size, 1, none⟩ = some (.string ppx) ∧ w'.cell? ⟨w2.heap.size, 2, none⟩ = some (.string ppy) ∧ w'.cell? ⟨w3.heap.size, 0, none⟩ = some (.bool ppa) ∧ w'.cell? ⟨w3.heap.size, 1, none⟩ = some (.string ppx) ∧ w'.cell? ⟨w3.heap.size, 2, none⟩ = some (.string qqy) ∧ w'.cell? ⟨w4.heap.size, 0, none⟩ = some (.bool rra) ∧ w'.cell? ⟨w4.heap.size, 1, none⟩ = some (.string rrx) ∧ w'.cell? ⟨w4.heap.size, 2, none⟩ = some (.string rry)) (first | exact ⟨Three.c0 (by assumption), Three.c1 (by assumption), Three.c2 (by assumption), Three.c0 (by assumption), Three.c1 (by assumption), Three.c2 (by assumption), Three.c0 (by assumption), Three.c1 (by assumption), Three.c2 (by assumption)⟩ | go_keep)
      (first
      | (go_at_call 45; (first | with_reducible refine (M1.out _).mono ?_ | with_reducible refine (M2.out _).mono ?_); rintro e v1 ⟨rfl, g1⟩; have TP : Three v1 (w2.heap.size) (.bool ppa) (.string ppx) (.string ppy) 49 := Three.kept (by assumption) g1; have TQ : Three v1 (w3.heap.size) (.bool ppa) (.string ppx) (.string qqy) 49 := Three.kept (by assumption) g1; have TR : Three v1 (w4.heap.size) (.bool rra) (.string rrx) (.string rry) 49 := Three.kept (by assumption) g1; have GG : W.grownBy v1 none := gr_then (by assumption) g1)
      | (go_at_call 47; (first | with_reducible refine (C6.out _).mono ?_ | with_reducible refine (C7.out _).mono ?_); rintro e v1 ⟨rfl, g1⟩; have TP : Three v1 (w2.heap.size) (.bool ppa) (.string ppx) (.string ppy) 49 := Three.kept (by assumption) g1; have TQ : Three v1 (w3.heap.size) (.bool ppa) (.string ppx) (.string qqy) 49 := Three.kept (by assumption) g1; have TR : Three v1 (w4.heap.size) (.bool rra) (.string rrx) (.string rry) 49 := Three.kept (by assumption) g1; have GG : W.grownBy v1 none := gr_then (by assumption) g1)
      | (go_at_call 49; (first | with_reducible refine (S1.out _).mono ?_ | with_reducible refine (S2.out _).mono ?_ | with_reducible refine (S3.out _).mono ?_); rintro e v1 ⟨rfl, g1⟩; have TP : Three v1 (w2.heap.size) (.bool ppa) (.string ppx) (.string ppy) 49 := Three.kept (by assumption) g1; have TQ : Three v1 (w3.heap.size) (.bool ppa) (.string ppx) (.string qqy) 49 := Three.kept (by assumption) g1; have TR : Three v1 (w4.heap.size) (.bool rra) (.string rrx) (.string rry) 49 := Three.kept (by assumption) g1; have GG : W.grownBy v1 none := gr_then (by assumption) g1)
      | (go_at_call 43; (first | with_reducible refine (B1.out _).mono ?_); rintro e v1 ⟨rfl, g1⟩; have TP : Three v1 (w2.heap.size) (.bool ppa) (.string ppx) (.string ppy) 49 := Three.kept (by assumption) g1; have TQ : Three v1 (w3.heap.size) (.bool ppa) (.string ppx) (.string qqy) 49 := Three.kept (by assumption) g1; have TR : Three v1 (w4.heap.size) (.bool rra) (.string rrx) (.string rry) 49 := Three.kept (by assumption) g1; have GG : W.grownBy v1 none := gr_then (by assumption) g1)
      | (go_at_call 56; (first | with_reducible refine (OZ.out _).mono ?_); rintro e v1 ⟨rfl, g1⟩; have TP : Three v1 (w2.heap.size) (.bool ppa) (.string ppx) (.string ppy) 49 := Three.kept (by assumption) g1; have TQ : Three v1 (w3.heap.size) (.bool ppa) (.string ppx) (.string qqy) 49 := Three.kept (by assumption) g1; have TR : Three v1 (w4.heap.size) (.bool rra) (.string rrx) (.string rry) 49 := Three.kept (by assumption) g1; have GG : W.grownBy v1 none := gr_then (by assumption) g1))
    all_goals
      go_wp2
      go_ret
      exact ⟨rfl, by assumption⟩
end Go.Proofs.YteajpefbmiiioaaGreatDoor
namespace Go.Proofs.YteajpefbmiiioaaGreatDoor
open Go.RowKit Mth Go.Lib

theorem rv_partsZ (q : Rat) : ∃ (a : Bool) (x y : ByteArray), RV q = .agg #[.bool a, .string x, .string y] := ⟨_, _, _, rfl⟩
set_option maxHeartbeats 16000000 in
set_option maxRecDepth 100000 in
theorem order_Z (q0 q1 q2 q3 q4 q5 q6 q7 q8 : Int) (W : World) (htab : Tab W) (p r : Rat) (bp : Bd 16 p) (br : Bd 16 r) (mp : MadeQ q0 q1 q2 p) (mq : MadeQ q3 q4 q5 p) (mr : MadeQ q6 q7 q8 r) :
    Gives 11 #[.agg #[.int .i64 q0, .int .i64 q1, .int .i64 q2], .agg #[.int .i64 q3, .int .i64 q4, .int .i64 q5], .agg #[.int .i64 q6, .int .i64 q7, .int .i64 q8]] W (.bool true) := by
  unfold MadeQ at mp mq mr
  have MP := Lib.hid mp
  have MQ := Lib.hid mq
  have MR := Lib.hid mr
  clear mp mq mr
  have HS0 := Lib.hid (sanityq_true)
  have HT := Lib.hid htab
  clear htab
  have b0 : Bd 40 (0 : Rat) := bd_mono (bd1 (by decide) (by decide)) (by decide)
  have cp := bd_mono bp (by decide : 16 ≤ 40)
  have cr := bd_mono br (by decide : 16 ≤ 40)
  have C1 := Lib.hid (fun w => cmpq_any (p) (p) 40 w cp cp (by decide))
  rw [cmpQ_self p] at C1
  have C2 := Lib.hid (fun w => cmpq_any (p) (p) 40 w cp cp (by decide))
  rw [cmpQ_self p] at C2
  have C3 := Lib.hid (fun w => cmpq_any (p) (r) 40 w cp cr (by decide))
  have C4 := Lib.hid (fun w => cmpq_any (p) (r) 40 w cp cr (by decide))
  have C5 := Lib.hid (fun w => cmpq_any (p + r) (p + r) 40 w (bd_mono (bd_add bp br) (by decide)) (bd_mono (bd_add bp br) (by decide)) (by decide))
  rw [cmpQ_add] at C5
  rw [cmpQ_self p] at C5
  have C6 := Lib.hid (fun w => cmpq_any (p * r) (p * r) 40 w (bd_mono (bd_mul bp br) (by decide)) (bd_mono (bd_mul bp br) (by decide)) (by decide))
  rw [cmpQ_mul] at C6
  rw [cmpQ_self p] at C6
  have C7 := Lib.hid (fun w => cmpq_any (p) (0) 40 w cp b0 (by decide))
  rw [cmpQ_zero] at C7
  have A1 := Lib.hid (fun w => addq_any p r 40 w cp cr (by decide))
  have A2 := Lib.hid (fun w => addq_any p r 40 w cp cr (by decide))
  have M1 := Lib.hid (fun w => mulq_any p r 40 w cp cr (by decide))
  have M2 := Lib.hid (fun w => mulq_any p r 40 w cp cr (by decide))
  have S1 := Lib.hid (fun w => signq_any r 40 w cr (by decide))
  have S3 := Lib.hid (fun w => signq_any p 40 w cp (by decide))
  have B1 := Lib.hid (fun w => subq_any p p 40 w cp cp (by decide))
  have S2 := Lib.hid (fun w => signq_any (p - p) 40 w (bd_mono (bd_sub bp bp) (by decide)) (by decide))
  rw [show sgnQ (p - p) = 0 from cmpQ_self p] at S2
  have OZ0 : ∀ w, Gives 56 #[.int .i64 0] w (RW false 0 1) := fun w => ofq_nat 0 w (by decide)
  have OZ := Lib.hid OZ0
  clear OZ0
  rw [show RW false 0 1 = RV 0 from rfl] at OZ
  have hyx : (cmpQ p r < 0) ∨ (¬ cmpQ p r < 0 ∧ 0 ≤ cmpQ p r) := by
    have h := cmpQ_trans p p r
    rw [cmpQ_self p] at h
    by_cases hy : cmpQ p r < 0
    · exact .inl hy
    · exact .inr ⟨hy, by rcases h with h | h | h
                         · exact absurd h (by decide)
                         · exact absurd h hy
                         · exact h⟩
  have ls := sgn_three r
  have hw0 : IntKind.i64.wrap 0 = 0 := rfl
  have hw1 : IntKind.i64.wrap 1 = 1 := rfl
  have hw2 : IntKind.i64.wrap (-1) = -1 := rfl
  have hw3 : IntKind.i64.wrap (0 * sgnQ r) = 0 * sgnQ r := IntWalk.i64_in _ (by omega)
  generalize hy : cmpQ p r = y at *
  clear hy
  generalize sgnQ r = sr at *
  generalize sgnQ p = sp at *
  obtain ⟨cv, hcv⟩ : ∃ cv : Int, 0 * sr = cv := ⟨_, rfl⟩
  rw [hcv] at C6 hw3
  have hw4 : cv = 0 := by omega
  subst hw4
  clear ls bp br cp cr b0
  obtain ⟨v1a, v1x, v1y, ev1⟩ := rv_partsZ (p + r)
  obtain ⟨v3a, v3x, v3y, ev3⟩ := rv_partsZ (p * r)
  obtain ⟨v5a, v5x, v5y, ev5⟩ := rv_partsZ (p - p)
  obtain ⟨za, zx, zy, ez⟩ := rv_partsZ (0)
  obtain ⟨ppa, ppx, ppy, epp⟩ := rv_partsZ (p)
  obtain ⟨rra, rrx, rry, err⟩ := rv_partsZ (r)
  try simp only [ev1] at MP MQ MR C1 C2 C3 C4 C5 C6 C7 A1 A2 M1 M2 S1 S2 S3 B1 OZ
  try simp only [ev3] at MP MQ MR C1 C2 C3 C4 C5 C6 C7 A1 A2 M1 M2 S1 S2 S3 B1 OZ
  try simp only [ev5] at MP MQ MR C1 C2 C3 C4 C5 C6 C7 A1 A2 M1 M2 S1 S2 S3 B1 OZ
  try simp only [ez] at MP MQ MR C1 C2 C3 C4 C5 C6 C7 A1 A2 M1 M2 S1 S2 S3 B1 OZ
  try simp only [epp] at MP MQ MR C1 C2 C3 C4 C5 C6 C7 A1 A2 M1 M2 S1 S2 S3 B1 OZ
  try simp only [err] at MP MQ MR C1 C2 C3 C4 C5 C6 C7 A1 A2 M1 M2 S1 S2 S3 B1 OZ
  clear ev1 ev3 ev5 ez epp err
  have P0 := ((Three.new W (.int .i64 q0) (.int .i64 q1) (.int .i64 q2) 47).alloc (.cells #[.int .i64 q3, .int .i64 q4, .int .i64 q5] 47)).alloc (.cells #[.int .i64 q6, .int .i64 q7, .int .i64 q8] 47)
  have X0 := (Three.new1 W (.cells #[.int .i64 q0, .int .i64 q1, .int .i64 q2] 47) (.int .i64 q3) (.int .i64 q4) (.int .i64 q5) 47).alloc (.cells #[.int .i64 q6, .int .i64 q7, .int .i64 q8] 47)
  have Y0 := Three.new2 W (.cells #[.int .i64 q0, .int .i64 q1, .int .i64 q2] 47) (.cells #[.int .i64 q3, .int .i64 q4, .int .i64 q5] 47) (.int .i64 q6) (.int .i64 q7) (.int .i64 q8) 47
  have G0 := Lib.hid (gr_al (o := (.cells #[.int .i64 q6, .int .i64 q7, .int .i64 q8] 47)) (gr_al (o := (.cells #[.int .i64 q3, .int .i64 q4, .int .i64 q5] 47)) (gr_al (o := (.cells #[.int .i64 q0, .int .i64 q1, .int .i64 q2] 47)) (gr_rfl W))))
  go_enter Tryz.func11, Tryz.ntmps11
  go_wp2_with fail
  refine (HS0.out _ (tab_gr HT.out G0.out)).mono ?_
  rintro e w1 ⟨rfl, g1⟩
  have P1 := P0.kept g1
  have X1 := X0.kept g1
  have Y1 := Y0.kept g1
  have G1 := Lib.hid (gr_then G0.out g1)
  have c0 := P1.c0
  have c1 := P1.c1
  have c2 := P1.c2
  clear g1 P0 X0 Y0 G0
  go_wp2_with fail
  refine (MP.out _).mono ?_
  rintro e w2 ⟨rfl, g1⟩
  have X1' := (X1.kept g1).alloc (.cells #[.bool ppa, .string ppx, .string ppy] 49)
  have Y1' := (Y1.kept g1).alloc (.cells #[.bool ppa, .string ppx, .string ppy] 49)
  have KP := Three.new w2 (.bool ppa) (.string ppx) (.string ppy) 49
  have G_w2 := Lib.hid (gr_al (o := (.cells #[.bool ppa, .string ppx, .string ppy] 49)) (gr_then G1.out g1))
  clear g1 X1 Y1 G1 P1 c0 c1 c2
  have X1 := X1'
  clear X1'
  have Y1 := Y1'
  clear Y1'
  have c0 := X1.c0
  have c1 := X1.c1
  have c2 := X1.c2
  go_wp2_with fail
  refine (MQ.out _).mono ?_
  rintro e w3 ⟨rfl, g1⟩
  have Y1' := (Y1.kept g1).alloc (.cells #[.bool ppa, .string ppx, .string ppy] 49)
  have KP' := (KP.kept g1).alloc (.cells #[.bool ppa, .string ppx, .string ppy] 49)
  have KQ := Three.new w3 (.bool ppa) (.string ppx) (.string ppy) 49
  have G_w3 := Lib.hid (gr_al (o := (.cells #[.bool ppa, .string ppx, .string ppy] 49)) (gr_then G_w2.out g1))
  clear g1 Y1 KP G_w2 X1 c0 c1 c2
  have Y1 := Y1'
  clear Y1'
  have KP := KP'
  clear KP'
  have c0 := Y1.c0
  have c1 := Y1.c1
  have c2 := Y1.c2
  go_wp2_with fail
  refine (MR.out _).mono ?_
  rintro e w4 ⟨rfl, g1⟩
  have KP' := (KP.kept g1).alloc (.cells #[.bool rra, .string rrx, .string rry] 49)
  have KQ' := (KQ.kept g1).alloc (.cells #[.bool rra, .string rrx, .string rry] 49)
  have KR := Three.new w4 (.bool rra) (.string rrx) (.string rry) 49
  have G_w4 := Lib.hid (gr_al (o := (.cells #[.bool rra, .string rrx, .string rry] 49)) (gr_then G_w3.out g1))
  clear g1 KP KQ G_w3 Y1 c0 c1 c2
  have KP := KP'
  clear KP'
  have KQ := KQ'
  clear KQ'
  have dP0 := KP.c0
  have dP1 := KP.c1
  have dP2 := KP.c2
  have dQ0 := KQ.c0
  have dQ1 := KQ.c1
  have dQ2 := KQ.c2
  go_wp2_with fail
  refine (C1.out _).mono ?_
  rintro e w5 ⟨rfl, g1⟩
  have LP := (KP.kept g1).drew
  have LQ := (KQ.kept g1).drew
  have LR := (KR.kept g1).drew
  have HG5 := Lib.hid (gr_dr (gr_then G_w4.out g1))
  have G5 := HG5.out
  clear g1 G_w4 KP KQ KR dP0 dP1 dP2 dQ0 dQ1 dQ2
  go_wp2_with fail
  rcases hyx with hyx | ⟨hyx, hyx2⟩
  · refine wp_region_held_drew (S := fun w' => w'.cell? ⟨w2.heap.size, 0, none⟩ = some (.bool ppa) ∧ w'.cell? ⟨w2.heap.size, 1, none⟩ = some (.string ppx) ∧ w'.cell? ⟨w2.heap.size, 2, none⟩ = some (.string ppy) ∧ w'.cell? ⟨w3.heap.size, 0, none⟩ = some (.bool ppa) ∧ w'.cell? ⟨w3.heap.size, 1, none⟩ = some (.string ppx) ∧ w'.cell? ⟨w3.heap.size, 2, none⟩ = some (.string ppy) ∧ w'.cell? ⟨w4.heap.size, 0, none⟩ = some (.bool rra) ∧ w'.cell? ⟨w4.heap.size, 1, none⟩ = some (.string rrx) ∧ w'.cell? ⟨w4.heap.size, 2, none⟩ = some (.string rry)) (by kernel_rfl) ?_ (fun hHeld => ?_)
    · (first | exact ⟨Three.c0 (by assumption), Three.c1 (by assumption), Three.c2 (by assumption), Three.c0 (by assumption), Three.c1 (by assumption), Three.c2 (by assumption), Three.c0 (by assumption), Three.c1 (by assumption), Three.c2 (by assumption)⟩ | go_keep)
    refine wpAnyH_take (i := 0) (oi := _) (v := ?v115) rfl (by kernel_rfl) (by kernel_rfl) (by kernel_rfl) (fun _ _ _ h => h) (Or.inl ⟨by rfl, ?hy115⟩) (by assumption) ?rest115
    case hy115 => ((intro w hSw; (try dsimp only at hSw); go_simp); try (with_reducible rfl))
    ((try dsimp only [List.getElem_toArray, List.getElem_cons_succ, List.getElem_cons_zero]); try simp only [Act.put, List.setIfInBounds_toArray, List.set_cons_zero, List.set_cons_succ])
    refine wpAnyH_take (i := 1) (oi := _) (v := ?v116) rfl (by kernel_rfl) (by kernel_rfl) (by kernel_rfl) (fun _ _ _ h => h) (Or.inl ⟨by rfl, ?hy116⟩) (by assumption) ?rest116
    case hy116 => ((intro w hSw; (try dsimp only at hSw); go_simp); try (with_reducible rfl))
    ((try dsimp only [List.getElem_toArray, List.getElem_cons_succ, List.getElem_cons_zero]); try simp only [Act.put, List.setIfInBounds_toArray, List.set_cons_zero, List.set_cons_succ])
    refine wpAnyH_take (i := 2) (oi := _) (v := ?v117) rfl (by kernel_rfl) (by kernel_rfl) (by kernel_rfl) (fun _ _ _ h => h) (Or.inl ⟨by rfl, ?hy117⟩) (by assumption) ?rest117
    case hy117 => ((intro w hSw; (try dsimp only at hSw); go_simp); try (with_reducible rfl))
    ((try dsimp only [List.getElem_toArray, List.getElem_cons_succ, List.getElem_cons_zero]); try simp only [Act.put, List.setIfInBounds_toArray, List.set_cons_zero, List.set_cons_succ])
    refine wpAnyH_ready (rs := [3]) (by kernel_rfl) (by simp) ?_
    refine AllReadyH.cons (o := _) rfl (fun K hK => ?_) AllReadyH.nil
    go_simp
    ( with_reducible refine (C2.out _).mono ?_); rintro e v1 ⟨rfl, g1⟩; have TP : Three v1 (w2.heap.size) (.bool ppa) (.string ppx) (.string ppy) 49 := Three.kept (by assumption) g1; have TQ : Three v1 (w3.heap.size) (.bool ppa) (.string ppx) (.string ppy) 49 := Three.kept (by assumption) g1; have TR : Three v1 (w4.heap.size) (.bool rra) (.string rrx) (.string rry) 49 := Three.kept (by assumption) g1; have GG : W.grownBy v1 none := gr_then (by assumption) g1
    refine hK.out _ _ ?_ (fun hHeld => ?_)
    · (try dsimp only); (first | exact ⟨Three.c0 (by assumption), Three.c1 (by assumption), Three.c2 (by assumption), Three.c0 (by assumption), Three.c1 (by assumption), Three.c2 (by assumption), Three.c0 (by assumption), Three.c1 (by assumption), Three.c2 (by assumption)⟩ | go_keep)
    clear hK K
    ((try dsimp only [List.getElem_toArray, List.getElem_cons_succ, List.getElem_cons_zero]); try simp only [Act.put, List.setIfInBounds_toArray, List.set_cons_zero, List.set_cons_succ])
    refine wpAnyH_take (i := 4) (oi := _) (v := ?v118) rfl (by kernel_rfl) (by kernel_rfl) (by kernel_rfl) (fun _ _ _ h => h) (Or.inl ⟨by rfl, ?hy118⟩) (by assumption) ?rest118
    case hy118 => ((intro w hSw; (try dsimp only at hSw); go_simp); try (with_reducible rfl))
    ((try dsimp only [List.getElem_toArray, List.getElem_cons_succ, List.getElem_cons_zero]); try simp only [Act.put, List.setIfInBounds_toArray, List.set_cons_zero, List.set_cons_succ])
    refine wpAnyH_take (i := 5) (oi := _) (v := ?v119) rfl (by kernel_rfl) (by kernel_rfl) (by kernel_rfl) (fun _ _ _ h => h) (Or.inl ⟨by rfl, ?hy119⟩) (by assumption) ?rest119
    case hy119 => ((intro w hSw; (try dsimp only at hSw); go_simp); try (with_reducible rfl))
    ((try dsimp only [List.getElem_toArray, List.getElem_cons_succ, List.getElem_cons_zero]); try simp only [Act.put, List.setIfInBounds_toArray, List.set_cons_zero, List.set_cons_succ])
    refine wpAnyH_take (i := 6) (oi := _) (v := ?v120) rfl (by kernel_rfl) (by kernel_rfl) (by kernel_rfl) (fun _ _ _ h => h) (Or.inl ⟨by rfl, ?hy120⟩) (by assumption) ?rest120
    case hy120 => ((intro w hSw; (try dsimp only at hSw); go_simp); try (with_reducible rfl))
    ((try dsimp only [List.getElem_toArray, List.getElem_cons_succ, List.getElem_cons_zero]); try simp only [Act.put, List.setIfInBounds_toArray, List.set_cons_zero, List.set_cons_succ])
    refine wpAnyH_take (i := 7) (oi := _) (v := ?v121) rfl (by kernel_rfl) (by kernel_rfl) (by kernel_rfl) (fun _ _ _ h => h) (Or.inl ⟨by rfl, ?hy121⟩) (by assumption) ?rest121
    case hy121 => ((intro w hSw; (try dsimp only at hSw); go_simp); try (with_reducible rfl))
    ((try dsimp only [List.getElem_toArray, List.getElem_cons_succ, List.getElem_cons_zero]); try simp only [Act.put, List.setIfInBounds_toArray, List.set_cons_zero, List.set_cons_succ])
    refine wpAnyH_take (i := 8) (oi := _) (v := ?v122) rfl (by kernel_rfl) (by kernel_rfl) (by kernel_rfl) (fun _ _ _ h => h) (Or.inl ⟨by rfl, ?hy122⟩) (by assumption) ?rest122
    case hy122 => ((intro w hSw; (try dsimp only at hSw); go_simp); try (with_reducible rfl))
    ((try dsimp only [List.getElem_toArray, List.getElem_cons_succ, List.getElem_cons_zero]); try simp only [Act.put, List.setIfInBounds_toArray, List.set_cons_zero, List.set_cons_succ])
    refine wpAnyH_take (i := 9) (oi := _) (v := ?v123) rfl (by kernel_rfl) (by kernel_rfl) (by kernel_rfl) (fun _ _ _ h => h) (Or.inl ⟨by rfl, ?hy123⟩) (by assumption) ?rest123
    case hy123 => ((intro w hSw; (try dsimp only at hSw); go_simp); try (with_reducible rfl))
    ((try dsimp only [List.getElem_toArray, List.getElem_cons_succ, List.getElem_cons_zero]); try simp only [Act.put, List.setIfInBounds_toArray, List.set_cons_zero, List.set_cons_succ])
    refine wpAnyH_take (i := 10) (oi := _) (v := ?v124) rfl (by kernel_rfl) (by kernel_rfl) (by kernel_rfl) (fun _ _ _ h => h) (Or.inl ⟨by rfl, ?hy124⟩) (by assumption) ?rest124
    case hy124 => ((intro w hSw; (try dsimp only at hSw); go_simp); try (with_reducible rfl))
    ((try dsimp only [List.getElem_toArray, List.getElem_cons_succ, List.getElem_cons_zero]); try simp only [Act.put, List.setIfInBounds_toArray, List.set_cons_zero, List.set_cons_succ])
    refine wpAnyH_take (i := 11) (oi := _) (v := ?v125) rfl (by kernel_rfl) (by kernel_rfl) (by kernel_rfl) (fun _ _ _ h => h) (Or.inl ⟨by rfl, ?hy125⟩) (by assumption) ?rest125
    case hy125 => ((intro w hSw; (try dsimp only at hSw); go_simp); try (with_reducible rfl))
    ((try dsimp only [List.getElem_toArray, List.getElem_cons_succ, List.getElem_cons_zero]); try simp only [Act.put, List.setIfInBounds_toArray, List.set_cons_zero, List.set_cons_succ])
    refine wpAnyH_take (i := 12) (oi := _) (v := ?v126) rfl (by kernel_rfl) (by kernel_rfl) (by kernel_rfl) (fun _ _ _ h => h) (Or.inl ⟨by rfl, ?hy126⟩) (by assumption) ?rest126
    case hy126 => ((intro w hSw; (try dsimp only at hSw); go_simp); try (with_reducible rfl))
    ((try dsimp only [List.getElem_toArray, List.getElem_cons_succ, List.getElem_cons_zero]); try simp only [Act.put, List.setIfInBounds_toArray, List.set_cons_zero, List.set_cons_succ])
    refine wpAnyH_take (i := 13) (oi := _) (v := ?v127) rfl (by kernel_rfl) (by kernel_rfl) (by kernel_rfl) (fun _ _ _ h => h) (Or.inl ⟨by rfl, ?hy127⟩) (by assumption) ?rest127
    case hy127 => ((intro w hSw; (try dsimp only at hSw); go_simp); try (with_reducible rfl))
    ((try dsimp only [List.getElem_toArray, List.getElem_cons_succ, List.getElem_cons_zero]); try simp only [Act.put, List.setIfInBounds_toArray, List.set_cons_zero, List.set_cons_succ])
    refine wpAnyH_take (i := 14) (oi := _) (v := ?v128) rfl (by kernel_rfl) (by kernel_rfl) (by kernel_rfl) (fun _ _ _ h => h) (Or.inl ⟨by rfl, ?hy128⟩) (by assumption) ?rest128
    case hy128 => ((intro w hSw; (try dsimp only at hSw); go_simp); try (with_reducible rfl))
    ((try dsimp only [List.getElem_toArray, List.getElem_cons_succ, List.getElem_cons_zero]); try simp only [Act.put, List.setIfInBounds_toArray, List.set_cons_zero, List.set_cons_succ])
    refine wpAnyH_take (i := 15) (oi := _) (v := ?v129) rfl (by kernel_rfl) (by kernel_rfl) (by kernel_rfl) (fun _ _ _ h => h) (Or.inl ⟨by rfl, ?hy129⟩) (by assumption) ?rest129
    case hy129 => ((intro w hSw; (try dsimp only at hSw); go_simp); try (with_reducible rfl))
    ((try dsimp only [List.getElem_toArray, List.getElem_cons_succ, List.getElem_cons_zero]); try simp only [Act.put, List.setIfInBounds_toArray, List.set_cons_zero, List.set_cons_succ])
    refine wpAnyH_take (i := 16) (oi := _) (v := ?v130) rfl (by kernel_rfl) (by kernel_rfl) (by kernel_rfl) (fun _ _ _ h => h) (Or.inl ⟨by rfl, ?hy130⟩) (by assumption) ?rest130
    case hy130 => ((intro w hSw; (try dsimp only at hSw); go_simp); try (with_reducible rfl))
    ((try dsimp only [List.getElem_toArray, List.getElem_cons_succ, List.getElem_cons_zero]); try simp only [Act.put, List.setIfInBounds_toArray, List.set_cons_zero, List.set_cons_succ])
    refine wpAnyH_take (i := 17) (oi := _) (v := ?v131) rfl (by kernel_rfl) (by kernel_rfl) (by kernel_rfl) (fun _ _ _ h => h) (Or.inl ⟨by rfl, ?hy131⟩) (by assumption) ?rest131
    case hy131 => ((intro w hSw; (try dsimp only at hSw); go_simp); try (with_reducible rfl))
    ((try dsimp only [List.getElem_toArray, List.getElem_cons_succ, List.getElem_cons_zero]); try simp only [Act.put, List.setIfInBounds_toArray, List.set_cons_zero, List.set_cons_succ])
    refine wpAnyH_take (i := 18) (oi := _) (v := ?v132) rfl (by kernel_rfl) (by kernel_rfl) (by kernel_rfl) (fun _ _ _ h => h) (Or.inl ⟨by rfl, ?hy132⟩) (by assumption) ?rest132
    case hy132 => ((intro w hSw; (try dsimp only at hSw); go_simp); try (with_reducible rfl))
    ((try dsimp only [List.getElem_toArray, List.getElem_cons_succ, List.getElem_cons_zero]); try simp only [Act.put, List.setIfInBounds_toArray, List.set_cons_zero, List.set_cons_succ])
    refine wpAnyH_take (i := 19) (oi := _) (v := ?v133) rfl (by kernel_rfl) (by kernel_rfl) (by kernel_rfl) (fun _ _ _ h => h) (Or.inl ⟨by rfl, ?hy133⟩) (by assumption) ?rest133
    case hy133 => ((intro w hSw; (try dsimp only at hSw); go_simp); try (with_reducible rfl))
    ((try dsimp only [List.getElem_toArray, List.getElem_cons_succ, List.getElem_cons_zero]); try simp only [Act.put, List.setIfInBounds_toArray, List.set_cons_zero, List.set_cons_succ])
    refine wpAnyH_ready (rs := [20]) (by kernel_rfl) (by simp) ?_
    refine AllReadyH.cons (o := _) rfl (fun K hK => ?_) AllReadyH.nil
    go_simp
    ( with_reducible refine (C3.out _).mono ?_); rintro e v1 ⟨rfl, g1⟩; have TP : Three v1 (w2.heap.size) (.bool ppa) (.string ppx) (.string ppy) 49 := Three.kept (by assumption) g1; have TQ : Three v1 (w3.heap.size) (.bool ppa) (.string ppx) (.string ppy) 49 := Three.kept (by assumption) g1; have TR : Three v1 (w4.heap.size) (.bool rra) (.string rrx) (.string rry) 49 := Three.kept (by assumption) g1; have GG : W.grownBy v1 none := gr_then (by assumption) g1
    refine hK.out _ _ ?_ (fun hHeld => ?_)
    · (try dsimp only); (first | exact ⟨Three.c0 (by assumption), Three.c1 (by assumption), Three.c2 (by assumption), Three.c0 (by assumption), Three.c1 (by assumption), Three.c2 (by assumption), Three.c0 (by assumption), Three.c1 (by assumption), Three.c2 (by assumption)⟩ | go_keep)
    clear hK K
    ((try dsimp only [List.getElem_toArray, List.getElem_cons_succ, List.getElem_cons_zero]); try simp only [Act.put, List.setIfInBounds_toArray, List.set_cons_zero, List.set_cons_succ])
    refine wpAnyH_take (i := 21) (oi := _) (v := ?v134) rfl (by kernel_rfl) (by kernel_rfl) (by kernel_rfl) (fun _ _ _ h => h) (Or.inl ⟨by rfl, ?hy134⟩) (by assumption) ?rest134
    case hy134 => ((intro w hSw; (try dsimp only at hSw); go_simp); try (with_reducible rfl))
    ((try dsimp only [List.getElem_toArray, List.getElem_cons_succ, List.getElem_cons_zero]); try simp only [Act.put, List.setIfInBounds_toArray, List.set_cons_zero, List.set_cons_succ])
    refine wpAnyH_take (i := 22) (oi := _) (v := ?v135) rfl (by kernel_rfl) (by kernel_rfl) (by kernel_rfl) (fun _ _ _ h => h) (Or.inl ⟨by rfl, ?hy135⟩) (by assumption) ?rest135
    case hy135 => ((intro w hSw; (try dsimp only at hSw); go_simp); try (with_reducible rfl))
    ((try dsimp only [List.getElem_toArray, List.getElem_cons_succ, List.getElem_cons_zero]); try simp only [Act.put, List.setIfInBounds_toArray, List.set_cons_zero, List.set_cons_succ])
    refine wpAnyH_take (i := 23) (oi := _) (v := ?v136) rfl (by kernel_rfl) (by kernel_rfl) (by kernel_rfl) (fun _ _ _ h => h) (Or.inl ⟨by rfl, ?hy136⟩) (by assumption) ?rest136
    case hy136 => ((intro w hSw; (try dsimp only at hSw); go_simp); try (with_reducible rfl))
    ((try dsimp only [List.getElem_toArray, List.getElem_cons_succ, List.getElem_cons_zero]); try simp only [Act.put, List.setIfInBounds_toArray, List.set_cons_zero, List.set_cons_succ])
    refine wpAnyH_take (i := 24) (oi := _) (v := _) rfl (by kernel_rfl) (by kernel_rfl) (by kernel_rfl) (fun _ _ _ h => h) (Or.inr ⟨by rfl, rfl⟩) (by assumption) ?rest137
    ((try dsimp only [List.getElem_toArray, List.getElem_cons_succ, List.getElem_cons_zero]); try simp only [Act.put, List.setIfInBounds_toArray, List.set_cons_zero, List.set_cons_succ])
    refine wpAnyH_take (i := 25) (oi := _) (v := _) rfl (by kernel_rfl) (by kernel_rfl) (by kernel_rfl) (fun _ _ _ h => h) (Or.inr ⟨by rfl, rfl⟩) (by assumption) ?rest138
    ((try dsimp only [List.getElem_toArray, List.getElem_cons_succ, List.getElem_cons_zero]); try simp only [Act.put, List.setIfInBounds_toArray, List.set_cons_zero, List.set_cons_succ])
    refine wpAnyH_take (i := 26) (oi := _) (v := _) rfl (by kernel_rfl) (by kernel_rfl) (by kernel_rfl) (fun _ _ _ h => h) (Or.inr ⟨by rfl, rfl⟩) (by assumption) ?rest139
    ((try dsimp only [List.getElem_toArray, List.getElem_cons_succ, List.getElem_cons_zero]); try simp only [Act.put, List.setIfInBounds_toArray, List.set_cons_zero, List.set_cons_succ])
    refine wpAnyH_take (i := 27) (oi := _) (v := _) rfl (by kernel_rfl) (by kernel_rfl) (by kernel_rfl) (fun _ _ _ h => h) (Or.inr ⟨by rfl, rfl⟩) (by assumption) ?rest140
    ((try dsimp only [List.getElem_toArray, List.getElem_cons_succ, List.getElem_cons_zero]); try simp only [Act.put, List.setIfInBounds_toArray, List.set_cons_zero, List.set_cons_succ])
    refine wpAnyH_take (i := 28) (oi := _) (v := ?v141) rfl (by kernel_rfl) (by kernel_rfl) (by kernel_rfl) (fun _ _ _ h => h) (Or.inl ⟨by rfl, ?hy141⟩) (by assumption) ?rest141
    case hy141 => ((intro w hSw; (try dsimp only at hSw); go_simp); try (with_reducible rfl))
    ((try dsimp only [List.getElem_toArray, List.getElem_cons_succ, List.getElem_cons_zero]); try simp only [Act.put, List.setIfInBounds_toArray, List.set_cons_zero, List.set_cons_succ])
    refine wpAnyH_take (i := 29) (oi := _) (v := ?v142) rfl (by kernel_rfl) (by kernel_rfl) (by kernel_rfl) (fun _ _ _ h => h) (Or.inl ⟨by rfl, ?hy142⟩) (by assumption) ?rest142
    case hy142 => ((intro w hSw; (try dsimp only at hSw); go_simp); try (with_reducible rfl))
    ((try dsimp only [List.getElem_toArray, List.getElem_cons_succ, List.getElem_cons_zero]); try simp only [Act.put, List.setIfInBounds_toArray, List.set_cons_zero, List.set_cons_succ])
    refine wpAnyH_take (i := 30) (oi := _) (v := ?v143) rfl (by kernel_rfl) (by kernel_rfl) (by kernel_rfl) (fun _ _ _ h => h) (Or.inl ⟨by rfl, ?hy143⟩) (by assumption) ?rest143
    case hy143 => ((intro w hSw; (try dsimp only at hSw); go_simp); try (with_reducible rfl))
    ((try dsimp only [List.getElem_toArray, List.getElem_cons_succ, List.getElem_cons_zero]); try simp only [Act.put, List.setIfInBounds_toArray, List.set_cons_zero, List.set_cons_succ])
    refine wpAnyH_take (i := 31) (oi := _) (v := ?v144) rfl (by kernel_rfl) (by kernel_rfl) (by kernel_rfl) (fun _ _ _ h => h) (Or.inl ⟨by rfl, ?hy144⟩) (by assumption) ?rest144
    case hy144 => ((intro w hSw; (try dsimp only at hSw); go_simp); try (with_reducible rfl))
    ((try dsimp only [List.getElem_toArray, List.getElem_cons_succ, List.getElem_cons_zero]); try simp only [Act.put, List.setIfInBounds_toArray, List.set_cons_zero, List.set_cons_succ])
    refine wpAnyH_take (i := 32) (oi := _) (v := ?v145) rfl (by kernel_rfl) (by kernel_rfl) (by kernel_rfl) (fun _ _ _ h => h) (Or.inl ⟨by rfl, ?hy145⟩) (by assumption) ?rest145
    case hy145 => ((intro w hSw; (try dsimp only at hSw); go_simp); try (with_reducible rfl))
    ((try dsimp only [List.getElem_toArray, List.getElem_cons_succ, List.getElem_cons_zero]); try simp only [Act.put, List.setIfInBounds_toArray, List.set_cons_zero, List.set_cons_succ])
    refine wpAnyH_take (i := 34) (oi := _) (v := ?v146) rfl (by kernel_rfl) (by kernel_rfl) (by kernel_rfl) (fun _ _ _ h => h) (Or.inl ⟨by rfl, ?hy146⟩) (by assumption) ?rest146
    case hy146 => ((intro w hSw; (try dsimp only at hSw); go_simp); try (with_reducible rfl))
    ((try dsimp only [List.getElem_toArray, List.getElem_cons_succ, List.getElem_cons_zero]); try simp only [Act.put, List.setIfInBounds_toArray, List.set_cons_zero, List.set_cons_succ])
    refine wpAnyH_take (i := 35) (oi := _) (v := ?v147) rfl (by kernel_rfl) (by kernel_rfl) (by kernel_rfl) (fun _ _ _ h => h) (Or.inl ⟨by rfl, ?hy147⟩) (by assumption) ?rest147
    case hy147 => ((intro w hSw; (try dsimp only at hSw); go_simp); try (with_reducible rfl))
    ((try dsimp only [List.getElem_toArray, List.getElem_cons_succ, List.getElem_cons_zero]); try simp only [Act.put, List.setIfInBounds_toArray, List.set_cons_zero, List.set_cons_succ])
    refine wpAnyH_take (i := 38) (oi := _) (v := ?v148) rfl (by kernel_rfl) (by kernel_rfl) (by kernel_rfl) (fun _ _ _ h => h) (Or.inl ⟨by rfl, ?hy148⟩) (by assumption) ?rest148
    case hy148 => ((intro w hSw; (try dsimp only at hSw); go_simp); try (with_reducible rfl))
    ((try dsimp only [List.getElem_toArray, List.getElem_cons_succ, List.getElem_cons_zero]); try simp only [Act.put, List.setIfInBounds_toArray, List.set_cons_zero, List.set_cons_succ])
    refine wpAnyH_ready (rs := [33]) (by kernel_rfl) (by simp) ?_
    refine AllReadyH.cons (o := _) rfl (fun K hK => ?_) AllReadyH.nil
    go_simp
    ( with_reducible refine (A1.out _).mono ?_); rintro e v1 ⟨rfl, g1⟩; have TP : Three v1 (w2.heap.size) (.bool ppa) (.string ppx) (.string ppy) 49 := Three.kept (by assumption) g1; have TQ : Three v1 (w3.heap.size) (.bool ppa) (.string ppx) (.string ppy) 49 := Three.kept (by assumption) g1; have TR : Three v1 (w4.heap.size) (.bool rra) (.string rrx) (.string rry) 49 := Three.kept (by assumption) g1; have GG : W.grownBy v1 none := gr_then (by assumption) g1
    refine hK.out _ _ ?_ (fun hHeld => ?_)
    · (try dsimp only); (first | exact ⟨Three.c0 (by assumption), Three.c1 (by assumption), Three.c2 (by assumption), Three.c0 (by assumption), Three.c1 (by assumption), Three.c2 (by assumption), Three.c0 (by assumption), Three.c1 (by assumption), Three.c2 (by assumption)⟩ | go_keep)
    clear hK K
    ((try dsimp only [List.getElem_toArray, List.getElem_cons_succ, List.getElem_cons_zero]); try simp only [Act.put, List.setIfInBounds_toArray, List.set_cons_zero, List.set_cons_succ])
    refine wpAnyH_ready (rs := [36]) (by kernel_rfl) (by simp) ?_
    refine AllReadyH.cons (o := _) rfl (fun K hK => ?_) AllReadyH.nil
    go_simp
    ( with_reducible refine (A2.out _).mono ?_); rintro e v1 ⟨rfl, g1⟩; have TP : Three v1 (w2.heap.size) (.bool ppa) (.string ppx) (.string ppy) 49 := Three.kept (by assumption) g1; have TQ : Three v1 (w3.heap.size) (.bool ppa) (.string ppx) (.string ppy) 49 := Three.kept (by assumption) g1; have TR : Three v1 (w4.heap.size) (.bool rra) (.string rrx) (.string rry) 49 := Three.kept (by assumption) g1; have GG : W.grownBy v1 none := gr_then (by assumption) g1
    refine hK.out _ _ ?_ (fun hHeld => ?_)
    · (try dsimp only); (first | exact ⟨Three.c0 (by assumption), Three.c1 (by assumption), Three.c2 (by assumption), Three.c0 (by assumption), Three.c1 (by assumption), Three.c2 (by assumption), Three.c0 (by assumption), Three.c1 (by assumption), Three.c2 (by assumption)⟩ | go_keep)
    clear hK K
    ((try dsimp only [List.getElem_toArray, List.getElem_cons_succ, List.getElem_cons_zero]); try simp only [Act.put, List.setIfInBounds_toArray, List.set_cons_zero, List.set_cons_succ])
    refine wpAnyH_ready (rs := [37]) (by kernel_rfl) (by simp) ?_
    refine AllReadyH.cons (o := _) rfl (fun K hK => ?_) AllReadyH.nil
    go_simp
    ( with_reducible refine (C5.out _).mono ?_); rintro e v1 ⟨rfl, g1⟩; have TP : Three v1 (w2.heap.size) (.bool ppa) (.string ppx) (.string ppy) 49 := Three.kept (by assumption) g1; have TQ : Three v1 (w3.heap.size) (.bool ppa) (.string ppx) (.string ppy) 49 := Three.kept (by assumption) g1; have TR : Three v1 (w4.heap.size) (.bool rra) (.string rrx) (.string rry) 49 := Three.kept (by assumption) g1; have GG : W.grownBy v1 none := gr_then (by assumption) g1
    refine hK.out _ _ ?_ (fun hHeld => ?_)
    · (try dsimp only); (first | exact ⟨Three.c0 (by assumption), Three.c1 (by assumption), Three.c2 (by assumption), Three.c0 (by assumption), Three.c1 (by assumption), Three.c2 (by assumption), Three.c0 (by assumption), Three.c1 (by assumption), Three.c2 (by assumption)⟩ | go_keep)
    clear hK K
    ((try dsimp only [List.getElem_toArray, List.getElem_cons_succ, List.getElem_cons_zero]); try simp only [Act.put, List.setIfInBounds_toArray, List.set_cons_zero, List.set_cons_succ])
    refine wpAnyH_take (i := 39) (oi := _) (v := ?v149) rfl (by kernel_rfl) (by kernel_rfl) (by kernel_rfl) (fun _ _ _ h => h) (Or.inl ⟨by rfl, ?hy149⟩) (by assumption) ?rest149
    case hy149 => ((intro w hSw; (try dsimp only at hSw); go_simp); try (with_reducible rfl))
    ((try dsimp only [List.getElem_toArray, List.getElem_cons_succ, List.getElem_cons_zero]); try simp only [Act.put, List.setIfInBounds_toArray, List.set_cons_zero, List.set_cons_succ])
    refine wpAnyH_take (i := 40) (oi := _) (v := ?v150) rfl (by kernel_rfl) (by kernel_rfl) (by kernel_rfl) (fun _ _ _ h => h) (Or.inl ⟨by rfl, ?hy150⟩) (by assumption) ?rest150
    case hy150 => ((intro w hSw; (try dsimp only at hSw); go_simp); try (with_reducible rfl))
    ((try dsimp only [List.getElem_toArray, List.getElem_cons_succ, List.getElem_cons_zero]); try simp only [Act.put, List.setIfInBounds_toArray, List.set_cons_zero, List.set_cons_succ])
    refine wpAnyH_take (i := 41) (oi := _) (v := ?v151) rfl (by kernel_rfl) (by kernel_rfl) (by kernel_rfl) (fun _ _ _ h => h) (Or.inl ⟨by rfl, ?hy151⟩) (by assumption) ?rest151
    case hy151 => ((intro w hSw; (try dsimp only at hSw); go_simp); try (with_reducible rfl))
    ((try dsimp only [List.getElem_toArray, List.getElem_cons_succ, List.getElem_cons_zero]); try simp only [Act.put, List.setIfInBounds_toArray, List.set_cons_zero, List.set_cons_succ])
    refine wpAnyH_done (by kernel_rfl) ?_ _
    have M0P : Three v1 (w2.heap.size) (.bool ppa) (.string ppx) (.string ppy) 49 := by assumption
    have M0Q : Three v1 (w3.heap.size) (.bool ppa) (.string ppx) (.string ppy) 49 := by assumption
    have M0R : Three v1 (w4.heap.size) (.bool rra) (.string rrx) (.string rry) 49 := by assumption
    have G40 : W.grownBy v1 none := by assumption
    go_wp2_with fail
    have M_P := M0P.drew
    have M_Q := M0Q.drew
    have M_R := M0R.drew
    have G4 := gr_dr G40
    go_region_held3 (fun w' => w'.cell? ⟨w2.heap.size, 0, none⟩ = some (.bool ppa) ∧ w'.cell? ⟨w2.heap.size, 1, none⟩ = some (.string ppx) ∧ w'.cell? ⟨w2.heap.size, 2, none⟩ = some (.string ppy) ∧ w'.cell? ⟨w3.heap.size, 0, none⟩ = some (.bool ppa) ∧ w'.cell? ⟨w3.heap.size, 1, none⟩ = some (.string ppx) ∧ w'.cell? ⟨w3.heap.size, 2, none⟩ = some (.string ppy) ∧ w'.cell? ⟨w4.heap.size, 0, none⟩ = some (.bool rra) ∧ w'.cell? ⟨w4.heap.size, 1, none⟩ = some (.string rrx) ∧ w'.cell? ⟨w4.heap.size, 2, none⟩ = some (.string rry)) (first | exact ⟨Three.c0 (by assumption), Three.c1 (by assumption), Three.c2 (by assumption), Three.c0 (by assumption), Three.c1 (by assumption), Three.c2 (by assumption), Three.c0 (by assumption), Three.c1 (by assumption), Three.c2 (by assumption)⟩ | go_keep)
      (first
      | (go_at_call 45; (first | with_reducible refine (M1.out _).mono ?_ | with_reducible refine (M2.out _).mono ?_); rintro e v1 ⟨rfl, g1⟩; have TP : Three v1 (w2.heap.size) (.bool ppa) (.string ppx) (.string ppy) 49 := Three.kept (by assumption) g1; have TQ : Three v1 (w3.heap.size) (.bool ppa) (.string ppx) (.string ppy) 49 := Three.kept (by assumption) g1; have TR : Three v1 (w4.heap.size) (.bool rra) (.string rrx) (.string rry) 49 := Three.kept (by assumption) g1; have GG : W.grownBy v1 none := gr_then (by assumption) g1)
      | (go_at_call 47; (first | with_reducible refine (C6.out _).mono ?_ | with_reducible refine (C7.out _).mono ?_); rintro e v1 ⟨rfl, g1⟩; have TP : Three v1 (w2.heap.size) (.bool ppa) (.string ppx) (.string ppy) 49 := Three.kept (by assumption) g1; have TQ : Three v1 (w3.heap.size) (.bool ppa) (.string ppx) (.string ppy) 49 := Three.kept (by assumption) g1; have TR : Three v1 (w4.heap.size) (.bool rra) (.string rrx) (.string rry) 49 := Three.kept (by assumption) g1; have GG : W.grownBy v1 none := gr_then (by assumption) g1)
      | (go_at_call 49; (first | with_reducible refine (S1.out _).mono ?_ | with_reducible refine (S2.out _).mono ?_ | with_reducible refine (S3.out _).mono ?_); rintro e v1 ⟨rfl, g1⟩; have TP : Three v1 (w2.heap.size) (.bool ppa) (.string ppx) (.string ppy) 49 := Three.kept (by assumption) g1; have TQ : Three v1 (w3.heap.size) (.bool ppa) (.string ppx) (.string ppy) 49 := Three.kept (by assumption) g1; have TR : Three v1 (w4.heap.size) (.bool rra) (.string rrx) (.string rry) 49 := Three.kept (by assumption) g1; have GG : W.grownBy v1 none := gr_then (by assumption) g1)
      | (go_at_call 43; (first | with_reducible refine (B1.out _).mono ?_); rintro e v1 ⟨rfl, g1⟩; have TP : Three v1 (w2.heap.size) (.bool ppa) (.string ppx) (.string ppy) 49 := Three.kept (by assumption) g1; have TQ : Three v1 (w3.heap.size) (.bool ppa) (.string ppx) (.string ppy) 49 := Three.kept (by assumption) g1; have TR : Three v1 (w4.heap.size) (.bool rra) (.string rrx) (.string rry) 49 := Three.kept (by assumption) g1; have GG : W.grownBy v1 none := gr_then (by assumption) g1)
      | (go_at_call 56; (first | with_reducible refine (OZ.out _).mono ?_); rintro e v1 ⟨rfl, g1⟩; have TP : Three v1 (w2.heap.size) (.bool ppa) (.string ppx) (.string ppy) 49 := Three.kept (by assumption) g1; have TQ : Three v1 (w3.heap.size) (.bool ppa) (.string ppx) (.string ppy) 49 := Three.kept (by assumption) g1; have TR : Three v1 (w4.heap.size) (.bool rra) (.string rrx) (.string rry) 49 := Three.kept (by assumption) g1; have GG : W.grownBy v1 none := gr_then (by assumption) g1))
    all_goals
      go_wp2
      go_ret
      exact ⟨rfl, by assumption⟩
  · have hyb : decide (y < 0) = false := by rw [decide_eq_false_iff_not]; omega
    have hxb := decide_eq_true hyx2
    go_region_held3 (fun w' => w'.cell? ⟨w2.heap.size, 0, none⟩ = some (.bool ppa) ∧ w'.cell? ⟨w2.heap.size, 1, none⟩ = some (.string ppx) ∧ w'.cell? ⟨w2.heap.size, 2, none⟩ = some (.string ppy) ∧ w'.cell? ⟨w3.heap.size, 0, none⟩ = some (.bool ppa) ∧ w'.cell? ⟨w3.heap.size, 1, none⟩ = some (.string ppx) ∧ w'.cell? ⟨w3.heap.size, 2, none⟩ = some (.string ppy) ∧ w'.cell? ⟨w4.heap.size, 0, none⟩ = some (.bool rra) ∧ w'.cell? ⟨w4.heap.size, 1, none⟩ = some (.string rrx) ∧ w'.cell? ⟨w4.heap.size, 2, none⟩ = some (.string rry)) (first | exact ⟨Three.c0 (by assumption), Three.c1 (by assumption), Three.c2 (by assumption), Three.c0 (by assumption), Three.c1 (by assumption), Three.c2 (by assumption), Three.c0 (by assumption), Three.c1 (by assumption), Three.c2 (by assumption)⟩ | go_keep)
      (first
      | (go_at_call 47; (first | with_reducible refine (C2.out _).mono ?_ | with_reducible refine (C3.out _).mono ?_ | with_reducible refine (C4.out _).mono ?_ | with_reducible refine (C5.out _).mono ?_); rintro e v1 ⟨rfl, g1⟩; have TP : Three v1 (w2.heap.size) (.bool ppa) (.string ppx) (.string ppy) 49 := Three.kept (by assumption) g1; have TQ : Three v1 (w3.heap.size) (.bool ppa) (.string ppx) (.string ppy) 49 := Three.kept (by assumption) g1; have TR : Three v1 (w4.heap.size) (.bool rra) (.string rrx) (.string rry) 49 := Three.kept (by assumption) g1; have GG : W.grownBy v1 none := gr_then (by assumption) g1)
      | (go_at_call 41; (first | with_reducible refine (A1.out _).mono ?_ | with_reducible refine (A2.out _).mono ?_); rintro e v1 ⟨rfl, g1⟩; have TP : Three v1 (w2.heap.size) (.bool ppa) (.string ppx) (.string ppy) 49 := Three.kept (by assumption) g1; have TQ : Three v1 (w3.heap.size) (.bool ppa) (.string ppx) (.string ppy) 49 := Three.kept (by assumption) g1; have TR : Three v1 (w4.heap.size) (.bool rra) (.string rrx) (.string rry) 49 := Three.kept (by assumption) g1; have GG : W.grownBy v1 none := gr_then (by assumption) g1))
    have M0P : Three v1 (w2.heap.size) (.bool ppa) (.string ppx) (.string ppy) 49 := by assumption
    have M0Q : Three v1 (w3.heap.size) (.bool ppa) (.string ppx) (.string ppy) 49 := by assumption
    have M0R : Three v1 (w4.heap.size) (.bool rra) (.string rrx) (.string rry) 49 := by assumption
    have G40 : W.grownBy v1 none := by assumption
    go_wp2_with fail
    have M_P := M0P.drew
    have M_Q := M0Q.drew
    have M_R := M0R.drew
    have G4 := gr_dr G40
    go_region_held3 (fun w' => w'.cell? ⟨w2.heap.size, 0, none⟩ = some (.bool ppa) ∧ w'.cell? ⟨w2.heap.size, 1, none⟩ = some (.string ppx) ∧ w'.cell? ⟨w2.heap.size, 2, none⟩ = some (.string ppy) ∧ w'.cell? ⟨w3.heap.size, 0, none⟩ = some (.bool ppa) ∧ w'.cell? ⟨w3.heap.size, 1, none⟩ = some (.string ppx) ∧ w'.cell? ⟨w3.heap.size, 2, none⟩ = some (.string ppy) ∧ w'.cell? ⟨w4.heap.size, 0, none⟩ = some (.bool rra) ∧ w'.cell? ⟨w4.heap.size, 1, none⟩ = some (.string rrx) ∧ w'.cell? ⟨w4.heap.size, 2, none⟩ = some (.string rry)) (first | exact ⟨Three.c0 (by assumption), Three.c1 (by assumption), Three.c2 (by assumption), Three.c0 (by assumption), Three.c1 (by assumption), Three.c2 (by assumption), Three.c0 (by assumption), Three.c1 (by assumption), Three.c2 (by assumption)⟩ | go_keep)
      (first
      | (go_at_call 45; (first | with_reducible refine (M1.out _).mono ?_ | with_reducible refine (M2.out _).mono ?_); rintro e v1 ⟨rfl, g1⟩; have TP : Three v1 (w2.heap.size) (.bool ppa) (.string ppx) (.string ppy) 49 := Three.kept (by assumption) g1; have TQ : Three v1 (w3.heap.size) (.bool ppa) (.string ppx) (.string ppy) 49 := Three.kept (by assumption) g1; have TR : Three v1 (w4.heap.size) (.bool rra) (.string rrx) (.string rry) 49 := Three.kept (by assumption) g1; have GG : W.grownBy v1 none := gr_then (by assumption) g1)
      | (go_at_call 47; (first | with_reducible refine (C6.out _).mono ?_ | with_reducible refine (C7.out _).mono ?_); rintro e v1 ⟨rfl, g1⟩; have TP : Three v1 (w2.heap.size) (.bool ppa) (.string ppx) (.string ppy) 49 := Three.kept (by assumption) g1; have TQ : Three v1 (w3.heap.size) (.bool ppa) (.string ppx) (.string ppy) 49 := Three.kept (by assumption) g1; have TR : Three v1 (w4.heap.size) (.bool rra) (.string rrx) (.string rry) 49 := Three.kept (by assumption) g1; have GG : W.grownBy v1 none := gr_then (by assumption) g1)
      | (go_at_call 49; (first | with_reducible refine (S1.out _).mono ?_ | with_reducible refine (S2.out _).mono ?_ | with_reducible refine (S3.out _).mono ?_); rintro e v1 ⟨rfl, g1⟩; have TP : Three v1 (w2.heap.size) (.bool ppa) (.string ppx) (.string ppy) 49 := Three.kept (by assumption) g1; have TQ : Three v1 (w3.heap.size) (.bool ppa) (.string ppx) (.string ppy) 49 := Three.kept (by assumption) g1; have TR : Three v1 (w4.heap.size) (.bool rra) (.string rrx) (.string rry) 49 := Three.kept (by assumption) g1; have GG : W.grownBy v1 none := gr_then (by assumption) g1)
      | (go_at_call 43; (first | with_reducible refine (B1.out _).mono ?_); rintro e v1 ⟨rfl, g1⟩; have TP : Three v1 (w2.heap.size) (.bool ppa) (.string ppx) (.string ppy) 49 := Three.kept (by assumption) g1; have TQ : Three v1 (w3.heap.size) (.bool ppa) (.string ppx) (.string ppy) 49 := Three.kept (by assumption) g1; have TR : Three v1 (w4.heap.size) (.bool rra) (.string rrx) (.string rry) 49 := Three.kept (by assumption) g1; have GG : W.grownBy v1 none := gr_then (by assumption) g1)
      | (go_at_call 56; (first | with_reducible refine (OZ.out _).mono ?_); rintro e v1 ⟨rfl, g1⟩; have TP : Three v1 (w2.heap.size) (.bool ppa) (.string ppx) (.string ppy) 49 := Three.kept (by assumption) g1; have TQ : Three v1 (w3.heap.size) (.bool ppa) (.string ppx) (.string ppy) 49 := Three.kept (by assumption) g1; have TR : Three v1 (w4.heap.size) (.bool rra) (.string rrx) (.string rry) 49 := Three.kept (by assumption) g1; have GG : W.grownBy v1 none := gr_then (by assumption) g1))
    all_goals
      go_wp2
      go_ret
      exact ⟨rfl, by assumption⟩
end Go.Proofs.YteajpefbmiiioaaGreatDoor
namespace Go.Proofs.YteajpefbmiiioaaGreatDoor
open Go.RowKit Mth Go.Lib

theorem rv_partsP (q : Rat) : ∃ (a : Bool) (x y : ByteArray), RV q = .agg #[.bool a, .string x, .string y] := ⟨_, _, _, rfl⟩
set_option maxHeartbeats 16000000 in
set_option maxRecDepth 100000 in
theorem order_P (q0 q1 q2 q3 q4 q5 q6 q7 q8 : Int) (W : World) (htab : Tab W) (p q r : Rat) (bp : Bd 16 p) (bq : Bd 16 q) (br : Bd 16 r) (mp : MadeQ q0 q1 q2 p) (mq : MadeQ q3 q4 q5 q) (mr : MadeQ q6 q7 q8 r) (hz : cmpQ p q = 1) :
    Gives 11 #[.agg #[.int .i64 q0, .int .i64 q1, .int .i64 q2], .agg #[.int .i64 q3, .int .i64 q4, .int .i64 q5], .agg #[.int .i64 q6, .int .i64 q7, .int .i64 q8]] W (.bool true) := by
  unfold MadeQ at mp mq mr
  have MP := Lib.hid mp
  have MQ := Lib.hid mq
  have MR := Lib.hid mr
  clear mp mq mr
  have HS0 := Lib.hid (sanityq_true)
  have HT := Lib.hid htab
  clear htab
  have b0 : Bd 40 (0 : Rat) := bd_mono (bd1 (by decide) (by decide)) (by decide)
  have cp := bd_mono bp (by decide : 16 ≤ 40)
  have cr := bd_mono br (by decide : 16 ≤ 40)
  have cq := bd_mono bq (by decide : 16 ≤ 40)
  have C1 := Lib.hid (fun w => cmpq_any (p) (q) 40 w cp cq (by decide))
  rw [hz] at C1
  have C2 := Lib.hid (fun w => cmpq_any (q) (p) 40 w cq cp (by decide))
  rw [cmpQ_swap q p] at C2
  rw [hz] at C2
  rw [show -(1 : Int) = -1 from rfl] at C2
  have C3 := Lib.hid (fun w => cmpq_any (q) (r) 40 w cq cr (by decide))
  have C4 := Lib.hid (fun w => cmpq_any (p) (r) 40 w cp cr (by decide))
  have C5 := Lib.hid (fun w => cmpq_any (p + r) (q + r) 40 w (bd_mono (bd_add bp br) (by decide)) (bd_mono (bd_add bq br) (by decide)) (by decide))
  rw [cmpQ_add] at C5
  rw [hz] at C5
  have C6 := Lib.hid (fun w => cmpq_any (p * r) (q * r) 40 w (bd_mono (bd_mul bp br) (by decide)) (bd_mono (bd_mul bq br) (by decide)) (by decide))
  rw [cmpQ_mul] at C6
  rw [hz] at C6
  have C7 := Lib.hid (fun w => cmpq_any (p) (0) 40 w cp b0 (by decide))
  rw [cmpQ_zero] at C7
  have A1 := Lib.hid (fun w => addq_any p r 40 w cp cr (by decide))
  have A2 := Lib.hid (fun w => addq_any q r 40 w cq cr (by decide))
  have M1 := Lib.hid (fun w => mulq_any p r 40 w cp cr (by decide))
  have M2 := Lib.hid (fun w => mulq_any q r 40 w cq cr (by decide))
  have S1 := Lib.hid (fun w => signq_any r 40 w cr (by decide))
  have S3 := Lib.hid (fun w => signq_any p 40 w cp (by decide))
  have B1 := Lib.hid (fun w => subq_any p q 40 w cp cq (by decide))
  have S2 := Lib.hid (fun w => signq_any (p - q) 40 w (bd_mono (bd_sub bp bq) (by decide)) (by decide))
  rw [show sgnQ (p - q) = 1 from hz] at S2
  have OZ0 : ∀ w, Gives 56 #[.int .i64 0] w (RW false 0 1) := fun w => ofq_nat 0 w (by decide)
  have OZ := Lib.hid OZ0
  clear OZ0
  rw [show RW false 0 1 = RV 0 from rfl] at OZ
  have hne : ¬ RV p = RV q := fun e => by have h := rv_inj e; rw [h, cmpQ_self] at hz; exact absurd hz (by decide)
  have hyx : (cmpQ q r < 0) ∨ (¬ cmpQ q r < 0 ∧ 0 ≤ cmpQ p r) := by
    have h := cmpQ_trans p q r
    rw [hz] at h
    by_cases hy : cmpQ q r < 0
    · exact .inl hy
    · exact .inr ⟨hy, by rcases h with h | h | h
                         · exact absurd h (by decide)
                         · exact absurd h hy
                         · exact h⟩
  have ls := sgn_three r
  have hw0 : IntKind.i64.wrap 0 = 0 := rfl
  have hw1 : IntKind.i64.wrap 1 = 1 := rfl
  have hw2 : IntKind.i64.wrap (-1) = -1 := rfl
  have hw3 : IntKind.i64.wrap (1 * sgnQ r) = 1 * sgnQ r := IntWalk.i64_in _ (by omega)
  generalize hy : cmpQ q r = y at *
  generalize hx : cmpQ p r = x at *
  clear hx hy
  generalize sgnQ r = sr at *
  generalize sgnQ p = sp at *
  obtain ⟨cv, hcv⟩ : ∃ cv : Int, 1 * sr = cv := ⟨_, rfl⟩
  rw [hcv] at C6 hw3
  have hw4 : cv = sr := by omega
  subst hw4
  clear ls bp br cp cr b0 bq cq hz
  obtain ⟨v1a, v1x, v1y, ev1⟩ := rv_partsP (p + r)
  obtain ⟨v2a, v2x, v2y, ev2⟩ := rv_partsP (q + r)
  obtain ⟨v3a, v3x, v3y, ev3⟩ := rv_partsP (p * r)
  obtain ⟨v4a, v4x, v4y, ev4⟩ := rv_partsP (q * r)
  obtain ⟨v5a, v5x, v5y, ev5⟩ := rv_partsP (p - q)
  obtain ⟨za, zx, zy, ez⟩ := rv_partsP (0)
  obtain ⟨ppa, ppx, ppy, epp⟩ := rv_partsP (p)
  obtain ⟨qqa, qqx, qqy, eqq⟩ := rv_partsP (q)
  obtain ⟨rra, rrx, rry, err⟩ := rv_partsP (r)
  try simp only [ev1] at MP MQ MR C1 C2 C3 C4 C5 C6 C7 A1 A2 M1 M2 S1 S2 S3 B1 OZ hne
  try simp only [ev2] at MP MQ MR C1 C2 C3 C4 C5 C6 C7 A1 A2 M1 M2 S1 S2 S3 B1 OZ hne
  try simp only [ev3] at MP MQ MR C1 C2 C3 C4 C5 C6 C7 A1 A2 M1 M2 S1 S2 S3 B1 OZ hne
  try simp only [ev4] at MP MQ MR C1 C2 C3 C4 C5 C6 C7 A1 A2 M1 M2 S1 S2 S3 B1 OZ hne
  try simp only [ev5] at MP MQ MR C1 C2 C3 C4 C5 C6 C7 A1 A2 M1 M2 S1 S2 S3 B1 OZ hne
  try simp only [ez] at MP MQ MR C1 C2 C3 C4 C5 C6 C7 A1 A2 M1 M2 S1 S2 S3 B1 OZ hne
  try simp only [epp] at MP MQ MR C1 C2 C3 C4 C5 C6 C7 A1 A2 M1 M2 S1 S2 S3 B1 OZ hne
  try simp only [eqq] at MP MQ MR C1 C2 C3 C4 C5 C6 C7 A1 A2 M1 M2 S1 S2 S3 B1 OZ hne
  try simp only [err] at MP MQ MR C1 C2 C3 C4 C5 C6 C7 A1 A2 M1 M2 S1 S2 S3 B1 OZ hne
  clear ev1 ev2 ev3 ev4 ev5 ez epp eqq err
  have P0 := ((Three.new W (.int .i64 q0) (.int .i64 q1) (.int .i64 q2) 47).alloc (.cells #[.int .i64 q3, .int .i64 q4, .int .i64 q5] 47)).alloc (.cells #[.int .i64 q6, .int .i64 q7, .int .i64 q8] 47)
  have X0 := (Three.new1 W (.cells #[.int .i64 q0, .int .i64 q1, .int .i64 q2] 47) (.int .i64 q3) (.int .i64 q4) (.int .i64 q5) 47).alloc (.cells #[.int .i64 q6, .int .i64 q7, .int .i64 q8] 47)
  have Y0 := Three.new2 W (.cells #[.int .i64 q0, .int .i64 q1, .int .i64 q2] 47) (.cells #[.int .i64 q3, .int .i64 q4, .int .i64 q5] 47) (.int .i64 q6) (.int .i64 q7) (.int .i64 q8) 47
  have G0 := Lib.hid (gr_al (o := (.cells #[.int .i64 q6, .int .i64 q7, .int .i64 q8] 47)) (gr_al (o := (.cells #[.int .i64 q3, .int .i64 q4, .int .i64 q5] 47)) (gr_al (o := (.cells #[.int .i64 q0, .int .i64 q1, .int .i64 q2] 47)) (gr_rfl W))))
  go_enter Tryz.func11, Tryz.ntmps11
  go_wp2_with fail
  refine (HS0.out _ (tab_gr HT.out G0.out)).mono ?_
  rintro e w1 ⟨rfl, g1⟩
  have P1 := P0.kept g1
  have X1 := X0.kept g1
  have Y1 := Y0.kept g1
  have G1 := Lib.hid (gr_then G0.out g1)
  have c0 := P1.c0
  have c1 := P1.c1
  have c2 := P1.c2
  clear g1 P0 X0 Y0 G0
  go_wp2_with fail
  refine (MP.out _).mono ?_
  rintro e w2 ⟨rfl, g1⟩
  have X1' := (X1.kept g1).alloc (.cells #[.bool ppa, .string ppx, .string ppy] 49)
  have Y1' := (Y1.kept g1).alloc (.cells #[.bool ppa, .string ppx, .string ppy] 49)
  have KP := Three.new w2 (.bool ppa) (.string ppx) (.string ppy) 49
  have G_w2 := Lib.hid (gr_al (o := (.cells #[.bool ppa, .string ppx, .string ppy] 49)) (gr_then G1.out g1))
  clear g1 X1 Y1 G1 P1 c0 c1 c2
  have X1 := X1'
  clear X1'
  have Y1 := Y1'
  clear Y1'
  have c0 := X1.c0
  have c1 := X1.c1
  have c2 := X1.c2
  go_wp2_with fail
  refine (MQ.out _).mono ?_
  rintro e w3 ⟨rfl, g1⟩
  have Y1' := (Y1.kept g1).alloc (.cells #[.bool qqa, .string qqx, .string qqy] 49)
  have KP' := (KP.kept g1).alloc (.cells #[.bool qqa, .string qqx, .string qqy] 49)
  have KQ := Three.new w3 (.bool qqa) (.string qqx) (.string qqy) 49
  have G_w3 := Lib.hid (gr_al (o := (.cells #[.bool qqa, .string qqx, .string qqy] 49)) (gr_then G_w2.out g1))
  clear g1 Y1 KP G_w2 X1 c0 c1 c2
  have Y1 := Y1'
  clear Y1'
  have KP := KP'
  clear KP'
  have c0 := Y1.c0
  have c1 := Y1.c1
  have c2 := Y1.c2
  go_wp2_with fail
  refine (MR.out _).mono ?_
  rintro e w4 ⟨rfl, g1⟩
  have KP' := (KP.kept g1).alloc (.cells #[.bool rra, .string rrx, .string rry] 49)
  have KQ' := (KQ.kept g1).alloc (.cells #[.bool rra, .string rrx, .string rry] 49)
  have KR := Three.new w4 (.bool rra) (.string rrx) (.string rry) 49
  have G_w4 := Lib.hid (gr_al (o := (.cells #[.bool rra, .string rrx, .string rry] 49)) (gr_then G_w3.out g1))
  clear g1 KP KQ G_w3 Y1 c0 c1 c2
  have KP := KP'
  clear KP'
  have KQ := KQ'
  clear KQ'
  have dP0 := KP.c0
  have dP1 := KP.c1
  have dP2 := KP.c2
  have dQ0 := KQ.c0
  have dQ1 := KQ.c1
  have dQ2 := KQ.c2
  go_wp2_with fail
  refine (C1.out _).mono ?_
  rintro e w5 ⟨rfl, g1⟩
  have LP := (KP.kept g1).drew
  have LQ := (KQ.kept g1).drew
  have LR := (KR.kept g1).drew
  have HG5 := Lib.hid (gr_dr (gr_then G_w4.out g1))
  have G5 := HG5.out
  clear g1 G_w4 KP KQ KR dP0 dP1 dP2 dQ0 dQ1 dQ2
  go_wp2_with fail
  rcases fields hne with hf | ⟨rfl, hf⟩ | ⟨rfl, rfl, hf⟩
  · clear hne
    rcases hyx with hyx | ⟨hyx, hyx2⟩
    · refine wp_region_held_drew (S := fun w' => w'.cell? ⟨w2.heap.size, 0, none⟩ = some (.bool ppa) ∧ w'.cell? ⟨w2.heap.size, 1, none⟩ = some (.string ppx) ∧ w'.cell? ⟨w2.heap.size, 2, none⟩ = some (.string ppy) ∧ w'.cell? ⟨w3.heap.size, 0, none⟩ = some (.bool qqa) ∧ w'.cell? ⟨w3.heap.size, 1, none⟩ = some (.string qqx) ∧ w'.cell? ⟨w3.heap.size, 2, none⟩ = some (.string qqy) ∧ w'.cell? ⟨w4.heap.size, 0, none⟩ = some (.bool rra) ∧ w'.cell? ⟨w4.heap.size, 1, none⟩ = some (.string rrx) ∧ w'.cell? ⟨w4.heap.size, 2, none⟩ = some (.string rry)) (by kernel_rfl) ?_ (fun hHeld => ?_)
      · (first | exact ⟨Three.c0 (by assumption), Three.c1 (by assumption), Three.c2 (by assumption), Three.c0 (by assumption), Three.c1 (by assumption), Three.c2 (by assumption), Three.c0 (by assumption), Three.c1 (by assumption), Three.c2 (by assumption)⟩ | go_keep)
      refine wpAnyH_take (i := 0) (oi := _) (v := ?v152) rfl (by kernel_rfl) (by kernel_rfl) (by kernel_rfl) (fun _ _ _ h => h) (Or.inl ⟨by rfl, ?hy152⟩) (by assumption) ?rest152
      case hy152 => ((intro w hSw; (try dsimp only at hSw); go_simp); try (with_reducible rfl))
      ((try dsimp only [List.getElem_toArray, List.getElem_cons_succ, List.getElem_cons_zero]); try simp only [Act.put, List.setIfInBounds_toArray, List.set_cons_zero, List.set_cons_succ])
      refine wpAnyH_take (i := 1) (oi := _) (v := ?v153) rfl (by kernel_rfl) (by kernel_rfl) (by kernel_rfl) (fun _ _ _ h => h) (Or.inl ⟨by rfl, ?hy153⟩) (by assumption) ?rest153
      case hy153 => ((intro w hSw; (try dsimp only at hSw); go_simp); try (with_reducible rfl))
      ((try dsimp only [List.getElem_toArray, List.getElem_cons_succ, List.getElem_cons_zero]); try simp only [Act.put, List.setIfInBounds_toArray, List.set_cons_zero, List.set_cons_succ])
      refine wpAnyH_take (i := 2) (oi := _) (v := ?v154) rfl (by kernel_rfl) (by kernel_rfl) (by kernel_rfl) (fun _ _ _ h => h) (Or.inl ⟨by rfl, ?hy154⟩) (by assumption) ?rest154
      case hy154 => ((intro w hSw; (try dsimp only at hSw); go_simp); try (with_reducible rfl))
      ((try dsimp only [List.getElem_toArray, List.getElem_cons_succ, List.getElem_cons_zero]); try simp only [Act.put, List.setIfInBounds_toArray, List.set_cons_zero, List.set_cons_succ])
      refine wpAnyH_ready (rs := [3]) (by kernel_rfl) (by simp) ?_
      refine AllReadyH.cons (o := _) rfl (fun K hK => ?_) AllReadyH.nil
      go_simp
      ( with_reducible refine (C2.out _).mono ?_); rintro e v1 ⟨rfl, g1⟩; have TP : Three v1 (w2.heap.size) (.bool ppa) (.string ppx) (.string ppy) 49 := Three.kept (by assumption) g1; have TQ : Three v1 (w3.heap.size) (.bool qqa) (.string qqx) (.string qqy) 49 := Three.kept (by assumption) g1; have TR : Three v1 (w4.heap.size) (.bool rra) (.string rrx) (.string rry) 49 := Three.kept (by assumption) g1; have GG : W.grownBy v1 none := gr_then (by assumption) g1
      refine hK.out _ _ ?_ (fun hHeld => ?_)
      · (try dsimp only); (first | exact ⟨Three.c0 (by assumption), Three.c1 (by assumption), Three.c2 (by assumption), Three.c0 (by assumption), Three.c1 (by assumption), Three.c2 (by assumption), Three.c0 (by assumption), Three.c1 (by assumption), Three.c2 (by assumption)⟩ | go_keep)
      clear hK K
      ((try dsimp only [List.getElem_toArray, List.getElem_cons_succ, List.getElem_cons_zero]); try simp only [Act.put, List.setIfInBounds_toArray, List.set_cons_zero, List.set_cons_succ])
      refine wpAnyH_take (i := 4) (oi := _) (v := ?v155) rfl (by kernel_rfl) (by kernel_rfl) (by kernel_rfl) (fun _ _ _ h => h) (Or.inl ⟨by rfl, ?hy155⟩) (by assumption) ?rest155
      case hy155 => ((intro w hSw; (try dsimp only at hSw); go_simp); try (with_reducible rfl))
      ((try dsimp only [List.getElem_toArray, List.getElem_cons_succ, List.getElem_cons_zero]); try simp only [Act.put, List.setIfInBounds_toArray, List.set_cons_zero, List.set_cons_succ])
      refine wpAnyH_take (i := 5) (oi := _) (v := ?v156) rfl (by kernel_rfl) (by kernel_rfl) (by kernel_rfl) (fun _ _ _ h => h) (Or.inl ⟨by rfl, ?hy156⟩) (by assumption) ?rest156
      case hy156 => ((intro w hSw; (try dsimp only at hSw); go_simp); try (with_reducible rfl))
      ((try dsimp only [List.getElem_toArray, List.getElem_cons_succ, List.getElem_cons_zero]); try simp only [Act.put, List.setIfInBounds_toArray, List.set_cons_zero, List.set_cons_succ])
      refine wpAnyH_take (i := 6) (oi := _) (v := ?v157) rfl (by kernel_rfl) (by kernel_rfl) (by kernel_rfl) (fun _ _ _ h => h) (Or.inl ⟨by rfl, ?hy157⟩) (by assumption) ?rest157
      case hy157 => ((intro w hSw; (try dsimp only at hSw); go_simp); try (with_reducible rfl))
      ((try dsimp only [List.getElem_toArray, List.getElem_cons_succ, List.getElem_cons_zero]); try simp only [Act.put, List.setIfInBounds_toArray, List.set_cons_zero, List.set_cons_succ])
      refine wpAnyH_take (i := 7) (oi := _) (v := ?v158) rfl (by kernel_rfl) (by kernel_rfl) (by kernel_rfl) (fun _ _ _ h => h) (Or.inl ⟨by rfl, ?hy158⟩) (by assumption) ?rest158
      case hy158 => ((intro w hSw; (try dsimp only at hSw); go_simp); try (with_reducible rfl))
      ((try dsimp only [List.getElem_toArray, List.getElem_cons_succ, List.getElem_cons_zero]); try simp only [Act.put, List.setIfInBounds_toArray, List.set_cons_zero, List.set_cons_succ])
      refine wpAnyH_take (i := 8) (oi := _) (v := ?v159) rfl (by kernel_rfl) (by kernel_rfl) (by kernel_rfl) (fun _ _ _ h => h) (Or.inl ⟨by rfl, ?hy159⟩) (by assumption) ?rest159
      case hy159 => ((intro w hSw; (try dsimp only at hSw); go_simp); try (with_reducible rfl))
      ((try dsimp only [List.getElem_toArray, List.getElem_cons_succ, List.getElem_cons_zero]); try simp only [Act.put, List.setIfInBounds_toArray, List.set_cons_zero, List.set_cons_succ])
      refine wpAnyH_take (i := 9) (oi := _) (v := ?v160) rfl (by kernel_rfl) (by kernel_rfl) (by kernel_rfl) (fun _ _ _ h => h) (Or.inl ⟨by rfl, ?hy160⟩) (by assumption) ?rest160
      case hy160 => ((intro w hSw; (try dsimp only at hSw); go_simp); try (with_reducible rfl))
      ((try dsimp only [List.getElem_toArray, List.getElem_cons_succ, List.getElem_cons_zero]); try simp only [Act.put, List.setIfInBounds_toArray, List.set_cons_zero, List.set_cons_succ])
      refine wpAnyH_take (i := 10) (oi := _) (v := ?v161) rfl (by kernel_rfl) (by kernel_rfl) (by kernel_rfl) (fun _ _ _ h => h) (Or.inl ⟨by rfl, ?hy161⟩) (by assumption) ?rest161
      case hy161 => ((intro w hSw; (try dsimp only at hSw); go_simp); try (with_reducible rfl))
      ((try dsimp only [List.getElem_toArray, List.getElem_cons_succ, List.getElem_cons_zero]); try simp only [Act.put, List.setIfInBounds_toArray, List.set_cons_zero, List.set_cons_succ])
      refine wpAnyH_take (i := 11) (oi := _) (v := ?v162) rfl (by kernel_rfl) (by kernel_rfl) (by kernel_rfl) (fun _ _ _ h => h) (Or.inl ⟨by rfl, ?hy162⟩) (by assumption) ?rest162
      case hy162 => ((intro w hSw; (try dsimp only at hSw); go_simp); try (with_reducible rfl))
      ((try dsimp only [List.getElem_toArray, List.getElem_cons_succ, List.getElem_cons_zero]); try simp only [Act.put, List.setIfInBounds_toArray, List.set_cons_zero, List.set_cons_succ])
      refine wpAnyH_take (i := 12) (oi := _) (v := ?v163) rfl (by kernel_rfl) (by kernel_rfl) (by kernel_rfl) (fun _ _ _ h => h) (Or.inl ⟨by rfl, ?hy163⟩) (by assumption) ?rest163
      case hy163 => ((intro w hSw; (try dsimp only at hSw); go_simp); try (with_reducible rfl))
      ((try dsimp only [List.getElem_toArray, List.getElem_cons_succ, List.getElem_cons_zero]); try simp only [Act.put, List.setIfInBounds_toArray, List.set_cons_zero, List.set_cons_succ])
      refine wpAnyH_take (i := 13) (oi := _) (v := ?v164) rfl (by kernel_rfl) (by kernel_rfl) (by kernel_rfl) (fun _ _ _ h => h) (Or.inl ⟨by rfl, ?hy164⟩) (by assumption) ?rest164
      case hy164 => ((intro w hSw; (try dsimp only at hSw); go_simp); try (with_reducible rfl))
      ((try dsimp only [List.getElem_toArray, List.getElem_cons_succ, List.getElem_cons_zero]); try simp only [Act.put, List.setIfInBounds_toArray, List.set_cons_zero, List.set_cons_succ])
      refine wpAnyH_take (i := 14) (oi := _) (v := ?v165) rfl (by kernel_rfl) (by kernel_rfl) (by kernel_rfl) (fun _ _ _ h => h) (Or.inl ⟨by rfl, ?hy165⟩) (by assumption) ?rest165
      case hy165 => ((intro w hSw; (try dsimp only at hSw); go_simp); try (with_reducible rfl))
      ((try dsimp only [List.getElem_toArray, List.getElem_cons_succ, List.getElem_cons_zero]); try simp only [Act.put, List.setIfInBounds_toArray, List.set_cons_zero, List.set_cons_succ])
      refine wpAnyH_take (i := 15) (oi := _) (v := ?v166) rfl (by kernel_rfl) (by kernel_rfl) (by kernel_rfl) (fun _ _ _ h => h) (Or.inl ⟨by rfl, ?hy166⟩) (by assumption) ?rest166
      case hy166 => ((intro w hSw; (try dsimp only at hSw); go_simp); try (with_reducible rfl))
      ((try dsimp only [List.getElem_toArray, List.getElem_cons_succ, List.getElem_cons_zero]); try simp only [Act.put, List.setIfInBounds_toArray, List.set_cons_zero, List.set_cons_succ])
      refine wpAnyH_take (i := 16) (oi := _) (v := ?v167) rfl (by kernel_rfl) (by kernel_rfl) (by kernel_rfl) (fun _ _ _ h => h) (Or.inl ⟨by rfl, ?hy167⟩) (by assumption) ?rest167
      case hy167 => ((intro w hSw; (try dsimp only at hSw); go_simp); try (with_reducible rfl))
      ((try dsimp only [List.getElem_toArray, List.getElem_cons_succ, List.getElem_cons_zero]); try simp only [Act.put, List.setIfInBounds_toArray, List.set_cons_zero, List.set_cons_succ])
      refine wpAnyH_take (i := 17) (oi := _) (v := ?v168) rfl (by kernel_rfl) (by kernel_rfl) (by kernel_rfl) (fun _ _ _ h => h) (Or.inl ⟨by rfl, ?hy168⟩) (by assumption) ?rest168
      case hy168 => ((intro w hSw; (try dsimp only at hSw); go_simp); try (with_reducible rfl))
      ((try dsimp only [List.getElem_toArray, List.getElem_cons_succ, List.getElem_cons_zero]); try simp only [Act.put, List.setIfInBounds_toArray, List.set_cons_zero, List.set_cons_succ])
      refine wpAnyH_take (i := 18) (oi := _) (v := ?v169) rfl (by kernel_rfl) (by kernel_rfl) (by kernel_rfl) (fun _ _ _ h => h) (Or.inl ⟨by rfl, ?hy169⟩) (by assumption) ?rest169
      case hy169 => ((intro w hSw; (try dsimp only at hSw); go_simp); try (with_reducible rfl))
      ((try dsimp only [List.getElem_toArray, List.getElem_cons_succ, List.getElem_cons_zero]); try simp only [Act.put, List.setIfInBounds_toArray, List.set_cons_zero, List.set_cons_succ])
      refine wpAnyH_take (i := 19) (oi := _) (v := ?v170) rfl (by kernel_rfl) (by kernel_rfl) (by kernel_rfl) (fun _ _ _ h => h) (Or.inl ⟨by rfl, ?hy170⟩) (by assumption) ?rest170
      case hy170 => ((intro w hSw; (try dsimp only at hSw); go_simp); try (with_reducible rfl))
      ((try dsimp only [List.getElem_toArray, List.getElem_cons_succ, List.getElem_cons_zero]); try simp only [Act.put, List.setIfInBounds_toArray, List.set_cons_zero, List.set_cons_succ])
      refine wpAnyH_ready (rs := [20]) (by kernel_rfl) (by simp) ?_
      refine AllReadyH.cons (o := _) rfl (fun K hK => ?_) AllReadyH.nil
      go_simp
      ( with_reducible refine (C3.out _).mono ?_); rintro e v1 ⟨rfl, g1⟩; have TP : Three v1 (w2.heap.size) (.bool ppa) (.string ppx) (.string ppy) 49 := Three.kept (by assumption) g1; have TQ : Three v1 (w3.heap.size) (.bool qqa) (.string qqx) (.string qqy) 49 := Three.kept (by assumption) g1; have TR : Three v1 (w4.heap.size) (.bool rra) (.string rrx) (.string rry) 49 := Three.kept (by assumption) g1; have GG : W.grownBy v1 none := gr_then (by assumption) g1
      refine hK.out _ _ ?_ (fun hHeld => ?_)
      · (try dsimp only); (first | exact ⟨Three.c0 (by assumption), Three.c1 (by assumption), Three.c2 (by assumption), Three.c0 (by assumption), Three.c1 (by assumption), Three.c2 (by assumption), Three.c0 (by assumption), Three.c1 (by assumption), Three.c2 (by assumption)⟩ | go_keep)
      clear hK K
      ((try dsimp only [List.getElem_toArray, List.getElem_cons_succ, List.getElem_cons_zero]); try simp only [Act.put, List.setIfInBounds_toArray, List.set_cons_zero, List.set_cons_succ])
      refine wpAnyH_take (i := 21) (oi := _) (v := ?v171) rfl (by kernel_rfl) (by kernel_rfl) (by kernel_rfl) (fun _ _ _ h => h) (Or.inl ⟨by rfl, ?hy171⟩) (by assumption) ?rest171
      case hy171 => ((intro w hSw; (try dsimp only at hSw); go_simp); try (with_reducible rfl))
      ((try dsimp only [List.getElem_toArray, List.getElem_cons_succ, List.getElem_cons_zero]); try simp only [Act.put, List.setIfInBounds_toArray, List.set_cons_zero, List.set_cons_succ])
      refine wpAnyH_take (i := 22) (oi := _) (v := ?v172) rfl (by kernel_rfl) (by kernel_rfl) (by kernel_rfl) (fun _ _ _ h => h) (Or.inl ⟨by rfl, ?hy172⟩) (by assumption) ?rest172
      case hy172 => ((intro w hSw; (try dsimp only at hSw); go_simp); try (with_reducible rfl))
      ((try dsimp only [List.getElem_toArray, List.getElem_cons_succ, List.getElem_cons_zero]); try simp only [Act.put, List.setIfInBounds_toArray, List.set_cons_zero, List.set_cons_succ])
      refine wpAnyH_take (i := 23) (oi := _) (v := ?v173) rfl (by kernel_rfl) (by kernel_rfl) (by kernel_rfl) (fun _ _ _ h => h) (Or.inl ⟨by rfl, ?hy173⟩) (by assumption) ?rest173
      case hy173 => ((intro w hSw; (try dsimp only at hSw); go_simp); try (with_reducible rfl))
      ((try dsimp only [List.getElem_toArray, List.getElem_cons_succ, List.getElem_cons_zero]); try simp only [Act.put, List.setIfInBounds_toArray, List.set_cons_zero, List.set_cons_succ])
      refine wpAnyH_take (i := 24) (oi := _) (v := _) rfl (by kernel_rfl) (by kernel_rfl) (by kernel_rfl) (fun _ _ _ h => h) (Or.inr ⟨by rfl, rfl⟩) (by assumption) ?rest174
      ((try dsimp only [List.getElem_toArray, List.getElem_cons_succ, List.getElem_cons_zero]); try simp only [Act.put, List.setIfInBounds_toArray, List.set_cons_zero, List.set_cons_succ])
      refine wpAnyH_take (i := 25) (oi := _) (v := _) rfl (by kernel_rfl) (by kernel_rfl) (by kernel_rfl) (fun _ _ _ h => h) (Or.inr ⟨by rfl, rfl⟩) (by assumption) ?rest175
      ((try dsimp only [List.getElem_toArray, List.getElem_cons_succ, List.getElem_cons_zero]); try simp only [Act.put, List.setIfInBounds_toArray, List.set_cons_zero, List.set_cons_succ])
      refine wpAnyH_take (i := 26) (oi := _) (v := _) rfl (by kernel_rfl) (by kernel_rfl) (by kernel_rfl) (fun _ _ _ h => h) (Or.inr ⟨by rfl, rfl⟩) (by assumption) ?rest176
      ((try dsimp only [List.getElem_toArray, List.getElem_cons_succ, List.getElem_cons_zero]); try simp only [Act.put, List.setIfInBounds_toArray, List.set_cons_zero, List.set_cons_succ])
      refine wpAnyH_take (i := 27) (oi := _) (v := _) rfl (by kernel_rfl) (by kernel_rfl) (by kernel_rfl) (fun _ _ _ h => h) (Or.inr ⟨by rfl, rfl⟩) (by assumption) ?rest177
      ((try dsimp only [List.getElem_toArray, List.getElem_cons_succ, List.getElem_cons_zero]); try simp only [Act.put, List.setIfInBounds_toArray, List.set_cons_zero, List.set_cons_succ])
      refine wpAnyH_take (i := 28) (oi := _) (v := ?v178) rfl (by kernel_rfl) (by kernel_rfl) (by kernel_rfl) (fun _ _ _ h => h) (Or.inl ⟨by rfl, ?hy178⟩) (by assumption) ?rest178
      case hy178 => ((intro w hSw; (try dsimp only at hSw); go_simp); try (with_reducible rfl))
      ((try dsimp only [List.getElem_toArray, List.getElem_cons_succ, List.getElem_cons_zero]); try simp only [Act.put, List.setIfInBounds_toArray, List.set_cons_zero, List.set_cons_succ])
      refine wpAnyH_take (i := 29) (oi := _) (v := ?v179) rfl (by kernel_rfl) (by kernel_rfl) (by kernel_rfl) (fun _ _ _ h => h) (Or.inl ⟨by rfl, ?hy179⟩) (by assumption) ?rest179
      case hy179 => ((intro w hSw; (try dsimp only at hSw); go_simp); try (with_reducible rfl))
      ((try dsimp only [List.getElem_toArray, List.getElem_cons_succ, List.getElem_cons_zero]); try simp only [Act.put, List.setIfInBounds_toArray, List.set_cons_zero, List.set_cons_succ])
      refine wpAnyH_take (i := 30) (oi := _) (v := ?v180) rfl (by kernel_rfl) (by kernel_rfl) (by kernel_rfl) (fun _ _ _ h => h) (Or.inl ⟨by rfl, ?hy180⟩) (by assumption) ?rest180
      case hy180 => ((intro w hSw; (try dsimp only at hSw); go_simp); try (with_reducible rfl))
      ((try dsimp only [List.getElem_toArray, List.getElem_cons_succ, List.getElem_cons_zero]); try simp only [Act.put, List.setIfInBounds_toArray, List.set_cons_zero, List.set_cons_succ])
      refine wpAnyH_take (i := 31) (oi := _) (v := ?v181) rfl (by kernel_rfl) (by kernel_rfl) (by kernel_rfl) (fun _ _ _ h => h) (Or.inl ⟨by rfl, ?hy181⟩) (by assumption) ?rest181
      case hy181 => ((intro w hSw; (try dsimp only at hSw); go_simp); try (with_reducible rfl))
      ((try dsimp only [List.getElem_toArray, List.getElem_cons_succ, List.getElem_cons_zero]); try simp only [Act.put, List.setIfInBounds_toArray, List.set_cons_zero, List.set_cons_succ])
      refine wpAnyH_take (i := 32) (oi := _) (v := ?v182) rfl (by kernel_rfl) (by kernel_rfl) (by kernel_rfl) (fun _ _ _ h => h) (Or.inl ⟨by rfl, ?hy182⟩) (by assumption) ?rest182
      case hy182 => ((intro w hSw; (try dsimp only at hSw); go_simp); try (with_reducible rfl))
      ((try dsimp only [List.getElem_toArray, List.getElem_cons_succ, List.getElem_cons_zero]); try simp only [Act.put, List.setIfInBounds_toArray, List.set_cons_zero, List.set_cons_succ])
      refine wpAnyH_take (i := 34) (oi := _) (v := ?v183) rfl (by kernel_rfl) (by kernel_rfl) (by kernel_rfl) (fun _ _ _ h => h) (Or.inl ⟨by rfl, ?hy183⟩) (by assumption) ?rest183
      case hy183 => ((intro w hSw; (try dsimp only at hSw); go_simp); try (with_reducible rfl))
      ((try dsimp only [List.getElem_toArray, List.getElem_cons_succ, List.getElem_cons_zero]); try simp only [Act.put, List.setIfInBounds_toArray, List.set_cons_zero, List.set_cons_succ])
      refine wpAnyH_take (i := 35) (oi := _) (v := ?v184) rfl (by kernel_rfl) (by kernel_rfl) (by kernel_rfl) (fun _ _ _ h => h) (Or.inl ⟨by rfl, ?hy184⟩) (by assumption) ?rest184
      case hy184 => ((intro w hSw; (try dsimp only at hSw); go_simp); try (with_reducible rfl))
      ((try dsimp only [List.getElem_toArray, List.getElem_cons_succ, List.getElem_cons_zero]); try simp only [Act.put, List.setIfInBounds_toArray, List.set_cons_zero, List.set_cons_succ])
      refine wpAnyH_take (i := 38) (oi := _) (v := ?v185) rfl (by kernel_rfl) (by kernel_rfl) (by kernel_rfl) (fun _ _ _ h => h) (Or.inl ⟨by rfl, ?hy185⟩) (by assumption) ?rest185
      case hy185 => ((intro w hSw; (try dsimp only at hSw); go_simp); try (with_reducible rfl))
      ((try dsimp only [List.getElem_toArray, List.getElem_cons_succ, List.getElem_cons_zero]); try simp only [Act.put, List.setIfInBounds_toArray, List.set_cons_zero, List.set_cons_succ])
      refine wpAnyH_ready (rs := [33]) (by kernel_rfl) (by simp) ?_
      refine AllReadyH.cons (o := _) rfl (fun K hK => ?_) AllReadyH.nil
      go_simp
      ( with_reducible refine (A1.out _).mono ?_); rintro e v1 ⟨rfl, g1⟩; have TP : Three v1 (w2.heap.size) (.bool ppa) (.string ppx) (.string ppy) 49 := Three.kept (by assumption) g1; have TQ : Three v1 (w3.heap.size) (.bool qqa) (.string qqx) (.string qqy) 49 := Three.kept (by assumption) g1; have TR : Three v1 (w4.heap.size) (.bool rra) (.string rrx) (.string rry) 49 := Three.kept (by assumption) g1; have GG : W.grownBy v1 none := gr_then (by assumption) g1
      refine hK.out _ _ ?_ (fun hHeld => ?_)
      · (try dsimp only); (first | exact ⟨Three.c0 (by assumption), Three.c1 (by assumption), Three.c2 (by assumption), Three.c0 (by assumption), Three.c1 (by assumption), Three.c2 (by assumption), Three.c0 (by assumption), Three.c1 (by assumption), Three.c2 (by assumption)⟩ | go_keep)
      clear hK K
      ((try dsimp only [List.getElem_toArray, List.getElem_cons_succ, List.getElem_cons_zero]); try simp only [Act.put, List.setIfInBounds_toArray, List.set_cons_zero, List.set_cons_succ])
      refine wpAnyH_ready (rs := [36]) (by kernel_rfl) (by simp) ?_
      refine AllReadyH.cons (o := _) rfl (fun K hK => ?_) AllReadyH.nil
      go_simp
      ( with_reducible refine (A2.out _).mono ?_); rintro e v1 ⟨rfl, g1⟩; have TP : Three v1 (w2.heap.size) (.bool ppa) (.string ppx) (.string ppy) 49 := Three.kept (by assumption) g1; have TQ : Three v1 (w3.heap.size) (.bool qqa) (.string qqx) (.string qqy) 49 := Three.kept (by assumption) g1; have TR : Three v1 (w4.heap.size) (.bool rra) (.string rrx) (.string rry) 49 := Three.kept (by assumption) g1; have GG : W.grownBy v1 none := gr_then (by assumption) g1
      refine hK.out _ _ ?_ (fun hHeld => ?_)
      · (try dsimp only); (first | exact ⟨Three.c0 (by assumption), Three.c1 (by assumption), Three.c2 (by assumption), Three.c0 (by assumption), Three.c1 (by assumption), Three.c2 (by assumption), Three.c0 (by assumption), Three.c1 (by assumption), Three.c2 (by assumption)⟩ | go_keep)
      clear hK K
      ((try dsimp only [List.getElem_toArray, List.getElem_cons_succ, List.getElem_cons_zero]); try simp only [Act.put, List.setIfInBounds_toArray, List.set_cons_zero, List.set_cons_succ])
      refine wpAnyH_ready (rs := [37]) (by kernel_rfl) (by simp) ?_
      refine AllReadyH.cons (o := _) rfl (fun K hK => ?_) AllReadyH.nil
      go_simp
      ( with_reducible refine (C5.out _).mono ?_); rintro e v1 ⟨rfl, g1⟩; have TP : Three v1 (w2.heap.size) (.bool ppa) (.string ppx) (.string ppy) 49 := Three.kept (by assumption) g1; have TQ : Three v1 (w3.heap.size) (.bool qqa) (.string qqx) (.string qqy) 49 := Three.kept (by assumption) g1; have TR : Three v1 (w4.heap.size) (.bool rra) (.string rrx) (.string rry) 49 := Three.kept (by assumption) g1; have GG : W.grownBy v1 none := gr_then (by assumption) g1
      refine hK.out _ _ ?_ (fun hHeld => ?_)
      · (try dsimp only); (first | exact ⟨Three.c0 (by assumption), Three.c1 (by assumption), Three.c2 (by assumption), Three.c0 (by assumption), Three.c1 (by assumption), Three.c2 (by assumption), Three.c0 (by assumption), Three.c1 (by assumption), Three.c2 (by assumption)⟩ | go_keep)
      clear hK K
      ((try dsimp only [List.getElem_toArray, List.getElem_cons_succ, List.getElem_cons_zero]); try simp only [Act.put, List.setIfInBounds_toArray, List.set_cons_zero, List.set_cons_succ])
      refine wpAnyH_take (i := 39) (oi := _) (v := ?v186) rfl (by kernel_rfl) (by kernel_rfl) (by kernel_rfl) (fun _ _ _ h => h) (Or.inl ⟨by rfl, ?hy186⟩) (by assumption) ?rest186
      case hy186 => ((intro w hSw; (try dsimp only at hSw); go_simp); try (with_reducible rfl))
      ((try dsimp only [List.getElem_toArray, List.getElem_cons_succ, List.getElem_cons_zero]); try simp only [Act.put, List.setIfInBounds_toArray, List.set_cons_zero, List.set_cons_succ])
      refine wpAnyH_take (i := 40) (oi := _) (v := ?v187) rfl (by kernel_rfl) (by kernel_rfl) (by kernel_rfl) (fun _ _ _ h => h) (Or.inl ⟨by rfl, ?hy187⟩) (by assumption) ?rest187
      case hy187 => ((intro w hSw; (try dsimp only at hSw); go_simp); try (with_reducible rfl))
      ((try dsimp only [List.getElem_toArray, List.getElem_cons_succ, List.getElem_cons_zero]); try simp only [Act.put, List.setIfInBounds_toArray, List.set_cons_zero, List.set_cons_succ])
      refine wpAnyH_take (i := 41) (oi := _) (v := ?v188) rfl (by kernel_rfl) (by kernel_rfl) (by kernel_rfl) (fun _ _ _ h => h) (Or.inl ⟨by rfl, ?hy188⟩) (by assumption) ?rest188
      case hy188 => ((intro w hSw; (try dsimp only at hSw); go_simp); try (with_reducible rfl))
      ((try dsimp only [List.getElem_toArray, List.getElem_cons_succ, List.getElem_cons_zero]); try simp only [Act.put, List.setIfInBounds_toArray, List.set_cons_zero, List.set_cons_succ])
      refine wpAnyH_done (by kernel_rfl) ?_ _
      have M0P : Three v1 (w2.heap.size) (.bool ppa) (.string ppx) (.string ppy) 49 := by assumption
      have M0Q : Three v1 (w3.heap.size) (.bool qqa) (.string qqx) (.string qqy) 49 := by assumption
      have M0R : Three v1 (w4.heap.size) (.bool rra) (.string rrx) (.string rry) 49 := by assumption
      have G40 : W.grownBy v1 none := by assumption
      go_wp2_with fail
      have M_P := M0P.drew
      have M_Q := M0Q.drew
      have M_R := M0R.drew
      have G4 := gr_dr G40
      go_region_held3 (fun w' => w'.cell? ⟨w2.heap.size, 0, none⟩ = some (.bool ppa) ∧ w'.cell? ⟨w2.heap.size, 1, none⟩ = some (.string ppx) ∧ w'.cell? ⟨w2.heap.size, 2, none⟩ = some (.string ppy) ∧ w'.cell? ⟨w3.heap.size, 0, none⟩ = some (.bool qqa) ∧ w'.cell? ⟨w3.heap.size, 1, none⟩ = some (.string qqx) ∧ w'.cell? ⟨w3.heap.size, 2, none⟩ = some (.string qqy) ∧ w'.cell? ⟨w4.heap.size, 0, none⟩ = some (.bool rra) ∧ w'.cell? ⟨w4.heap.size, 1, none⟩ = some (.string rrx) ∧ w'.cell? ⟨w4.heap.size, 2, none⟩ = some (.string rry)) (first | exact ⟨Three.c0 (by assumption), Three.c1 (by assumption), Three.c2 (by assumption), Three.c0 (by assumption), Three.c1 (by assumption), Three.c2 (by assumption), Three.c0 (by assumption), Three.c1 (by assumption), Three.c2 (by assumption)⟩ | go_keep)
        (first
        | (go_at_call 45; (first | with_reducible refine (M1.out _).mono ?_ | with_reducible refine (M2.out _).mono ?_); rintro e v1 ⟨rfl, g1⟩; have TP : Three v1 (w2.heap.size) (.bool ppa) (.string ppx) (.string ppy) 49 := Three.kept (by assumption) g1; have TQ : Three v1 (w3.heap.size) (.bool qqa) (.string qqx) (.string qqy) 49 := Three.kept (by assumption) g1; have TR : Three v1 (w4.heap.size) (.bool rra) (.string rrx) (.string rry) 49 := Three.kept (by assumption) g1; have GG : W.grownBy v1 none := gr_then (by assumption) g1)
        | (go_at_call 47; (first | with_reducible refine (C6.out _).mono ?_ | with_reducible refine (C7.out _).mono ?_); rintro e v1 ⟨rfl, g1⟩; have TP : Three v1 (w2.heap.size) (.bool ppa) (.string ppx) (.string ppy) 49 := Three.kept (by assumption) g1; have TQ : Three v1 (w3.heap.size) (.bool qqa) (.string qqx) (.string qqy) 49 := Three.kept (by assumption) g1; have TR : Three v1 (w4.heap.size) (.bool rra) (.string rrx) (.string rry) 49 := Three.kept (by assumption) g1; have GG : W.grownBy v1 none := gr_then (by assumption) g1)
        | (go_at_call 49; (first | with_reducible refine (S1.out _).mono ?_ | with_reducible refine (S2.out _).mono ?_ | with_reducible refine (S3.out _).mono ?_); rintro e v1 ⟨rfl, g1⟩; have TP : Three v1 (w2.heap.size) (.bool ppa) (.string ppx) (.string ppy) 49 := Three.kept (by assumption) g1; have TQ : Three v1 (w3.heap.size) (.bool qqa) (.string qqx) (.string qqy) 49 := Three.kept (by assumption) g1; have TR : Three v1 (w4.heap.size) (.bool rra) (.string rrx) (.string rry) 49 := Three.kept (by assumption) g1; have GG : W.grownBy v1 none := gr_then (by assumption) g1)
        | (go_at_call 43; (first | with_reducible refine (B1.out _).mono ?_); rintro e v1 ⟨rfl, g1⟩; have TP : Three v1 (w2.heap.size) (.bool ppa) (.string ppx) (.string ppy) 49 := Three.kept (by assumption) g1; have TQ : Three v1 (w3.heap.size) (.bool qqa) (.string qqx) (.string qqy) 49 := Three.kept (by assumption) g1; have TR : Three v1 (w4.heap.size) (.bool rra) (.string rrx) (.string rry) 49 := Three.kept (by assumption) g1; have GG : W.grownBy v1 none := gr_then (by assumption) g1)
        | (go_at_call 56; (first | with_reducible refine (OZ.out _).mono ?_); rintro e v1 ⟨rfl, g1⟩; have TP : Three v1 (w2.heap.size) (.bool ppa) (.string ppx) (.string ppy) 49 := Three.kept (by assumption) g1; have TQ : Three v1 (w3.heap.size) (.bool qqa) (.string qqx) (.string qqy) 49 := Three.kept (by assumption) g1; have TR : Three v1 (w4.heap.size) (.bool rra) (.string rrx) (.string rry) 49 := Three.kept (by assumption) g1; have GG : W.grownBy v1 none := gr_then (by assumption) g1))
      all_goals
        go_wp2
        go_ret
        exact ⟨rfl, by assumption⟩
    · have hyb : decide (y < 0) = false := by rw [decide_eq_false_iff_not]; omega
      have hxb := decide_eq_true hyx2
      go_region_held3 (fun w' => w'.cell? ⟨w2.heap.size, 0, none⟩ = some (.bool ppa) ∧ w'.cell? ⟨w2.heap.size, 1, none⟩ = some (.string ppx) ∧ w'.cell? ⟨w2.heap.size, 2, none⟩ = some (.string ppy) ∧ w'.cell? ⟨w3.heap.size, 0, none⟩ = some (.bool qqa) ∧ w'.cell? ⟨w3.heap.size, 1, none⟩ = some (.string qqx) ∧ w'.cell? ⟨w3.heap.size, 2, none⟩ = some (.string qqy) ∧ w'.cell? ⟨w4.heap.size, 0, none⟩ = some (.bool rra) ∧ w'.cell? ⟨w4.heap.size, 1, none⟩ = some (.string rrx) ∧ w'.cell? ⟨w4.heap.size, 2, none⟩ = some (.string rry)) (first | exact ⟨Three.c0 (by assumption), Three.c1 (by assumption), Three.c2 (by assumption), Three.c0 (by assumption), Three.c1 (by assumption), Three.c2 (by assumption), Three.c0 (by assumption), Three.c1 (by assumption), Three.c2 (by assumption)⟩ | go_keep)
        (first
        | (go_at_call 47; (first | with_reducible refine (C2.out _).mono ?_ | with_reducible refine (C3.out _).mono ?_ | with_reducible refine (C4.out _).mono ?_ | with_reducible refine (C5.out _).mono ?_); rintro e v1 ⟨rfl, g1⟩; have TP : Three v1 (w2.heap.size) (.bool ppa) (.string ppx) (.string ppy) 49 := Three.kept (by assumption) g1; have TQ : Three v1 (w3.heap.size) (.bool qqa) (.string qqx) (.string qqy) 49 := Three.kept (by assumption) g1; have TR : Three v1 (w4.heap.size) (.bool rra) (.string rrx) (.string rry) 49 := Three.kept (by assumption) g1; have GG : W.grownBy v1 none := gr_then (by assumption) g1)
        | (go_at_call 41; (first | with_reducible refine (A1.out _).mono ?_ | with_reducible refine (A2.out _).mono ?_); rintro e v1 ⟨rfl, g1⟩; have TP : Three v1 (w2.heap.size) (.bool ppa) (.string ppx) (.string ppy) 49 := Three.kept (by assumption) g1; have TQ : Three v1 (w3.heap.size) (.bool qqa) (.string qqx) (.string qqy) 49 := Three.kept (by assumption) g1; have TR : Three v1 (w4.heap.size) (.bool rra) (.string rrx) (.string rry) 49 := Three.kept (by assumption) g1; have GG : W.grownBy v1 none := gr_then (by assumption) g1))
      have M0P : Three v1 (w2.heap.size) (.bool ppa) (.string ppx) (.string ppy) 49 := by assumption
      have M0Q : Three v1 (w3.heap.size) (.bool qqa) (.string qqx) (.string qqy) 49 := by assumption
      have M0R : Three v1 (w4.heap.size) (.bool rra) (.string rrx) (.string rry) 49 := by assumption
      have G40 : W.grownBy v1 none := by assumption
      go_wp2_with fail
      have M_P := M0P.drew
      have M_Q := M0Q.drew
      have M_R := M0R.drew
      have G4 := gr_dr G40
      go_region_held3 (fun w' => w'.cell? ⟨w2.heap.size, 0, none⟩ = some (.bool ppa) ∧ w'.cell? ⟨w2.heap.size, 1, none⟩ = some (.string ppx) ∧ w'.cell? ⟨w2.heap.size, 2, none⟩ = some (.string ppy) ∧ w'.cell? ⟨w3.heap.size, 0, none⟩ = some (.bool qqa) ∧ w'.cell? ⟨w3.heap.size, 1, none⟩ = some (.string qqx) ∧ w'.cell? ⟨w3.heap.size, 2, none⟩ = some (.string qqy) ∧ w'.cell? ⟨w4.heap.size, 0, none⟩ = some (.bool rra) ∧ w'.cell? ⟨w4.heap.size, 1, none⟩ = some (.string rrx) ∧ w'.cell? ⟨w4.heap.size, 2, none⟩ = some (.string rry)) (first | exact ⟨Three.c0 (by assumption), Three.c1 (by assumption), Three.c2 (by assumption), Three.c0 (by assumption), Three.c1 (by assumption), Three.c2 (by assumption), Three.c0 (by assumption), Three.c1 (by assumption), Three.c2 (by assumption)⟩ | go_keep)
        (first
        | (go_at_call 45; (first | with_reducible refine (M1.out _).mono ?_ | with_reducible refine (M2.out _).mono ?_); rintro e v1 ⟨rfl, g1⟩; have TP : Three v1 (w2.heap.size) (.bool ppa) (.string ppx) (.string ppy) 49 := Three.kept (by assumption) g1; have TQ : Three v1 (w3.heap.size) (.bool qqa) (.string qqx) (.string qqy) 49 := Three.kept (by assumption) g1; have TR : Three v1 (w4.heap.size) (.bool rra) (.string rrx) (.string rry) 49 := Three.kept (by assumption) g1; have GG : W.grownBy v1 none := gr_then (by assumption) g1)
        | (go_at_call 47; (first | with_reducible refine (C6.out _).mono ?_ | with_reducible refine (C7.out _).mono ?_); rintro e v1 ⟨rfl, g1⟩; have TP : Three v1 (w2.heap.size) (.bool ppa) (.string ppx) (.string ppy) 49 := Three.kept (by assumption) g1; have TQ : Three v1 (w3.heap.size) (.bool qqa) (.string qqx) (.string qqy) 49 := Three.kept (by assumption) g1; have TR : Three v1 (w4.heap.size) (.bool rra) (.string rrx) (.string rry) 49 := Three.kept (by assumption) g1; have GG : W.grownBy v1 none := gr_then (by assumption) g1)
        | (go_at_call 49; (first | with_reducible refine (S1.out _).mono ?_ | with_reducible refine (S2.out _).mono ?_ | with_reducible refine (S3.out _).mono ?_); rintro e v1 ⟨rfl, g1⟩; have TP : Three v1 (w2.heap.size) (.bool ppa) (.string ppx) (.string ppy) 49 := Three.kept (by assumption) g1; have TQ : Three v1 (w3.heap.size) (.bool qqa) (.string qqx) (.string qqy) 49 := Three.kept (by assumption) g1; have TR : Three v1 (w4.heap.size) (.bool rra) (.string rrx) (.string rry) 49 := Three.kept (by assumption) g1; have GG : W.grownBy v1 none := gr_then (by assumption) g1)
        | (go_at_call 43; (first | with_reducible refine (B1.out _).mono ?_); rintro e v1 ⟨rfl, g1⟩; have TP : Three v1 (w2.heap.size) (.bool ppa) (.string ppx) (.string ppy) 49 := Three.kept (by assumption) g1; have TQ : Three v1 (w3.heap.size) (.bool qqa) (.string qqx) (.string qqy) 49 := Three.kept (by assumption) g1; have TR : Three v1 (w4.heap.size) (.bool rra) (.string rrx) (.string rry) 49 := Three.kept (by assumption) g1; have GG : W.grownBy v1 none := gr_then (by assumption) g1)
        | (go_at_call 56; (first | with_reducible refine (OZ.out _).mono ?_); rintro e v1 ⟨rfl, g1⟩; have TP : Three v1 (w2.heap.size) (.bool ppa) (.string ppx) (.string ppy) 49 := Three.kept (by assumption) g1; have TQ : Three v1 (w3.heap.size) (.bool qqa) (.string qqx) (.string qqy) 49 := Three.kept (by assumption) g1; have TR : Three v1 (w4.heap.size) (.bool rra) (.string rrx) (.string rry) 49 := Three.kept (by assumption) g1; have GG : W.grownBy v1 none := gr_then (by assumption) g1))
      all_goals
        go_wp2
        go_ret
        exact ⟨rfl, by assumption⟩
  · clear hne
    rcases hyx with hyx | ⟨hyx, hyx2⟩
    · refine wp_region_held_drew (S := fun w' => w'.cell? ⟨w2.heap.size, 0, none⟩ = some (.bool ppa) ∧ w'.cell? ⟨w2.heap.size, 1, none⟩ = some (.string ppx) ∧ w'.cell? ⟨w2.heap.size, 2, none⟩ = some (.string ppy) ∧ w'.cell? ⟨w3.heap.size, 0, none⟩ = some (.bool ppa) ∧ w'.cell? ⟨w3.heap.size, 1, none⟩ = some (.string qqx) ∧ w'.cell? ⟨w3.heap.size, 2, none⟩ = some (.string qqy) ∧ w'.cell? ⟨w4.heap.size, 0, none⟩ = some (.bool rra) ∧ w'.cell? ⟨w4.heap.size, 1, none⟩ = some (.string rrx) ∧ w'.cell? ⟨w4.heap.size, 2, none⟩ = some (.string rry)) (by kernel_rfl) ?_ (fun hHeld => ?_)
      · (first | exact ⟨Three.c0 (by assumption), Three.c1 (by assumption), Three.c2 (by assumption), Three.c0 (by assumption), Three.c1 (by assumption), Three.c2 (by assumption), Three.c0 (by assumption), Three.c1 (by assumption), Three.c2 (by assumption)⟩ | go_keep)
      refine wpAnyH_take (i := 0) (oi := _) (v := ?v189) rfl (by kernel_rfl) (by kernel_rfl) (by kernel_rfl) (fun _ _ _ h => h) (Or.inl ⟨by rfl, ?hy189⟩) (by assumption) ?rest189
      case hy189 => ((intro w hSw; (try dsimp only at hSw); go_simp); try (with_reducible rfl))
      ((try dsimp only [List.getElem_toArray, List.getElem_cons_succ, List.getElem_cons_zero]); try simp only [Act.put, List.setIfInBounds_toArray, List.set_cons_zero, List.set_cons_succ])
      refine wpAnyH_take (i := 1) (oi := _) (v := ?v190) rfl (by kernel_rfl) (by kernel_rfl) (by kernel_rfl) (fun _ _ _ h => h) (Or.inl ⟨by rfl, ?hy190⟩) (by assumption) ?rest190
      case hy190 => ((intro w hSw; (try dsimp only at hSw); go_simp); try (with_reducible rfl))
      ((try dsimp only [List.getElem_toArray, List.getElem_cons_succ, List.getElem_cons_zero]); try simp only [Act.put, List.setIfInBounds_toArray, List.set_cons_zero, List.set_cons_succ])
      refine wpAnyH_take (i := 2) (oi := _) (v := ?v191) rfl (by kernel_rfl) (by kernel_rfl) (by kernel_rfl) (fun _ _ _ h => h) (Or.inl ⟨by rfl, ?hy191⟩) (by assumption) ?rest191
      case hy191 => ((intro w hSw; (try dsimp only at hSw); go_simp); try (with_reducible rfl))
      ((try dsimp only [List.getElem_toArray, List.getElem_cons_succ, List.getElem_cons_zero]); try simp only [Act.put, List.setIfInBounds_toArray, List.set_cons_zero, List.set_cons_succ])
      refine wpAnyH_ready (rs := [3]) (by kernel_rfl) (by simp) ?_
      refine AllReadyH.cons (o := _) rfl (fun K hK => ?_) AllReadyH.nil
      go_simp
      ( with_reducible refine (C2.out _).mono ?_); rintro e v1 ⟨rfl, g1⟩; have TP : Three v1 (w2.heap.size) (.bool ppa) (.string ppx) (.string ppy) 49 := Three.kept (by assumption) g1; have TQ : Three v1 (w3.heap.size) (.bool ppa) (.string qqx) (.string qqy) 49 := Three.kept (by assumption) g1; have TR : Three v1 (w4.heap.size) (.bool rra) (.string rrx) (.string rry) 49 := Three.kept (by assumption) g1; have GG : W.grownBy v1 none := gr_then (by assumption) g1
      refine hK.out _ _ ?_ (fun hHeld => ?_)
      · (try dsimp only); (first | exact ⟨Three.c0 (by assumption), Three.c1 (by assumption), Three.c2 (by assumption), Three.c0 (by assumption), Three.c1 (by assumption), Three.c2 (by assumption), Three.c0 (by assumption), Three.c1 (by assumption), Three.c2 (by assumption)⟩ | go_keep)
      clear hK K
      ((try dsimp only [List.getElem_toArray, List.getElem_cons_succ, List.getElem_cons_zero]); try simp only [Act.put, List.setIfInBounds_toArray, List.set_cons_zero, List.set_cons_succ])
      refine wpAnyH_take (i := 4) (oi := _) (v := ?v192) rfl (by kernel_rfl) (by kernel_rfl) (by kernel_rfl) (fun _ _ _ h => h) (Or.inl ⟨by rfl, ?hy192⟩) (by assumption) ?rest192
      case hy192 => ((intro w hSw; (try dsimp only at hSw); go_simp); try (with_reducible rfl))
      ((try dsimp only [List.getElem_toArray, List.getElem_cons_succ, List.getElem_cons_zero]); try simp only [Act.put, List.setIfInBounds_toArray, List.set_cons_zero, List.set_cons_succ])
      refine wpAnyH_take (i := 5) (oi := _) (v := ?v193) rfl (by kernel_rfl) (by kernel_rfl) (by kernel_rfl) (fun _ _ _ h => h) (Or.inl ⟨by rfl, ?hy193⟩) (by assumption) ?rest193
      case hy193 => ((intro w hSw; (try dsimp only at hSw); go_simp); try (with_reducible rfl))
      ((try dsimp only [List.getElem_toArray, List.getElem_cons_succ, List.getElem_cons_zero]); try simp only [Act.put, List.setIfInBounds_toArray, List.set_cons_zero, List.set_cons_succ])
      refine wpAnyH_take (i := 6) (oi := _) (v := ?v194) rfl (by kernel_rfl) (by kernel_rfl) (by kernel_rfl) (fun _ _ _ h => h) (Or.inl ⟨by rfl, ?hy194⟩) (by assumption) ?rest194
      case hy194 => ((intro w hSw; (try dsimp only at hSw); go_simp); try (with_reducible rfl))
      ((try dsimp only [List.getElem_toArray, List.getElem_cons_succ, List.getElem_cons_zero]); try simp only [Act.put, List.setIfInBounds_toArray, List.set_cons_zero, List.set_cons_succ])
      refine wpAnyH_take (i := 7) (oi := _) (v := ?v195) rfl (by kernel_rfl) (by kernel_rfl) (by kernel_rfl) (fun _ _ _ h => h) (Or.inl ⟨by rfl, ?hy195⟩) (by assumption) ?rest195
      case hy195 => ((intro w hSw; (try dsimp only at hSw); go_simp); try (with_reducible rfl))
      ((try dsimp only [List.getElem_toArray, List.getElem_cons_succ, List.getElem_cons_zero]); try simp only [Act.put, List.setIfInBounds_toArray, List.set_cons_zero, List.set_cons_succ])
      refine wpAnyH_take (i := 8) (oi := _) (v := ?v196) rfl (by kernel_rfl) (by kernel_rfl) (by kernel_rfl) (fun _ _ _ h => h) (Or.inl ⟨by rfl, ?hy196⟩) (by assumption) ?rest196
      case hy196 => ((intro w hSw; (try dsimp only at hSw); go_simp); try (with_reducible rfl))
      ((try dsimp only [List.getElem_toArray, List.getElem_cons_succ, List.getElem_cons_zero]); try simp only [Act.put, List.setIfInBounds_toArray, List.set_cons_zero, List.set_cons_succ])
      refine wpAnyH_take (i := 9) (oi := _) (v := ?v197) rfl (by kernel_rfl) (by kernel_rfl) (by kernel_rfl) (fun _ _ _ h => h) (Or.inl ⟨by rfl, ?hy197⟩) (by assumption) ?rest197
      case hy197 => ((intro w hSw; (try dsimp only at hSw); go_simp); try (with_reducible rfl))
      ((try dsimp only [List.getElem_toArray, List.getElem_cons_succ, List.getElem_cons_zero]); try simp only [Act.put, List.setIfInBounds_toArray, List.set_cons_zero, List.set_cons_succ])
      refine wpAnyH_take (i := 10) (oi := _) (v := ?v198) rfl (by kernel_rfl) (by kernel_rfl) (by kernel_rfl) (fun _ _ _ h => h) (Or.inl ⟨by rfl, ?hy198⟩) (by assumption) ?rest198
      case hy198 => ((intro w hSw; (try dsimp only at hSw); go_simp); try (with_reducible rfl))
      ((try dsimp only [List.getElem_toArray, List.getElem_cons_succ, List.getElem_cons_zero]); try simp only [Act.put, List.setIfInBounds_toArray, List.set_cons_zero, List.set_cons_succ])
      refine wpAnyH_take (i := 11) (oi := _) (v := ?v199) rfl (by kernel_rfl) (by kernel_rfl) (by kernel_rfl) (fun _ _ _ h => h) (Or.inl ⟨by rfl, ?hy199⟩) (by assumption) ?rest199
      case hy199 => ((intro w hSw; (try dsimp only at hSw); go_simp); try (with_reducible rfl))
      ((try dsimp only [List.getElem_toArray, List.getElem_cons_succ, List.getElem_cons_zero]); try simp only [Act.put, List.setIfInBounds_toArray, List.set_cons_zero, List.set_cons_succ])
      refine wpAnyH_take (i := 12) (oi := _) (v := ?v200) rfl (by kernel_rfl) (by kernel_rfl) (by kernel_rfl) (fun _ _ _ h => h) (Or.inl ⟨by rfl, ?hy200⟩) (by assumption) ?rest200
      case hy200 => ((intro w hSw; (try dsimp only at hSw); go_simp); try (with_reducible rfl))
      ((try dsimp only [List.getElem_toArray, List.getElem_cons_succ, List.getElem_cons_zero]); try simp only [Act.put, List.setIfInBounds_toArray, List.set_cons_zero, List.set_cons_succ])
      refine wpAnyH_take (i := 13) (oi := _) (v := ?v201) rfl (by kernel_rfl) (by kernel_rfl) (by kernel_rfl) (fun _ _ _ h => h) (Or.inl ⟨by rfl, ?hy201⟩) (by assumption) ?rest201
      case hy201 => ((intro w hSw; (try dsimp only at hSw); go_simp); try (with_reducible rfl))
      ((try dsimp only [List.getElem_toArray, List.getElem_cons_succ, List.getElem_cons_zero]); try simp only [Act.put, List.setIfInBounds_toArray, List.set_cons_zero, List.set_cons_succ])
      refine wpAnyH_take (i := 14) (oi := _) (v := ?v202) rfl (by kernel_rfl) (by kernel_rfl) (by kernel_rfl) (fun _ _ _ h => h) (Or.inl ⟨by rfl, ?hy202⟩) (by assumption) ?rest202
      case hy202 => ((intro w hSw; (try dsimp only at hSw); go_simp); try (with_reducible rfl))
      ((try dsimp only [List.getElem_toArray, List.getElem_cons_succ, List.getElem_cons_zero]); try simp only [Act.put, List.setIfInBounds_toArray, List.set_cons_zero, List.set_cons_succ])
      refine wpAnyH_take (i := 15) (oi := _) (v := ?v203) rfl (by kernel_rfl) (by kernel_rfl) (by kernel_rfl) (fun _ _ _ h => h) (Or.inl ⟨by rfl, ?hy203⟩) (by assumption) ?rest203
      case hy203 => ((intro w hSw; (try dsimp only at hSw); go_simp); try (with_reducible rfl))
      ((try dsimp only [List.getElem_toArray, List.getElem_cons_succ, List.getElem_cons_zero]); try simp only [Act.put, List.setIfInBounds_toArray, List.set_cons_zero, List.set_cons_succ])
      refine wpAnyH_take (i := 16) (oi := _) (v := ?v204) rfl (by kernel_rfl) (by kernel_rfl) (by kernel_rfl) (fun _ _ _ h => h) (Or.inl ⟨by rfl, ?hy204⟩) (by assumption) ?rest204
      case hy204 => ((intro w hSw; (try dsimp only at hSw); go_simp); try (with_reducible rfl))
      ((try dsimp only [List.getElem_toArray, List.getElem_cons_succ, List.getElem_cons_zero]); try simp only [Act.put, List.setIfInBounds_toArray, List.set_cons_zero, List.set_cons_succ])
      refine wpAnyH_take (i := 17) (oi := _) (v := ?v205) rfl (by kernel_rfl) (by kernel_rfl) (by kernel_rfl) (fun _ _ _ h => h) (Or.inl ⟨by rfl, ?hy205⟩) (by assumption) ?rest205
      case hy205 => ((intro w hSw; (try dsimp only at hSw); go_simp); try (with_reducible rfl))
      ((try dsimp only [List.getElem_toArray, List.getElem_cons_succ, List.getElem_cons_zero]); try simp only [Act.put, List.setIfInBounds_toArray, List.set_cons_zero, List.set_cons_succ])
      refine wpAnyH_take (i := 18) (oi := _) (v := ?v206) rfl (by kernel_rfl) (by kernel_rfl) (by kernel_rfl) (fun _ _ _ h => h) (Or.inl ⟨by rfl, ?hy206⟩) (by assumption) ?rest206
      case hy206 => ((intro w hSw; (try dsimp only at hSw); go_simp); try (with_reducible rfl))
      ((try dsimp only [List.getElem_toArray, List.getElem_cons_succ, List.getElem_cons_zero]); try simp only [Act.put, List.setIfInBounds_toArray, List.set_cons_zero, List.set_cons_succ])
      refine wpAnyH_take (i := 19) (oi := _) (v := ?v207) rfl (by kernel_rfl) (by kernel_rfl) (by kernel_rfl) (fun _ _ _ h => h) (Or.inl ⟨by rfl, ?hy207⟩) (by assumption) ?rest207
      case hy207 => ((intro w hSw; (try dsimp only at hSw); go_simp); try (with_reducible rfl))
      ((try dsimp only [List.getElem_toArray, List.getElem_cons_succ, List.getElem_cons_zero]); try simp only [Act.put, List.setIfInBounds_toArray, List.set_cons_zero, List.set_cons_succ])
      refine wpAnyH_ready (rs := [20]) (by kernel_rfl) (by simp) ?_
      refine AllReadyH.cons (o := _) rfl (fun K hK => ?_) AllReadyH.nil
      go_simp
      ( with_reducible refine (C3.out _).mono ?_); rintro e v1 ⟨rfl, g1⟩; have TP : Three v1 (w2.heap.size) (.bool ppa) (.string ppx) (.string ppy) 49 := Three.kept (by assumption) g1; have TQ : Three v1 (w3.heap.size) (.bool ppa) (.string qqx) (.string qqy) 49 := Three.kept (by assumption) g1; have TR : Three v1 (w4.heap.size) (.bool rra) (.string rrx) (.string rry) 49 := Three.kept (by assumption) g1; have GG : W.grownBy v1 none := gr_then (by assumption) g1
      refine hK.out _ _ ?_ (fun hHeld => ?_)
      · (try dsimp only); (first | exact ⟨Three.c0 (by assumption), Three.c1 (by assumption), Three.c2 (by assumption), Three.c0 (by assumption), Three.c1 (by assumption), Three.c2 (by assumption), Three.c0 (by assumption), Three.c1 (by assumption), Three.c2 (by assumption)⟩ | go_keep)
      clear hK K
      ((try dsimp only [List.getElem_toArray, List.getElem_cons_succ, List.getElem_cons_zero]); try simp only [Act.put, List.setIfInBounds_toArray, List.set_cons_zero, List.set_cons_succ])
      refine wpAnyH_take (i := 21) (oi := _) (v := ?v208) rfl (by kernel_rfl) (by kernel_rfl) (by kernel_rfl) (fun _ _ _ h => h) (Or.inl ⟨by rfl, ?hy208⟩) (by assumption) ?rest208
      case hy208 => ((intro w hSw; (try dsimp only at hSw); go_simp); try (with_reducible rfl))
      ((try dsimp only [List.getElem_toArray, List.getElem_cons_succ, List.getElem_cons_zero]); try simp only [Act.put, List.setIfInBounds_toArray, List.set_cons_zero, List.set_cons_succ])
      refine wpAnyH_take (i := 22) (oi := _) (v := ?v209) rfl (by kernel_rfl) (by kernel_rfl) (by kernel_rfl) (fun _ _ _ h => h) (Or.inl ⟨by rfl, ?hy209⟩) (by assumption) ?rest209
      case hy209 => ((intro w hSw; (try dsimp only at hSw); go_simp); try (with_reducible rfl))
      ((try dsimp only [List.getElem_toArray, List.getElem_cons_succ, List.getElem_cons_zero]); try simp only [Act.put, List.setIfInBounds_toArray, List.set_cons_zero, List.set_cons_succ])
      refine wpAnyH_take (i := 23) (oi := _) (v := ?v210) rfl (by kernel_rfl) (by kernel_rfl) (by kernel_rfl) (fun _ _ _ h => h) (Or.inl ⟨by rfl, ?hy210⟩) (by assumption) ?rest210
      case hy210 => ((intro w hSw; (try dsimp only at hSw); go_simp); try (with_reducible rfl))
      ((try dsimp only [List.getElem_toArray, List.getElem_cons_succ, List.getElem_cons_zero]); try simp only [Act.put, List.setIfInBounds_toArray, List.set_cons_zero, List.set_cons_succ])
      refine wpAnyH_take (i := 24) (oi := _) (v := _) rfl (by kernel_rfl) (by kernel_rfl) (by kernel_rfl) (fun _ _ _ h => h) (Or.inr ⟨by rfl, rfl⟩) (by assumption) ?rest211
      ((try dsimp only [List.getElem_toArray, List.getElem_cons_succ, List.getElem_cons_zero]); try simp only [Act.put, List.setIfInBounds_toArray, List.set_cons_zero, List.set_cons_succ])
      refine wpAnyH_take (i := 25) (oi := _) (v := _) rfl (by kernel_rfl) (by kernel_rfl) (by kernel_rfl) (fun _ _ _ h => h) (Or.inr ⟨by rfl, rfl⟩) (by assumption) ?rest212
      ((try dsimp only [List.getElem_toArray, List.getElem_cons_succ, List.getElem_cons_zero]); try simp only [Act.put, List.setIfInBounds_toArray, List.set_cons_zero, List.set_cons_succ])
      refine wpAnyH_take (i := 26) (oi := _) (v := _) rfl (by kernel_rfl) (by kernel_rfl) (by kernel_rfl) (fun _ _ _ h => h) (Or.inr ⟨by rfl, rfl⟩) (by assumption) ?rest213
      ((try dsimp only [List.getElem_toArray, List.getElem_cons_succ, List.getElem_cons_zero]); try simp only [Act.put, List.setIfInBounds_toArray, List.set_cons_zero, List.set_cons_succ])
      refine wpAnyH_take (i := 27) (oi := _) (v := _) rfl (by kernel_rfl) (by kernel_rfl) (by kernel_rfl) (fun _ _ _ h => h) (Or.inr ⟨by rfl, rfl⟩) (by assumption) ?rest214
      ((try dsimp only [List.getElem_toArray, List.getElem_cons_succ, List.getElem_cons_zero]); try simp only [Act.put, List.setIfInBounds_toArray, List.set_cons_zero, List.set_cons_succ])
      refine wpAnyH_take (i := 28) (oi := _) (v := ?v215) rfl (by kernel_rfl) (by kernel_rfl) (by kernel_rfl) (fun _ _ _ h => h) (Or.inl ⟨by rfl, ?hy215⟩) (by assumption) ?rest215
      case hy215 => ((intro w hSw; (try dsimp only at hSw); go_simp); try (with_reducible rfl))
      ((try dsimp only [List.getElem_toArray, List.getElem_cons_succ, List.getElem_cons_zero]); try simp only [Act.put, List.setIfInBounds_toArray, List.set_cons_zero, List.set_cons_succ])
      refine wpAnyH_take (i := 29) (oi := _) (v := ?v216) rfl (by kernel_rfl) (by kernel_rfl) (by kernel_rfl) (fun _ _ _ h => h) (Or.inl ⟨by rfl, ?hy216⟩) (by assumption) ?rest216
      case hy216 => ((intro w hSw; (try dsimp only at hSw); go_simp); try (with_reducible rfl))
      ((try dsimp only [List.getElem_toArray, List.getElem_cons_succ, List.getElem_cons_zero]); try simp only [Act.put, List.setIfInBounds_toArray, List.set_cons_zero, List.set_cons_succ])
      refine wpAnyH_take (i := 30) (oi := _) (v := ?v217) rfl (by kernel_rfl) (by kernel_rfl) (by kernel_rfl) (fun _ _ _ h => h) (Or.inl ⟨by rfl, ?hy217⟩) (by assumption) ?rest217
      case hy217 => ((intro w hSw; (try dsimp only at hSw); go_simp); try (with_reducible rfl))
      ((try dsimp only [List.getElem_toArray, List.getElem_cons_succ, List.getElem_cons_zero]); try simp only [Act.put, List.setIfInBounds_toArray, List.set_cons_zero, List.set_cons_succ])
      refine wpAnyH_take (i := 31) (oi := _) (v := ?v218) rfl (by kernel_rfl) (by kernel_rfl) (by kernel_rfl) (fun _ _ _ h => h) (Or.inl ⟨by rfl, ?hy218⟩) (by assumption) ?rest218
      case hy218 => ((intro w hSw; (try dsimp only at hSw); go_simp); try (with_reducible rfl))
      ((try dsimp only [List.getElem_toArray, List.getElem_cons_succ, List.getElem_cons_zero]); try simp only [Act.put, List.setIfInBounds_toArray, List.set_cons_zero, List.set_cons_succ])
      refine wpAnyH_take (i := 32) (oi := _) (v := ?v219) rfl (by kernel_rfl) (by kernel_rfl) (by kernel_rfl) (fun _ _ _ h => h) (Or.inl ⟨by rfl, ?hy219⟩) (by assumption) ?rest219
      case hy219 => ((intro w hSw; (try dsimp only at hSw); go_simp); try (with_reducible rfl))
      ((try dsimp only [List.getElem_toArray, List.getElem_cons_succ, List.getElem_cons_zero]); try simp only [Act.put, List.setIfInBounds_toArray, List.set_cons_zero, List.set_cons_succ])
      refine wpAnyH_take (i := 34) (oi := _) (v := ?v220) rfl (by kernel_rfl) (by kernel_rfl) (by kernel_rfl) (fun _ _ _ h => h) (Or.inl ⟨by rfl, ?hy220⟩) (by assumption) ?rest220
      case hy220 => ((intro w hSw; (try dsimp only at hSw); go_simp); try (with_reducible rfl))
      ((try dsimp only [List.getElem_toArray, List.getElem_cons_succ, List.getElem_cons_zero]); try simp only [Act.put, List.setIfInBounds_toArray, List.set_cons_zero, List.set_cons_succ])
      refine wpAnyH_take (i := 35) (oi := _) (v := ?v221) rfl (by kernel_rfl) (by kernel_rfl) (by kernel_rfl) (fun _ _ _ h => h) (Or.inl ⟨by rfl, ?hy221⟩) (by assumption) ?rest221
      case hy221 => ((intro w hSw; (try dsimp only at hSw); go_simp); try (with_reducible rfl))
      ((try dsimp only [List.getElem_toArray, List.getElem_cons_succ, List.getElem_cons_zero]); try simp only [Act.put, List.setIfInBounds_toArray, List.set_cons_zero, List.set_cons_succ])
      refine wpAnyH_take (i := 38) (oi := _) (v := ?v222) rfl (by kernel_rfl) (by kernel_rfl) (by kernel_rfl) (fun _ _ _ h => h) (Or.inl ⟨by rfl, ?hy222⟩) (by assumption) ?rest222
      case hy222 => ((intro w hSw; (try dsimp only at hSw); go_simp); try (with_reducible rfl))
      ((try dsimp only [List.getElem_toArray, List.getElem_cons_succ, List.getElem_cons_zero]); try simp only [Act.put, List.setIfInBounds_toArray, List.set_cons_zero, List.set_cons_succ])
      refine wpAnyH_ready (rs := [33]) (by kernel_rfl) (by simp) ?_
      refine AllReadyH.cons (o := _) rfl (fun K hK => ?_) AllReadyH.nil
      go_simp
      ( with_reducible refine (A1.out _).mono ?_); rintro e v1 ⟨rfl, g1⟩; have TP : Three v1 (w2.heap.size) (.bool ppa) (.string ppx) (.string ppy) 49 := Three.kept (by assumption) g1; have TQ : Three v1 (w3.heap.size) (.bool ppa) (.string qqx) (.string qqy) 49 := Three.kept (by assumption) g1; have TR : Three v1 (w4.heap.size) (.bool rra) (.string rrx) (.string rry) 49 := Three.kept (by assumption) g1; have GG : W.grownBy v1 none := gr_then (by assumption) g1
      refine hK.out _ _ ?_ (fun hHeld => ?_)
      · (try dsimp only); (first | exact ⟨Three.c0 (by assumption), Three.c1 (by assumption), Three.c2 (by assumption), Three.c0 (by assumption), Three.c1 (by assumption), Three.c2 (by assumption), Three.c0 (by assumption), Three.c1 (by assumption), Three.c2 (by assumption)⟩ | go_keep)
      clear hK K
      ((try dsimp only [List.getElem_toArray, List.getElem_cons_succ, List.getElem_cons_zero]); try simp only [Act.put, List.setIfInBounds_toArray, List.set_cons_zero, List.set_cons_succ])
      refine wpAnyH_ready (rs := [36]) (by kernel_rfl) (by simp) ?_
      refine AllReadyH.cons (o := _) rfl (fun K hK => ?_) AllReadyH.nil
      go_simp
      ( with_reducible refine (A2.out _).mono ?_); rintro e v1 ⟨rfl, g1⟩; have TP : Three v1 (w2.heap.size) (.bool ppa) (.string ppx) (.string ppy) 49 := Three.kept (by assumption) g1; have TQ : Three v1 (w3.heap.size) (.bool ppa) (.string qqx) (.string qqy) 49 := Three.kept (by assumption) g1; have TR : Three v1 (w4.heap.size) (.bool rra) (.string rrx) (.string rry) 49 := Three.kept (by assumption) g1; have GG : W.grownBy v1 none := gr_then (by assumption) g1
      refine hK.out _ _ ?_ (fun hHeld => ?_)
      · (try dsimp only); (first | exact ⟨Three.c0 (by assumption), Three.c1 (by assumption), Three.c2 (by assumption), Three.c0 (by assumption), Three.c1 (by assumption), Three.c2 (by assumption), Three.c0 (by assumption), Three.c1 (by assumption), Three.c2 (by assumption)⟩ | go_keep)
      clear hK K
      ((try dsimp only [List.getElem_toArray, List.getElem_cons_succ, List.getElem_cons_zero]); try simp only [Act.put, List.setIfInBounds_toArray, List.set_cons_zero, List.set_cons_succ])
      refine wpAnyH_ready (rs := [37]) (by kernel_rfl) (by simp) ?_
      refine AllReadyH.cons (o := _) rfl (fun K hK => ?_) AllReadyH.nil
      go_simp
      ( with_reducible refine (C5.out _).mono ?_); rintro e v1 ⟨rfl, g1⟩; have TP : Three v1 (w2.heap.size) (.bool ppa) (.string ppx) (.string ppy) 49 := Three.kept (by assumption) g1; have TQ : Three v1 (w3.heap.size) (.bool ppa) (.string qqx) (.string qqy) 49 := Three.kept (by assumption) g1; have TR : Three v1 (w4.heap.size) (.bool rra) (.string rrx) (.string rry) 49 := Three.kept (by assumption) g1; have GG : W.grownBy v1 none := gr_then (by assumption) g1
      refine hK.out _ _ ?_ (fun hHeld => ?_)
      · (try dsimp only); (first | exact ⟨Three.c0 (by assumption), Three.c1 (by assumption), Three.c2 (by assumption), Three.c0 (by assumption), Three.c1 (by assumption), Three.c2 (by assumption), Three.c0 (by assumption), Three.c1 (by assumption), Three.c2 (by assumption)⟩ | go_keep)
      clear hK K
      ((try dsimp only [List.getElem_toArray, List.getElem_cons_succ, List.getElem_cons_zero]); try simp only [Act.put, List.setIfInBounds_toArray, List.set_cons_zero, List.set_cons_succ])
      refine wpAnyH_take (i := 39) (oi := _) (v := ?v223) rfl (by kernel_rfl) (by kernel_rfl) (by kernel_rfl) (fun _ _ _ h => h) (Or.inl ⟨by rfl, ?hy223⟩) (by assumption) ?rest223
      case hy223 => ((intro w hSw; (try dsimp only at hSw); go_simp); try (with_reducible rfl))
      ((try dsimp only [List.getElem_toArray, List.getElem_cons_succ, List.getElem_cons_zero]); try simp only [Act.put, List.setIfInBounds_toArray, List.set_cons_zero, List.set_cons_succ])
      refine wpAnyH_take (i := 40) (oi := _) (v := ?v224) rfl (by kernel_rfl) (by kernel_rfl) (by kernel_rfl) (fun _ _ _ h => h) (Or.inl ⟨by rfl, ?hy224⟩) (by assumption) ?rest224
      case hy224 => ((intro w hSw; (try dsimp only at hSw); go_simp); try (with_reducible rfl))
      ((try dsimp only [List.getElem_toArray, List.getElem_cons_succ, List.getElem_cons_zero]); try simp only [Act.put, List.setIfInBounds_toArray, List.set_cons_zero, List.set_cons_succ])
      refine wpAnyH_take (i := 41) (oi := _) (v := ?v225) rfl (by kernel_rfl) (by kernel_rfl) (by kernel_rfl) (fun _ _ _ h => h) (Or.inl ⟨by rfl, ?hy225⟩) (by assumption) ?rest225
      case hy225 => ((intro w hSw; (try dsimp only at hSw); go_simp); try (with_reducible rfl))
      ((try dsimp only [List.getElem_toArray, List.getElem_cons_succ, List.getElem_cons_zero]); try simp only [Act.put, List.setIfInBounds_toArray, List.set_cons_zero, List.set_cons_succ])
      refine wpAnyH_done (by kernel_rfl) ?_ _
      have M0P : Three v1 (w2.heap.size) (.bool ppa) (.string ppx) (.string ppy) 49 := by assumption
      have M0Q : Three v1 (w3.heap.size) (.bool ppa) (.string qqx) (.string qqy) 49 := by assumption
      have M0R : Three v1 (w4.heap.size) (.bool rra) (.string rrx) (.string rry) 49 := by assumption
      have G40 : W.grownBy v1 none := by assumption
      go_wp2_with fail
      have M_P := M0P.drew
      have M_Q := M0Q.drew
      have M_R := M0R.drew
      have G4 := gr_dr G40
      go_region_held3 (fun w' => w'.cell? ⟨w2.heap.size, 0, none⟩ = some (.bool ppa) ∧ w'.cell? ⟨w2.heap.size, 1, none⟩ = some (.string ppx) ∧ w'.cell? ⟨w2.heap.size, 2, none⟩ = some (.string ppy) ∧ w'.cell? ⟨w3.heap.size, 0, none⟩ = some (.bool ppa) ∧ w'.cell? ⟨w3.heap.size, 1, none⟩ = some (.string qqx) ∧ w'.cell? ⟨w3.heap.size, 2, none⟩ = some (.string qqy) ∧ w'.cell? ⟨w4.heap.size, 0, none⟩ = some (.bool rra) ∧ w'.cell? ⟨w4.heap.size, 1, none⟩ = some (.string rrx) ∧ w'.cell? ⟨w4.heap.size, 2, none⟩ = some (.string rry)) (first | exact ⟨Three.c0 (by assumption), Three.c1 (by assumption), Three.c2 (by assumption), Three.c0 (by assumption), Three.c1 (by assumption), Three.c2 (by assumption), Three.c0 (by assumption), Three.c1 (by assumption), Three.c2 (by assumption)⟩ | go_keep)
        (first
        | (go_at_call 45; (first | with_reducible refine (M1.out _).mono ?_ | with_reducible refine (M2.out _).mono ?_); rintro e v1 ⟨rfl, g1⟩; have TP : Three v1 (w2.heap.size) (.bool ppa) (.string ppx) (.string ppy) 49 := Three.kept (by assumption) g1; have TQ : Three v1 (w3.heap.size) (.bool ppa) (.string qqx) (.string qqy) 49 := Three.kept (by assumption) g1; have TR : Three v1 (w4.heap.size) (.bool rra) (.string rrx) (.string rry) 49 := Three.kept (by assumption) g1; have GG : W.grownBy v1 none := gr_then (by assumption) g1)
        | (go_at_call 47; (first | with_reducible refine (C6.out _).mono ?_ | with_reducible refine (C7.out _).mono ?_); rintro e v1 ⟨rfl, g1⟩; have TP : Three v1 (w2.heap.size) (.bool ppa) (.string ppx) (.string ppy) 49 := Three.kept (by assumption) g1; have TQ : Three v1 (w3.heap.size) (.bool ppa) (.string qqx) (.string qqy) 49 := Three.kept (by assumption) g1; have TR : Three v1 (w4.heap.size) (.bool rra) (.string rrx) (.string rry) 49 := Three.kept (by assumption) g1; have GG : W.grownBy v1 none := gr_then (by assumption) g1)
        | (go_at_call 49; (first | with_reducible refine (S1.out _).mono ?_ | with_reducible refine (S2.out _).mono ?_ | with_reducible refine (S3.out _).mono ?_); rintro e v1 ⟨rfl, g1⟩; have TP : Three v1 (w2.heap.size) (.bool ppa) (.string ppx) (.string ppy) 49 := Three.kept (by assumption) g1; have TQ : Three v1 (w3.heap.size) (.bool ppa) (.string qqx) (.string qqy) 49 := Three.kept (by assumption) g1; have TR : Three v1 (w4.heap.size) (.bool rra) (.string rrx) (.string rry) 49 := Three.kept (by assumption) g1; have GG : W.grownBy v1 none := gr_then (by assumption) g1)
        | (go_at_call 43; (first | with_reducible refine (B1.out _).mono ?_); rintro e v1 ⟨rfl, g1⟩; have TP : Three v1 (w2.heap.size) (.bool ppa) (.string ppx) (.string ppy) 49 := Three.kept (by assumption) g1; have TQ : Three v1 (w3.heap.size) (.bool ppa) (.string qqx) (.string qqy) 49 := Three.kept (by assumption) g1; have TR : Three v1 (w4.heap.size) (.bool rra) (.string rrx) (.string rry) 49 := Three.kept (by assumption) g1; have GG : W.grownBy v1 none := gr_then (by assumption) g1)
        | (go_at_call 56; (first | with_reducible refine (OZ.out _).mono ?_); rintro e v1 ⟨rfl, g1⟩; have TP : Three v1 (w2.heap.size) (.bool ppa) (.string ppx) (.string ppy) 49 := Three.kept (by assumption) g1; have TQ : Three v1 (w3.heap.size) (.bool ppa) (.string qqx) (.string qqy) 49 := Three.kept (by assumption) g1; have TR : Three v1 (w4.heap.size) (.bool rra) (.string rrx) (.string rry) 49 := Three.kept (by assumption) g1; have GG : W.grownBy v1 none := gr_then (by assumption) g1))
      all_goals
        go_wp2
        go_ret
        exact ⟨rfl, by assumption⟩
    · have hyb : decide (y < 0) = false := by rw [decide_eq_false_iff_not]; omega
      have hxb := decide_eq_true hyx2
      go_region_held3 (fun w' => w'.cell? ⟨w2.heap.size, 0, none⟩ = some (.bool ppa) ∧ w'.cell? ⟨w2.heap.size, 1, none⟩ = some (.string ppx) ∧ w'.cell? ⟨w2.heap.size, 2, none⟩ = some (.string ppy) ∧ w'.cell? ⟨w3.heap.size, 0, none⟩ = some (.bool ppa) ∧ w'.cell? ⟨w3.heap.size, 1, none⟩ = some (.string qqx) ∧ w'.cell? ⟨w3.heap.size, 2, none⟩ = some (.string qqy) ∧ w'.cell? ⟨w4.heap.size, 0, none⟩ = some (.bool rra) ∧ w'.cell? ⟨w4.heap.size, 1, none⟩ = some (.string rrx) ∧ w'.cell? ⟨w4.heap.size, 2, none⟩ = some (.string rry)) (first | exact ⟨Three.c0 (by assumption), Three.c1 (by assumption), Three.c2 (by assumption), Three.c0 (by assumption), Three.c1 (by assumption), Three.c2 (by assumption), Three.c0 (by assumption), Three.c1 (by assumption), Three.c2 (by assumption)⟩ | go_keep)
        (first
        | (go_at_call 47; (first | with_reducible refine (C2.out _).mono ?_ | with_reducible refine (C3.out _).mono ?_ | with_reducible refine (C4.out _).mono ?_ | with_reducible refine (C5.out _).mono ?_); rintro e v1 ⟨rfl, g1⟩; have TP : Three v1 (w2.heap.size) (.bool ppa) (.string ppx) (.string ppy) 49 := Three.kept (by assumption) g1; have TQ : Three v1 (w3.heap.size) (.bool ppa) (.string qqx) (.string qqy) 49 := Three.kept (by assumption) g1; have TR : Three v1 (w4.heap.size) (.bool rra) (.string rrx) (.string rry) 49 := Three.kept (by assumption) g1; have GG : W.grownBy v1 none := gr_then (by assumption) g1)
        | (go_at_call 41; (first | with_reducible refine (A1.out _).mono ?_ | with_reducible refine (A2.out _).mono ?_); rintro e v1 ⟨rfl, g1⟩; have TP : Three v1 (w2.heap.size) (.bool ppa) (.string ppx) (.string ppy) 49 := Three.kept (by assumption) g1; have TQ : Three v1 (w3.heap.size) (.bool ppa) (.string qqx) (.string qqy) 49 := Three.kept (by assumption) g1; have TR : Three v1 (w4.heap.size) (.bool rra) (.string rrx) (.string rry) 49 := Three.kept (by assumption) g1; have GG : W.grownBy v1 none := gr_then (by assumption) g1))
      have M0P : Three v1 (w2.heap.size) (.bool ppa) (.string ppx) (.string ppy) 49 := by assumption
      have M0Q : Three v1 (w3.heap.size) (.bool ppa) (.string qqx) (.string qqy) 49 := by assumption
      have M0R : Three v1 (w4.heap.size) (.bool rra) (.string rrx) (.string rry) 49 := by assumption
      have G40 : W.grownBy v1 none := by assumption
      go_wp2_with fail
      have M_P := M0P.drew
      have M_Q := M0Q.drew
      have M_R := M0R.drew
      have G4 := gr_dr G40
      go_region_held3 (fun w' => w'.cell? ⟨w2.heap.size, 0, none⟩ = some (.bool ppa) ∧ w'.cell? ⟨w2.heap.size, 1, none⟩ = some (.string ppx) ∧ w'.cell? ⟨w2.heap.size, 2, none⟩ = some (.string ppy) ∧ w'.cell? ⟨w3.heap.size, 0, none⟩ = some (.bool ppa) ∧ w'.cell? ⟨w3.heap.size, 1, none⟩ = some (.string qqx) ∧ w'.cell? ⟨w3.heap.size, 2, none⟩ = some (.string qqy) ∧ w'.cell? ⟨w4.heap.size, 0, none⟩ = some (.bool rra) ∧ w'.cell? ⟨w4.heap.size, 1, none⟩ = some (.string rrx) ∧ w'.cell? ⟨w4.heap.size, 2, none⟩ = some (.string rry)) (first | exact ⟨Three.c0 (by assumption), Three.c1 (by assumption), Three.c2 (by assumption), Three.c0 (by assumption), Three.c1 (by assumption), Three.c2 (by assumption), Three.c0 (by assumption), Three.c1 (by assumption), Three.c2 (by assumption)⟩ | go_keep)
        (first
        | (go_at_call 45; (first | with_reducible refine (M1.out _).mono ?_ | with_reducible refine (M2.out _).mono ?_); rintro e v1 ⟨rfl, g1⟩; have TP : Three v1 (w2.heap.size) (.bool ppa) (.string ppx) (.string ppy) 49 := Three.kept (by assumption) g1; have TQ : Three v1 (w3.heap.size) (.bool ppa) (.string qqx) (.string qqy) 49 := Three.kept (by assumption) g1; have TR : Three v1 (w4.heap.size) (.bool rra) (.string rrx) (.string rry) 49 := Three.kept (by assumption) g1; have GG : W.grownBy v1 none := gr_then (by assumption) g1)
        | (go_at_call 47; (first | with_reducible refine (C6.out _).mono ?_ | with_reducible refine (C7.out _).mono ?_); rintro e v1 ⟨rfl, g1⟩; have TP : Three v1 (w2.heap.size) (.bool ppa) (.string ppx) (.string ppy) 49 := Three.kept (by assumption) g1; have TQ : Three v1 (w3.heap.size) (.bool ppa) (.string qqx) (.string qqy) 49 := Three.kept (by assumption) g1; have TR : Three v1 (w4.heap.size) (.bool rra) (.string rrx) (.string rry) 49 := Three.kept (by assumption) g1; have GG : W.grownBy v1 none := gr_then (by assumption) g1)
        | (go_at_call 49; (first | with_reducible refine (S1.out _).mono ?_ | with_reducible refine (S2.out _).mono ?_ | with_reducible refine (S3.out _).mono ?_); rintro e v1 ⟨rfl, g1⟩; have TP : Three v1 (w2.heap.size) (.bool ppa) (.string ppx) (.string ppy) 49 := Three.kept (by assumption) g1; have TQ : Three v1 (w3.heap.size) (.bool ppa) (.string qqx) (.string qqy) 49 := Three.kept (by assumption) g1; have TR : Three v1 (w4.heap.size) (.bool rra) (.string rrx) (.string rry) 49 := Three.kept (by assumption) g1; have GG : W.grownBy v1 none := gr_then (by assumption) g1)
        | (go_at_call 43; (first | with_reducible refine (B1.out _).mono ?_); rintro e v1 ⟨rfl, g1⟩; have TP : Three v1 (w2.heap.size) (.bool ppa) (.string ppx) (.string ppy) 49 := Three.kept (by assumption) g1; have TQ : Three v1 (w3.heap.size) (.bool ppa) (.string qqx) (.string qqy) 49 := Three.kept (by assumption) g1; have TR : Three v1 (w4.heap.size) (.bool rra) (.string rrx) (.string rry) 49 := Three.kept (by assumption) g1; have GG : W.grownBy v1 none := gr_then (by assumption) g1)
        | (go_at_call 56; (first | with_reducible refine (OZ.out _).mono ?_); rintro e v1 ⟨rfl, g1⟩; have TP : Three v1 (w2.heap.size) (.bool ppa) (.string ppx) (.string ppy) 49 := Three.kept (by assumption) g1; have TQ : Three v1 (w3.heap.size) (.bool ppa) (.string qqx) (.string qqy) 49 := Three.kept (by assumption) g1; have TR : Three v1 (w4.heap.size) (.bool rra) (.string rrx) (.string rry) 49 := Three.kept (by assumption) g1; have GG : W.grownBy v1 none := gr_then (by assumption) g1))
      all_goals
        go_wp2
        go_ret
        exact ⟨rfl, by assumption⟩
  · clear hne
    rcases hyx with hyx | ⟨hyx, hyx2⟩
    · refine wp_region_held_drew (S := fun w' => w'.cell? ⟨w2.heap.size, 0, none⟩ = some (.bool ppa) ∧ w'.cell? ⟨w2.heap.size, 1, none⟩ = some (.string ppx) ∧ w'.cell? ⟨w2.heap.size, 2, none⟩ = some (.string ppy) ∧ w'.cell? ⟨w3.heap.size, 0, none⟩ = some (.bool ppa) ∧ w'.cell? ⟨w3.heap.size, 1, none⟩ = some (.string ppx) ∧ w'.cell? ⟨w3.heap.size, 2, none⟩ = some (.string qqy) ∧ w'.cell? ⟨w4.heap.size, 0, none⟩ = some (.bool rra) ∧ w'.cell? ⟨w4.heap.size, 1, none⟩ = some (.string rrx) ∧ w'.cell? ⟨w4.heap.size, 2, none⟩ = some (.string rry)) (by kernel_rfl) ?_ (fun hHeld => ?_)
      · (first | exact ⟨Three.c0 (by assumption), Three.c1 (by assumption), Three.c2 (by assumption), Three.c0 (by assumption), Three.c1 (by assumption), Three.c2 (by assumption), Three.c0 (by assumption), Three.c1 (by assumption), Three.c2 (by assumption)⟩ | go_keep)
      refine wpAnyH_take (i := 0) (oi := _) (v := ?v226) rfl (by kernel_rfl) (by kernel_rfl) (by kernel_rfl) (fun _ _ _ h => h) (Or.inl ⟨by rfl, ?hy226⟩) (by assumption) ?rest226
      case hy226 => ((intro w hSw; (try dsimp only at hSw); go_simp); try (with_reducible rfl))
      ((try dsimp only [List.getElem_toArray, List.getElem_cons_succ, List.getElem_cons_zero]); try simp only [Act.put, List.setIfInBounds_toArray, List.set_cons_zero, List.set_cons_succ])
      refine wpAnyH_take (i := 1) (oi := _) (v := ?v227) rfl (by kernel_rfl) (by kernel_rfl) (by kernel_rfl) (fun _ _ _ h => h) (Or.inl ⟨by rfl, ?hy227⟩) (by assumption) ?rest227
      case hy227 => ((intro w hSw; (try dsimp only at hSw); go_simp); try (with_reducible rfl))
      ((try dsimp only [List.getElem_toArray, List.getElem_cons_succ, List.getElem_cons_zero]); try simp only [Act.put, List.setIfInBounds_toArray, List.set_cons_zero, List.set_cons_succ])
      refine wpAnyH_take (i := 2) (oi := _) (v := ?v228) rfl (by kernel_rfl) (by kernel_rfl) (by kernel_rfl) (fun _ _ _ h => h) (Or.inl ⟨by rfl, ?hy228⟩) (by assumption) ?rest228
      case hy228 => ((intro w hSw; (try dsimp only at hSw); go_simp); try (with_reducible rfl))
      ((try dsimp only [List.getElem_toArray, List.getElem_cons_succ, List.getElem_cons_zero]); try simp only [Act.put, List.setIfInBounds_toArray, List.set_cons_zero, List.set_cons_succ])
      refine wpAnyH_ready (rs := [3]) (by kernel_rfl) (by simp) ?_
      refine AllReadyH.cons (o := _) rfl (fun K hK => ?_) AllReadyH.nil
      go_simp
      ( with_reducible refine (C2.out _).mono ?_); rintro e v1 ⟨rfl, g1⟩; have TP : Three v1 (w2.heap.size) (.bool ppa) (.string ppx) (.string ppy) 49 := Three.kept (by assumption) g1; have TQ : Three v1 (w3.heap.size) (.bool ppa) (.string ppx) (.string qqy) 49 := Three.kept (by assumption) g1; have TR : Three v1 (w4.heap.size) (.bool rra) (.string rrx) (.string rry) 49 := Three.kept (by assumption) g1; have GG : W.grownBy v1 none := gr_then (by assumption) g1
      refine hK.out _ _ ?_ (fun hHeld => ?_)
      · (try dsimp only); (first | exact ⟨Three.c0 (by assumption), Three.c1 (by assumption), Three.c2 (by assumption), Three.c0 (by assumption), Three.c1 (by assumption), Three.c2 (by assumption), Three.c0 (by assumption), Three.c1 (by assumption), Three.c2 (by assumption)⟩ | go_keep)
      clear hK K
      ((try dsimp only [List.getElem_toArray, List.getElem_cons_succ, List.getElem_cons_zero]); try simp only [Act.put, List.setIfInBounds_toArray, List.set_cons_zero, List.set_cons_succ])
      refine wpAnyH_take (i := 4) (oi := _) (v := ?v229) rfl (by kernel_rfl) (by kernel_rfl) (by kernel_rfl) (fun _ _ _ h => h) (Or.inl ⟨by rfl, ?hy229⟩) (by assumption) ?rest229
      case hy229 => ((intro w hSw; (try dsimp only at hSw); go_simp); try (with_reducible rfl))
      ((try dsimp only [List.getElem_toArray, List.getElem_cons_succ, List.getElem_cons_zero]); try simp only [Act.put, List.setIfInBounds_toArray, List.set_cons_zero, List.set_cons_succ])
      refine wpAnyH_take (i := 5) (oi := _) (v := ?v230) rfl (by kernel_rfl) (by kernel_rfl) (by kernel_rfl) (fun _ _ _ h => h) (Or.inl ⟨by rfl, ?hy230⟩) (by assumption) ?rest230
      case hy230 => ((intro w hSw; (try dsimp only at hSw); go_simp); try (with_reducible rfl))
      ((try dsimp only [List.getElem_toArray, List.getElem_cons_succ, List.getElem_cons_zero]); try simp only [Act.put, List.setIfInBounds_toArray, List.set_cons_zero, List.set_cons_succ])
      refine wpAnyH_take (i := 6) (oi := _) (v := ?v231) rfl (by kernel_rfl) (by kernel_rfl) (by kernel_rfl) (fun _ _ _ h => h) (Or.inl ⟨by rfl, ?hy231⟩) (by assumption) ?rest231
      case hy231 => ((intro w hSw; (try dsimp only at hSw); go_simp); try (with_reducible rfl))
      ((try dsimp only [List.getElem_toArray, List.getElem_cons_succ, List.getElem_cons_zero]); try simp only [Act.put, List.setIfInBounds_toArray, List.set_cons_zero, List.set_cons_succ])
      refine wpAnyH_take (i := 7) (oi := _) (v := ?v232) rfl (by kernel_rfl) (by kernel_rfl) (by kernel_rfl) (fun _ _ _ h => h) (Or.inl ⟨by rfl, ?hy232⟩) (by assumption) ?rest232
      case hy232 => ((intro w hSw; (try dsimp only at hSw); go_simp); try (with_reducible rfl))
      ((try dsimp only [List.getElem_toArray, List.getElem_cons_succ, List.getElem_cons_zero]); try simp only [Act.put, List.setIfInBounds_toArray, List.set_cons_zero, List.set_cons_succ])
      refine wpAnyH_take (i := 8) (oi := _) (v := ?v233) rfl (by kernel_rfl) (by kernel_rfl) (by kernel_rfl) (fun _ _ _ h => h) (Or.inl ⟨by rfl, ?hy233⟩) (by assumption) ?rest233
      case hy233 => ((intro w hSw; (try dsimp only at hSw); go_simp); try (with_reducible rfl))
      ((try dsimp only [List.getElem_toArray, List.getElem_cons_succ, List.getElem_cons_zero]); try simp only [Act.put, List.setIfInBounds_toArray, List.set_cons_zero, List.set_cons_succ])
      refine wpAnyH_take (i := 9) (oi := _) (v := ?v234) rfl (by kernel_rfl) (by kernel_rfl) (by kernel_rfl) (fun _ _ _ h => h) (Or.inl ⟨by rfl, ?hy234⟩) (by assumption) ?rest234
      case hy234 => ((intro w hSw; (try dsimp only at hSw); go_simp); try (with_reducible rfl))
      ((try dsimp only [List.getElem_toArray, List.getElem_cons_succ, List.getElem_cons_zero]); try simp only [Act.put, List.setIfInBounds_toArray, List.set_cons_zero, List.set_cons_succ])
      refine wpAnyH_take (i := 10) (oi := _) (v := ?v235) rfl (by kernel_rfl) (by kernel_rfl) (by kernel_rfl) (fun _ _ _ h => h) (Or.inl ⟨by rfl, ?hy235⟩) (by assumption) ?rest235
      case hy235 => ((intro w hSw; (try dsimp only at hSw); go_simp); try (with_reducible rfl))
      ((try dsimp only [List.getElem_toArray, List.getElem_cons_succ, List.getElem_cons_zero]); try simp only [Act.put, List.setIfInBounds_toArray, List.set_cons_zero, List.set_cons_succ])
      refine wpAnyH_take (i := 11) (oi := _) (v := ?v236) rfl (by kernel_rfl) (by kernel_rfl) (by kernel_rfl) (fun _ _ _ h => h) (Or.inl ⟨by rfl, ?hy236⟩) (by assumption) ?rest236
      case hy236 => ((intro w hSw; (try dsimp only at hSw); go_simp); try (with_reducible rfl))
      ((try dsimp only [List.getElem_toArray, List.getElem_cons_succ, List.getElem_cons_zero]); try simp only [Act.put, List.setIfInBounds_toArray, List.set_cons_zero, List.set_cons_succ])
      refine wpAnyH_take (i := 12) (oi := _) (v := ?v237) rfl (by kernel_rfl) (by kernel_rfl) (by kernel_rfl) (fun _ _ _ h => h) (Or.inl ⟨by rfl, ?hy237⟩) (by assumption) ?rest237
      case hy237 => ((intro w hSw; (try dsimp only at hSw); go_simp); try (with_reducible rfl))
      ((try dsimp only [List.getElem_toArray, List.getElem_cons_succ, List.getElem_cons_zero]); try simp only [Act.put, List.setIfInBounds_toArray, List.set_cons_zero, List.set_cons_succ])
      refine wpAnyH_take (i := 13) (oi := _) (v := ?v238) rfl (by kernel_rfl) (by kernel_rfl) (by kernel_rfl) (fun _ _ _ h => h) (Or.inl ⟨by rfl, ?hy238⟩) (by assumption) ?rest238
      case hy238 => ((intro w hSw; (try dsimp only at hSw); go_simp); try (with_reducible rfl))
      ((try dsimp only [List.getElem_toArray, List.getElem_cons_succ, List.getElem_cons_zero]); try simp only [Act.put, List.setIfInBounds_toArray, List.set_cons_zero, List.set_cons_succ])
      refine wpAnyH_take (i := 14) (oi := _) (v := ?v239) rfl (by kernel_rfl) (by kernel_rfl) (by kernel_rfl) (fun _ _ _ h => h) (Or.inl ⟨by rfl, ?hy239⟩) (by assumption) ?rest239
      case hy239 => ((intro w hSw; (try dsimp only at hSw); go_simp); try (with_reducible rfl))
      ((try dsimp only [List.getElem_toArray, List.getElem_cons_succ, List.getElem_cons_zero]); try simp only [Act.put, List.setIfInBounds_toArray, List.set_cons_zero, List.set_cons_succ])
      refine wpAnyH_take (i := 15) (oi := _) (v := ?v240) rfl (by kernel_rfl) (by kernel_rfl) (by kernel_rfl) (fun _ _ _ h => h) (Or.inl ⟨by rfl, ?hy240⟩) (by assumption) ?rest240
      case hy240 => ((intro w hSw; (try dsimp only at hSw); go_simp); try (with_reducible rfl))
      ((try dsimp only [List.getElem_toArray, List.getElem_cons_succ, List.getElem_cons_zero]); try simp only [Act.put, List.setIfInBounds_toArray, List.set_cons_zero, List.set_cons_succ])
      refine wpAnyH_take (i := 16) (oi := _) (v := ?v241) rfl (by kernel_rfl) (by kernel_rfl) (by kernel_rfl) (fun _ _ _ h => h) (Or.inl ⟨by rfl, ?hy241⟩) (by assumption) ?rest241
      case hy241 => ((intro w hSw; (try dsimp only at hSw); go_simp); try (with_reducible rfl))
      ((try dsimp only [List.getElem_toArray, List.getElem_cons_succ, List.getElem_cons_zero]); try simp only [Act.put, List.setIfInBounds_toArray, List.set_cons_zero, List.set_cons_succ])
      refine wpAnyH_take (i := 17) (oi := _) (v := ?v242) rfl (by kernel_rfl) (by kernel_rfl) (by kernel_rfl) (fun _ _ _ h => h) (Or.inl ⟨by rfl, ?hy242⟩) (by assumption) ?rest242
      case hy242 => ((intro w hSw; (try dsimp only at hSw); go_simp); try (with_reducible rfl))
      ((try dsimp only [List.getElem_toArray, List.getElem_cons_succ, List.getElem_cons_zero]); try simp only [Act.put, List.setIfInBounds_toArray, List.set_cons_zero, List.set_cons_succ])
      refine wpAnyH_take (i := 18) (oi := _) (v := ?v243) rfl (by kernel_rfl) (by kernel_rfl) (by kernel_rfl) (fun _ _ _ h => h) (Or.inl ⟨by rfl, ?hy243⟩) (by assumption) ?rest243
      case hy243 => ((intro w hSw; (try dsimp only at hSw); go_simp); try (with_reducible rfl))
      ((try dsimp only [List.getElem_toArray, List.getElem_cons_succ, List.getElem_cons_zero]); try simp only [Act.put, List.setIfInBounds_toArray, List.set_cons_zero, List.set_cons_succ])
      refine wpAnyH_take (i := 19) (oi := _) (v := ?v244) rfl (by kernel_rfl) (by kernel_rfl) (by kernel_rfl) (fun _ _ _ h => h) (Or.inl ⟨by rfl, ?hy244⟩) (by assumption) ?rest244
      case hy244 => ((intro w hSw; (try dsimp only at hSw); go_simp); try (with_reducible rfl))
      ((try dsimp only [List.getElem_toArray, List.getElem_cons_succ, List.getElem_cons_zero]); try simp only [Act.put, List.setIfInBounds_toArray, List.set_cons_zero, List.set_cons_succ])
      refine wpAnyH_ready (rs := [20]) (by kernel_rfl) (by simp) ?_
      refine AllReadyH.cons (o := _) rfl (fun K hK => ?_) AllReadyH.nil
      go_simp
      ( with_reducible refine (C3.out _).mono ?_); rintro e v1 ⟨rfl, g1⟩; have TP : Three v1 (w2.heap.size) (.bool ppa) (.string ppx) (.string ppy) 49 := Three.kept (by assumption) g1; have TQ : Three v1 (w3.heap.size) (.bool ppa) (.string ppx) (.string qqy) 49 := Three.kept (by assumption) g1; have TR : Three v1 (w4.heap.size) (.bool rra) (.string rrx) (.string rry) 49 := Three.kept (by assumption) g1; have GG : W.grownBy v1 none := gr_then (by assumption) g1
      refine hK.out _ _ ?_ (fun hHeld => ?_)
      · (try dsimp only); (first | exact ⟨Three.c0 (by assumption), Three.c1 (by assumption), Three.c2 (by assumption), Three.c0 (by assumption), Three.c1 (by assumption), Three.c2 (by assumption), Three.c0 (by assumption), Three.c1 (by assumption), Three.c2 (by assumption)⟩ | go_keep)
      clear hK K
      ((try dsimp only [List.getElem_toArray, List.getElem_cons_succ, List.getElem_cons_zero]); try simp only [Act.put, List.setIfInBounds_toArray, List.set_cons_zero, List.set_cons_succ])
      refine wpAnyH_take (i := 21) (oi := _) (v := ?v245) rfl (by kernel_rfl) (by kernel_rfl) (by kernel_rfl) (fun _ _ _ h => h) (Or.inl ⟨by rfl, ?hy245⟩) (by assumption) ?rest245
      case hy245 => ((intro w hSw; (try dsimp only at hSw); go_simp); try (with_reducible rfl))
      ((try dsimp only [List.getElem_toArray, List.getElem_cons_succ, List.getElem_cons_zero]); try simp only [Act.put, List.setIfInBounds_toArray, List.set_cons_zero, List.set_cons_succ])
      refine wpAnyH_take (i := 22) (oi := _) (v := ?v246) rfl (by kernel_rfl) (by kernel_rfl) (by kernel_rfl) (fun _ _ _ h => h) (Or.inl ⟨by rfl, ?hy246⟩) (by assumption) ?rest246
      case hy246 => ((intro w hSw; (try dsimp only at hSw); go_simp); try (with_reducible rfl))
      ((try dsimp only [List.getElem_toArray, List.getElem_cons_succ, List.getElem_cons_zero]); try simp only [Act.put, List.setIfInBounds_toArray, List.set_cons_zero, List.set_cons_succ])
      refine wpAnyH_take (i := 23) (oi := _) (v := ?v247) rfl (by kernel_rfl) (by kernel_rfl) (by kernel_rfl) (fun _ _ _ h => h) (Or.inl ⟨by rfl, ?hy247⟩) (by assumption) ?rest247
      case hy247 => ((intro w hSw; (try dsimp only at hSw); go_simp); try (with_reducible rfl))
      ((try dsimp only [List.getElem_toArray, List.getElem_cons_succ, List.getElem_cons_zero]); try simp only [Act.put, List.setIfInBounds_toArray, List.set_cons_zero, List.set_cons_succ])
      refine wpAnyH_take (i := 24) (oi := _) (v := _) rfl (by kernel_rfl) (by kernel_rfl) (by kernel_rfl) (fun _ _ _ h => h) (Or.inr ⟨by rfl, rfl⟩) (by assumption) ?rest248
      ((try dsimp only [List.getElem_toArray, List.getElem_cons_succ, List.getElem_cons_zero]); try simp only [Act.put, List.setIfInBounds_toArray, List.set_cons_zero, List.set_cons_succ])
      refine wpAnyH_take (i := 25) (oi := _) (v := _) rfl (by kernel_rfl) (by kernel_rfl) (by kernel_rfl) (fun _ _ _ h => h) (Or.inr ⟨by rfl, rfl⟩) (by assumption) ?rest249
      ((try dsimp only [List.getElem_toArray, List.getElem_cons_succ, List.getElem_cons_zero]); try simp only [Act.put, List.setIfInBounds_toArray, List.set_cons_zero, List.set_cons_succ])
      refine wpAnyH_take (i := 26) (oi := _) (v := _) rfl (by kernel_rfl) (by kernel_rfl) (by kernel_rfl) (fun _ _ _ h => h) (Or.inr ⟨by rfl, rfl⟩) (by assumption) ?rest250
      ((try dsimp only [List.getElem_toArray, List.getElem_cons_succ, List.getElem_cons_zero]); try simp only [Act.put, List.setIfInBounds_toArray, List.set_cons_zero, List.set_cons_succ])
      refine wpAnyH_take (i := 27) (oi := _) (v := _) rfl (by kernel_rfl) (by kernel_rfl) (by kernel_rfl) (fun _ _ _ h => h) (Or.inr ⟨by rfl, rfl⟩) (by assumption) ?rest251
      ((try dsimp only [List.getElem_toArray, List.getElem_cons_succ, List.getElem_cons_zero]); try simp only [Act.put, List.setIfInBounds_toArray, List.set_cons_zero, List.set_cons_succ])
      refine wpAnyH_take (i := 28) (oi := _) (v := ?v252) rfl (by kernel_rfl) (by kernel_rfl) (by kernel_rfl) (fun _ _ _ h => h) (Or.inl ⟨by rfl, ?hy252⟩) (by assumption) ?rest252
      case hy252 => ((intro w hSw; (try dsimp only at hSw); go_simp); try (with_reducible rfl))
      ((try dsimp only [List.getElem_toArray, List.getElem_cons_succ, List.getElem_cons_zero]); try simp only [Act.put, List.setIfInBounds_toArray, List.set_cons_zero, List.set_cons_succ])
      refine wpAnyH_take (i := 29) (oi := _) (v := ?v253) rfl (by kernel_rfl) (by kernel_rfl) (by kernel_rfl) (fun _ _ _ h => h) (Or.inl ⟨by rfl, ?hy253⟩) (by assumption) ?rest253
      case hy253 => ((intro w hSw; (try dsimp only at hSw); go_simp); try (with_reducible rfl))
      ((try dsimp only [List.getElem_toArray, List.getElem_cons_succ, List.getElem_cons_zero]); try simp only [Act.put, List.setIfInBounds_toArray, List.set_cons_zero, List.set_cons_succ])
      refine wpAnyH_take (i := 30) (oi := _) (v := ?v254) rfl (by kernel_rfl) (by kernel_rfl) (by kernel_rfl) (fun _ _ _ h => h) (Or.inl ⟨by rfl, ?hy254⟩) (by assumption) ?rest254
      case hy254 => ((intro w hSw; (try dsimp only at hSw); go_simp); try (with_reducible rfl))
      ((try dsimp only [List.getElem_toArray, List.getElem_cons_succ, List.getElem_cons_zero]); try simp only [Act.put, List.setIfInBounds_toArray, List.set_cons_zero, List.set_cons_succ])
      refine wpAnyH_take (i := 31) (oi := _) (v := ?v255) rfl (by kernel_rfl) (by kernel_rfl) (by kernel_rfl) (fun _ _ _ h => h) (Or.inl ⟨by rfl, ?hy255⟩) (by assumption) ?rest255
      case hy255 => ((intro w hSw; (try dsimp only at hSw); go_simp); try (with_reducible rfl))
      ((try dsimp only [List.getElem_toArray, List.getElem_cons_succ, List.getElem_cons_zero]); try simp only [Act.put, List.setIfInBounds_toArray, List.set_cons_zero, List.set_cons_succ])
      refine wpAnyH_take (i := 32) (oi := _) (v := ?v256) rfl (by kernel_rfl) (by kernel_rfl) (by kernel_rfl) (fun _ _ _ h => h) (Or.inl ⟨by rfl, ?hy256⟩) (by assumption) ?rest256
      case hy256 => ((intro w hSw; (try dsimp only at hSw); go_simp); try (with_reducible rfl))
      ((try dsimp only [List.getElem_toArray, List.getElem_cons_succ, List.getElem_cons_zero]); try simp only [Act.put, List.setIfInBounds_toArray, List.set_cons_zero, List.set_cons_succ])
      refine wpAnyH_take (i := 34) (oi := _) (v := ?v257) rfl (by kernel_rfl) (by kernel_rfl) (by kernel_rfl) (fun _ _ _ h => h) (Or.inl ⟨by rfl, ?hy257⟩) (by assumption) ?rest257
      case hy257 => ((intro w hSw; (try dsimp only at hSw); go_simp); try (with_reducible rfl))
      ((try dsimp only [List.getElem_toArray, List.getElem_cons_succ, List.getElem_cons_zero]); try simp only [Act.put, List.setIfInBounds_toArray, List.set_cons_zero, List.set_cons_succ])
      refine wpAnyH_take (i := 35) (oi := _) (v := ?v258) rfl (by kernel_rfl) (by kernel_rfl) (by kernel_rfl) (fun _ _ _ h => h) (Or.inl ⟨by rfl, ?hy258⟩) (by assumption) ?rest258
      case hy258 => ((intro w hSw; (try dsimp only at hSw); go_simp); try (with_reducible rfl))
      ((try dsimp only [List.getElem_toArray, List.getElem_cons_succ, List.getElem_cons_zero]); try simp only [Act.put, List.setIfInBounds_toArray, List.set_cons_zero, List.set_cons_succ])
      refine wpAnyH_take (i := 38) (oi := _) (v := ?v259) rfl (by kernel_rfl) (by kernel_rfl) (by kernel_rfl) (fun _ _ _ h => h) (Or.inl ⟨by rfl, ?hy259⟩) (by assumption) ?rest259
      case hy259 => ((intro w hSw; (try dsimp only at hSw); go_simp); try (with_reducible rfl))
      ((try dsimp only [List.getElem_toArray, List.getElem_cons_succ, List.getElem_cons_zero]); try simp only [Act.put, List.setIfInBounds_toArray, List.set_cons_zero, List.set_cons_succ])
      refine wpAnyH_ready (rs := [33]) (by kernel_rfl) (by simp) ?_
      refine AllReadyH.cons (o := _) rfl (fun K hK => ?_) AllReadyH.nil
      go_simp
      ( with_reducible refine (A1.out _).mono ?_); rintro e v1 ⟨rfl, g1⟩; have TP : Three v1 (w2.heap.size) (.bool ppa) (.string ppx) (.string ppy) 49 := Three.kept (by assumption) g1; have TQ : Three v1 (w3.heap.size) (.bool ppa) (.string ppx) (.string qqy) 49 := Three.kept (by assumption) g1; have TR : Three v1 (w4.heap.size) (.bool rra) (.string rrx) (.string rry) 49 := Three.kept (by assumption) g1; have GG : W.grownBy v1 none := gr_then (by assumption) g1
      refine hK.out _ _ ?_ (fun hHeld => ?_)
      · (try dsimp only); (first | exact ⟨Three.c0 (by assumption), Three.c1 (by assumption), Three.c2 (by assumption), Three.c0 (by assumption), Three.c1 (by assumption), Three.c2 (by assumption), Three.c0 (by assumption), Three.c1 (by assumption), Three.c2 (by assumption)⟩ | go_keep)
      clear hK K
      ((try dsimp only [List.getElem_toArray, List.getElem_cons_succ, List.getElem_cons_zero]); try simp only [Act.put, List.setIfInBounds_toArray, List.set_cons_zero, List.set_cons_succ])
      refine wpAnyH_ready (rs := [36]) (by kernel_rfl) (by simp) ?_
      refine AllReadyH.cons (o := _) rfl (fun K hK => ?_) AllReadyH.nil
      go_simp
      ( with_reducible refine (A2.out _).mono ?_); rintro e v1 ⟨rfl, g1⟩; have TP : Three v1 (w2.heap.size) (.bool ppa) (.string ppx) (.string ppy) 49 := Three.kept (by assumption) g1; have TQ : Three v1 (w3.heap.size) (.bool ppa) (.string ppx) (.string qqy) 49 := Three.kept (by assumption) g1; have TR : Three v1 (w4.heap.size) (.bool rra) (.string rrx) (.string rry) 49 := Three.kept (by assumption) g1; have GG : W.grownBy v1 none := gr_then (by assumption) g1
      refine hK.out _ _ ?_ (fun hHeld => ?_)
      · (try dsimp only); (first | exact ⟨Three.c0 (by assumption), Three.c1 (by assumption), Three.c2 (by assumption), Three.c0 (by assumption), Three.c1 (by assumption), Three.c2 (by assumption), Three.c0 (by assumption), Three.c1 (by assumption), Three.c2 (by assumption)⟩ | go_keep)
      clear hK K
      ((try dsimp only [List.getElem_toArray, List.getElem_cons_succ, List.getElem_cons_zero]); try simp only [Act.put, List.setIfInBounds_toArray, List.set_cons_zero, List.set_cons_succ])
      refine wpAnyH_ready (rs := [37]) (by kernel_rfl) (by simp) ?_
      refine AllReadyH.cons (o := _) rfl (fun K hK => ?_) AllReadyH.nil
      go_simp
      ( with_reducible refine (C5.out _).mono ?_); rintro e v1 ⟨rfl, g1⟩; have TP : Three v1 (w2.heap.size) (.bool ppa) (.string ppx) (.string ppy) 49 := Three.kept (by assumption) g1; have TQ : Three v1 (w3.heap.size) (.bool ppa) (.string ppx) (.string qqy) 49 := Three.kept (by assumption) g1; have TR : Three v1 (w4.heap.size) (.bool rra) (.string rrx) (.string rry) 49 := Three.kept (by assumption) g1; have GG : W.grownBy v1 none := gr_then (by assumption) g1
      refine hK.out _ _ ?_ (fun hHeld => ?_)
      · (try dsimp only); (first | exact ⟨Three.c0 (by assumption), Three.c1 (by assumption), Three.c2 (by assumption), Three.c0 (by assumption), Three.c1 (by assumption), Three.c2 (by assumption), Three.c0 (by assumption), Three.c1 (by assumption), Three.c2 (by assumption)⟩ | go_keep)
      clear hK K
      ((try dsimp only [List.getElem_toArray, List.getElem_cons_succ, List.getElem_cons_zero]); try simp only [Act.put, List.setIfInBounds_toArray, List.set_cons_zero, List.set_cons_succ])
      refine wpAnyH_take (i := 39) (oi := _) (v := ?v260) rfl (by kernel_rfl) (by kernel_rfl) (by kernel_rfl) (fun _ _ _ h => h) (Or.inl ⟨by rfl, ?hy260⟩) (by assumption) ?rest260
      case hy260 => ((intro w hSw; (try dsimp only at hSw); go_simp); try (with_reducible rfl))
      ((try dsimp only [List.getElem_toArray, List.getElem_cons_succ, List.getElem_cons_zero]); try simp only [Act.put, List.setIfInBounds_toArray, List.set_cons_zero, List.set_cons_succ])
      refine wpAnyH_take (i := 40) (oi := _) (v := ?v261) rfl (by kernel_rfl) (by kernel_rfl) (by kernel_rfl) (fun _ _ _ h => h) (Or.inl ⟨by rfl, ?hy261⟩) (by assumption) ?rest261
      case hy261 => ((intro w hSw; (try dsimp only at hSw); go_simp); try (with_reducible rfl))
      ((try dsimp only [List.getElem_toArray, List.getElem_cons_succ, List.getElem_cons_zero]); try simp only [Act.put, List.setIfInBounds_toArray, List.set_cons_zero, List.set_cons_succ])
      refine wpAnyH_take (i := 41) (oi := _) (v := ?v262) rfl (by kernel_rfl) (by kernel_rfl) (by kernel_rfl) (fun _ _ _ h => h) (Or.inl ⟨by rfl, ?hy262⟩) (by assumption) ?rest262
      case hy262 => ((intro w hSw; (try dsimp only at hSw); go_simp); try (with_reducible rfl))
      ((try dsimp only [List.getElem_toArray, List.getElem_cons_succ, List.getElem_cons_zero]); try simp only [Act.put, List.setIfInBounds_toArray, List.set_cons_zero, List.set_cons_succ])
      refine wpAnyH_done (by kernel_rfl) ?_ _
      have M0P : Three v1 (w2.heap.size) (.bool ppa) (.string ppx) (.string ppy) 49 := by assumption
      have M0Q : Three v1 (w3.heap.size) (.bool ppa) (.string ppx) (.string qqy) 49 := by assumption
      have M0R : Three v1 (w4.heap.size) (.bool rra) (.string rrx) (.string rry) 49 := by assumption
      have G40 : W.grownBy v1 none := by assumption
      go_wp2_with fail
      have M_P := M0P.drew
      have M_Q := M0Q.drew
      have M_R := M0R.drew
      have G4 := gr_dr G40
      go_region_held3 (fun w' => w'.cell? ⟨w2.heap.size, 0, none⟩ = some (.bool ppa) ∧ w'.cell? ⟨w2.heap.size, 1, none⟩ = some (.string ppx) ∧ w'.cell? ⟨w2.heap.size, 2, none⟩ = some (.string ppy) ∧ w'.cell? ⟨w3.heap.size, 0, none⟩ = some (.bool ppa) ∧ w'.cell? ⟨w3.heap.size, 1, none⟩ = some (.string ppx) ∧ w'.cell? ⟨w3.heap.size, 2, none⟩ = some (.string qqy) ∧ w'.cell? ⟨w4.heap.size, 0, none⟩ = some (.bool rra) ∧ w'.cell? ⟨w4.heap.size, 1, none⟩ = some (.string rrx) ∧ w'.cell? ⟨w4.heap.size, 2, none⟩ = some (.string rry)) (first | exact ⟨Three.c0 (by assumption), Three.c1 (by assumption), Three.c2 (by assumption), Three.c0 (by assumption), Three.c1 (by assumption), Three.c2 (by assumption), Three.c0 (by assumption), Three.c1 (by assumption), Three.c2 (by assumption)⟩ | go_keep)
        (first
        | (go_at_call 45; (first | with_reducible refine (M1.out _).mono ?_ | with_reducible refine (M2.out _).mono ?_); rintro e v1 ⟨rfl, g1⟩; have TP : Three v1 (w2.heap.size) (.bool ppa) (.string ppx) (.string ppy) 49 := Three.kept (by assumption) g1; have TQ : Three v1 (w3.heap.size) (.bool ppa) (.string ppx) (.string qqy) 49 := Three.kept (by assumption) g1; have TR : Three v1 (w4.heap.size) (.bool rra) (.string rrx) (.string rry) 49 := Three.kept (by assumption) g1; have GG : W.grownBy v1 none := gr_then (by assumption) g1)
        | (go_at_call 47; (first | with_reducible refine (C6.out _).mono ?_ | with_reducible refine (C7.out _).mono ?_); rintro e v1 ⟨rfl, g1⟩; have TP : Three v1 (w2.heap.size) (.bool ppa) (.string ppx) (.string ppy) 49 := Three.kept (by assumption) g1; have TQ : Three v1 (w3.heap.size) (.bool ppa) (.string ppx) (.string qqy) 49 := Three.kept (by assumption) g1; have TR : Three v1 (w4.heap.size) (.bool rra) (.string rrx) (.string rry) 49 := Three.kept (by assumption) g1; have GG : W.grownBy v1 none := gr_then (by assumption) g1)
        | (go_at_call 49; (first | with_reducible refine (S1.out _).mono ?_ | with_reducible refine (S2.out _).mono ?_ | with_reducible refine (S3.out _).mono ?_); rintro e v1 ⟨rfl, g1⟩; have TP : Three v1 (w2.heap.size) (.bool ppa) (.string ppx) (.string ppy) 49 := Three.kept (by assumption) g1; have TQ : Three v1 (w3.heap.size) (.bool ppa) (.string ppx) (.string qqy) 49 := Three.kept (by assumption) g1; have TR : Three v1 (w4.heap.size) (.bool rra) (.string rrx) (.string rry) 49 := Three.kept (by assumption) g1; have GG : W.grownBy v1 none := gr_then (by assumption) g1)
        | (go_at_call 43; (first | with_reducible refine (B1.out _).mono ?_); rintro e v1 ⟨rfl, g1⟩; have TP : Three v1 (w2.heap.size) (.bool ppa) (.string ppx) (.string ppy) 49 := Three.kept (by assumption) g1; have TQ : Three v1 (w3.heap.size) (.bool ppa) (.string ppx) (.string qqy) 49 := Three.kept (by assumption) g1; have TR : Three v1 (w4.heap.size) (.bool rra) (.string rrx) (.string rry) 49 := Three.kept (by assumption) g1; have GG : W.grownBy v1 none := gr_then (by assumption) g1)
        | (go_at_call 56; (first | with_reducible refine (OZ.out _).mono ?_); rintro e v1 ⟨rfl, g1⟩; have TP : Three v1 (w2.heap.size) (.bool ppa) (.string ppx) (.string ppy) 49 := Three.kept (by assumption) g1; have TQ : Three v1 (w3.heap.size) (.bool ppa) (.string ppx) (.string qqy) 49 := Three.kept (by assumption) g1; have TR : Three v1 (w4.heap.size) (.bool rra) (.string rrx) (.string rry) 49 := Three.kept (by assumption) g1; have GG : W.grownBy v1 none := gr_then (by assumption) g1))
      all_goals
        go_wp2
        go_ret
        exact ⟨rfl, by assumption⟩
    · have hyb : decide (y < 0) = false := by rw [decide_eq_false_iff_not]; omega
      have hxb := decide_eq_true hyx2
      go_region_held3 (fun w' => w'.cell? ⟨w2.heap.size, 0, none⟩ = some (.bool ppa) ∧ w'.cell? ⟨w2.heap.size, 1, none⟩ = some (.string ppx) ∧ w'.cell? ⟨w2.heap.size, 2, none⟩ = some (.string ppy) ∧ w'.cell? ⟨w3.heap.size, 0, none⟩ = some (.bool ppa) ∧ w'.cell? ⟨w3.heap.size, 1, none⟩ = some (.string ppx) ∧ w'.cell? ⟨w3.heap.size, 2, none⟩ = some (.string qqy) ∧ w'.cell? ⟨w4.heap.size, 0, none⟩ = some (.bool rra) ∧ w'.cell? ⟨w4.heap.size, 1, none⟩ = some (.string rrx) ∧ w'.cell? ⟨w4.heap.size, 2, none⟩ = some (.string rry)) (first | exact ⟨Three.c0 (by assumption), Three.c1 (by assumption), Three.c2 (by assumption), Three.c0 (by assumption), Three.c1 (by assumption), Three.c2 (by assumption), Three.c0 (by assumption), Three.c1 (by assumption), Three.c2 (by assumption)⟩ | go_keep)
        (first
        | (go_at_call 47; (first | with_reducible refine (C2.out _).mono ?_ | with_reducible refine (C3.out _).mono ?_ | with_reducible refine (C4.out _).mono ?_ | with_reducible refine (C5.out _).mono ?_); rintro e v1 ⟨rfl, g1⟩; have TP : Three v1 (w2.heap.size) (.bool ppa) (.string ppx) (.string ppy) 49 := Three.kept (by assumption) g1; have TQ : Three v1 (w3.heap.size) (.bool ppa) (.string ppx) (.string qqy) 49 := Three.kept (by assumption) g1; have TR : Three v1 (w4.heap.size) (.bool rra) (.string rrx) (.string rry) 49 := Three.kept (by assumption) g1; have GG : W.grownBy v1 none := gr_then (by assumption) g1)
        | (go_at_call 41; (first | with_reducible refine (A1.out _).mono ?_ | with_reducible refine (A2.out _).mono ?_); rintro e v1 ⟨rfl, g1⟩; have TP : Three v1 (w2.heap.size) (.bool ppa) (.string ppx) (.string ppy) 49 := Three.kept (by assumption) g1; have TQ : Three v1 (w3.heap.size) (.bool ppa) (.string ppx) (.string qqy) 49 := Three.kept (by assumption) g1; have TR : Three v1 (w4.heap.size) (.bool rra) (.string rrx) (.string rry) 49 := Three.kept (by assumption) g1; have GG : W.grownBy v1 none := gr_then (by assumption) g1))
      have M0P : Three v1 (w2.heap.size) (.bool ppa) (.string ppx) (.string ppy) 49 := by assumption
      have M0Q : Three v1 (w3.heap.size) (.bool ppa) (.string ppx) (.string qqy) 49 := by assumption
      have M0R : Three v1 (w4.heap.size) (.bool rra) (.string rrx) (.string rry) 49 := by assumption
      have G40 : W.grownBy v1 none := by assumption
      go_wp2_with fail
      have M_P := M0P.drew
      have M_Q := M0Q.drew
      have M_R := M0R.drew
      have G4 := gr_dr G40
      go_region_held3 (fun w' => w'.cell? ⟨w2.heap.size, 0, none⟩ = some (.bool ppa) ∧ w'.cell? ⟨w2.heap.size, 1, none⟩ = some (.string ppx) ∧ w'.cell? ⟨w2.heap.size, 2, none⟩ = some (.string ppy) ∧ w'.cell? ⟨w3.heap.size, 0, none⟩ = some (.bool ppa) ∧ w'.cell? ⟨w3.heap.size, 1, none⟩ = some (.string ppx) ∧ w'.cell? ⟨w3.heap.size, 2, none⟩ = some (.string qqy) ∧ w'.cell? ⟨w4.heap.size, 0, none⟩ = some (.bool rra) ∧ w'.cell? ⟨w4.heap.size, 1, none⟩ = some (.string rrx) ∧ w'.cell? ⟨w4.heap.size, 2, none⟩ = some (.string rry)) (first | exact ⟨Three.c0 (by assumption), Three.c1 (by assumption), Three.c2 (by assumption), Three.c0 (by assumption), Three.c1 (by assumption), Three.c2 (by assumption), Three.c0 (by assumption), Three.c1 (by assumption), Three.c2 (by assumption)⟩ | go_keep)
        (first
        | (go_at_call 45; (first | with_reducible refine (M1.out _).mono ?_ | with_reducible refine (M2.out _).mono ?_); rintro e v1 ⟨rfl, g1⟩; have TP : Three v1 (w2.heap.size) (.bool ppa) (.string ppx) (.string ppy) 49 := Three.kept (by assumption) g1; have TQ : Three v1 (w3.heap.size) (.bool ppa) (.string ppx) (.string qqy) 49 := Three.kept (by assumption) g1; have TR : Three v1 (w4.heap.size) (.bool rra) (.string rrx) (.string rry) 49 := Three.kept (by assumption) g1; have GG : W.grownBy v1 none := gr_then (by assumption) g1)
        | (go_at_call 47; (first | with_reducible refine (C6.out _).mono ?_ | with_reducible refine (C7.out _).mono ?_); rintro e v1 ⟨rfl, g1⟩; have TP : Three v1 (w2.heap.size) (.bool ppa) (.string ppx) (.string ppy) 49 := Three.kept (by assumption) g1; have TQ : Three v1 (w3.heap.size) (.bool ppa) (.string ppx) (.string qqy) 49 := Three.kept (by assumption) g1; have TR : Three v1 (w4.heap.size) (.bool rra) (.string rrx) (.string rry) 49 := Three.kept (by assumption) g1; have GG : W.grownBy v1 none := gr_then (by assumption) g1)
        | (go_at_call 49; (first | with_reducible refine (S1.out _).mono ?_ | with_reducible refine (S2.out _).mono ?_ | with_reducible refine (S3.out _).mono ?_); rintro e v1 ⟨rfl, g1⟩; have TP : Three v1 (w2.heap.size) (.bool ppa) (.string ppx) (.string ppy) 49 := Three.kept (by assumption) g1; have TQ : Three v1 (w3.heap.size) (.bool ppa) (.string ppx) (.string qqy) 49 := Three.kept (by assumption) g1; have TR : Three v1 (w4.heap.size) (.bool rra) (.string rrx) (.string rry) 49 := Three.kept (by assumption) g1; have GG : W.grownBy v1 none := gr_then (by assumption) g1)
        | (go_at_call 43; (first | with_reducible refine (B1.out _).mono ?_); rintro e v1 ⟨rfl, g1⟩; have TP : Three v1 (w2.heap.size) (.bool ppa) (.string ppx) (.string ppy) 49 := Three.kept (by assumption) g1; have TQ : Three v1 (w3.heap.size) (.bool ppa) (.string ppx) (.string qqy) 49 := Three.kept (by assumption) g1; have TR : Three v1 (w4.heap.size) (.bool rra) (.string rrx) (.string rry) 49 := Three.kept (by assumption) g1; have GG : W.grownBy v1 none := gr_then (by assumption) g1)
        | (go_at_call 56; (first | with_reducible refine (OZ.out _).mono ?_); rintro e v1 ⟨rfl, g1⟩; have TP : Three v1 (w2.heap.size) (.bool ppa) (.string ppx) (.string ppy) 49 := Three.kept (by assumption) g1; have TQ : Three v1 (w3.heap.size) (.bool ppa) (.string ppx) (.string qqy) 49 := Three.kept (by assumption) g1; have TR : Three v1 (w4.heap.size) (.bool rra) (.string rrx) (.string rry) 49 := Three.kept (by assumption) g1; have GG : W.grownBy v1 none := gr_then (by assumption) g1))
      all_goals
        go_wp2
        go_ret
        exact ⟨rfl, by assumption⟩
end Go.Proofs.YteajpefbmiiioaaGreatDoor
namespace Go.Proofs.YteajpefbmiiioaaGreatDoor
open Go.RowKit Mth Go.Lib

theorem orderq_true (q0 q1 q2 q3 q4 q5 q6 q7 q8 : Int) (W : World) (htab : Tab W) (h0 : -9223372036854775808 ≤ q0 ∧ q0 ≤ 9223372036854775807) (h1 : -9223372036854775808 ≤ q1 ∧ q1 ≤ 9223372036854775807) (h2 : -9223372036854775808 ≤ q2 ∧ q2 ≤ 9223372036854775807) (h3 : -9223372036854775808 ≤ q3 ∧ q3 ≤ 9223372036854775807) (h4 : -9223372036854775808 ≤ q4 ∧ q4 ≤ 9223372036854775807) (h5 : -9223372036854775808 ≤ q5 ∧ q5 ≤ 9223372036854775807) (h6 : -9223372036854775808 ≤ q6 ∧ q6 ≤ 9223372036854775807) (h7 : -9223372036854775808 ≤ q7 ∧ q7 ≤ 9223372036854775807) (h8 : -9223372036854775808 ≤ q8 ∧ q8 ≤ 9223372036854775807) :
    Gives 11 #[.agg #[.int .i64 q0, .int .i64 q1, .int .i64 q2], .agg #[.int .i64 q3, .int .i64 q4, .int .i64 q5], .agg #[.int .i64 q6, .int .i64 q7, .int .i64 q8]] W (.bool true) := by
  obtain ⟨p, bp, mp⟩ := madeq_any q0 q1 q2 h0 h1 h2
  obtain ⟨q, bq, mq⟩ := madeq_any q3 q4 q5 h3 h4 h5
  obtain ⟨r, br, mr⟩ := madeq_any q6 q7 q8 h6 h7 h8
  rcases sgn_three (p - q) with h | h | h
  · exact order_N q0 q1 q2 q3 q4 q5 q6 q7 q8 W htab p q r bp bq br mp mq mr h
  · have e : p = q := cmpQ_eq.1 h
    subst e
    exact order_Z q0 q1 q2 q3 q4 q5 q6 q7 q8 W htab p r bp br mp mq mr
  · exact order_P q0 q1 q2 q3 q4 q5 q6 q7 q8 W htab p q r bp bq br mp mq mr h
end Go.Proofs.YteajpefbmiiioaaGreatDoor
namespace Go.Proofs.YteajpefbmiiioaaGreatDoor
open Go.ChangeShapes Go.WideShapes Go.ChangeAt Go.RowKit Mth

set_option maxRecDepth 1000000 in
theorem orderq_laid (os : Os) (args : Array Value) : laidMet Tryz.prog Rows.ratioOrderRow.laid ((laidWorld os).forCall (fun _ _ => 0) ⟨#[], args, []⟩).memory :=
  have h : LaidIn Tryz.prog ((laidWorld os).forCall (fun _ _ => 0) ⟨#[], args, []⟩).memory Rows.ratioOrderRow.laid [4, 5, 2] :=
    LaidIn.of_run [4, 5, 2] 8 (by kernel_rfl) (by kernel_rfl) (by kernel_rfl) (by kernel_rfl)
  h.met
theorem orderq_tab {w : World} (h : laidMet Tryz.prog Rows.ratioOrderRow.laid w) : Tab w :=
  Lib.tabIs_of_head (g := 2) (t := 178) (e := 96) (n := 20) (by kernel_rfl) (by kernel_rfl) (by kernel_rfl) (by kernel_rfl) (by kernel_rfl) (by kernel_rfl) (show laidMet Tryz.prog [("internal/strconv.uint64pow10", Lib.tabData .u64 Lib.pow10Tab)] w from h.tail.tail)

set_option maxRecDepth 1000000 in
set_option maxHeartbeats 4000000 in
theorem orderq_lifted (os : Os) (started : os.Started) (H : Type) (enc : TypeId × Value → H) :
    ReturnsInHanded {} Tryz.checked os 11 .any (fun w args => (Rows.ratioOrderSpec.pre enc Tryz.prog Tryz.f11 Rows.ratioOrderRow.domain false w args ∧ laidMet Tryz.prog Rows.ratioOrderRow.laid w) ∧ sizedMet enc Tryz.prog Tryz.f11 (OpenSpec.ofChange Rows.ratioOrderSpec) false w args)
      (Rows.ratioOrderSpec.post enc Tryz.prog Tryz.f11 false true false false) := by
  refine returnsInHanded_of_change_and (C := Tryz.checked) (X := fun w _ => laidMet Tryz.prog Rows.ratioOrderRow.laid w) (fun _ _ _ hh h => h.of_heap hh) own0 started (by kernel_rfl) Tryz.func11
    (ChangeSpec.witness_at (enc := enc) (C := Tryz.checked) (os := os) (X := fun w _ => laidMet Tryz.prog Rows.ratioOrderRow.laid w) false (laidWorld os) #[.agg #[.int .i64 0, .int .i64 0, .int .i64 0], .agg #[.int .i64 0, .int .i64 0, .int .i64 0], .agg #[.int .i64 0, .int .i64 0, .int .i64 0]] 8 rfl (by kernel_rfl) (by kernel_rfl) (by kernel_rfl) (by kernel_rfl) (by kernel_rfl) (orderq_laid os _)) ?_
  intro W base args ds gs before hval0 hW hcnd0 _ hL _
  have hval : ∀ (j : Nat) t v, Tryz.f11.params[j]? = some t → args[j]? = some v → Value.okWide Tryz.prog W .any base t v := hval0
  have hW' := hW
  obtain ⟨p, q, hA0, hV, rfl, hfz, hnd⟩ := hW
  have hA : DataW.TrodAll enc Tryz.prog W 0 (fun _ => true) true Tryz.f11.params.toList args.toList ds p := hA0
  rw [Tryz.params11] at hA hval
  obtain ⟨v0, v1, v2, d0, d1, d2, p0, p1, p2, rfl, rfl, rfl, h0, h1, h2⟩ := trodAll_three hA
  obtain ⟨rfl, rfl⟩ := trodVars_none hV
  clear hA0 hval0 hA
  simp only [List.append_nil] at hW'
  have k0 := hval 0 47 v0 rfl rfl
  have k1 := hval 1 47 v1 rfl rfl
  have k2 := hval 2 47 v2 rfl rfl
  obtain ⟨n0_0, n0_1, n0_2, rfl, w0_0, w0_1, w0_2⟩ := arr3_arg Tryz.underlying47 Tryz.underlying3 (by kernel_rfl) (by kernel_rfl) k0 h0
  obtain ⟨n1_0, n1_1, n1_2, rfl, w1_0, w1_1, w1_2⟩ := arr3_arg Tryz.underlying47 Tryz.underlying3 (by kernel_rfl) (by kernel_rfl) k1 h1
  obtain ⟨n2_0, n2_1, n2_2, rfl, w2_0, w2_1, w2_2⟩ := arr3_arg Tryz.underlying47 Tryz.underlying3 (by kernel_rfl) (by kernel_rfl) k2 h2
  refine (orderq_true n0_0 n0_1 n0_2 n1_0 n1_1 n1_2 n2_0 n2_1 n2_2 W (orderq_tab hL) (wf_i64 w0_0) (wf_i64 w0_1) (wf_i64 w0_2) (wf_i64 w1_0) (wf_i64 w1_1) (wf_i64 w1_2) (wf_i64 w2_0) (wf_i64 w2_1) (wf_i64 w2_2)).mono fun e W' ⟨he, hg⟩ => ?_
  subst he
  have hb : Below W.heap.size W W' := gr_low hg (Nat.le_refl _)
  have hlt : ∀ x ∈ p0 ++ p1 ++ p2, x.block < W.heap.size := fun x hx => by simpa using hW'.lt x hx
  have hl0 : ∀ x ∈ p0, x.block < W.heap.size := fun x hx => hlt x (by simp [hx])
  have hl1 : ∀ x ∈ p1, x.block < W.heap.size := fun x hx => hlt x (by simp [hx])
  have hl2 : ∀ x ∈ p2, x.block < W.heap.size := fun x hx => hlt x (by simp [hx])
  refine ⟨_, rfl, _, _, _, [], p0 ++ p1 ++ p2, [], hW', ?_, ?_, rfl, hb.frame _, fun h => by cases h⟩
  · exact trodAll_mk1 (shut_bool Tryz.underlying4 true)
  · have h3 := trodAll_mk3 (Below.trod laidOut0 (by kernel_rfl) (of_decide_eq_true (by kernel_rfl)) h0 hb hl0) (Below.trod laidOut0 (by kernel_rfl) (of_decide_eq_true (by kernel_rfl)) h1 hb hl1) (Below.trod laidOut0 (by kernel_rfl) (of_decide_eq_true (by kernel_rfl)) h2 hb hl2)
    rw [← List.append_assoc] at h3
    exact h3

theorem orderq_row : Rows.RatioOrderSaid :=
  OpenClaim.holds_of_wide 11 Tryz.f11 rfl rfl rfl rfl rfl rfl rfl ⟨rfl, rfl, rfl, rfl, rfl⟩ rfl rfl rfl rfl rfl (by kernel_rfl) Tryz.func11 (by kernel_rfl)
    (of_decide_eq_true (by kernel_rfl)) (by unfold Func.isWrapper; first | (rw [if_pos (by decide +kernel)]; kernel_rfl) | (rw [if_neg (by decide +kernel)]; exact ⟨rfl, rfl⟩))
    (fun os started H enc _ => orderq_lifted os started H enc)
end Go.Proofs.YteajpefbmiiioaaGreatDoor
