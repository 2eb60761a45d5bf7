/- The law of the claim at the level of the call, and its row: Rx, Rfield, RfieldRow. -/
import Derived.Test.YtiblphfoenhgeaaGreatDoorBRsums0
namespace Go.Proofs.YtiblphfoenhgeaaGreatDoor
open Go.RowKit Mth Go.Lib

theorem bd_fold {k : Nat} : ∀ (qs : List Rat) (p : Rat) (j : Nat), Bd j p → (∀ q ∈ qs, Bd k q) → Bd (j + (k + 1) * qs.length) (qs.foldl (· + ·) p)
  | [], p, j, h, _ => by simpa using h
  | q :: qs, p, j, h, hb => by
    have := bd_fold qs (p + q) (j + k + 1) (bd_add h (hb q (by simp))) (fun x hx => hb x (by simp [hx]))
    rw [List.foldl_cons, List.length_cons, show j + (k + 1) * (qs.length + 1) = j + k + 1 + (k + 1) * qs.length from by rw [Nat.mul_succ]; omega]
    exact this
set_option maxHeartbeats 2000000 in
set_option maxRecDepth 100000 in
theorem fold2_any (qs : List Rat) (k g o c : Nat) (w : World) (hr : Rats w g o qs) (hb : ∀ q ∈ qs, Bd k q) (hk : 1 + (k + 1) * qs.length ≤ 900) (hk2 : k ≤ 900) (hn : qs.length ≤ 1000) :
    Gives 111 #[.slice (some ⟨g, o, none⟩) qs.length c, RV 0, .func (.func 105) #[] #[]] w (RV (qs.foldl (· + ·) 0)) := by
  have HR := Lib.hid hr
  have HB := Lib.hid hb
  have HN := Lib.hid hn
  have HK := Lib.hid hk
  have HSUM := Lib.hid (fun (j : Nat) (hj : j < qs.length) w => sumq_any ((qs.take j).foldl (· + ·) 0) qs[j] 900 w (bd_mono (bd_fold (k := k) (qs.take j) 0 1 (bd1 (by decide) (by decide)) (fun q hq => hb q (List.mem_of_mem_take hq))) (by
    have : (k + 1) * (qs.take j).length ≤ (k + 1) * qs.length := Nat.mul_le_mul_left _ (by rw [List.length_take]; omega)
    omega)) (bd_mono (hb _ (List.getElem_mem hj)) hk2) (by decide))
  clear hr hb hk hk2
  obtain ⟨F, hF0, hFs, hFn, hFt⟩ : ∃ F : Nat → Rat, F 0 = 0 ∧ (∀ j (h : j < qs.length), F j + qs[j] = F (j + 1)) ∧ F qs.length = qs.foldl (· + ·) 0 ∧ ∀ j, (qs.take j).foldl (· + ·) 0 = F j :=
    ⟨fun j => (qs.take j).foldl (· + ·) 0, rfl, fun j h => by show (qs.take j).foldl (· + ·) 0 + qs[j] = (qs.take (j + 1)).foldl (· + ·) 0; rw [← List.take_append_getElem h, List.foldl_append]; rfl, by show (qs.take qs.length).foldl (· + ·) 0 = _; rw [List.take_length], fun j => rfl⟩
  have HS2 := Lib.hid (fun (j : Nat) (hj : j < qs.length) w => (by have h := HSUM.out j hj w; rw [hFt, hFs j hj] at h; exact h : Gives 105 #[RV (F j), RV qs[j]] w (RV (F (j + 1)))))
  rw [← hFn]
  have hz : RV 0 = .agg #[.bool (decide ((F 0).num < 0)), .string (S (F 0).num.natAbs), .string (S (F 0).den)] := by rw [hF0]; rfl
  rw [hz]
  clear hz HSUM hFt hFs hFn hF0
  have T0 := (Three.new w (.bool (decide ((F 0).num < 0))) (.string (S (F 0).num.natAbs)) (.string (S (F 0).den)) 49).alloc (.cells #[.bool false, .string ⟨#[]⟩, .string ⟨#[]⟩] 49)
  have U0 := Three.new1 w (.cells #[.bool (decide ((F 0).num < 0)), .string (S (F 0).num.natAbs), .string (S (F 0).den)] 49) (.bool false) (.string ⟨#[]⟩) (.string ⟨#[]⟩) 49
  have G0 := gr_al (o := .cells #[.bool false, .string ⟨#[]⟩, .string ⟨#[]⟩] 49) (gr_al (o := .cells #[.bool (decide ((F 0).num < 0)), .string (S (F 0).num.natAbs), .string (S (F 0).den)] 49) (gr_rfl w))
  have HT0 := Lib.hid T0
  have HU0 := Lib.hid U0
  have HG0 := Lib.hid G0
  clear T0 U0 G0
  have n01 : w.heap.size ≠ w.heap.size + 1 := by omega
  have n10 : w.heap.size + 1 ≠ w.heap.size := by omega
  unfold RV RW at *
  go_enter Tryz.func111, Tryz.ntmps111
  go_wp2
  go_loopw [11] (fun u wr => ∃ j : Nat, j ≤ qs.length ∧ u = .int .i64 j ∧ Three wr w.heap.size (.bool (decide ((F j).num < 0))) (.string (S (F j).num.natAbs)) (.string (S (F j).den)) 49 ∧ Three wr (w.heap.size + 1) (.bool false) (.string ⟨#[]⟩) (.string ⟨#[]⟩) 49 ∧ w.grownBy wr none) (fun u _ => qs.length - (RowKit.intOf u).toNat)
  case atStart => exact ⟨0, Nat.zero_le _, rfl, HT0.out, HU0.out, HG0.out⟩
  case round =>
    obtain ⟨j, hj, rfl, T1, U1, G1⟩ := hrel
    by_cases hlt : j < qs.length
    · obtain ⟨c0, c1, c2⟩ := HR.out.kept G1 j hlt
      have hb1 : (j : Int) < (qs.length : Int) := by omega
      have HV := Lib.hid (HS2.out j hlt)
      have T2 := T1.alloc (.cells #[.bool (decide (qs[j].num < 0)), .string (S qs[j].num.natAbs), .string (S qs[j].den)] 49)
      have U2 := U1.alloc (.cells #[.bool (decide (qs[j].num < 0)), .string (S qs[j].num.natAbs), .string (S qs[j].den)] 49)
      have G2 := gr_al (o := .cells #[.bool (decide (qs[j].num < 0)), .string (S qs[j].num.natAbs), .string (S qs[j].den)] 49) G1
      have a0 := T2.c0
      have a1 := T2.c1
      have a2 := T2.c2
      have b0 := T1.c0
      have b1 := T1.c1
      have b2 := T1.c2
      go_wp2_with fail
      refine (HV.out _).mono ?_
      rintro e w1 ⟨rfl, g1⟩
      have T3 := T2.kept g1
      have HT3 := Lib.hid T3
      have HU3 := Lib.hid (U2.kept g1)
      have HG3 := Lib.hid (gr_then G2 g1)
      have k0 := T3.c0
      have k1 := T3.c1
      have k2 := T3.c2
      have f0 := T3.fr 0
      have f1 := T3.fr 1
      have f2 := T3.fr 2
      clear T3 T2 U2 G2 g1 T1 U1 G1 c0 c1 c2 a0 a1 a2 b0 b1 b2
      go_wp2
      exact ⟨⟨j + 1, by omega, by go_num, HT3.out.all _ _ _, HU3.out.oth3 n10 _ _ _, gr_set3 HG3.out (Nat.le_refl _) _ _ _⟩, by simp [RowKit.intOf]; omega⟩
    · obtain rfl : j = qs.length := by omega
      have HG := Lib.hid G1
      have a0 := T1.c0
      have a1 := T1.c1
      have a2 := T1.c2
      have k0 := U1.c0
      have k1 := U1.c1
      have k2 := U1.c2
      have f0 := U1.fr 0
      have f1 := U1.fr 1
      have f2 := U1.fr 2
      clear G1
      go_wp2
      exact bodyPost_ret (v := .agg #[.bool (decide ((F qs.length).num < 0)), .string (S (F qs.length).num.natAbs), .string (S (F qs.length).den)]) (by simp [results, Tryz.results111, go_sem, k0, k1, k2]) rfl ⟨rfl, gr_set3 HG.out (Nat.le_succ _) _ _ _⟩
set_option maxHeartbeats 2000000 in
set_option maxRecDepth 100000 in
theorem sumlist_any (qs : List Rat) (k g o c : Nat) (w : World) (hr : Rats w g o qs) (hb : ∀ q ∈ qs, Bd k q) (hk : 1 + (k + 1) * qs.length ≤ 900) (hk2 : k ≤ 900) (hn : qs.length ≤ 1000) :
    Gives 59 #[.slice (some ⟨g, o, none⟩) qs.length c] w (RV (qs.foldl (· + ·) 0)) := by
  have T0 := (Three.new w (.bool false) (.string ⟨#[]⟩) (.string ⟨#[]⟩) 49).alloc (.cells #[.bool false] 118)
  have G0 := gr_al (o := .cells #[.bool false] 118) (gr_al (o := .cells #[.bool false, .string ⟨#[]⟩, .string ⟨#[]⟩] 49) (gr_rfl w))
  have HM := Lib.hid (fun pb => mappedv_any qs k g o c pb 0 _ (hr.kept G0) hb (by omega) hn)
  have HF := Lib.hid (fun m w hr => fold2_any qs k m 0 qs.length w hr hb hk hk2 hn)
  have HW := Lib.hid (fun w => whole_any false 0 w)
  have hz : RW false 0 1 = RV 0 := rfl
  rw [hz] at HW
  have HT0 := Lib.hid T0
  have HG0 := Lib.hid G0
  clear T0 G0 hr hb hk hk2 hz
  rw [s_zero] at HW
  generalize hX : RV 0 = X at *
  have HX := Lib.hid hX
  clear hX
  obtain ⟨ya, yx, yy, hy⟩ : ∃ a x y, RV (qs.foldl (· + ·) 0) = .agg #[.bool a, .string x, .string y] := ⟨_, _, _, rfl⟩
  rw [hy] at HF ⊢
  clear hy
  go_enter Tryz.func59, Tryz.ntmps59
  go_wp2_with fail
  refine (HM.out _).mono ?_
  rintro e w1 ⟨m1, rfl, B1, hm1, g1⟩
  have T1 := HT0.out.kept g1
  have R1 := Lib.hid B1.rats
  have G1 := Lib.hid (gr_then HG0.out g1)
  clear g1 B1
  go_wp2_with fail
  refine (HW.out _).mono ?_
  rintro e w2 ⟨rfl, g2⟩
  have T2 := T1.kept g2
  have R2 := Lib.hid (R1.out.kept g2)
  have G2 := Lib.hid (gr_then G1.out g2)
  clear g2 T1
  go_wp2_with fail
  refine (HF.out m1 _ R2.out).mono ?_
  rintro e w3 ⟨rfl, g3⟩
  have T3 := T2.kept g3
  have G3 := Lib.hid (gr_then G2.out g3)
  have k0 := T3.c0
  have k1 := T3.c1
  have k2 := T3.c2
  have f0 := T3.fr 0
  have f1 := T3.fr 1
  have f2 := T3.fr 2
  clear g3 T2
  go_wp2
  exact bodyPost_ret (v := .agg #[.bool ya, .string yx, .string yy]) (by simp [results, Tryz.results59, go_sem, k0, k1, k2]) rfl ⟨rfl, gr_set3 G3.out (Nat.le_refl _) _ _ _⟩
end Go.Proofs.YtiblphfoenhgeaaGreatDoor
namespace Go.Proofs.YtiblphfoenhgeaaGreatDoor
open Go.RowKit Mth Go.Lib

theorem rv_parts' (q : Rat) : ∃ (a : Bool) (x y : ByteArray), RV q = .agg #[.bool a, .string x, .string y] := ⟨_, _, _, rfl⟩
theorem fields2 {a b : Bool} {pn qn pd qd : ByteArray} (h : ¬ Value.agg #[.bool a, .string pn, .string pd] = .agg #[.bool b, .string qn, .string qd]) : ¬ a = b ∨ (a = b ∧ ¬ pn.toList = qn.toList) ∨ (a = b ∧ pn = qn ∧ ¬ pd.toList = qd.toList) := fields h
theorem quo_case (p q : Rat) (h1 : Bd 16 p) (h2 : Bd 16 q) : ∃ (a : Bool) (x y : ByteArray) (o : Bool), (∀ w, Gives 39 #[RV p, RV q] w (.tuple #[.agg #[.bool a, .string x, .string y], .bool o])) ∧ ((o = false ∧ RV q = RV 0) ∨ (o = true ∧ ¬ RV q = RV 0 ∧ ∀ w, Gives 45 #[.agg #[.bool a, .string x, .string y], RV q] w (RV p))) := by
  by_cases h : q = 0
  · exact ⟨_, _, _, _, fun w => quoq_zero p q 16 w h h1 h2 (by decide), .inl ⟨rfl, by rw [h]⟩⟩
  · refine ⟨_, _, _, _, fun w => quoq_dev p q 16 w h h1 h2 (by decide), .inr ⟨rfl, fun e => h (rv_inj e), fun w => ?_⟩⟩
    have hb : Bd 32 (p / q) := by rw [Rat.div_def]; exact bd_mul h1 (bd_inv h2 h)
    have := mulq_any (p / q) q 32 w hb (bd_mono h2 (by decide)) (by decide)
    rwa [Rat.div_mul_cancel h] at this
theorem sum3_any (p q r : Rat) (g : Nat) (w : World) (h1 : Bd 16 p) (h2 : Bd 16 q) (h3 : Bd 16 r) (hr : Rats w g 0 [p, q, r]) : Gives 59 #[.slice (some ⟨g, 0, none⟩) 3 3] w (RV (p + q + r)) := by
  have h := sumlist_any [p, q, r] 16 g 0 3 w hr (by intro x hx; simp only [List.mem_cons, List.not_mem_nil, or_false] at hx; rcases hx with rfl | rfl | rfl <;> assumption) (show 1 + (16 + 1) * 3 ≤ 900 by decide) (by decide) (show 3 ≤ 1000 by decide)
  have e : [p, q, r].foldl (· + ·) 0 = p + q + r := by show 0 + p + q + r = _; rw [Rat.zero_add]
  rw [e] at h
  exact h
set_option maxHeartbeats 16000000 in
set_option maxRecDepth 100000 in
theorem fieldq_true (q0 q1 q2 q3 q4 q5 q6 q7 q8 : Int) (W : World) (htab : Tab W) (h0 : -9223372036854775808 ≤ q0 ∧ q0 ≤ 9223372036854775807) (h1 : -9223372036854775808 ≤ q1 ∧ q1 ≤ 9223372036854775807) (h2 : -9223372036854775808 ≤ q2 ∧ q2 ≤ 9223372036854775807) (h3 : -9223372036854775808 ≤ q3 ∧ q3 ≤ 9223372036854775807) (h4 : -9223372036854775808 ≤ q4 ∧ q4 ≤ 9223372036854775807) (h5 : -9223372036854775808 ≤ q5 ∧ q5 ≤ 9223372036854775807) (h6 : -9223372036854775808 ≤ q6 ∧ q6 ≤ 9223372036854775807) (h7 : -9223372036854775808 ≤ q7 ∧ q7 ≤ 9223372036854775807) (h8 : -9223372036854775808 ≤ q8 ∧ q8 ≤ 9223372036854775807) :
    Gives 10 #[.agg #[.int .i64 q0, .int .i64 q1, .int .i64 q2], .agg #[.int .i64 q3, .int .i64 q4, .int .i64 q5], .agg #[.int .i64 q6, .int .i64 q7, .int .i64 q8]] W (.bool true) := by
  obtain ⟨p, bp, mp⟩ := madeq_any q0 q1 q2 h0 h1 h2
  obtain ⟨q, bq, mq⟩ := madeq_any q3 q4 q5 h3 h4 h5
  obtain ⟨r, br, mr⟩ := madeq_any q6 q7 q8 h6 h7 h8
  clear h0 h1 h2 h3 h4 h5 h6 h7 h8
  unfold MadeQ at mp mq mr
  have MP := Lib.hid mp
  have MQ := Lib.hid mq
  have MR := Lib.hid mr
  clear mp mq mr
  have HS0 := Lib.hid (sanityq_true)
  have HT := Lib.hid htab
  clear htab
  have b0 : Bd 40 (0 : Rat) := bd_mono (bd1 (by decide) (by decide)) (by decide)
  have b1 : Bd 40 (1 : Rat) := bd_mono (bd1 (by decide) (by decide)) (by decide)
  have cp := bd_mono bp (by decide : 16 ≤ 40)
  have cq := bd_mono bq (by decide : 16 ≤ 40)
  have cr := bd_mono br (by decide : 16 ≤ 40)
  have OZ := Lib.hid (fun w => ofq_nat 0 w (by decide))
  have OI := Lib.hid (fun w => ofq_nat 1 w (by decide))
  rw [show RW false 0 1 = RV 0 from rfl] at OZ
  rw [show RW false 1 1 = RV 1 from rfl] at OI
  have A1 := Lib.hid (fun w => addq_any (p) (q) 40 w cp cq (by decide))
  have A2 := Lib.hid (fun w => addq_any (q) (p) 40 w cq cp (by decide))
  rw [Rat.add_comm q p] at A2
  have M1 := Lib.hid (fun w => mulq_any (p) (q) 40 w cp cq (by decide))
  have M2 := Lib.hid (fun w => mulq_any (q) (p) 40 w cq cp (by decide))
  rw [Rat.mul_comm q p] at M2
  have A3 := Lib.hid (fun w => addq_any (p + q) (r) 40 w (bd_mono (bd_add bp bq) (by decide)) cr (by decide))
  have A4 := Lib.hid (fun w => addq_any (q) (r) 40 w cq cr (by decide))
  have A5 := Lib.hid (fun w => addq_any (p) (q + r) 40 w cp (bd_mono (bd_add bq br) (by decide)) (by decide))
  rw [← Rat.add_assoc p q r] at A5
  have M3 := Lib.hid (fun w => mulq_any (p * q) (r) 40 w (bd_mono (bd_mul bp bq) (by decide)) cr (by decide))
  have M4 := Lib.hid (fun w => mulq_any (q) (r) 40 w cq cr (by decide))
  have M5 := Lib.hid (fun w => mulq_any (p) (q * r) 40 w cp (bd_mono (bd_mul bq br) (by decide)) (by decide))
  rw [← Rat.mul_assoc p q r] at M5
  have M6 := Lib.hid (fun w => mulq_any (p) (q + r) 40 w cp (bd_mono (bd_add bq br) (by decide)) (by decide))
  have M7 := Lib.hid (fun w => mulq_any (p) (r) 40 w cp cr (by decide))
  have A6 := Lib.hid (fun w => addq_any (p * q) (p * r) 40 w (bd_mono (bd_mul bp bq) (by decide)) (bd_mono (bd_mul bp br) (by decide)) (by decide))
  rw [← Rat.mul_add p q r] at A6
  have A7 := Lib.hid (fun w => addq_any (p) (0) 40 w cp b0 (by decide))
  rw [Rat.add_zero p] at A7
  have M8 := Lib.hid (fun w => mulq_any (p) (1) 40 w cp b1 (by decide))
  rw [Rat.mul_one p] at M8
  have N1 := Lib.hid (fun w => negq_any p 16 w bp (by decide))
  have A8 := Lib.hid (fun w => addq_any (p) (-p) 40 w cp (bd_mono (bd_neg bp) (by decide)) (by decide))
  rw [Rat.add_neg_cancel p] at A8
  have B1 := Lib.hid (fun w => subq_any p q 16 w bp bq (by decide))
  have N2 := Lib.hid (fun w => negq_any q 16 w bq (by decide))
  have A9 := Lib.hid (fun w => addq_any (p) (-q) 40 w cp (bd_mono (bd_neg bq) (by decide)) (by decide))
  rw [← Rat.sub_eq_add_neg p q] at A9
  have HU := Lib.hid (fun g w (hr : Rats w g 0 [p, q, r]) => sum3_any p q r g w bp bq br hr)
  obtain ⟨da, dx, dy, dok, hq1, hq2⟩ := quo_case p q bp bq
  have HQ := Lib.hid hq1
  have HCASE := Lib.hid hq2
  clear hq1 hq2 bp bq br cp cq cr b0 b1
  have HRAT := Lib.hid (fun (w : World) (a b c : Bool) (x1 y1 x2 y2 x3 y3 : ByteArray) (e1 : RV p = .agg #[.bool a, .string x1, .string y1]) (e2 : RV q = .agg #[.bool b, .string x2, .string y2]) (e3 : RV r = .agg #[.bool c, .string x3, .string y3]) => (by
    intro i hi
    have hc : ∀ j, (w.alloc (.cells #[.bool a, .string x1, .string y1, .bool b, .string x2, .string y2, .bool c, .string x3, .string y3] 49)).cell? ⟨w.heap.size, j, none⟩ = (#[.bool a, .string x1, .string y1, .bool b, .string x2, .string y2, .bool c, .string x3, .string y3] : Array Value)[j]? := fun j => cell_of_row _ _ j _ _ (0, 0) (heap_alloc_new w _)
    rw [hc, hc, hc]
    unfold RV RW at e1 e2 e3
    simp only [Value.agg.injEq, Array.mk.injEq, List.cons.injEq, Value.bool.injEq, Value.string.injEq, and_true] at e1 e2 e3
    obtain ⟨rfl, rfl, rfl⟩ := e1
    obtain ⟨rfl, rfl, rfl⟩ := e2
    obtain ⟨rfl, rfl, rfl⟩ := e3
    match i, hi with
    | 0, _ => exact ⟨rfl, rfl, rfl⟩
    | 1, _ => exact ⟨rfl, rfl, rfl⟩
    | 2, _ => exact ⟨rfl, rfl, rfl⟩ : Rats (w.alloc (.cells #[.bool a, .string x1, .string y1, .bool b, .string x2, .string y2, .bool c, .string x3, .string y3] 49)) w.heap.size 0 [p, q, r]))
  obtain ⟨v1a, v1x, v1y, ev1⟩ := rv_parts' (p + q + r)
  obtain ⟨v2a, v2x, v2y, ev2⟩ := rv_parts' (p * q * r)
  obtain ⟨v3a, v3x, v3y, ev3⟩ := rv_parts' (p * (q + r))
  obtain ⟨v4a, v4x, v4y, ev4⟩ := rv_parts' (p * q)
  obtain ⟨v5a, v5x, v5y, ev5⟩ := rv_parts' (p * r)
  obtain ⟨v6a, v6x, v6y, ev6⟩ := rv_parts' (q * r)
  obtain ⟨v7a, v7x, v7y, ev7⟩ := rv_parts' (p + q)
  obtain ⟨v8a, v8x, v8y, ev8⟩ := rv_parts' (q + r)
  obtain ⟨v9a, v9x, v9y, ev9⟩ := rv_parts' (p - q)
  obtain ⟨n1a, n1x, n1y, en1⟩ := rv_parts' (-p)
  obtain ⟨n2a, n2x, n2y, en2⟩ := rv_parts' (-q)
  obtain ⟨za, zx, zy, ez⟩ := rv_parts' (0)
  obtain ⟨oa, ox, oy, eo⟩ := rv_parts' (1)
  obtain ⟨ppa, ppx, ppy, epp⟩ := rv_parts' (p)
  obtain ⟨qqa, qqx, qqy, eqq⟩ := rv_parts' (q)
  obtain ⟨rra, rrx, rry, err⟩ := rv_parts' (r)
  try simp only [ev1] at A1 A2 M1 M2 A3 A4 A5 M3 M4 M5 M6 M7 A6 A7 M8 N1 A8 B1 N2 A9 HU HQ HCASE MP MQ MR OZ OI
  try simp only [ev2] at A1 A2 M1 M2 A3 A4 A5 M3 M4 M5 M6 M7 A6 A7 M8 N1 A8 B1 N2 A9 HU HQ HCASE MP MQ MR OZ OI
  try simp only [ev3] at A1 A2 M1 M2 A3 A4 A5 M3 M4 M5 M6 M7 A6 A7 M8 N1 A8 B1 N2 A9 HU HQ HCASE MP MQ MR OZ OI
  try simp only [ev4] at A1 A2 M1 M2 A3 A4 A5 M3 M4 M5 M6 M7 A6 A7 M8 N1 A8 B1 N2 A9 HU HQ HCASE MP MQ MR OZ OI
  try simp only [ev5] at A1 A2 M1 M2 A3 A4 A5 M3 M4 M5 M6 M7 A6 A7 M8 N1 A8 B1 N2 A9 HU HQ HCASE MP MQ MR OZ OI
  try simp only [ev6] at A1 A2 M1 M2 A3 A4 A5 M3 M4 M5 M6 M7 A6 A7 M8 N1 A8 B1 N2 A9 HU HQ HCASE MP MQ MR OZ OI
  try simp only [ev7] at A1 A2 M1 M2 A3 A4 A5 M3 M4 M5 M6 M7 A6 A7 M8 N1 A8 B1 N2 A9 HU HQ HCASE MP MQ MR OZ OI
  try simp only [ev8] at A1 A2 M1 M2 A3 A4 A5 M3 M4 M5 M6 M7 A6 A7 M8 N1 A8 B1 N2 A9 HU HQ HCASE MP MQ MR OZ OI
  try simp only [ev9] at A1 A2 M1 M2 A3 A4 A5 M3 M4 M5 M6 M7 A6 A7 M8 N1 A8 B1 N2 A9 HU HQ HCASE MP MQ MR OZ OI
  try simp only [en1] at A1 A2 M1 M2 A3 A4 A5 M3 M4 M5 M6 M7 A6 A7 M8 N1 A8 B1 N2 A9 HU HQ HCASE MP MQ MR OZ OI
  try simp only [en2] at A1 A2 M1 M2 A3 A4 A5 M3 M4 M5 M6 M7 A6 A7 M8 N1 A8 B1 N2 A9 HU HQ HCASE MP MQ MR OZ OI
  try simp only [ez] at A1 A2 M1 M2 A3 A4 A5 M3 M4 M5 M6 M7 A6 A7 M8 N1 A8 B1 N2 A9 HU HQ HCASE MP MQ MR OZ OI
  try simp only [eo] at A1 A2 M1 M2 A3 A4 A5 M3 M4 M5 M6 M7 A6 A7 M8 N1 A8 B1 N2 A9 HU HQ HCASE MP MQ MR OZ OI
  try simp only [epp] at A1 A2 M1 M2 A3 A4 A5 M3 M4 M5 M6 M7 A6 A7 M8 N1 A8 B1 N2 A9 HU HQ HCASE MP MQ MR OZ OI
  try simp only [eqq] at A1 A2 M1 M2 A3 A4 A5 M3 M4 M5 M6 M7 A6 A7 M8 N1 A8 B1 N2 A9 HU HQ HCASE MP MQ MR OZ OI
  try simp only [err] at A1 A2 M1 M2 A3 A4 A5 M3 M4 M5 M6 M7 A6 A7 M8 N1 A8 B1 N2 A9 HU HQ HCASE MP MQ MR OZ OI
  have HRATS := Lib.hid (fun w => HRAT.out w _ _ _ _ _ _ _ _ _ epp eqq err)
  clear HRAT ev1 ev2 ev3 ev4 ev5 ev6 ev7 ev8 ev9 en1 en2 ez eo epp eqq err
  have P0 := ((Three.new W (.int .i64 q0) (.int .i64 q1) (.int .i64 q2) 47).alloc (.cells #[.int .i64 q3, .int .i64 q4, .int .i64 q5] 47)).alloc (.cells #[.int .i64 q6, .int .i64 q7, .int .i64 q8] 47)
  have X0 := (Three.new1 W (.cells #[.int .i64 q0, .int .i64 q1, .int .i64 q2] 47) (.int .i64 q3) (.int .i64 q4) (.int .i64 q5) 47).alloc (.cells #[.int .i64 q6, .int .i64 q7, .int .i64 q8] 47)
  have Y0 := Three.new2 W (.cells #[.int .i64 q0, .int .i64 q1, .int .i64 q2] 47) (.cells #[.int .i64 q3, .int .i64 q4, .int .i64 q5] 47) (.int .i64 q6) (.int .i64 q7) (.int .i64 q8) 47
  have G0 := Lib.hid (gr_al (o := (.cells #[.int .i64 q6, .int .i64 q7, .int .i64 q8] 47)) (gr_al (o := (.cells #[.int .i64 q3, .int .i64 q4, .int .i64 q5] 47)) (gr_al (o := (.cells #[.int .i64 q0, .int .i64 q1, .int .i64 q2] 47)) (gr_rfl W))))
  go_enter Tryz.func10, Tryz.ntmps10
  go_wp2_with fail
  refine (HS0.out _ (tab_gr HT.out G0.out)).mono ?_
  rintro e w1 ⟨rfl, g1⟩
  have P1 := P0.kept g1
  have X1 := X0.kept g1
  have Y1 := Y0.kept g1
  have G1 := Lib.hid (gr_then G0.out g1)
  have c0 := P1.c0
  have c1 := P1.c1
  have c2 := P1.c2
  clear g1 P0 X0 Y0 G0
  go_wp2_with fail
  refine (MP.out _).mono ?_
  rintro e w2 ⟨rfl, g1⟩
  have X1' := (X1.kept g1).alloc (.cells #[.bool ppa, .string ppx, .string ppy] 49)
  have Y1' := (Y1.kept g1).alloc (.cells #[.bool ppa, .string ppx, .string ppy] 49)
  have KP := Three.new w2 (.bool ppa) (.string ppx) (.string ppy) 49
  have G_w2 := Lib.hid (gr_al (o := (.cells #[.bool ppa, .string ppx, .string ppy] 49)) (gr_then G1.out g1))
  clear g1 X1 Y1 G1 P1 c0 c1 c2
  have X1 := X1'
  clear X1'
  have Y1 := Y1'
  clear Y1'
  have c0 := X1.c0
  have c1 := X1.c1
  have c2 := X1.c2
  go_wp2_with fail
  refine (MQ.out _).mono ?_
  rintro e w3 ⟨rfl, g1⟩
  have Y1' := (Y1.kept g1).alloc (.cells #[.bool qqa, .string qqx, .string qqy] 49)
  have KP' := (KP.kept g1).alloc (.cells #[.bool qqa, .string qqx, .string qqy] 49)
  have KQ := Three.new w3 (.bool qqa) (.string qqx) (.string qqy) 49
  have G_w3 := Lib.hid (gr_al (o := (.cells #[.bool qqa, .string qqx, .string qqy] 49)) (gr_then G_w2.out g1))
  clear g1 Y1 KP G_w2 X1 c0 c1 c2
  have Y1 := Y1'
  clear Y1'
  have KP := KP'
  clear KP'
  have c0 := Y1.c0
  have c1 := Y1.c1
  have c2 := Y1.c2
  go_wp2_with fail
  refine (MR.out _).mono ?_
  rintro e w4 ⟨rfl, g1⟩
  have KP' := (KP.kept g1).alloc (.cells #[.bool rra, .string rrx, .string rry] 49)
  have KQ' := (KQ.kept g1).alloc (.cells #[.bool rra, .string rrx, .string rry] 49)
  have KR := Three.new w4 (.bool rra) (.string rrx) (.string rry) 49
  have G_w4 := Lib.hid (gr_al (o := (.cells #[.bool rra, .string rrx, .string rry] 49)) (gr_then G_w3.out g1))
  clear g1 KP KQ G_w3 Y1 c0 c1 c2
  have KP := KP'
  clear KP'
  have KQ := KQ'
  clear KQ'
  go_wp2_with fail
  refine (OZ.out _).mono ?_
  rintro e w5 ⟨rfl, g1⟩
  have KP' := (KP.kept g1).alloc (.cells #[.bool za, .string zx, .string zy] 49)
  have KQ' := (KQ.kept g1).alloc (.cells #[.bool za, .string zx, .string zy] 49)
  have KR' := (KR.kept g1).alloc (.cells #[.bool za, .string zx, .string zy] 49)
  have KZ := Three.new w5 (.bool za) (.string zx) (.string zy) 49
  have G_w5 := Lib.hid (gr_al (o := (.cells #[.bool za, .string zx, .string zy] 49)) (gr_then G_w4.out g1))
  clear g1 KP KQ KR G_w4
  have KP := KP'
  clear KP'
  have KQ := KQ'
  clear KQ'
  have KR := KR'
  clear KR'
  go_wp2_with fail
  refine (OI.out _).mono ?_
  rintro e w6 ⟨rfl, g1⟩
  have KP' := (KP.kept g1).alloc (.cells #[.bool oa, .string ox, .string oy] 49)
  have KQ' := (KQ.kept g1).alloc (.cells #[.bool oa, .string ox, .string oy] 49)
  have KR' := (KR.kept g1).alloc (.cells #[.bool oa, .string ox, .string oy] 49)
  have KZ' := (KZ.kept g1).alloc (.cells #[.bool oa, .string ox, .string oy] 49)
  have KO := Three.new w6 (.bool oa) (.string ox) (.string oy) 49
  have G_w6 := Lib.hid (gr_al (o := (.cells #[.bool oa, .string ox, .string oy] 49)) (gr_then G_w5.out g1))
  clear g1 KP KQ KR KZ G_w5
  have KP := KP'
  clear KP'
  have KQ := KQ'
  clear KQ'
  have KR := KR'
  clear KR'
  have KZ := KZ'
  clear KZ'
  go_wp2_with fail
  have KPd := KP.drew
  have KQd := KQ.drew
  have KRd := KR.drew
  have KZd := KZ.drew
  have KOd := KO.drew
  have Gd := gr_dr G_w6.out
  go_region_held3 (fun w' => w'.cell? ⟨w2.heap.size, 0, none⟩ = some (.bool ppa) ∧ w'.cell? ⟨w2.heap.size, 1, none⟩ = some (.string ppx) ∧ w'.cell? ⟨w2.heap.size, 2, none⟩ = some (.string ppy) ∧ w'.cell? ⟨w3.heap.size, 0, none⟩ = some (.bool qqa) ∧ w'.cell? ⟨w3.heap.size, 1, none⟩ = some (.string qqx) ∧ w'.cell? ⟨w3.heap.size, 2, none⟩ = some (.string qqy) ∧ w'.cell? ⟨w4.heap.size, 0, none⟩ = some (.bool rra) ∧ w'.cell? ⟨w4.heap.size, 1, none⟩ = some (.string rrx) ∧ w'.cell? ⟨w4.heap.size, 2, none⟩ = some (.string rry) ∧ w'.cell? ⟨w5.heap.size, 0, none⟩ = some (.bool za) ∧ w'.cell? ⟨w5.heap.size, 1, none⟩ = some (.string zx) ∧ w'.cell? ⟨w5.heap.size, 2, none⟩ = some (.string zy) ∧ w'.cell? ⟨w6.heap.size, 0, none⟩ = some (.bool oa) ∧ w'.cell? ⟨w6.heap.size, 1, none⟩ = some (.string ox) ∧ w'.cell? ⟨w6.heap.size, 2, none⟩ = some (.string oy)) (first | exact ⟨Three.c0 (by assumption), Three.c1 (by assumption), Three.c2 (by assumption), Three.c0 (by assumption), Three.c1 (by assumption), Three.c2 (by assumption), Three.c0 (by assumption), Three.c1 (by assumption), Three.c2 (by assumption), Three.c0 (by assumption), Three.c1 (by assumption), Three.c2 (by assumption), Three.c0 (by assumption), Three.c1 (by assumption), Three.c2 (by assumption)⟩ | go_keep)
    (first
    | (go_at_call 41; (first | with_reducible refine (A1.out _).mono ?_ | with_reducible refine (A2.out _).mono ?_ | with_reducible refine (A3.out _).mono ?_ | with_reducible refine (A4.out _).mono ?_ | with_reducible refine (A5.out _).mono ?_); rintro e v1 ⟨rfl, g1⟩; have TP : Three v1 (w2.heap.size) (.bool ppa) (.string ppx) (.string ppy) 49 := Three.kept (by assumption) g1; have TQ : Three v1 (w3.heap.size) (.bool qqa) (.string qqx) (.string qqy) 49 := Three.kept (by assumption) g1; have TR : Three v1 (w4.heap.size) (.bool rra) (.string rrx) (.string rry) 49 := Three.kept (by assumption) g1; have TZ : Three v1 (w5.heap.size) (.bool za) (.string zx) (.string zy) 49 := Three.kept (by assumption) g1; have TO : Three v1 (w6.heap.size) (.bool oa) (.string ox) (.string oy) 49 := Three.kept (by assumption) g1; have GG : W.grownBy v1 none := gr_then (by assumption) g1)
    | (go_at_call 45; (first | with_reducible refine (M1.out _).mono ?_ | with_reducible refine (M2.out _).mono ?_ | with_reducible refine (M3.out _).mono ?_ | with_reducible refine (M4.out _).mono ?_ | with_reducible refine (M5.out _).mono ?_); rintro e v1 ⟨rfl, g1⟩; have TP : Three v1 (w2.heap.size) (.bool ppa) (.string ppx) (.string ppy) 49 := Three.kept (by assumption) g1; have TQ : Three v1 (w3.heap.size) (.bool qqa) (.string qqx) (.string qqy) 49 := Three.kept (by assumption) g1; have TR : Three v1 (w4.heap.size) (.bool rra) (.string rrx) (.string rry) 49 := Three.kept (by assumption) g1; have TZ : Three v1 (w5.heap.size) (.bool za) (.string zx) (.string zy) 49 := Three.kept (by assumption) g1; have TO : Three v1 (w6.heap.size) (.bool oa) (.string ox) (.string oy) 49 := Three.kept (by assumption) g1; have GG : W.grownBy v1 none := gr_then (by assumption) g1))
  have LP1 : Three v1 (w2.heap.size) (.bool ppa) (.string ppx) (.string ppy) 49 := by assumption
  have LQ1 : Three v1 (w3.heap.size) (.bool qqa) (.string qqx) (.string qqy) 49 := by assumption
  have LR1 : Three v1 (w4.heap.size) (.bool rra) (.string rrx) (.string rry) 49 := by assumption
  have LZ1 : Three v1 (w5.heap.size) (.bool za) (.string zx) (.string zy) 49 := by assumption
  have LO1 : Three v1 (w6.heap.size) (.bool oa) (.string ox) (.string oy) 49 := by assumption
  have GL1 : W.grownBy v1 none := by assumption
  go_wp2_with fail
  have KPe := LP1.drew
  have KQe := LQ1.drew
  have KRe := LR1.drew
  have KZe := LZ1.drew
  have KOe := LO1.drew
  have Ge := gr_dr GL1
  clear LP1 KP KPd LQ1 KQ KQd LR1 KR KRd LZ1 KZ KZd LO1 KO KOd GL1 Gd
  go_region_held3 (fun w' => w'.cell? ⟨w2.heap.size, 0, none⟩ = some (.bool ppa) ∧ w'.cell? ⟨w2.heap.size, 1, none⟩ = some (.string ppx) ∧ w'.cell? ⟨w2.heap.size, 2, none⟩ = some (.string ppy) ∧ w'.cell? ⟨w3.heap.size, 0, none⟩ = some (.bool qqa) ∧ w'.cell? ⟨w3.heap.size, 1, none⟩ = some (.string qqx) ∧ w'.cell? ⟨w3.heap.size, 2, none⟩ = some (.string qqy) ∧ w'.cell? ⟨w4.heap.size, 0, none⟩ = some (.bool rra) ∧ w'.cell? ⟨w4.heap.size, 1, none⟩ = some (.string rrx) ∧ w'.cell? ⟨w4.heap.size, 2, none⟩ = some (.string rry) ∧ w'.cell? ⟨w5.heap.size, 0, none⟩ = some (.bool za) ∧ w'.cell? ⟨w5.heap.size, 1, none⟩ = some (.string zx) ∧ w'.cell? ⟨w5.heap.size, 2, none⟩ = some (.string zy) ∧ w'.cell? ⟨w6.heap.size, 0, none⟩ = some (.bool oa) ∧ w'.cell? ⟨w6.heap.size, 1, none⟩ = some (.string ox) ∧ w'.cell? ⟨w6.heap.size, 2, none⟩ = some (.string oy)) (first | exact ⟨Three.c0 (by assumption), Three.c1 (by assumption), Three.c2 (by assumption), Three.c0 (by assumption), Three.c1 (by assumption), Three.c2 (by assumption), Three.c0 (by assumption), Three.c1 (by assumption), Three.c2 (by assumption), Three.c0 (by assumption), Three.c1 (by assumption), Three.c2 (by assumption), Three.c0 (by assumption), Three.c1 (by assumption), Three.c2 (by assumption)⟩ | go_keep)
    (first
    | (go_at_call 41; (first | with_reducible refine (A4.out _).mono ?_ | with_reducible refine (A6.out _).mono ?_ | with_reducible refine (A7.out _).mono ?_ | with_reducible refine (A8.out _).mono ?_); rintro e v1 ⟨rfl, g1⟩; have TP : Three v1 (w2.heap.size) (.bool ppa) (.string ppx) (.string ppy) 49 := Three.kept (by assumption) g1; have TQ : Three v1 (w3.heap.size) (.bool qqa) (.string qqx) (.string qqy) 49 := Three.kept (by assumption) g1; have TR : Three v1 (w4.heap.size) (.bool rra) (.string rrx) (.string rry) 49 := Three.kept (by assumption) g1; have TZ : Three v1 (w5.heap.size) (.bool za) (.string zx) (.string zy) 49 := Three.kept (by assumption) g1; have TO : Three v1 (w6.heap.size) (.bool oa) (.string ox) (.string oy) 49 := Three.kept (by assumption) g1; have GG : W.grownBy v1 none := gr_then (by assumption) g1)
    | (go_at_call 45; (first | with_reducible refine (M6.out _).mono ?_ | with_reducible refine (M1.out _).mono ?_ | with_reducible refine (M7.out _).mono ?_ | with_reducible refine (M8.out _).mono ?_); rintro e v1 ⟨rfl, g1⟩; have TP : Three v1 (w2.heap.size) (.bool ppa) (.string ppx) (.string ppy) 49 := Three.kept (by assumption) g1; have TQ : Three v1 (w3.heap.size) (.bool qqa) (.string qqx) (.string qqy) 49 := Three.kept (by assumption) g1; have TR : Three v1 (w4.heap.size) (.bool rra) (.string rrx) (.string rry) 49 := Three.kept (by assumption) g1; have TZ : Three v1 (w5.heap.size) (.bool za) (.string zx) (.string zy) 49 := Three.kept (by assumption) g1; have TO : Three v1 (w6.heap.size) (.bool oa) (.string ox) (.string oy) 49 := Three.kept (by assumption) g1; have GG : W.grownBy v1 none := gr_then (by assumption) g1)
    | (go_at_call 51; (first | with_reducible refine (N1.out _).mono ?_); rintro e v1 ⟨rfl, g1⟩; have TP : Three v1 (w2.heap.size) (.bool ppa) (.string ppx) (.string ppy) 49 := Three.kept (by assumption) g1; have TQ : Three v1 (w3.heap.size) (.bool qqa) (.string qqx) (.string qqy) 49 := Three.kept (by assumption) g1; have TR : Three v1 (w4.heap.size) (.bool rra) (.string rrx) (.string rry) 49 := Three.kept (by assumption) g1; have TZ : Three v1 (w5.heap.size) (.bool za) (.string zx) (.string zy) 49 := Three.kept (by assumption) g1; have TO : Three v1 (w6.heap.size) (.bool oa) (.string ox) (.string oy) 49 := Three.kept (by assumption) g1; have GG : W.grownBy v1 none := gr_then (by assumption) g1))
  have LP2 : Three v1 (w2.heap.size) (.bool ppa) (.string ppx) (.string ppy) 49 := by assumption
  have LQ2 : Three v1 (w3.heap.size) (.bool qqa) (.string qqx) (.string qqy) 49 := by assumption
  have LR2 : Three v1 (w4.heap.size) (.bool rra) (.string rrx) (.string rry) 49 := by assumption
  have LZ2 : Three v1 (w5.heap.size) (.bool za) (.string zx) (.string zy) 49 := by assumption
  have LO2 : Three v1 (w6.heap.size) (.bool oa) (.string ox) (.string oy) 49 := by assumption
  have GL2 : W.grownBy v1 none := by assumption
  have HG2 := Lib.hid GL2
  have c0 := LP2.c0
  have c1 := LP2.c1
  have c2 := LP2.c2
  have d0 := LQ2.c0
  have d1 := LQ2.c1
  have d2 := LQ2.c2
  go_wp2_with fail
  refine (HQ.out _).mono ?_
  rintro e w7 ⟨rfl, g1⟩
  have JP := ((LP2.kept g1).alloc (.cells #[.bool da, .string dx, .string dy] 49)).drew
  have JQ := ((LQ2.kept g1).alloc (.cells #[.bool da, .string dx, .string dy] 49)).drew
  have JR := ((LR2.kept g1).alloc (.cells #[.bool da, .string dx, .string dy] 49)).drew
  have JZ := ((LZ2.kept g1).alloc (.cells #[.bool da, .string dx, .string dy] 49)).drew
  have JO := ((LO2.kept g1).alloc (.cells #[.bool da, .string dx, .string dy] 49)).drew
  have JD := (Three.new w7 (.bool da) (.string dx) (.string dy) 49).drew
  have HG3 := Lib.hid (gr_dr (gr_al (o := (.cells #[.bool da, .string dx, .string dy] 49)) (gr_then HG2.out g1)))
  have G3 := HG3.out
  clear g1 c0 c1 c2 d0 d1 d2 HG2 GL2 Ge LP2 KPe LQ2 KQe LR2 KRe LZ2 KZe LO2 KOe
  have hcase := HCASE.out
  clear HCASE
  rcases hcase with ⟨rfl, heq⟩ | ⟨rfl, hne, hmd⟩
  · simp only [Value.agg.injEq, Array.mk.injEq, List.cons.injEq, Value.bool.injEq, Value.string.injEq, and_true] at heq
    obtain ⟨rfl, rfl, rfl⟩ := heq
    go_wp2_with fail
    have yQ0 := JQ.c0
    have yQ1 := JQ.c1
    have yQ2 := JQ.c2
    have yZ0 := JZ.c0
    have yZ1 := JZ.c1
    have yZ2 := JZ.c2
    go_region
    all_goals go_wp2_with fail
    have M_P := JP.drew
    have M_Q := JQ.drew
    have M_R := JR.drew
    have G4 := gr_dr G3
    go_region_held3 (fun w' => w'.cell? ⟨w2.heap.size, 0, none⟩ = some (.bool ppa) ∧ w'.cell? ⟨w2.heap.size, 1, none⟩ = some (.string ppx) ∧ w'.cell? ⟨w2.heap.size, 2, none⟩ = some (.string ppy) ∧ w'.cell? ⟨w3.heap.size, 0, none⟩ = some (.bool qqa) ∧ w'.cell? ⟨w3.heap.size, 1, none⟩ = some (.string qqx) ∧ w'.cell? ⟨w3.heap.size, 2, none⟩ = some (.string qqy) ∧ w'.cell? ⟨w4.heap.size, 0, none⟩ = some (.bool rra) ∧ w'.cell? ⟨w4.heap.size, 1, none⟩ = some (.string rrx) ∧ w'.cell? ⟨w4.heap.size, 2, none⟩ = some (.string rry)) (first | exact ⟨Three.c0 (by assumption), Three.c1 (by assumption), Three.c2 (by assumption), Three.c0 (by assumption), Three.c1 (by assumption), Three.c2 (by assumption), Three.c0 (by assumption), Three.c1 (by assumption), Three.c2 (by assumption)⟩ | go_keep)
      (first
      | (go_at_call 43; (first | with_reducible refine (B1.out _).mono ?_); rintro e v1 ⟨rfl, g1⟩; have TP : Three v1 (w2.heap.size) (.bool ppa) (.string ppx) (.string ppy) 49 := Three.kept (by assumption) g1; have TQ : Three v1 (w3.heap.size) (.bool qqa) (.string qqx) (.string qqy) 49 := Three.kept (by assumption) g1; have TR : Three v1 (w4.heap.size) (.bool rra) (.string rrx) (.string rry) 49 := Three.kept (by assumption) g1; have GG : W.grownBy v1 none := gr_then (by assumption) g1)
      | (go_at_call 51; (first | with_reducible refine (N2.out _).mono ?_); rintro e v1 ⟨rfl, g1⟩; have TP : Three v1 (w2.heap.size) (.bool ppa) (.string ppx) (.string ppy) 49 := Three.kept (by assumption) g1; have TQ : Three v1 (w3.heap.size) (.bool qqa) (.string qqx) (.string qqy) 49 := Three.kept (by assumption) g1; have TR : Three v1 (w4.heap.size) (.bool rra) (.string rrx) (.string rry) 49 := Three.kept (by assumption) g1; have GG : W.grownBy v1 none := gr_then (by assumption) g1)
      | (go_at_call 41; (first | with_reducible refine (A9.out _).mono ?_ | with_reducible refine (A1.out _).mono ?_ | with_reducible refine (A3.out _).mono ?_); rintro e v1 ⟨rfl, g1⟩; have TP : Three v1 (w2.heap.size) (.bool ppa) (.string ppx) (.string ppy) 49 := Three.kept (by assumption) g1; have TQ : Three v1 (w3.heap.size) (.bool qqa) (.string qqx) (.string qqy) 49 := Three.kept (by assumption) g1; have TR : Three v1 (w4.heap.size) (.bool rra) (.string rrx) (.string rry) 49 := Three.kept (by assumption) g1; have GG : W.grownBy v1 none := gr_then (by assumption) g1)
      | (go_at_call 59; (first | with_reducible refine (HU.out _ _ (HRATS.out _)).mono ?_); rintro e v1 ⟨rfl, g1⟩; have TP : Three v1 (w2.heap.size) (.bool ppa) (.string ppx) (.string ppy) 49 := Three.kept (Three.alloc (by assumption) _) g1; have TQ : Three v1 (w3.heap.size) (.bool qqa) (.string qqx) (.string qqy) 49 := Three.kept (Three.alloc (by assumption) _) g1; have TR : Three v1 (w4.heap.size) (.bool rra) (.string rrx) (.string rry) 49 := Three.kept (Three.alloc (by assumption) _) g1; have GG : W.grownBy v1 none := gr_then (gr_al (by assumption)) g1))
    all_goals
      go_wp2
      go_ret
      exact ⟨rfl, by assumption⟩
  · have HMD := Lib.hid hmd
    have hf := fields2 hne
    clear hmd hne
    rcases hf with hf | ⟨rfl, hf⟩ | ⟨rfl, rfl, hf⟩
    · go_wp2_with fail
      go_region_held3 (fun w' => w'.cell? ⟨w2.heap.size, 0, none⟩ = some (.bool ppa) ∧ w'.cell? ⟨w2.heap.size, 1, none⟩ = some (.string ppx) ∧ w'.cell? ⟨w2.heap.size, 2, none⟩ = some (.string ppy) ∧ w'.cell? ⟨w3.heap.size, 0, none⟩ = some (.bool qqa) ∧ w'.cell? ⟨w3.heap.size, 1, none⟩ = some (.string qqx) ∧ w'.cell? ⟨w3.heap.size, 2, none⟩ = some (.string qqy) ∧ w'.cell? ⟨w4.heap.size, 0, none⟩ = some (.bool rra) ∧ w'.cell? ⟨w4.heap.size, 1, none⟩ = some (.string rrx) ∧ w'.cell? ⟨w4.heap.size, 2, none⟩ = some (.string rry) ∧ w'.cell? ⟨w5.heap.size, 0, none⟩ = some (.bool za) ∧ w'.cell? ⟨w5.heap.size, 1, none⟩ = some (.string zx) ∧ w'.cell? ⟨w5.heap.size, 2, none⟩ = some (.string zy) ∧ w'.cell? ⟨w7.heap.size, 0, none⟩ = some (.bool da) ∧ w'.cell? ⟨w7.heap.size, 1, none⟩ = some (.string dx) ∧ w'.cell? ⟨w7.heap.size, 2, none⟩ = some (.string dy)) (first | exact ⟨Three.c0 (by assumption), Three.c1 (by assumption), Three.c2 (by assumption), Three.c0 (by assumption), Three.c1 (by assumption), Three.c2 (by assumption), Three.c0 (by assumption), Three.c1 (by assumption), Three.c2 (by assumption), Three.c0 (by assumption), Three.c1 (by assumption), Three.c2 (by assumption), Three.c0 (by assumption), Three.c1 (by assumption), Three.c2 (by assumption)⟩ | go_keep)
        (first
        | (go_at_call 45; (first | with_reducible refine (HMD.out _).mono ?_); rintro e v1 ⟨rfl, g1⟩; have TP : Three v1 (w2.heap.size) (.bool ppa) (.string ppx) (.string ppy) 49 := Three.kept (by assumption) g1; have TQ : Three v1 (w3.heap.size) (.bool qqa) (.string qqx) (.string qqy) 49 := Three.kept (by assumption) g1; have TR : Three v1 (w4.heap.size) (.bool rra) (.string rrx) (.string rry) 49 := Three.kept (by assumption) g1; have TZ : Three v1 (w5.heap.size) (.bool za) (.string zx) (.string zy) 49 := Three.kept (by assumption) g1; have TD : Three v1 (w7.heap.size) (.bool da) (.string dx) (.string dy) 49 := Three.kept (by assumption) g1; have GG : W.grownBy v1 none := gr_then (by assumption) g1))
      have M0P : Three v1 (w2.heap.size) (.bool ppa) (.string ppx) (.string ppy) 49 := by assumption
      have M0Q : Three v1 (w3.heap.size) (.bool qqa) (.string qqx) (.string qqy) 49 := by assumption
      have M0R : Three v1 (w4.heap.size) (.bool rra) (.string rrx) (.string rry) 49 := by assumption
      have G40 : W.grownBy v1 none := by assumption
      go_wp2_with fail
      have M_P := M0P.drew
      have M_Q := M0Q.drew
      have M_R := M0R.drew
      have G4 := gr_dr G40
      go_region_held3 (fun w' => w'.cell? ⟨w2.heap.size, 0, none⟩ = some (.bool ppa) ∧ w'.cell? ⟨w2.heap.size, 1, none⟩ = some (.string ppx) ∧ w'.cell? ⟨w2.heap.size, 2, none⟩ = some (.string ppy) ∧ w'.cell? ⟨w3.heap.size, 0, none⟩ = some (.bool qqa) ∧ w'.cell? ⟨w3.heap.size, 1, none⟩ = some (.string qqx) ∧ w'.cell? ⟨w3.heap.size, 2, none⟩ = some (.string qqy) ∧ w'.cell? ⟨w4.heap.size, 0, none⟩ = some (.bool rra) ∧ w'.cell? ⟨w4.heap.size, 1, none⟩ = some (.string rrx) ∧ w'.cell? ⟨w4.heap.size, 2, none⟩ = some (.string rry)) (first | exact ⟨Three.c0 (by assumption), Three.c1 (by assumption), Three.c2 (by assumption), Three.c0 (by assumption), Three.c1 (by assumption), Three.c2 (by assumption), Three.c0 (by assumption), Three.c1 (by assumption), Three.c2 (by assumption)⟩ | go_keep)
        (first
        | (go_at_call 43; (first | with_reducible refine (B1.out _).mono ?_); rintro e v1 ⟨rfl, g1⟩; have TP : Three v1 (w2.heap.size) (.bool ppa) (.string ppx) (.string ppy) 49 := Three.kept (by assumption) g1; have TQ : Three v1 (w3.heap.size) (.bool qqa) (.string qqx) (.string qqy) 49 := Three.kept (by assumption) g1; have TR : Three v1 (w4.heap.size) (.bool rra) (.string rrx) (.string rry) 49 := Three.kept (by assumption) g1; have GG : W.grownBy v1 none := gr_then (by assumption) g1)
        | (go_at_call 51; (first | with_reducible refine (N2.out _).mono ?_); rintro e v1 ⟨rfl, g1⟩; have TP : Three v1 (w2.heap.size) (.bool ppa) (.string ppx) (.string ppy) 49 := Three.kept (by assumption) g1; have TQ : Three v1 (w3.heap.size) (.bool qqa) (.string qqx) (.string qqy) 49 := Three.kept (by assumption) g1; have TR : Three v1 (w4.heap.size) (.bool rra) (.string rrx) (.string rry) 49 := Three.kept (by assumption) g1; have GG : W.grownBy v1 none := gr_then (by assumption) g1)
        | (go_at_call 41; (first | with_reducible refine (A9.out _).mono ?_ | with_reducible refine (A1.out _).mono ?_ | with_reducible refine (A3.out _).mono ?_); rintro e v1 ⟨rfl, g1⟩; have TP : Three v1 (w2.heap.size) (.bool ppa) (.string ppx) (.string ppy) 49 := Three.kept (by assumption) g1; have TQ : Three v1 (w3.heap.size) (.bool qqa) (.string qqx) (.string qqy) 49 := Three.kept (by assumption) g1; have TR : Three v1 (w4.heap.size) (.bool rra) (.string rrx) (.string rry) 49 := Three.kept (by assumption) g1; have GG : W.grownBy v1 none := gr_then (by assumption) g1)
        | (go_at_call 59; (first | with_reducible refine (HU.out _ _ (HRATS.out _)).mono ?_); rintro e v1 ⟨rfl, g1⟩; have TP : Three v1 (w2.heap.size) (.bool ppa) (.string ppx) (.string ppy) 49 := Three.kept (Three.alloc (by assumption) _) g1; have TQ : Three v1 (w3.heap.size) (.bool qqa) (.string qqx) (.string qqy) 49 := Three.kept (Three.alloc (by assumption) _) g1; have TR : Three v1 (w4.heap.size) (.bool rra) (.string rrx) (.string rry) 49 := Three.kept (Three.alloc (by assumption) _) g1; have GG : W.grownBy v1 none := gr_then (gr_al (by assumption)) g1))
      all_goals
        go_wp2
        go_ret
        exact ⟨rfl, by assumption⟩
    · go_wp2_with fail
      go_region_held3 (fun w' => w'.cell? ⟨w2.heap.size, 0, none⟩ = some (.bool ppa) ∧ w'.cell? ⟨w2.heap.size, 1, none⟩ = some (.string ppx) ∧ w'.cell? ⟨w2.heap.size, 2, none⟩ = some (.string ppy) ∧ w'.cell? ⟨w3.heap.size, 0, none⟩ = some (.bool qqa) ∧ w'.cell? ⟨w3.heap.size, 1, none⟩ = some (.string qqx) ∧ w'.cell? ⟨w3.heap.size, 2, none⟩ = some (.string qqy) ∧ w'.cell? ⟨w4.heap.size, 0, none⟩ = some (.bool rra) ∧ w'.cell? ⟨w4.heap.size, 1, none⟩ = some (.string rrx) ∧ w'.cell? ⟨w4.heap.size, 2, none⟩ = some (.string rry) ∧ w'.cell? ⟨w5.heap.size, 0, none⟩ = some (.bool qqa) ∧ w'.cell? ⟨w5.heap.size, 1, none⟩ = some (.string zx) ∧ w'.cell? ⟨w5.heap.size, 2, none⟩ = some (.string zy) ∧ w'.cell? ⟨w7.heap.size, 0, none⟩ = some (.bool da) ∧ w'.cell? ⟨w7.heap.size, 1, none⟩ = some (.string dx) ∧ w'.cell? ⟨w7.heap.size, 2, none⟩ = some (.string dy)) (first | exact ⟨Three.c0 (by assumption), Three.c1 (by assumption), Three.c2 (by assumption), Three.c0 (by assumption), Three.c1 (by assumption), Three.c2 (by assumption), Three.c0 (by assumption), Three.c1 (by assumption), Three.c2 (by assumption), Three.c0 (by assumption), Three.c1 (by assumption), Three.c2 (by assumption), Three.c0 (by assumption), Three.c1 (by assumption), Three.c2 (by assumption)⟩ | go_keep)
        (first
        | (go_at_call 45; (first | with_reducible refine (HMD.out _).mono ?_); rintro e v1 ⟨rfl, g1⟩; have TP : Three v1 (w2.heap.size) (.bool ppa) (.string ppx) (.string ppy) 49 := Three.kept (by assumption) g1; have TQ : Three v1 (w3.heap.size) (.bool qqa) (.string qqx) (.string qqy) 49 := Three.kept (by assumption) g1; have TR : Three v1 (w4.heap.size) (.bool rra) (.string rrx) (.string rry) 49 := Three.kept (by assumption) g1; have TZ : Three v1 (w5.heap.size) (.bool qqa) (.string zx) (.string zy) 49 := Three.kept (by assumption) g1; have TD : Three v1 (w7.heap.size) (.bool da) (.string dx) (.string dy) 49 := Three.kept (by assumption) g1; have GG : W.grownBy v1 none := gr_then (by assumption) g1))
      have M0P : Three v1 (w2.heap.size) (.bool ppa) (.string ppx) (.string ppy) 49 := by assumption
      have M0Q : Three v1 (w3.heap.size) (.bool qqa) (.string qqx) (.string qqy) 49 := by assumption
      have M0R : Three v1 (w4.heap.size) (.bool rra) (.string rrx) (.string rry) 49 := by assumption
      have G40 : W.grownBy v1 none := by assumption
      go_wp2_with fail
      have M_P := M0P.drew
      have M_Q := M0Q.drew
      have M_R := M0R.drew
      have G4 := gr_dr G40
      go_region_held3 (fun w' => w'.cell? ⟨w2.heap.size, 0, none⟩ = some (.bool ppa) ∧ w'.cell? ⟨w2.heap.size, 1, none⟩ = some (.string ppx) ∧ w'.cell? ⟨w2.heap.size, 2, none⟩ = some (.string ppy) ∧ w'.cell? ⟨w3.heap.size, 0, none⟩ = some (.bool qqa) ∧ w'.cell? ⟨w3.heap.size, 1, none⟩ = some (.string qqx) ∧ w'.cell? ⟨w3.heap.size, 2, none⟩ = some (.string qqy) ∧ w'.cell? ⟨w4.heap.size, 0, none⟩ = some (.bool rra) ∧ w'.cell? ⟨w4.heap.size, 1, none⟩ = some (.string rrx) ∧ w'.cell? ⟨w4.heap.size, 2, none⟩ = some (.string rry)) (first | exact ⟨Three.c0 (by assumption), Three.c1 (by assumption), Three.c2 (by assumption), Three.c0 (by assumption), Three.c1 (by assumption), Three.c2 (by assumption), Three.c0 (by assumption), Three.c1 (by assumption), Three.c2 (by assumption)⟩ | go_keep)
        (first
        | (go_at_call 43; (first | with_reducible refine (B1.out _).mono ?_); rintro e v1 ⟨rfl, g1⟩; have TP : Three v1 (w2.heap.size) (.bool ppa) (.string ppx) (.string ppy) 49 := Three.kept (by assumption) g1; have TQ : Three v1 (w3.heap.size) (.bool qqa) (.string qqx) (.string qqy) 49 := Three.kept (by assumption) g1; have TR : Three v1 (w4.heap.size) (.bool rra) (.string rrx) (.string rry) 49 := Three.kept (by assumption) g1; have GG : W.grownBy v1 none := gr_then (by assumption) g1)
        | (go_at_call 51; (first | with_reducible refine (N2.out _).mono ?_); rintro e v1 ⟨rfl, g1⟩; have TP : Three v1 (w2.heap.size) (.bool ppa) (.string ppx) (.string ppy) 49 := Three.kept (by assumption) g1; have TQ : Three v1 (w3.heap.size) (.bool qqa) (.string qqx) (.string qqy) 49 := Three.kept (by assumption) g1; have TR : Three v1 (w4.heap.size) (.bool rra) (.string rrx) (.string rry) 49 := Three.kept (by assumption) g1; have GG : W.grownBy v1 none := gr_then (by assumption) g1)
        | (go_at_call 41; (first | with_reducible refine (A9.out _).mono ?_ | with_reducible refine (A1.out _).mono ?_ | with_reducible refine (A3.out _).mono ?_); rintro e v1 ⟨rfl, g1⟩; have TP : Three v1 (w2.heap.size) (.bool ppa) (.string ppx) (.string ppy) 49 := Three.kept (by assumption) g1; have TQ : Three v1 (w3.heap.size) (.bool qqa) (.string qqx) (.string qqy) 49 := Three.kept (by assumption) g1; have TR : Three v1 (w4.heap.size) (.bool rra) (.string rrx) (.string rry) 49 := Three.kept (by assumption) g1; have GG : W.grownBy v1 none := gr_then (by assumption) g1)
        | (go_at_call 59; (first | with_reducible refine (HU.out _ _ (HRATS.out _)).mono ?_); rintro e v1 ⟨rfl, g1⟩; have TP : Three v1 (w2.heap.size) (.bool ppa) (.string ppx) (.string ppy) 49 := Three.kept (Three.alloc (by assumption) _) g1; have TQ : Three v1 (w3.heap.size) (.bool qqa) (.string qqx) (.string qqy) 49 := Three.kept (Three.alloc (by assumption) _) g1; have TR : Three v1 (w4.heap.size) (.bool rra) (.string rrx) (.string rry) 49 := Three.kept (Three.alloc (by assumption) _) g1; have GG : W.grownBy v1 none := gr_then (gr_al (by assumption)) g1))
      all_goals
        go_wp2
        go_ret
        exact ⟨rfl, by assumption⟩
    · go_wp2_with fail
      go_region_held3 (fun w' => w'.cell? ⟨w2.heap.size, 0, none⟩ = some (.bool ppa) ∧ w'.cell? ⟨w2.heap.size, 1, none⟩ = some (.string ppx) ∧ w'.cell? ⟨w2.heap.size, 2, none⟩ = some (.string ppy) ∧ w'.cell? ⟨w3.heap.size, 0, none⟩ = some (.bool qqa) ∧ w'.cell? ⟨w3.heap.size, 1, none⟩ = some (.string qqx) ∧ w'.cell? ⟨w3.heap.size, 2, none⟩ = some (.string qqy) ∧ w'.cell? ⟨w4.heap.size, 0, none⟩ = some (.bool rra) ∧ w'.cell? ⟨w4.heap.size, 1, none⟩ = some (.string rrx) ∧ w'.cell? ⟨w4.heap.size, 2, none⟩ = some (.string rry) ∧ w'.cell? ⟨w5.heap.size, 0, none⟩ = some (.bool qqa) ∧ w'.cell? ⟨w5.heap.size, 1, none⟩ = some (.string qqx) ∧ w'.cell? ⟨w5.heap.size, 2, none⟩ = some (.string zy) ∧ w'.cell? ⟨w7.heap.size, 0, none⟩ = some (.bool da) ∧ w'.cell? ⟨w7.heap.size, 1, none⟩ = some (.string dx) ∧ w'.cell? ⟨w7.heap.size, 2, none⟩ = some (.string dy)) (first | exact ⟨Three.c0 (by assumption), Three.c1 (by assumption), Three.c2 (by assumption), Three.c0 (by assumption), Three.c1 (by assumption), Three.c2 (by assumption), Three.c0 (by assumption), Three.c1 (by assumption), Three.c2 (by assumption), Three.c0 (by assumption), Three.c1 (by assumption), Three.c2 (by assumption), Three.c0 (by assumption), Three.c1 (by assumption), Three.c2 (by assumption)⟩ | go_keep)
        (first
        | (go_at_call 45; (first | with_reducible refine (HMD.out _).mono ?_); rintro e v1 ⟨rfl, g1⟩; have TP : Three v1 (w2.heap.size) (.bool ppa) (.string ppx) (.string ppy) 49 := Three.kept (by assumption) g1; have TQ : Three v1 (w3.heap.size) (.bool qqa) (.string qqx) (.string qqy) 49 := Three.kept (by assumption) g1; have TR : Three v1 (w4.heap.size) (.bool rra) (.string rrx) (.string rry) 49 := Three.kept (by assumption) g1; have TZ : Three v1 (w5.heap.size) (.bool qqa) (.string qqx) (.string zy) 49 := Three.kept (by assumption) g1; have TD : Three v1 (w7.heap.size) (.bool da) (.string dx) (.string dy) 49 := Three.kept (by assumption) g1; have GG : W.grownBy v1 none := gr_then (by assumption) g1))
      have M0P : Three v1 (w2.heap.size) (.bool ppa) (.string ppx) (.string ppy) 49 := by assumption
      have M0Q : Three v1 (w3.heap.size) (.bool qqa) (.string qqx) (.string qqy) 49 := by assumption
      have M0R : Three v1 (w4.heap.size) (.bool rra) (.string rrx) (.string rry) 49 := by assumption
      have G40 : W.grownBy v1 none := by assumption
      go_wp2_with fail
      have M_P := M0P.drew
      have M_Q := M0Q.drew
      have M_R := M0R.drew
      have G4 := gr_dr G40
      go_region_held3 (fun w' => w'.cell? ⟨w2.heap.size, 0, none⟩ = some (.bool ppa) ∧ w'.cell? ⟨w2.heap.size, 1, none⟩ = some (.string ppx) ∧ w'.cell? ⟨w2.heap.size, 2, none⟩ = some (.string ppy) ∧ w'.cell? ⟨w3.heap.size, 0, none⟩ = some (.bool qqa) ∧ w'.cell? ⟨w3.heap.size, 1, none⟩ = some (.string qqx) ∧ w'.cell? ⟨w3.heap.size, 2, none⟩ = some (.string qqy) ∧ w'.cell? ⟨w4.heap.size, 0, none⟩ = some (.bool rra) ∧ w'.cell? ⟨w4.heap.size, 1, none⟩ = some (.string rrx) ∧ w'.cell? ⟨w4.heap.size, 2, none⟩ = some (.string rry)) (first | exact ⟨Three.c0 (by assumption), Three.c1 (by assumption), Three.c2 (by assumption), Three.c0 (by assumption), Three.c1 (by assumption), Three.c2 (by assumption), Three.c0 (by assumption), Three.c1 (by assumption), Three.c2 (by assumption)⟩ | go_keep)
        (first
        | (go_at_call 43; (first | with_reducible refine (B1.out _).mono ?_); rintro e v1 ⟨rfl, g1⟩; have TP : Three v1 (w2.heap.size) (.bool ppa) (.string ppx) (.string ppy) 49 := Three.kept (by assumption) g1; have TQ : Three v1 (w3.heap.size) (.bool qqa) (.string qqx) (.string qqy) 49 := Three.kept (by assumption) g1; have TR : Three v1 (w4.heap.size) (.bool rra) (.string rrx) (.string rry) 49 := Three.kept (by assumption) g1; have GG : W.grownBy v1 none := gr_then (by assumption) g1)
        | (go_at_call 51; (first | with_reducible refine (N2.out _).mono ?_); rintro e v1 ⟨rfl, g1⟩; have TP : Three v1 (w2.heap.size) (.bool ppa) (.string ppx) (.string ppy) 49 := Three.kept (by assumption) g1; have TQ : Three v1 (w3.heap.size) (.bool qqa) (.string qqx) (.string qqy) 49 := Three.kept (by assumption) g1; have TR : Three v1 (w4.heap.size) (.bool rra) (.string rrx) (.string rry) 49 := Three.kept (by assumption) g1; have GG : W.grownBy v1 none := gr_then (by assumption) g1)
        | (go_at_call 41; (first | with_reducible refine (A9.out _).mono ?_ | with_reducible refine (A1.out _).mono ?_ | with_reducible refine (A3.out _).mono ?_); rintro e v1 ⟨rfl, g1⟩; have TP : Three v1 (w2.heap.size) (.bool ppa) (.string ppx) (.string ppy) 49 := Three.kept (by assumption) g1; have TQ : Three v1 (w3.heap.size) (.bool qqa) (.string qqx) (.string qqy) 49 := Three.kept (by assumption) g1; have TR : Three v1 (w4.heap.size) (.bool rra) (.string rrx) (.string rry) 49 := Three.kept (by assumption) g1; have GG : W.grownBy v1 none := gr_then (by assumption) g1)
        | (go_at_call 59; (first | with_reducible refine (HU.out _ _ (HRATS.out _)).mono ?_); rintro e v1 ⟨rfl, g1⟩; have TP : Three v1 (w2.heap.size) (.bool ppa) (.string ppx) (.string ppy) 49 := Three.kept (Three.alloc (by assumption) _) g1; have TQ : Three v1 (w3.heap.size) (.bool qqa) (.string qqx) (.string qqy) 49 := Three.kept (Three.alloc (by assumption) _) g1; have TR : Three v1 (w4.heap.size) (.bool rra) (.string rrx) (.string rry) 49 := Three.kept (Three.alloc (by assumption) _) g1; have GG : W.grownBy v1 none := gr_then (gr_al (by assumption)) g1))
      all_goals
        go_wp2
        go_ret
        exact ⟨rfl, by assumption⟩
end Go.Proofs.YtiblphfoenhgeaaGreatDoor
namespace Go.Proofs.YtiblphfoenhgeaaGreatDoor
open Go.ChangeShapes Go.WideShapes Go.ChangeAt Go.RowKit Mth

set_option maxRecDepth 1000000 in
theorem fieldq_laid (os : Os) (args : Array Value) : laidMet Tryz.prog Rows.ratioFieldRow.laid ((laidWorld os).forCall (fun _ _ => 0) ⟨#[], args, []⟩).memory :=
  have h : LaidIn Tryz.prog ((laidWorld os).forCall (fun _ _ => 0) ⟨#[], args, []⟩).memory Rows.ratioFieldRow.laid [4, 5, 2] :=
    LaidIn.of_run [4, 5, 2] 8 (by kernel_rfl) (by kernel_rfl) (by kernel_rfl) (by kernel_rfl)
  h.met
theorem fieldq_tab {w : World} (h : laidMet Tryz.prog Rows.ratioFieldRow.laid w) : Tab w :=
  Lib.tabIs_of_head (g := 2) (t := 178) (e := 96) (n := 20) (by kernel_rfl) (by kernel_rfl) (by kernel_rfl) (by kernel_rfl) (by kernel_rfl) (by kernel_rfl) (show laidMet Tryz.prog [("internal/strconv.uint64pow10", Lib.tabData .u64 Lib.pow10Tab)] w from h.tail.tail)

set_option maxRecDepth 1000000 in
set_option maxHeartbeats 4000000 in
theorem fieldq_lifted (os : Os) (started : os.Started) (H : Type) (enc : TypeId × Value → H) :
    ReturnsInHanded {} Tryz.checked os 10 .any (fun w args => (Rows.ratioFieldSpec.pre enc Tryz.prog Tryz.f10 Rows.ratioFieldRow.domain false w args ∧ laidMet Tryz.prog Rows.ratioFieldRow.laid w) ∧ sizedMet enc Tryz.prog Tryz.f10 (OpenSpec.ofChange Rows.ratioFieldSpec) false w args)
      (Rows.ratioFieldSpec.post enc Tryz.prog Tryz.f10 false true false false) := by
  refine returnsInHanded_of_change_and (C := Tryz.checked) (X := fun w _ => laidMet Tryz.prog Rows.ratioFieldRow.laid w) (fun _ _ _ hh h => h.of_heap hh) own0 started (by kernel_rfl) Tryz.func10
    (ChangeSpec.witness_at (enc := enc) (C := Tryz.checked) (os := os) (X := fun w _ => laidMet Tryz.prog Rows.ratioFieldRow.laid w) false (laidWorld os) #[.agg #[.int .i64 0, .int .i64 0, .int .i64 0], .agg #[.int .i64 0, .int .i64 0, .int .i64 0], .agg #[.int .i64 0, .int .i64 0, .int .i64 0]] 8 rfl (by kernel_rfl) (by kernel_rfl) (by kernel_rfl) (by kernel_rfl) (by kernel_rfl) (fieldq_laid os _)) ?_
  intro W base args ds gs before hval0 hW hcnd0 _ hL _
  have hval : ∀ (j : Nat) t v, Tryz.f10.params[j]? = some t → args[j]? = some v → Value.okWide Tryz.prog W .any base t v := hval0
  have hW' := hW
  obtain ⟨p, q, hA0, hV, rfl, hfz, hnd⟩ := hW
  have hA : DataW.TrodAll enc Tryz.prog W 0 (fun _ => true) true Tryz.f10.params.toList args.toList ds p := hA0
  rw [Tryz.params10] at hA hval
  obtain ⟨v0, v1, v2, d0, d1, d2, p0, p1, p2, rfl, rfl, rfl, h0, h1, h2⟩ := trodAll_three hA
  obtain ⟨rfl, rfl⟩ := trodVars_none hV
  clear hA0 hval0 hA
  simp only [List.append_nil] at hW'
  have k0 := hval 0 47 v0 rfl rfl
  have k1 := hval 1 47 v1 rfl rfl
  have k2 := hval 2 47 v2 rfl rfl
  obtain ⟨n0_0, n0_1, n0_2, rfl, w0_0, w0_1, w0_2⟩ := arr3_arg Tryz.underlying47 Tryz.underlying3 (by kernel_rfl) (by kernel_rfl) k0 h0
  obtain ⟨n1_0, n1_1, n1_2, rfl, w1_0, w1_1, w1_2⟩ := arr3_arg Tryz.underlying47 Tryz.underlying3 (by kernel_rfl) (by kernel_rfl) k1 h1
  obtain ⟨n2_0, n2_1, n2_2, rfl, w2_0, w2_1, w2_2⟩ := arr3_arg Tryz.underlying47 Tryz.underlying3 (by kernel_rfl) (by kernel_rfl) k2 h2
  refine (fieldq_true n0_0 n0_1 n0_2 n1_0 n1_1 n1_2 n2_0 n2_1 n2_2 W (fieldq_tab hL) (wf_i64 w0_0) (wf_i64 w0_1) (wf_i64 w0_2) (wf_i64 w1_0) (wf_i64 w1_1) (wf_i64 w1_2) (wf_i64 w2_0) (wf_i64 w2_1) (wf_i64 w2_2)).mono fun e W' ⟨he, hg⟩ => ?_
  subst he
  have hb : Below W.heap.size W W' := gr_low hg (Nat.le_refl _)
  have hlt : ∀ x ∈ p0 ++ p1 ++ p2, x.block < W.heap.size := fun x hx => by simpa using hW'.lt x hx
  have hl0 : ∀ x ∈ p0, x.block < W.heap.size := fun x hx => hlt x (by simp [hx])
  have hl1 : ∀ x ∈ p1, x.block < W.heap.size := fun x hx => hlt x (by simp [hx])
  have hl2 : ∀ x ∈ p2, x.block < W.heap.size := fun x hx => hlt x (by simp [hx])
  refine ⟨_, rfl, _, _, _, [], p0 ++ p1 ++ p2, [], hW', ?_, ?_, rfl, hb.frame _, fun h => by cases h⟩
  · exact trodAll_mk1 (shut_bool Tryz.underlying4 true)
  · have h3 := trodAll_mk3 (Below.trod laidOut0 (by kernel_rfl) (of_decide_eq_true (by kernel_rfl)) h0 hb hl0) (Below.trod laidOut0 (by kernel_rfl) (of_decide_eq_true (by kernel_rfl)) h1 hb hl1) (Below.trod laidOut0 (by kernel_rfl) (of_decide_eq_true (by kernel_rfl)) h2 hb hl2)
    rw [← List.append_assoc] at h3
    exact h3

theorem fieldq_row : Rows.RatioFieldSaid :=
  OpenClaim.holds_of_wide 10 Tryz.f10 rfl rfl rfl rfl rfl rfl rfl ⟨rfl, rfl, rfl, rfl, rfl⟩ rfl rfl rfl rfl rfl (by kernel_rfl) Tryz.func10 (by kernel_rfl)
    (of_decide_eq_true (by kernel_rfl)) (by unfold Func.isWrapper; first | (rw [if_pos (by decide +kernel)]; kernel_rfl) | (rw [if_neg (by decide +kernel)]; exact ⟨rfl, rfl⟩))
    (fun os started H enc _ => fieldq_lifted os started H enc)
end Go.Proofs.YtiblphfoenhgeaaGreatDoor
