/- The law of the claim at the level of the call, and its row: Rx, Ry, Rz, Rtx, Rpa, Rpb, Rpd, Rpe, Rpc, Rca, Rcb, Rcc, Rcd, Rce, Rcf. -/
import Derived.Test.YteajpefbmiiioaaGreatDoorBRat17
import Derived.Maps.AppendAt
namespace Go.Proofs.YteajpefbmiiioaaGreatDoor
open Go.RowKit Mth Go.Lib

theorem bd_fold {k : Nat} : ∀ (qs : List Rat) (p : Rat) (j : Nat), Bd j p → (∀ q ∈ qs, Bd k q) → Bd (j + (k + 1) * qs.length) (qs.foldl (· + ·) p)
  | [], p, j, h, _ => by simpa using h
  | q :: qs, p, j, h, hb => by
    have := bd_fold qs (p + q) (j + k + 1) (bd_add h (hb q (by simp))) (fun x hx => hb x (by simp [hx]))
    rw [List.foldl_cons, List.length_cons, show j + (k + 1) * (qs.length + 1) = j + k + 1 + (k + 1) * qs.length from by rw [Nat.mul_succ]; omega]
    exact this
set_option maxHeartbeats 2000000 in
set_option maxRecDepth 100000 in
theorem fold2_any (qs : List Rat) (k g o c : Nat) (w : World) (hr : Rats w g o qs) (hb : ∀ q ∈ qs, Bd k q) (hk : 1 + (k + 1) * qs.length ≤ 900) (hk2 : k ≤ 900) (hn : qs.length ≤ 1000) :
    Gives 111 #[.slice (some ⟨g, o, none⟩) qs.length c, RV 0, .func (.func 105) #[] #[]] w (RV (qs.foldl (· + ·) 0)) := by
  have HR := Lib.hid hr
  have HB := Lib.hid hb
  have HN := Lib.hid hn
  have HK := Lib.hid hk
  have HSUM := Lib.hid (fun (j : Nat) (hj : j < qs.length) w => sumq_any ((qs.take j).foldl (· + ·) 0) qs[j] 900 w (bd_mono (bd_fold (k := k) (qs.take j) 0 1 (bd1 (by decide) (by decide)) (fun q hq => hb q (List.mem_of_mem_take hq))) (by
    have : (k + 1) * (qs.take j).length ≤ (k + 1) * qs.length := Nat.mul_le_mul_left _ (by rw [List.length_take]; omega)
    omega)) (bd_mono (hb _ (List.getElem_mem hj)) hk2) (by decide))
  clear hr hb hk hk2
  obtain ⟨F, hF0, hFs, hFn, hFt⟩ : ∃ F : Nat → Rat, F 0 = 0 ∧ (∀ j (h : j < qs.length), F j + qs[j] = F (j + 1)) ∧ F qs.length = qs.foldl (· + ·) 0 ∧ ∀ j, (qs.take j).foldl (· + ·) 0 = F j :=
    ⟨fun j => (qs.take j).foldl (· + ·) 0, rfl, fun j h => by show (qs.take j).foldl (· + ·) 0 + qs[j] = (qs.take (j + 1)).foldl (· + ·) 0; rw [← List.take_append_getElem h, List.foldl_append]; rfl, by show (qs.take qs.length).foldl (· + ·) 0 = _; rw [List.take_length], fun j => rfl⟩
  have HS2 := Lib.hid (fun (j : Nat) (hj : j < qs.length) w => (by have h := HSUM.out j hj w; rw [hFt, hFs j hj] at h; exact h : Gives 105 #[RV (F j), RV qs[j]] w (RV (F (j + 1)))))
  rw [← hFn]
  have hz : RV 0 = .agg #[.bool (decide ((F 0).num < 0)), .string (S (F 0).num.natAbs), .string (S (F 0).den)] := by rw [hF0]; rfl
  rw [hz]
  clear hz HSUM hFt hFs hFn hF0
  have T0 := (Three.new w (.bool (decide ((F 0).num < 0))) (.string (S (F 0).num.natAbs)) (.string (S (F 0).den)) 49).alloc (.cells #[.bool false, .string ⟨#[]⟩, .string ⟨#[]⟩] 49)
  have U0 := Three.new1 w (.cells #[.bool (decide ((F 0).num < 0)), .string (S (F 0).num.natAbs), .string (S (F 0).den)] 49) (.bool false) (.string ⟨#[]⟩) (.string ⟨#[]⟩) 49
  have G0 := gr_al (o := .cells #[.bool false, .string ⟨#[]⟩, .string ⟨#[]⟩] 49) (gr_al (o := .cells #[.bool (decide ((F 0).num < 0)), .string (S (F 0).num.natAbs), .string (S (F 0).den)] 49) (gr_rfl w))
  have HT0 := Lib.hid T0
  have HU0 := Lib.hid U0
  have HG0 := Lib.hid G0
  clear T0 U0 G0
  have n01 : w.heap.size ≠ w.heap.size + 1 := by omega
  have n10 : w.heap.size + 1 ≠ w.heap.size := by omega
  unfold RV RW at *
  go_enter Tryz.func111, Tryz.ntmps111
  go_wp2
  go_loopw [11] (fun u wr => ∃ j : Nat, j ≤ qs.length ∧ u = .int .i64 j ∧ Three wr w.heap.size (.bool (decide ((F j).num < 0))) (.string (S (F j).num.natAbs)) (.string (S (F j).den)) 49 ∧ Three wr (w.heap.size + 1) (.bool false) (.string ⟨#[]⟩) (.string ⟨#[]⟩) 49 ∧ w.grownBy wr none) (fun u _ => qs.length - (RowKit.intOf u).toNat)
  case atStart => exact ⟨0, Nat.zero_le _, rfl, HT0.out, HU0.out, HG0.out⟩
  case round =>
    obtain ⟨j, hj, rfl, T1, U1, G1⟩ := hrel
    by_cases hlt : j < qs.length
    · obtain ⟨c0, c1, c2⟩ := HR.out.kept G1 j hlt
      have hb1 : (j : Int) < (qs.length : Int) := by omega
      have HV := Lib.hid (HS2.out j hlt)
      have T2 := T1.alloc (.cells #[.bool (decide (qs[j].num < 0)), .string (S qs[j].num.natAbs), .string (S qs[j].den)] 49)
      have U2 := U1.alloc (.cells #[.bool (decide (qs[j].num < 0)), .string (S qs[j].num.natAbs), .string (S qs[j].den)] 49)
      have G2 := gr_al (o := .cells #[.bool (decide (qs[j].num < 0)), .string (S qs[j].num.natAbs), .string (S qs[j].den)] 49) G1
      have a0 := T2.c0
      have a1 := T2.c1
      have a2 := T2.c2
      have b0 := T1.c0
      have b1 := T1.c1
      have b2 := T1.c2
      go_wp2_with fail
      refine (HV.out _).mono ?_
      rintro e w1 ⟨rfl, g1⟩
      have T3 := T2.kept g1
      have HT3 := Lib.hid T3
      have HU3 := Lib.hid (U2.kept g1)
      have HG3 := Lib.hid (gr_then G2 g1)
      have k0 := T3.c0
      have k1 := T3.c1
      have k2 := T3.c2
      have f0 := T3.fr 0
      have f1 := T3.fr 1
      have f2 := T3.fr 2
      clear T3 T2 U2 G2 g1 T1 U1 G1 c0 c1 c2 a0 a1 a2 b0 b1 b2
      go_wp2
      exact ⟨⟨j + 1, by omega, by go_num, HT3.out.all _ _ _, HU3.out.oth3 n10 _ _ _, gr_set3 HG3.out (Nat.le_refl _) _ _ _⟩, by simp [RowKit.intOf]; omega⟩
    · obtain rfl : j = qs.length := by omega
      have HG := Lib.hid G1
      have a0 := T1.c0
      have a1 := T1.c1
      have a2 := T1.c2
      have k0 := U1.c0
      have k1 := U1.c1
      have k2 := U1.c2
      have f0 := U1.fr 0
      have f1 := U1.fr 1
      have f2 := U1.fr 2
      clear G1
      go_wp2
      exact bodyPost_ret (v := .agg #[.bool (decide ((F qs.length).num < 0)), .string (S (F qs.length).num.natAbs), .string (S (F qs.length).den)]) (by simp [results, Tryz.results111, go_sem, k0, k1, k2]) rfl ⟨rfl, gr_set3 HG.out (Nat.le_succ _) _ _ _⟩
set_option maxHeartbeats 2000000 in
set_option maxRecDepth 100000 in
theorem sumlist_any (qs : List Rat) (k g o c : Nat) (w : World) (hr : Rats w g o qs) (hb : ∀ q ∈ qs, Bd k q) (hk : 1 + (k + 1) * qs.length ≤ 900) (hk2 : k ≤ 900) (hn : qs.length ≤ 1000) :
    Gives 59 #[.slice (some ⟨g, o, none⟩) qs.length c] w (RV (qs.foldl (· + ·) 0)) := by
  have T0 := (Three.new w (.bool false) (.string ⟨#[]⟩) (.string ⟨#[]⟩) 49).alloc (.cells #[.bool false] 118)
  have G0 := gr_al (o := .cells #[.bool false] 118) (gr_al (o := .cells #[.bool false, .string ⟨#[]⟩, .string ⟨#[]⟩] 49) (gr_rfl w))
  have HM := Lib.hid (fun pb => mappedv_any qs k g o c pb 0 _ (hr.kept G0) hb (by omega) hn)
  have HF := Lib.hid (fun m w hr => fold2_any qs k m 0 qs.length w hr hb hk hk2 hn)
  have HW := Lib.hid (fun w => whole_any false 0 w)
  have hz : RW false 0 1 = RV 0 := rfl
  rw [hz] at HW
  have HT0 := Lib.hid T0
  have HG0 := Lib.hid G0
  clear T0 G0 hr hb hk hk2 hz
  rw [s_zero] at HW
  generalize hX : RV 0 = X at *
  have HX := Lib.hid hX
  clear hX
  obtain ⟨ya, yx, yy, hy⟩ : ∃ a x y, RV (qs.foldl (· + ·) 0) = .agg #[.bool a, .string x, .string y] := ⟨_, _, _, rfl⟩
  rw [hy] at HF ⊢
  clear hy
  go_enter Tryz.func59, Tryz.ntmps59
  go_wp2_with fail
  refine (HM.out _).mono ?_
  rintro e w1 ⟨m1, rfl, B1, hm1, g1⟩
  have T1 := HT0.out.kept g1
  have R1 := Lib.hid B1.rats
  have G1 := Lib.hid (gr_then HG0.out g1)
  clear g1 B1
  go_wp2_with fail
  refine (HW.out _).mono ?_
  rintro e w2 ⟨rfl, g2⟩
  have T2 := T1.kept g2
  have R2 := Lib.hid (R1.out.kept g2)
  have G2 := Lib.hid (gr_then G1.out g2)
  clear g2 T1
  go_wp2_with fail
  refine (HF.out m1 _ R2.out).mono ?_
  rintro e w3 ⟨rfl, g3⟩
  have T3 := T2.kept g3
  have G3 := Lib.hid (gr_then G2.out g3)
  have k0 := T3.c0
  have k1 := T3.c1
  have k2 := T3.c2
  have f0 := T3.fr 0
  have f1 := T3.fr 1
  have f2 := T3.fr 2
  clear g3 T2
  go_wp2
  exact bodyPost_ret (v := .agg #[.bool ya, .string yx, .string yy]) (by simp [results, Tryz.results59, go_sem, k0, k1, k2]) rfl ⟨rfl, gr_set3 G3.out (Nat.le_refl _) _ _ _⟩
end Go.Proofs.YteajpefbmiiioaaGreatDoor
namespace Go.Proofs.YteajpefbmiiioaaGreatDoor
open Go.RowKit Mth Go.Lib

theorem ofq_neg (n : Nat) (w : World) (h : n ≤ 9223372036854775807) : Gives 56 #[.int .i64 (-((n : Int) + 1))] w (RW true (n + 1) 1) := by
  have HN := Lib.hid (fun w => of_any n w (by omega))
  rw [show (⟨(enc n).toArray⟩ : ByteArray) = S n from rfl] at HN
  have hz := s_sz (n := n) (k := 8) (Nat.lt_of_le_of_lt h (by decide))
  have h1 := s_size9 (n := 1) (by decide)
  have HA := Lib.hid (fun w => s_add (S n) (S 1) n 1 w (s_num _) (s_num _) (by omega) (by omega))
  have HW := Lib.hid (whole_any true (n + 1))
  unfold RW at *
  rw [one_lit] at *
  generalize S (n + 1) = z at *
  generalize S n = x at *
  have C0 := Three.new w (.bool false) (.string ⟨#[]⟩) (.string ⟨#[]⟩) 49
  have hn : decide ((0 : Int) ≤ -((n : Int) + 1)) = false := decide_eq_false (by omega)
  go_enter Tryz.func56, Tryz.ntmps56
  go_wp2_with fail
  have hx : -(-((n : Int) + 1) + 1) = (n : Int) := by omega
  rw [hx]
  refine (HN.out _).mono ?_
  rintro e w1 ⟨rfl, g1⟩
  have C1 := C0.kept g1
  have G1 := Lib.hid (gr_one g1)
  clear g1 C0 hx
  go_wp2_with fail
  refine (HA.out _).mono ?_
  rintro e w2 ⟨rfl, g1⟩
  have C2 := C1.kept g1
  have G2 := Lib.hid (gr_then G1.out g1)
  clear g1 C1 G1
  go_wp2_with fail
  refine (HW.out _).mono ?_
  rintro e w3 ⟨rfl, g1⟩
  have C3 := C2.kept g1
  have G3 := Lib.hid (gr_then G2.out g1)
  clear g1 C2 G2
  have k0 := C3.c0
  have k1 := C3.c1
  have k2 := C3.c2
  have f0 := C3.fr 0
  have f1 := C3.fr 1
  have f2 := C3.fr 2
  go_wp2
  exact bodyPost_ret (v := .agg #[.bool true, .string z, .string ⟨#[1]⟩]) (by simp [results, Tryz.results56, go_sem, k0, k1, k2]) rfl ⟨rfl, gr_set3 G3.out (Nat.le_refl _) _ _ _⟩
theorem rofq_negall (n : Nat) (w : World) (h : n ≤ 9223372036854775807) : Gives 57 #[.int .i64 (-((n : Int) + 1))] w (RW true (n + 1) 1) := by
  have HN := Lib.hid (fun w => s_rof n w (by omega))
  have HW := Lib.hid (fun w => s_rof 1 w (by decide))
  have hz := s_sz (n := n) (k := 8) (Nat.lt_of_le_of_lt h (by decide))
  have HA := Lib.hid (fun w => s_radd (S n) (S 1) n 1 w (s_num _) (s_num _) (by omega) (s_size9 (by decide)))
  unfold RW at *
  generalize S (n + 1) = z at *
  generalize S n = x at *
  generalize S 1 = y at *
  have C0 := Three.new w (.bool false) (.string ⟨#[]⟩) (.string ⟨#[]⟩) 49
  have hn : decide ((0 : Int) ≤ -((n : Int) + 1)) = false := decide_eq_false (by omega)
  have hw1 : wrap64 (-((n : Int) + 1) + 1) = -(n : Int) := by unfold wrap64; omega
  have hw2 : wrap64 (- -(n : Int)) = (n : Int) := by unfold wrap64; omega
  have hw3 : wrap64 (n : Int) = (n : Int) := by unfold wrap64; omega
  go_enter Tryz.func57, Tryz.ntmps57
  go_wp2_with fail
  have hx : -(-((n : Int) + 1) + 1) = (n : Int) := by omega
  rw [hx]
  refine (HN.out _).mono ?_
  rintro e w1 ⟨rfl, g1⟩
  have C1 := C0.kept g1
  have G1 := Lib.hid (gr_one g1)
  clear g1 C0 hw1 hw2 hw3 hx
  go_wp2_with fail
  refine (HW.out _).mono ?_
  rintro e w2 ⟨rfl, g1⟩
  have C2 := C1.kept g1
  have G2 := Lib.hid (gr_then G1.out g1)
  clear g1 C1 G1
  go_wp2_with fail
  refine (HA.out _).mono ?_
  rintro e w3 ⟨rfl, g1⟩
  have C3 := C2.kept g1
  have G3 := Lib.hid (gr_then G2.out g1)
  clear g1 C2 G2
  go_wp2_with fail
  refine (HW.out _).mono ?_
  rintro e w4 ⟨rfl, g1⟩
  have C4 := C3.kept g1
  have G4 := Lib.hid (gr_then G3.out g1)
  clear g1 C3 G3
  have k0 := C4.c0
  have k1 := C4.c1
  have k2 := C4.c2
  have f0 := C4.fr 0
  have f1 := C4.fr 1
  have f2 := C4.fr 2
  go_wp2
  exact bodyPost_ret (v := .agg #[.bool true, .string z, .string y]) (by simp [results, Tryz.results57, go_sem, k0, k1, k2]) rfl ⟨rfl, gr_set3 G4.out (Nat.le_refl _) _ _ _⟩
set_option maxRecDepth 100000 in
theorem make_bad1 (b : Bool) (s t : ByteArray) (w : World) (h : rtB s.data.toList = false) : Gives 53 #[.bool b, .string s, .string t] w (.tuple #[.agg #[.bool false, .string ⟨#[]⟩, .string ⟨#[]⟩], .bool false]) := by
  have HR := Lib.hid (fun w => right_any s w)
  rw [h] at HR
  clear h
  have hT := Three.new w (.bool false) (.string ⟨#[]⟩) (.string ⟨#[]⟩) 49
  go_enter Tryz.func53, Tryz.ntmps53
  go_wp2_with fail
  refine (HR.out _).mono ?_
  rintro e w1 ⟨rfl, rfl⟩
  have c0 := hT.c0
  have c1 := hT.c1
  have c2 := hT.c2
  go_wp2
  exact bodyPost_ret (v := .tuple #[.agg #[.bool false, .string ⟨#[]⟩, .string ⟨#[]⟩], .bool false]) (by simp [results, Tryz.results53, go_sem, c0, c1, c2]) rfl ⟨rfl, gr_al (gr_rfl _)⟩
set_option maxRecDepth 100000 in
theorem make_bad2 (b : Bool) (s t : ByteArray) (w : World) (h0 : rtB s.data.toList = true) (h : rtB t.data.toList = false) : Gives 53 #[.bool b, .string s, .string t] w (.tuple #[.agg #[.bool false, .string ⟨#[]⟩, .string ⟨#[]⟩], .bool false]) := by
  have HS := Lib.hid (fun w => right_any s w)
  have HR := Lib.hid (fun w => right_any t w)
  rw [h0] at HS
  rw [h] at HR
  clear h h0
  have hT := Three.new w (.bool false) (.string ⟨#[]⟩) (.string ⟨#[]⟩) 49
  go_enter Tryz.func53, Tryz.ntmps53
  go_wp2_with fail
  refine (HS.out _).mono ?_
  rintro e w1 ⟨rfl, rfl⟩
  go_wp2_with fail
  refine (HR.out _).mono ?_
  rintro e w1 ⟨rfl, rfl⟩
  have c0 := hT.c0
  have c1 := hT.c1
  have c2 := hT.c2
  go_wp2
  exact bodyPost_ret (v := .tuple #[.agg #[.bool false, .string ⟨#[]⟩, .string ⟨#[]⟩], .bool false]) (by simp [results, Tryz.results53, go_sem, c0, c1, c2]) rfl ⟨rfl, gr_al (gr_rfl _)⟩
set_option maxRecDepth 100000 in
theorem rmake_bad (b : Bool) (s t : ByteArray) (w : World) (h : rtB s.data.toList = false ∨ rtB t.data.toList = false) : Gives 54 #[.bool b, .string s, .string t] w (.tuple #[.agg #[.bool false, .string ⟨#[]⟩, .string ⟨#[]⟩], .bool false]) := by
  have HS := Lib.hid (fun w => rright_any s w)
  have HR := Lib.hid (fun w => rright_any t w)
  generalize rtB s.data.toList = x at *
  generalize rtB t.data.toList = y at *
  have hT := Three.new w (.bool false) (.string ⟨#[]⟩) (.string ⟨#[]⟩) 49
  have hxy : (x = false) ∨ (x = true ∧ y = false) := by rcases h with h | h <;> cases x <;> simp_all
  clear h
  rcases hxy with rfl | ⟨rfl, rfl⟩
  all_goals
    go_enter Tryz.func54, Tryz.ntmps54
    go_wp2_with fail
    refine (HS.out _).mono ?_
    rintro e w1 ⟨rfl, rfl⟩
    go_wp2_with fail
    refine (HR.out _).mono ?_
    rintro e w1 ⟨rfl, rfl⟩
    have c0 := hT.c0
    have c1 := hT.c1
    have c2 := hT.c2
    go_wp2
    exact bodyPost_ret (v := .tuple #[.agg #[.bool false, .string ⟨#[]⟩, .string ⟨#[]⟩], .bool false]) (by simp [results, Tryz.results54, go_sem, c0, c1, c2]) rfl ⟨rfl, gr_al (gr_rfl _)⟩
theorem s_of_right (s : ByteArray) (h : rtB s.data.toList = true) : ∃ m, s = S m := by
  have hr : Rt s.data.toList := by
    revert h
    generalize s.data.toList = l
    intro h e
    cases l with
    | nil => simp at e
    | cons d l => simp only [List.head?_cons, Option.some.injEq] at e; subst e; simp [rtB] at h
  refine ⟨num s.data.toList, ?_⟩
  unfold S
  rw [enc_num hr]
end Go.Proofs.YteajpefbmiiioaaGreatDoor
namespace Go.Proofs.YteajpefbmiiioaaGreatDoor
open Go.RowKit Mth Go.Lib

--BEGIN
theorem isDig_eq : isDig = isDg := rfl
/-- A decimal numeral is that of the number that it denotes. -/
theorem dec_txt : ∀ (k : Nat) (l : List UInt8), l.length = k → isTxt l = true → decDigits (dnum l) = l
  | 0, l, hk, h => by
    obtain rfl := List.eq_nil_of_length_eq_zero hk
    simp [isTxt] at h
  | k + 1, l, hk, h => by
    rcases List.eq_nil_or_concat l with rfl | ⟨l', d, rfl⟩
    · simp at hk
    · simp only [List.concat_eq_append] at *
      unfold isTxt at h
      rw [Bool.and_eq_true, List.all_append, Bool.and_eq_true] at h
      obtain ⟨⟨ha, hd⟩, hh⟩ := h
      have hd' : 48 ≤ d.toNat ∧ d.toNat ≤ 57 := by simpa [isDig] using hd
      have hof : UInt8.ofNat (48 + (d.toNat - 48)) = d := by
        rw [show 48 + (d.toNat - 48) = d.toNat from by omega]; simp
      rw [dnum_snoc]
      by_cases h0 : l' = []
      · subst h0
        rw [dnum_nil, decDigits, dif_pos (by omega), show 10 * 0 + (d.toNat - 48) = d.toNat - 48 from by omega, hof]; rfl
      · have hne : l'.head? ≠ some 48 := by
          intro he
          cases l' with
          | nil => exact h0 rfl
          | cons x t =>
            simp only [List.head?_cons, Option.some.injEq] at he
            subst he
            simp at hh
        have ht : isTxt l' = true := by
          unfold isTxt
          rw [ha, Bool.true_and, Bool.or_eq_true]
          right
          rw [Bool.and_eq_true]
          refine ⟨by cases l' with | nil => exact absurd rfl h0 | cons => rfl, ?_⟩
          rw [Bool.not_eq_true', beq_eq_false_iff_ne]; exact hne
        have ih := dec_txt k l' (by simpa using hk) ht
        have hp : dnum l' ≠ 0 := by
          intro e
          rw [e, decDigits, dif_pos (by decide)] at ih
          rw [← ih] at hne
          exact hne rfl
        rw [decDigits, dif_neg (by omega), show (10 * dnum l' + (d.toNat - 48)) / 10 = dnum l' from by omega, ih, show (10 * dnum l' + (d.toNat - 48)) % 10 = d.toNat - 48 from by omega, hof]
/-- A sign, a numeral, and perhaps / and another numeral. -/
def txtL (neg : Bool) (n d : Nat) : List UInt8 := (if neg then [45] else []) ++ (decDigits n ++ (if d = 1 then [] else 47 :: decDigits d))
theorem take_dg (A X : List UInt8) (hA : A.all isDg = true) (hX : X = [] ∨ ∃ Y, X = 47 :: Y) : (A ++ X).takeWhile isDg = A := by
  rw [List.takeWhile_append_of_pos (by simpa using hA)]
  rcases hX with rfl | ⟨Y, rfl⟩
  · simp
  · rw [List.takeWhile_cons_of_neg (by decide)]; simp
theorem dec_inj {m n : Nat} (h : decDigits m = decDigits n) : m = n := by rw [← dnum_dec m, ← dnum_dec n, h]
theorem dec_cons (n : Nat) : ∃ c t, decDigits n = c :: t ∧ c ≠ 45 := by
  have h := dec_pos n
  have ha := dec_all n
  cases hd : decDigits n with
  | nil => rw [hd] at h; simp at h
  | cons c t =>
    refine ⟨c, t, rfl, ?_⟩
    rintro rfl
    rw [hd] at ha
    simp [isDg] at ha
theorem take_sl (A X : List UInt8) (hA : ¬ (47 : UInt8) ∈ A) (hX : X = [] ∨ ∃ Y, X = 47 :: Y) : (A ++ X).takeWhile (fun c => !(c == 47)) = A := by
  rw [List.takeWhile_append_of_pos]
  · rcases hX with rfl | ⟨Y, rfl⟩
    · simp
    · rw [List.takeWhile_cons_of_neg (by decide)]; simp
  · intro c hc
    rw [Bool.not_eq_true', beq_eq_false_iff_ne]
    rintro rfl
    exact hA hc
theorem dec_no (n : Nat) : ¬ (47 : UInt8) ∈ decDigits n := by
  intro h
  have := List.all_eq_true.1 (dec_all n) _ h
  simp [isDg] at this
theorem parts_txt {neg neg' dv : Bool} {Y Z : List UInt8} {n' d' : Nat} (h : (if neg then [(45 : UInt8)] else []) ++ (Y ++ (if dv then 47 :: Z else [])) = txtL neg' n' d') (h0 : neg = false → (Y ++ (if dv then 47 :: Z else [])).head? ≠ some 45) (hY : ¬ (47 : UInt8) ∈ Y) : neg = neg' ∧ Y = decDigits n' ∧ (dv = true → Z = decDigits d' ∧ d' ≠ 1) ∧ (dv = false → d' = 1) := by
  unfold txtL at h
  have hs : neg = neg' := by
    obtain ⟨c', t', e2, n2⟩ := dec_cons n'
    cases neg <;> cases neg'
    · rfl
    · exfalso
      have h1 := h0 rfl
      simp only [Bool.false_eq_true, if_false, List.nil_append, if_true] at h
      rw [h] at h1
      exact h1 rfl
    · exfalso
      rw [e2] at h
      simp at h
      exact n2 h.1.symm
    · rfl
  subst hs
  have h2 := List.append_cancel_left h
  have hX : (if dv then 47 :: Z else []) = ([] : List UInt8) ∨ ∃ W, (if dv then 47 :: Z else []) = 47 :: W := by cases dv <;> simp
  have hW : (if d' = 1 then [] else 47 :: decDigits d') = ([] : List UInt8) ∨ ∃ W, (if d' = 1 then [] else 47 :: decDigits d') = 47 :: W := by split <;> simp
  have e2 := congrArg (List.takeWhile (fun c => !(c == 47))) h2
  rw [take_sl _ _ hY hX, take_sl _ _ (dec_no n') hW] at e2
  subst e2
  have hXY := List.append_cancel_left h2
  refine ⟨rfl, rfl, ?_, ?_⟩
  · rintro rfl
    by_cases h1 : d' = 1
    · rw [if_pos h1] at hXY; simp at hXY
    · rw [if_neg h1] at hXY
      simp at hXY
      exact ⟨hXY, h1⟩
  · rintro rfl
    by_cases h1 : d' = 1
    · exact h1
    · rw [if_neg h1] at hXY; simp at hXY
theorem txt_dec (n : Nat) : isTxt (decDigits n) = true := by
  unfold isTxt
  rw [isDig_eq, dec_all, Bool.true_and, Bool.or_eq_true]
  rcases dec_head n with ⟨h, _⟩ | ⟨h1, h2⟩
  · left; rw [h]; rfl
  · right
    cases hd : decDigits n with
    | nil => exact absurd hd h2
    | cons x l =>
      rw [hd] at h1
      simp at h1
      simp [h1]
theorem pow_ten : (10 : Nat) ^ 100 < 256 ^ 50 := by decide +kernel
theorem dnum_50 {l : List UInt8} (h : isTxt l = true) (hl : l.length ≤ 100) : dnum l < 256 ^ 50 := by
  unfold isTxt at h
  rw [Bool.and_eq_true] at h
  have h1 := dnum_lt l h.1
  exact Nat.lt_of_lt_of_le h1 (Nat.le_trans (Nat.pow_le_pow_right (by decide) hl) (Nat.le_of_lt pow_ten))
theorem dec_50 {n : Nat} (h : n < 256 ^ 50) : (decDigits n).length ≤ 1000 :=
  Nat.le_trans (dec_le n 121 (by decide) (Nat.lt_of_lt_of_le h (by decide +kernel : (256 : Nat) ^ 50 ≤ 10 ^ 121))) (by decide)
/-- Where a string is parted at its first /. -/
theorem index_split {l : List UInt8} {i : Nat} (h : Lib.indexByte l 47 = (i : Int)) : i < l.length ∧ l = l.take i ++ 47 :: l.drop (i + 1) := by
  have h1 := (indexByte_some h).1
  have hi : i < l.length := by
    rcases Nat.lt_or_ge i l.length with h2 | h2
    · exact h2
    · rw [List.getElem?_eq_none h2] at h1; cases h1
  refine ⟨hi, ?_⟩
  rw [List.getElem?_eq_getElem hi] at h1
  have h3 : l.drop i = l[i] :: l.drop (i + 1) := List.drop_eq_getElem_cons hi
  injection h1 with h1
  rw [h1] at h3
  rw [← h3, List.take_append_drop]
theorem index_first {l : List UInt8} {i : Nat} (hi : l[i]? = some 47) (hf : ∀ k, k < i → l[k]? ≠ some 47) : Lib.indexByte l 47 = (i : Int) := by
  rcases Int.lt_or_le (Lib.indexByte l 47) 0 with h | h
  · have := indexByte_ge l 47
    exact absurd hi (indexByte_none (by omega) i)
  · obtain ⟨j, hj⟩ : ∃ j : Nat, Lib.indexByte l 47 = (j : Int) := ⟨(Lib.indexByte l 47).toNat, by omega⟩
    have h1 := indexByte_some hj
    rcases Nat.lt_trichotomy i j with h2 | h2 | h2
    · exact absurd hi (h1.2 i h2)
    · rw [hj, h2]
    · exact absurd h1.1 (hf j h2)
theorem index_never {l : List UInt8} (hf : ∀ k, k < l.length → l[k]? ≠ some 47) : Lib.indexByte l 47 = -1 := by
  have := indexByte_ge l 47
  rcases Int.lt_or_le (Lib.indexByte l 47) 0 with h | h
  · omega
  · obtain ⟨j, hj⟩ : ∃ j : Nat, Lib.indexByte l 47 = (j : Int) := ⟨(Lib.indexByte l 47).toNat, by omega⟩
    have h1 := (indexByte_some hj).1
    have hi : j < l.length := by
      rcases Nat.lt_or_ge j l.length with h2 | h2
      · exact h2
      · rw [List.getElem?_eq_none h2] at h1; cases h1
    exact absurd h1 (hf j hi)
theorem prefix_split (l : List UInt8) : (Lib.hasPrefix l [45] = true ∧ l = 45 :: Lib.trimPrefix l [45]) ∨ (Lib.hasPrefix l [45] = false ∧ Lib.trimPrefix l [45] = l ∧ l.head? ≠ some 45) := by
  cases l with
  | nil => right; exact ⟨rfl, rfl, by simp⟩
  | cons c t =>
    by_cases h : c = 45
    · subst h
      left
      have : Lib.hasPrefix (45 :: t) [45] = true := by simp [Lib.hasPrefix]
      exact ⟨this, by unfold Lib.trimPrefix; rw [if_pos this]; rfl⟩
    · right
      have h' : ¬ (45 : UInt8) = c := fun e => h e.symm
      have : Lib.hasPrefix (c :: t) [45] = false := by show (((45 : UInt8) == c) && true) = false; rw [beq_eq_false_iff_ne.2 h']; rfl
      exact ⟨this, by unfold Lib.trimPrefix; rw [this]; rfl, by simpa using h⟩
--END
end Go.Proofs.YteajpefbmiiioaaGreatDoor
namespace Go.Proofs.YteajpefbmiiioaaGreatDoor
open Go.RowKit Mth Go.Lib

theorem cmp_one {d : Nat} (h : d ≠ 1) : cmpN d 1 ≠ 0 := by
  unfold cmpN; split
  · decide
  · split
    · decide
    · omega
set_option maxHeartbeats 4000000 in
set_option maxRecDepth 100000 in
theorem rtextq_any (q : Rat) (k : Nat) (w : World) (hq : Bd k q) (hk : k ≤ 200) (hl1 : (decDigits q.num.natAbs).length ≤ 1000) (hl2 : (decDigits q.den).length ≤ 1000) : Gives 65 #[RV q] w (.string (textQ q)) := by
  have HV := Lib.hid (fun w => rvalue_rv q k w hq hk)
  obtain ⟨b1, b2⟩ := bd200 hq hk
  have z1 := s_size9 b1
  have z2 := s_size9 b2
  have HN := Lib.hid (fun w => s_rtext (S q.num.natAbs) q.num.natAbs w (s_num _) z1 b1 hl1)
  have HD := Lib.hid (fun w => s_rtext (S q.den) q.den w (s_num _) z2 b2 hl2)
  have HC := Lib.hid (fun w => s_rcmp (S q.den) (S 1) q.den 1 w (s_num _) (s_num _) z2 (s_size9 (by decide)))
  have HO := Lib.hid (fun w => s_rof 1 w (by decide))
  have k1 : (dg10 q.num.natAbs).size ≤ 1000 := hl1
  have k2 : (dg10 q.den).size ≤ 1000 := hl2
  have hcase : (q.den = 1 ∧ cmpN q.den 1 = 0) ∨ (q.den ≠ 1 ∧ cmpN q.den 1 ≠ 0) := by
    by_cases h : q.den = 1
    · exact .inl ⟨h, by rw [h]; rfl⟩
    · exact .inr ⟨h, cmp_one h⟩
  have hneg : (q.num < 0 ∧ decide (q.num < 0) = true) ∨ (¬ q.num < 0 ∧ decide (q.num < 0) = false) := by
    by_cases h : q.num < 0
    · exact .inl ⟨h, decide_eq_true h⟩
    · exact .inr ⟨h, decide_eq_false h⟩
  unfold textQ
  dsimp only
  unfold RV RW at *
  generalize cmpN q.den 1 = cz at *
  have e10 : (⟨(decDigits q.num.natAbs).toArray⟩ : ByteArray) = dg10 q.num.natAbs := rfl
  have e11 : (⟨(decDigits q.den).toArray⟩ : ByteArray) = dg10 q.den := rfl
  rw [e10] at HN
  rw [e11] at HD
  clear e10 e11
  generalize dg10 q.num.natAbs = tn at *
  generalize dg10 q.den = td at *
  generalize S q.num.natAbs = x at *
  generalize S q.den = y at *
  generalize S 1 = o at *
  generalize decide (q.num < 0) = a at *
  clear b1 b2 z1 z2 hl1 hl2 hq hk
  have s1 : ¬ 9223372036854775807 < 1 + tn.size := by omega
  have s2 : ¬ 9223372036854775807 < 1 + td.size := by omega
  have s3 : ((⟨#[45]⟩ : ByteArray) ++ tn).size ≤ 2000 := by rw [ByteArray.size_append]; show 1 + tn.size ≤ _; omega
  have s4 : (((⟨#[45]⟩ : ByteArray) ++ tn) ++ (⟨#[47]⟩ : ByteArray)).size ≤ 3000 := by rw [ByteArray.size_append]; show _ + 1 ≤ _; omega
  have s5 : (tn ++ (⟨#[47]⟩ : ByteArray)).size ≤ 3000 := by rw [ByteArray.size_append]; show _ + 1 ≤ _; omega
  have hA0 := Three.new w (.bool a) (.string x) (.string y) 49
  rcases hneg with ⟨h1, rfl⟩ | ⟨h1, rfl⟩
  · rcases hcase with ⟨h2, h3⟩ | ⟨h2, h3⟩
    · simp only [if_pos h1, if_pos h2]; subst h3; clear h1 h2
      go_enter Tryz.func65, Tryz.ntmps65
      go_wp2_with fail
      refine (HV.out _).mono ?_
      rintro e w1 ⟨rfl, g1⟩
      have hA1 := hA0.kept g1
      have G1 := Lib.hid (gr_one g1)
      have a0 := hA1.c0
      have a1 := hA1.c1
      have a2 := hA1.c2
      have f0 := hA1.fr 0
      have f1 := hA1.fr 1
      have f2 := hA1.fr 2
      have hA2 := hA1.all (.bool true) (.string x) (.string y)
      have G2 := Lib.hid (gr_set3 G1.out (Nat.le_refl _) (.bool true) (.string x) (.string y))
      clear g1 G1
      go_wp2_with fail
      refine (HN.out _).mono ?_
      rintro e w2 ⟨rfl, g2⟩
      have hA3 := hA2.kept g2
      have G3 := Lib.hid (gr_then G2.out g2)
      clear a0 a1 a2 f0 f1 f2 g2 G2 hA2 hA1
      have b0 := hA3.c0
      have b1 := hA3.c1
      have b2 := hA3.c2
      go_wp2_with fail
      have hA4 := hA3.drew
      have G4 := gr_dr G3.out
      go_region_held3 (fun w' => w'.cell? ⟨w.heap.size, 2, none⟩ = some (.string y)) (first | exact Three.c2 (by assumption) | go_keep)
        (first
        | (go_at_call 25; refine (HO.out _).mono ?_; rintro e v1 ⟨rfl, g1⟩; have T : Three v1 w.heap.size (.bool true) (.string x) (.string y) 49 := Three.kept (by assumption) g1; have GG : w.grownBy v1 none := gr_then (by assumption) g1)
        | (go_at_call 21; with_reducible refine (HC.out _).mono ?_; rintro e v2 ⟨rfl, g1⟩; have T2 : Three v2 w.heap.size (.bool true) (.string x) (.string y) 49 := Three.kept (by assumption) g1; have GG2 : w.grownBy v2 none := gr_then (by assumption) g1))
      go_wp2
      go_ret
      exact ⟨rfl, by assumption⟩
    · simp only [if_pos h1, if_neg h2]; have h4 : (cz == 0) = false := by rw [beq_eq_false_iff_ne]; exact h3
      clear h1 h2
      go_enter Tryz.func65, Tryz.ntmps65
      go_wp2_with fail
      refine (HV.out _).mono ?_
      rintro e w1 ⟨rfl, g1⟩
      have hA1 := hA0.kept g1
      have G1 := Lib.hid (gr_one g1)
      have a0 := hA1.c0
      have a1 := hA1.c1
      have a2 := hA1.c2
      have f0 := hA1.fr 0
      have f1 := hA1.fr 1
      have f2 := hA1.fr 2
      have hA2 := hA1.all (.bool true) (.string x) (.string y)
      have G2 := Lib.hid (gr_set3 G1.out (Nat.le_refl _) (.bool true) (.string x) (.string y))
      clear g1 G1
      go_wp2_with fail
      refine (HN.out _).mono ?_
      rintro e w2 ⟨rfl, g2⟩
      have hA3 := hA2.kept g2
      have G3 := Lib.hid (gr_then G2.out g2)
      clear a0 a1 a2 f0 f1 f2 g2 G2 hA2 hA1
      have b0 := hA3.c0
      have b1 := hA3.c1
      have b2 := hA3.c2
      go_wp2_with fail
      have hA4 := hA3.drew
      have G4 := gr_dr G3.out
      go_region_held3 (fun w' => w'.cell? ⟨w.heap.size, 2, none⟩ = some (.string y)) (first | exact Three.c2 (by assumption) | go_keep)
        (first
        | (go_at_call 25; refine (HO.out _).mono ?_; rintro e v1 ⟨rfl, g1⟩; have T : Three v1 w.heap.size (.bool true) (.string x) (.string y) 49 := Three.kept (by assumption) g1; have GG : w.grownBy v1 none := gr_then (by assumption) g1)
        | (go_at_call 21; with_reducible refine (HC.out _).mono ?_; rintro e v2 ⟨rfl, g1⟩; have T2 : Three v2 w.heap.size (.bool true) (.string x) (.string y) 49 := Three.kept (by assumption) g1; have GG2 : w.grownBy v2 none := gr_then (by assumption) g1))
      have HG5 := Lib.hid GG2
      have b0 := T2.c0
      have b1 := T2.c1
      have b2 := T2.c2
      go_wp2_with fail
      refine (HD.out _).mono ?_
      rintro e w3 ⟨rfl, g3⟩
      have G6 := gr_then HG5.out g3
      go_wp2
      go_ret
      exact ⟨by rw [← ByteArray.append_assoc]; rfl, G6⟩
  · rcases hcase with ⟨h2, h3⟩ | ⟨h2, h3⟩
    · simp only [if_neg h1, if_pos h2]; subst h3; clear h1 h2
      go_enter Tryz.func65, Tryz.ntmps65
      go_wp2_with fail
      refine (HV.out _).mono ?_
      rintro e w1 ⟨rfl, g1⟩
      have hA1 := hA0.kept g1
      have G1 := Lib.hid (gr_one g1)
      have a0 := hA1.c0
      have a1 := hA1.c1
      have a2 := hA1.c2
      have f0 := hA1.fr 0
      have f1 := hA1.fr 1
      have f2 := hA1.fr 2
      have hA2 := hA1.all (.bool false) (.string x) (.string y)
      have G2 := Lib.hid (gr_set3 G1.out (Nat.le_refl _) (.bool false) (.string x) (.string y))
      clear g1 G1
      go_wp2_with fail
      refine (HN.out _).mono ?_
      rintro e w2 ⟨rfl, g2⟩
      have hA3 := hA2.kept g2
      have G3 := Lib.hid (gr_then G2.out g2)
      clear a0 a1 a2 f0 f1 f2 g2 G2 hA2 hA1
      have b0 := hA3.c0
      have b1 := hA3.c1
      have b2 := hA3.c2
      go_wp2_with fail
      have hA4 := hA3.drew
      have G4 := gr_dr G3.out
      go_region_held3 (fun w' => w'.cell? ⟨w.heap.size, 2, none⟩ = some (.string y)) (first | exact Three.c2 (by assumption) | go_keep)
        (first
        | (go_at_call 25; refine (HO.out _).mono ?_; rintro e v1 ⟨rfl, g1⟩; have T : Three v1 w.heap.size (.bool false) (.string x) (.string y) 49 := Three.kept (by assumption) g1; have GG : w.grownBy v1 none := gr_then (by assumption) g1)
        | (go_at_call 21; with_reducible refine (HC.out _).mono ?_; rintro e v2 ⟨rfl, g1⟩; have T2 : Three v2 w.heap.size (.bool false) (.string x) (.string y) 49 := Three.kept (by assumption) g1; have GG2 : w.grownBy v2 none := gr_then (by assumption) g1))
      go_wp2
      go_ret
      exact ⟨rfl, by assumption⟩
    · simp only [if_neg h1, if_neg h2]; have h4 : (cz == 0) = false := by rw [beq_eq_false_iff_ne]; exact h3
      clear h1 h2
      go_enter Tryz.func65, Tryz.ntmps65
      go_wp2_with fail
      refine (HV.out _).mono ?_
      rintro e w1 ⟨rfl, g1⟩
      have hA1 := hA0.kept g1
      have G1 := Lib.hid (gr_one g1)
      have a0 := hA1.c0
      have a1 := hA1.c1
      have a2 := hA1.c2
      have f0 := hA1.fr 0
      have f1 := hA1.fr 1
      have f2 := hA1.fr 2
      have hA2 := hA1.all (.bool false) (.string x) (.string y)
      have G2 := Lib.hid (gr_set3 G1.out (Nat.le_refl _) (.bool false) (.string x) (.string y))
      clear g1 G1
      go_wp2_with fail
      refine (HN.out _).mono ?_
      rintro e w2 ⟨rfl, g2⟩
      have hA3 := hA2.kept g2
      have G3 := Lib.hid (gr_then G2.out g2)
      clear a0 a1 a2 f0 f1 f2 g2 G2 hA2 hA1
      have b0 := hA3.c0
      have b1 := hA3.c1
      have b2 := hA3.c2
      go_wp2_with fail
      have hA4 := hA3.drew
      have G4 := gr_dr G3.out
      go_region_held3 (fun w' => w'.cell? ⟨w.heap.size, 2, none⟩ = some (.string y)) (first | exact Three.c2 (by assumption) | go_keep)
        (first
        | (go_at_call 25; refine (HO.out _).mono ?_; rintro e v1 ⟨rfl, g1⟩; have T : Three v1 w.heap.size (.bool false) (.string x) (.string y) 49 := Three.kept (by assumption) g1; have GG : w.grownBy v1 none := gr_then (by assumption) g1)
        | (go_at_call 21; with_reducible refine (HC.out _).mono ?_; rintro e v2 ⟨rfl, g1⟩; have T2 : Three v2 w.heap.size (.bool false) (.string x) (.string y) 49 := Three.kept (by assumption) g1; have GG2 : w.grownBy v2 none := gr_then (by assumption) g1))
      have HG5 := Lib.hid GG2
      have b0 := T2.c0
      have b1 := T2.c1
      have b2 := T2.c2
      go_wp2_with fail
      refine (HD.out _).mono ?_
      rintro e w3 ⟨rfl, g3⟩
      have G6 := gr_then HG5.out g3
      go_wp2
      go_ret
      exact ⟨by rw [← ByteArray.append_assoc]; rfl, G6⟩
end Go.Proofs.YteajpefbmiiioaaGreatDoor
namespace Go.Proofs.YteajpefbmiiioaaGreatDoor
open Go.RowKit Mth Go.Lib

section
variable (s x y z : ByteArray) (neg : Bool) (n d : Nat) (w : World)
set_option maxRecDepth 100000 in
theorem parse_num_bad_true (hP : ∀ w, Gives 121 #[.string s, .string ⟨#[45]⟩] w (.tuple #[.string x, .bool neg])) (hC : ∀ w, Gives 122 #[.string x, .string ⟨#[47]⟩] w (.tuple #[.string y, .string z, .bool true])) (hn : ∀ w, Gives 33 #[.string y] w (.tuple #[.string ⟨#[]⟩, .bool false])) :
    Gives 66 #[.string s] w (.tuple #[.agg #[.bool false, .string ⟨#[]⟩, .string ⟨#[]⟩], .bool false]) := by
  have HP := Lib.hid hP
  have HC := Lib.hid hC
  have Hn := Lib.hid hn
  clear hP hC hn
  have hT0 := Three.new w (.bool false) (.string ⟨#[]⟩) (.string ⟨#[]⟩) 49
  go_enter Tryz.func66, Tryz.ntmps66
  go_wp2_with fail
  refine (HP.out _).mono ?_
  rintro e w1 ⟨rfl, g1⟩
  have hT1 := hT0.kept g1
  have G1 := Lib.hid (gr_one g1)
  clear g1 hT0
  go_wp2_with fail
  refine (HC.out _).mono ?_
  rintro e w2 ⟨rfl, g1⟩
  have hT2 := hT1.kept g1
  have G2 := Lib.hid (gr_then G1.out g1)
  clear g1 hT1 G1
  go_wp2_with fail
  refine (Hn.out _).mono ?_
  rintro e w3 ⟨rfl, g1⟩
  have hT3 := hT2.kept g1
  have G3 := Lib.hid (gr_then G2.out g1)
  clear g1 hT2 G2
  have f0 := hT3.fr 0
  have f1 := hT3.fr 1
  have f2 := hT3.fr 2
  have c0 := hT3.c0
  have c1 := hT3.c1
  have c2 := hT3.c2
  go_wp2
  exact bodyPost_ret (v := .tuple #[.agg #[.bool false, .string ⟨#[]⟩, .string ⟨#[]⟩], .bool false]) (by simp [results, Tryz.results66, go_sem, c0, c1, c2]) rfl ⟨rfl, gr_setn (gr_setn (gr_setn G3.out (Nat.le_refl _)) (Nat.le_refl _)) (Nat.le_refl _)⟩
set_option maxRecDepth 100000 in
theorem parse_num_bad_false (hP : ∀ w, Gives 121 #[.string s, .string ⟨#[45]⟩] w (.tuple #[.string x, .bool neg])) (hC : ∀ w, Gives 122 #[.string x, .string ⟨#[47]⟩] w (.tuple #[.string y, .string z, .bool false])) (hn : ∀ w, Gives 33 #[.string y] w (.tuple #[.string ⟨#[]⟩, .bool false])) :
    Gives 66 #[.string s] w (.tuple #[.agg #[.bool false, .string ⟨#[]⟩, .string ⟨#[]⟩], .bool false]) := by
  have HP := Lib.hid hP
  have HC := Lib.hid hC
  have Hn := Lib.hid hn
  clear hP hC hn
  have hT0 := Three.new w (.bool false) (.string ⟨#[]⟩) (.string ⟨#[]⟩) 49
  go_enter Tryz.func66, Tryz.ntmps66
  go_wp2_with fail
  refine (HP.out _).mono ?_
  rintro e w1 ⟨rfl, g1⟩
  have hT1 := hT0.kept g1
  have G1 := Lib.hid (gr_one g1)
  clear g1 hT0
  go_wp2_with fail
  refine (HC.out _).mono ?_
  rintro e w2 ⟨rfl, g1⟩
  have hT2 := hT1.kept g1
  have G2 := Lib.hid (gr_then G1.out g1)
  clear g1 hT1 G1
  go_wp2_with fail
  refine (Hn.out _).mono ?_
  rintro e w3 ⟨rfl, g1⟩
  have hT3 := hT2.kept g1
  have G3 := Lib.hid (gr_then G2.out g1)
  clear g1 hT2 G2
  have f0 := hT3.fr 0
  have f1 := hT3.fr 1
  have f2 := hT3.fr 2
  have c0 := hT3.c0
  have c1 := hT3.c1
  have c2 := hT3.c2
  go_wp2
  exact bodyPost_ret (v := .tuple #[.agg #[.bool false, .string ⟨#[]⟩, .string ⟨#[]⟩], .bool false]) (by simp [results, Tryz.results66, go_sem, c0, c1, c2]) rfl ⟨rfl, gr_setn (gr_setn (gr_setn G3.out (Nat.le_refl _)) (Nat.le_refl _)) (Nat.le_refl _)⟩
set_option maxRecDepth 100000 in
theorem parse_den_bad (hP : ∀ w, Gives 121 #[.string s, .string ⟨#[45]⟩] w (.tuple #[.string x, .bool neg])) (hC : ∀ w, Gives 122 #[.string x, .string ⟨#[47]⟩] w (.tuple #[.string y, .string z, .bool true])) (hn : ∀ w, Gives 33 #[.string y] w (.tuple #[.string (S n), .bool true])) (hd : ∀ w, Gives 33 #[.string z] w (.tuple #[.string ⟨#[]⟩, .bool false])) :
    Gives 66 #[.string s] w (.tuple #[.agg #[.bool false, .string ⟨#[]⟩, .string ⟨#[]⟩], .bool false]) := by
  have HP := Lib.hid hP
  have HC := Lib.hid hC
  have Hn := Lib.hid hn
  have Hd := Lib.hid hd
  generalize S n = sn at *
  clear hP hC hn hd
  have hT0 := Three.new w (.bool false) (.string ⟨#[]⟩) (.string ⟨#[]⟩) 49
  go_enter Tryz.func66, Tryz.ntmps66
  go_wp2_with fail
  refine (HP.out _).mono ?_
  rintro e w1 ⟨rfl, g1⟩
  have hT1 := hT0.kept g1
  have G1 := Lib.hid (gr_one g1)
  clear g1 hT0
  go_wp2_with fail
  refine (HC.out _).mono ?_
  rintro e w2 ⟨rfl, g1⟩
  have hT2 := hT1.kept g1
  have G2 := Lib.hid (gr_then G1.out g1)
  clear g1 hT1 G1
  go_wp2_with fail
  refine (Hn.out _).mono ?_
  rintro e w3 ⟨rfl, g1⟩
  have hT3 := hT2.kept g1
  have G3 := Lib.hid (gr_then G2.out g1)
  clear g1 hT2 G2
  go_wp2_with fail
  refine (Hd.out _).mono ?_
  rintro e w4 ⟨rfl, g1⟩
  have hT4 := hT3.kept g1
  have G4 := Lib.hid (gr_then G3.out g1)
  clear g1 hT3 G3
  have f0 := hT4.fr 0
  have f1 := hT4.fr 1
  have f2 := hT4.fr 2
  have c0 := hT4.c0
  have c1 := hT4.c1
  have c2 := hT4.c2
  go_wp2
  exact bodyPost_ret (v := .tuple #[.agg #[.bool false, .string ⟨#[]⟩, .string ⟨#[]⟩], .bool false]) (by simp [results, Tryz.results66, go_sem, c0, c1, c2]) rfl ⟨rfl, gr_setn (gr_setn (gr_setn G4.out (Nat.le_refl _)) (Nat.le_refl _)) (Nat.le_refl _)⟩
set_option maxRecDepth 100000 in
theorem parse_frac_yes (hP : ∀ w, Gives 121 #[.string s, .string ⟨#[45]⟩] w (.tuple #[.string x, .bool neg])) (hC : ∀ w, Gives 122 #[.string x, .string ⟨#[47]⟩] w (.tuple #[.string y, .string z, .bool true])) (hn : ∀ w, Gives 33 #[.string y] w (.tuple #[.string (S n), .bool true])) (hd : ∀ w, Gives 33 #[.string z] w (.tuple #[.string (S d), .bool true])) (h1 : d ≠ 1) (hR : ∀ w, Gives 58 #[RW neg n d] w (.bool true)) :
    Gives 66 #[.string s] w (.tuple #[RW neg n d, .bool true]) := by
  have HP := Lib.hid hP
  have HC := Lib.hid hC
  have Hn := Lib.hid hn
  have Hd := Lib.hid hd
  have e1 := tl_one h1
  unfold RW at hR ⊢
  have HR := Lib.hid hR
  generalize S n = sn at *
  generalize S d = sd at *
  clear hP hC hn hd hR h1
  have hT0 := Three.new w (.bool false) (.string ⟨#[]⟩) (.string ⟨#[]⟩) 49
  go_enter Tryz.func66, Tryz.ntmps66
  go_wp2_with fail
  refine (HP.out _).mono ?_
  rintro e w1 ⟨rfl, g1⟩
  have hT1 := hT0.kept g1
  have G1 := Lib.hid (gr_one g1)
  clear g1 hT0
  go_wp2_with fail
  refine (HC.out _).mono ?_
  rintro e w2 ⟨rfl, g1⟩
  have hT2 := hT1.kept g1
  have G2 := Lib.hid (gr_then G1.out g1)
  clear g1 hT1 G1
  go_wp2_with fail
  refine (Hn.out _).mono ?_
  rintro e w3 ⟨rfl, g1⟩
  have hT3 := hT2.kept g1
  have G3 := Lib.hid (gr_then G2.out g1)
  clear g1 hT2 G2
  go_wp2_with fail
  refine (Hd.out _).mono ?_
  rintro e w4 ⟨rfl, g1⟩
  have hT4 := hT3.kept g1
  have G4 := Lib.hid (gr_then G3.out g1)
  clear g1 hT3 G3
  have hU4 := Three.new w4 (.bool neg) (.string sn) (.string sd) 49
  go_wp2_with fail
  refine (HR.out _).mono ?_
  rintro e w5 ⟨rfl, g1⟩
  have hT5 := (hT4.alloc (.cells #[.bool neg, .string sn, .string sd] 49)).kept g1
  have hU5 := hU4.kept g1
  have G5 := Lib.hid (gr_then (gr_then G4.out (gr_alloc w4 (.cells #[.bool neg, .string sn, .string sd] 49) none)) g1)
  have hne : w.heap.size ≠ w4.heap.size := by have := hT4.lt; omega
  have hne2 : w4.heap.size ≠ w.heap.size := fun e => hne e.symm
  clear g1 hU4 G4
  have u0 := hU5.c0
  have u1 := hU5.c1
  have u2 := hU5.c2
  clear hT4
  have f0 := hT5.fr 0
  have f1 := hT5.fr 1
  have f2 := hT5.fr 2
  have c0 := hT5.c0
  have c1 := hT5.c1
  have c2 := hT5.c2
  generalize w4.heap.size = B at *
  go_wp2
  exact bodyPost_ret (v := .tuple #[.agg #[.bool neg, .string sn, .string sd], .bool true]) (by simp [results, Tryz.results66, go_sem, c0, c1, c2]) rfl ⟨rfl, gr_setn (gr_setn (gr_setn G5.out (Nat.le_refl _)) (Nat.le_refl _)) (Nat.le_refl _)⟩
set_option maxRecDepth 100000 in
theorem parse_whole_yes (hP : ∀ w, Gives 121 #[.string s, .string ⟨#[45]⟩] w (.tuple #[.string x, .bool neg])) (hC : ∀ w, Gives 122 #[.string x, .string ⟨#[47]⟩] w (.tuple #[.string y, .string z, .bool false])) (hn : ∀ w, Gives 33 #[.string y] w (.tuple #[.string (S n), .bool true])) (hR : ∀ w, Gives 58 #[RW neg n 1] w (.bool true)) :
    Gives 66 #[.string s] w (.tuple #[RW neg n 1, .bool true]) := by
  have HP := Lib.hid hP
  have HC := Lib.hid hC
  have Hn := Lib.hid hn
  unfold RW at hR ⊢
  rw [one_lit] at hR ⊢
  have HR := Lib.hid hR
  generalize S n = sn at *
  clear hP hC hn hR
  have hT0 := Three.new w (.bool false) (.string ⟨#[]⟩) (.string ⟨#[]⟩) 49
  go_enter Tryz.func66, Tryz.ntmps66
  go_wp2_with fail
  refine (HP.out _).mono ?_
  rintro e w1 ⟨rfl, g1⟩
  have hT1 := hT0.kept g1
  have G1 := Lib.hid (gr_one g1)
  clear g1 hT0
  go_wp2_with fail
  refine (HC.out _).mono ?_
  rintro e w2 ⟨rfl, g1⟩
  have hT2 := hT1.kept g1
  have G2 := Lib.hid (gr_then G1.out g1)
  clear g1 hT1 G1
  go_wp2_with fail
  refine (Hn.out _).mono ?_
  rintro e w3 ⟨rfl, g1⟩
  have hT3 := hT2.kept g1
  have G3 := Lib.hid (gr_then G2.out g1)
  clear g1 hT2 G2
  have hU3 := Three.new w3 (.bool neg) (.string sn) (.string ⟨#[1]⟩) 49
  go_wp2_with fail
  refine (HR.out _).mono ?_
  rintro e w5 ⟨rfl, g1⟩
  have hT5 := (hT3.alloc (.cells #[.bool neg, .string sn, .string ⟨#[1]⟩] 49)).kept g1
  have hU5 := hU3.kept g1
  have G5 := Lib.hid (gr_then (gr_then G3.out (gr_alloc w3 (.cells #[.bool neg, .string sn, .string ⟨#[1]⟩] 49) none)) g1)
  have hne : w.heap.size ≠ w3.heap.size := by have := hT3.lt; omega
  have hne2 : w3.heap.size ≠ w.heap.size := fun e => hne e.symm
  clear g1 hU3 G3
  have u0 := hU5.c0
  have u1 := hU5.c1
  have u2 := hU5.c2
  clear hT3
  have f0 := hT5.fr 0
  have f1 := hT5.fr 1
  have f2 := hT5.fr 2
  have c0 := hT5.c0
  have c1 := hT5.c1
  have c2 := hT5.c2
  generalize w3.heap.size = B at *
  go_wp2
  exact bodyPost_ret (v := .tuple #[.agg #[.bool neg, .string sn, .string ⟨#[1]⟩], .bool true]) (by simp [results, Tryz.results66, go_sem, c0, c1, c2]) rfl ⟨rfl, gr_setn (gr_setn (gr_setn G5.out (Nat.le_refl _)) (Nat.le_refl _)) (Nat.le_refl _)⟩
end
end Go.Proofs.YteajpefbmiiioaaGreatDoor
namespace Go.Proofs.YteajpefbmiiioaaGreatDoor
open Go.RowKit Mth Go.Lib

/-- What the reference's Parse gives, by what its parts give. -/
def EndsIn (s y z : ByteArray) (neg : Bool) (a : Bool) (b c : ByteArray) (o : Bool) : Prop :=
  ∃ (n1 d1 : ByteArray) (o1 o2 : Bool), (∀ w, Gives 36 #[.string y] w (.tuple #[.string n1, .bool o1])) ∧ (∀ w, Gives 36 #[.string z] w (.tuple #[.string d1, .bool o2])) ∧
    ((o1 = false ∧ a = false ∧ b = ⟨#[]⟩ ∧ c = ⟨#[]⟩ ∧ o = false) ∨ (o1 = true ∧ o2 = false ∧ a = false ∧ b = ⟨#[]⟩ ∧ c = ⟨#[]⟩ ∧ o = false) ∨ (o1 = true ∧ o2 = true ∧
      (((∀ w, Gives 54 #[.bool neg, .string n1, .string d1] w (.tuple #[.agg #[.bool false, .string ⟨#[]⟩, .string ⟨#[]⟩], .bool false])) ∧ a = false ∧ b = ⟨#[]⟩ ∧ c = ⟨#[]⟩ ∧ o = false) ∨
       (∃ (qa : Bool) (qb qc t : ByteArray), (∀ w, Gives 54 #[.bool neg, .string n1, .string d1] w (.tuple #[.agg #[.bool qa, .string qb, .string qc], .bool true])) ∧ (∀ w, Gives 65 #[.agg #[.bool qa, .string qb, .string qc]] w (.string t)) ∧
         (((t.toList == s.toList) = false ∧ a = false ∧ b = ⟨#[]⟩ ∧ c = ⟨#[]⟩ ∧ o = false) ∨ (t = s ∧ a = qa ∧ b = qb ∧ c = qc ∧ o = true))))))
set_option maxHeartbeats 4000000 in
set_option maxRecDepth 100000 in
theorem rparse_nil (s x y z : ByteArray) (dv a : Bool) (b c : ByteArray) (o : Bool) (w : World) (hs : s.size ≤ 1000) (h0 : s.size = 0) (hsg : s = x) (hc : (dv = true ∧ ∃ i, ∃ h : i < x.size, x[i].toNat = 47 ∧ (∀ j (_ : j < i) (h : j < x.size), x[j].toNat ≠ 47) ∧ x.extract 0 i = y ∧ x.extract (i + 1) x.size = z) ∨ (dv = false ∧ (∀ j (h : j < x.size), x[j].toNat ≠ 47) ∧ y = x ∧ z = ⟨#[49]⟩)) (he : EndsIn s y z false a b c o) :
    Gives 67 #[.string s] w (.tuple #[.agg #[.bool a, .string b, .string c], .bool o]) := by
  obtain ⟨n1, d1, o1, o2, h1, h2, he⟩ := he
  have H1 := Lib.hid h1
  have H2 := Lib.hid h2
  have HE := Lib.hid he
  clear h1 h2 he
  have T0 := Three.new w (.bool false) (.string ⟨#[]⟩) (.string ⟨#[]⟩) 49
  have G0 := Lib.hid (gr_alloc w (.cells #[.bool false, .string ⟨#[]⟩, .string ⟨#[]⟩] 49) none)
  obtain rfl := hsg
  have hxs := hs
  have hz0 : ¬ (0 : Int) < (s.size : Int) := by omega
  have HCC := Lib.hid hc
  clear hc
  go_enter Tryz.func67, Tryz.ntmps67
  go_wp2_with fail
  go_loopw [6, 7, 8] (fun a6 a7 v wr => ∃ k : Nat, k ≤ s.size ∧ a6 = .string s ∧ a7 = .string ⟨#[49]⟩ ∧ v = .int .i64 (k : Int) ∧ Hid (∀ j (h : j < s.size), j < k → s[j].toNat ≠ 47) ∧ Three wr w.heap.size (.bool false) (.string ⟨#[]⟩) (.string ⟨#[]⟩) 49 ∧ w.grownBy wr none) (fun _ _ v _ => s.size - (RowKit.intOf v).toNat)
  case atStart => exact ⟨0, by omega, rfl, rfl, rfl, Lib.hid (fun j h1 h2 => by omega), T0, G0.out⟩
  case round =>
    clear T0 G0
    obtain ⟨k, hk, rfl, rfl, rfl, HA, T1, g0⟩ := hrel
    have G1 := Lib.hid g0
    clear g0
    by_cases hlt : k < s.size
    · exact absurd hlt (by omega)
    · obtain rfl : k = s.size := by omega
      have hcc := HCC.out
      clear HCC
      rcases hcc with ⟨_, i, hi, hi1, _, _, _⟩ | ⟨rfl, _, rfl, rfl⟩
      · exact absurd hi1 (HA.out i hi hi)
      · clear HA
        go_wp2_with fail
        refine (H1.out _).mono ?_
        rintro e w2 ⟨rfl, g1⟩
        have T2 := T1.kept g1
        have G2 := Lib.hid (gr_then G1.out g1)
        clear g1 T1 G1
        go_wp2_with fail
        refine (H2.out _).mono ?_
        rintro e w3 ⟨rfl, g1⟩
        have T3 := T2.kept g1
        have G3 := Lib.hid (gr_then G2.out g1)
        clear g1 T2 G2
        have hcase := HE.out
        clear HE
        rcases hcase with ⟨rfl, rfl, rfl, rfl, rfl⟩ | ⟨rfl, rfl, rfl, rfl, rfl, rfl⟩ | ⟨rfl, rfl, hcase⟩
        · have f0 := T3.fr 0
          have f1 := T3.fr 1
          have f2 := T3.fr 2
          have c0 := T3.c0
          have c1 := T3.c1
          have c2 := T3.c2
          go_wp2
          exact bodyPost_ret (v := .tuple #[.agg #[.bool false, .string ⟨#[]⟩, .string ⟨#[]⟩], .bool false]) (by simp [results, Tryz.results67, go_sem, c0, c1, c2]) rfl ⟨rfl, gr_setn (gr_setn (gr_setn G3.out (Nat.le_refl _)) (Nat.le_refl _)) (Nat.le_refl _)⟩
        · have f0 := T3.fr 0
          have f1 := T3.fr 1
          have f2 := T3.fr 2
          have c0 := T3.c0
          have c1 := T3.c1
          have c2 := T3.c2
          go_wp2
          exact bodyPost_ret (v := .tuple #[.agg #[.bool false, .string ⟨#[]⟩, .string ⟨#[]⟩], .bool false]) (by simp [results, Tryz.results67, go_sem, c0, c1, c2]) rfl ⟨rfl, gr_setn (gr_setn (gr_setn G3.out (Nat.le_refl _)) (Nat.le_refl _)) (Nat.le_refl _)⟩
        · rcases hcase with ⟨hm, rfl, rfl, rfl, rfl⟩ | ⟨qa, qb, qc, t, hm, ht, hcase⟩
          · have HM := Lib.hid hm
            clear hm
            go_wp2_with fail
            refine (HM.out _).mono ?_
            rintro e w4 ⟨rfl, g1⟩
            have T4 := (T3.kept g1).alloc (.cells #[.bool false, .string ⟨#[]⟩, .string ⟨#[]⟩] 49)
            have U4 := Three.new w4 (.bool false) (.string ⟨#[]⟩) (.string ⟨#[]⟩) 49
            have G4 := Lib.hid (gr_al (o := .cells #[.bool false, .string ⟨#[]⟩, .string ⟨#[]⟩] 49) (gr_then G3.out g1))
            have hne : w.heap.size ≠ w4.heap.size := by have := (T3.kept g1).lt; omega
            have hne2 : w4.heap.size ≠ w.heap.size := fun e => hne e.symm
            clear g1 T3 G3
            have f0 := T4.fr 0
            have f1 := T4.fr 1
            have f2 := T4.fr 2
            have c0 := T4.c0
            have c1 := T4.c1
            have c2 := T4.c2
            go_wp2
            exact bodyPost_ret (v := .tuple #[.agg #[.bool false, .string ⟨#[]⟩, .string ⟨#[]⟩], .bool false]) (by simp [results, Tryz.results67, go_sem, c0, c1, c2]) rfl ⟨rfl, gr_setn (gr_setn (gr_setn G4.out (Nat.le_refl _)) (Nat.le_refl _)) (Nat.le_refl _)⟩
          · have HX := Lib.hid ht
            clear ht
            have HM := Lib.hid hm
            clear hm
            go_wp2_with fail
            refine (HM.out _).mono ?_
            rintro e w4 ⟨rfl, g1⟩
            have T4 := (T3.kept g1).alloc (.cells #[.bool qa, .string qb, .string qc] 49)
            have U4 := Three.new w4 (.bool qa) (.string qb) (.string qc) 49
            have G4 := Lib.hid (gr_al (o := .cells #[.bool qa, .string qb, .string qc] 49) (gr_then G3.out g1))
            have hne : w.heap.size ≠ w4.heap.size := by have := (T3.kept g1).lt; omega
            have hne2 : w4.heap.size ≠ w.heap.size := fun e => hne e.symm
            clear g1 T3 G3
            have u0 := U4.c0
            have u1 := U4.c1
            have u2 := U4.c2
            go_wp2_with fail
            refine (HX.out _).mono ?_
            rintro e w5 ⟨rfl, g1⟩
            have T5 := T4.kept g1
            have U5 := U4.kept g1
            have G5 := Lib.hid (gr_then G4.out g1)
            clear g1 T4 U4 G4 u0 u1 u2
            have u0 := U5.c0
            have u1 := U5.c1
            have u2 := U5.c2
            generalize w4.heap.size = B4 at *
            rcases hcase with ⟨ht, rfl, rfl, rfl, rfl⟩ | ⟨rfl, rfl, rfl, rfl, rfl⟩
            · have f0 := T5.fr 0
              have f1 := T5.fr 1
              have f2 := T5.fr 2
              have c0 := T5.c0
              have c1 := T5.c1
              have c2 := T5.c2
              go_wp2
              exact bodyPost_ret (v := .tuple #[.agg #[.bool false, .string ⟨#[]⟩, .string ⟨#[]⟩], .bool false]) (by simp [results, Tryz.results67, go_sem, c0, c1, c2]) rfl ⟨rfl, gr_setn (gr_setn (gr_setn G5.out (Nat.le_refl _)) (Nat.le_refl _)) (Nat.le_refl _)⟩
            · have f0 := T5.fr 0
              have f1 := T5.fr 1
              have f2 := T5.fr 2
              have c0 := T5.c0
              have c1 := T5.c1
              have c2 := T5.c2
              go_wp2
              exact bodyPost_ret (v := .tuple #[.agg #[.bool a, .string b, .string c], .bool true]) (by simp [results, Tryz.results67, go_sem, c0, c1, c2]) rfl ⟨rfl, gr_setn (gr_setn (gr_setn G5.out (Nat.le_refl _)) (Nat.le_refl _)) (Nat.le_refl _)⟩
end Go.Proofs.YteajpefbmiiioaaGreatDoor
namespace Go.Proofs.YteajpefbmiiioaaGreatDoor
open Go.RowKit Mth Go.Lib

set_option maxHeartbeats 4000000 in
set_option maxRecDepth 100000 in
theorem rparse_neg (s x y z : ByteArray) (dv a : Bool) (b c : ByteArray) (o : Bool) (w : World) (hs : s.size ≤ 1000) (h0 : 0 < s.size) (hsg : s[0].toNat = 45 ∧ s.extract 1 s.size = x) (hc : (dv = true ∧ ∃ i, ∃ h : i < x.size, x[i].toNat = 47 ∧ (∀ j (_ : j < i) (h : j < x.size), x[j].toNat ≠ 47) ∧ x.extract 0 i = y ∧ x.extract (i + 1) x.size = z) ∨ (dv = false ∧ (∀ j (h : j < x.size), x[j].toNat ≠ 47) ∧ y = x ∧ z = ⟨#[49]⟩)) (he : EndsIn s y z true a b c o) :
    Gives 67 #[.string s] w (.tuple #[.agg #[.bool a, .string b, .string c], .bool o]) := by
  obtain ⟨n1, d1, o1, o2, h1, h2, he⟩ := he
  have H1 := Lib.hid h1
  have H2 := Lib.hid h2
  have HE := Lib.hid he
  clear h1 h2 he
  have T0 := Three.new w (.bool false) (.string ⟨#[]⟩) (.string ⟨#[]⟩) 49
  have G0 := Lib.hid (gr_alloc w (.cells #[.bool false, .string ⟨#[]⟩, .string ⟨#[]⟩] 49) none)
  obtain ⟨hc0, hx⟩ := hsg
  have hxs : x.size ≤ 1000 := by rw [← hx, ByteArray.size_extract]; omega
  have hz0 : (0 : Int) < (s.size : Int) := by omega
  have HCC := Lib.hid hc
  clear hc
  go_enter Tryz.func67, Tryz.ntmps67
  go_wp2_with fail
  clear hx hc0
  go_loopw [6, 7, 8] (fun a6 a7 v wr => ∃ k : Nat, k ≤ x.size ∧ a6 = .string x ∧ a7 = .string ⟨#[49]⟩ ∧ v = .int .i64 (k : Int) ∧ Hid (∀ j (h : j < x.size), j < k → x[j].toNat ≠ 47) ∧ Three wr w.heap.size (.bool false) (.string ⟨#[]⟩) (.string ⟨#[]⟩) 49 ∧ w.grownBy wr none) (fun _ _ v _ => x.size - (RowKit.intOf v).toNat)
  case atStart => exact ⟨0, by omega, rfl, rfl, rfl, Lib.hid (fun j h1 h2 => by omega), T0, G0.out⟩
  case round =>
    clear T0 G0
    obtain ⟨k, hk, rfl, rfl, rfl, HA, T1, g0⟩ := hrel
    have G1 := Lib.hid g0
    clear g0
    by_cases hlt : k < x.size
    · have hb1 : (k : Int) < (x.size : Int) := by omega
      have k1 : (k : Int) + 1 ≤ 9223372036854775807 := by omega
      obtain ⟨n, hn⟩ : ∃ n, x[k].toNat = n := ⟨_, rfl⟩
      by_cases h47 : n = 47
      · subst h47
        have hlen : k ≤ x.size := hk
        have hlen2 : k + 1 ≤ x.size := hlt
        have hcc := HCC.out
        clear HCC
        rcases hcc with ⟨rfl, i, hi, hi1, hi2, hy, hz⟩ | ⟨_, hi2, _, _⟩
        · have hki : k = i := by
            rcases Nat.lt_trichotomy k i with h | h | h
            · exact absurd hn (hi2 k h hlt)
            · exact h
            · exact absurd hi1 (HA.out i hi h)
          subst hki
          clear hi hi1 hi2 HA
          go_wp2_with fail
          refine (H1.out _).mono ?_
          rintro e w2 ⟨rfl, g1⟩
          have T2 := T1.kept g1
          have G2 := Lib.hid (gr_then G1.out g1)
          clear g1 T1 G1
          go_wp2_with fail
          refine (H2.out _).mono ?_
          rintro e w3 ⟨rfl, g1⟩
          have T3 := T2.kept g1
          have G3 := Lib.hid (gr_then G2.out g1)
          clear g1 T2 G2
          have hcase := HE.out
          clear HE
          rcases hcase with ⟨rfl, rfl, rfl, rfl, rfl⟩ | ⟨rfl, rfl, rfl, rfl, rfl, rfl⟩ | ⟨rfl, rfl, hcase⟩
          · have f0 := T3.fr 0
            have f1 := T3.fr 1
            have f2 := T3.fr 2
            have c0 := T3.c0
            have c1 := T3.c1
            have c2 := T3.c2
            go_wp2
            exact bodyPost_ret (v := .tuple #[.agg #[.bool false, .string ⟨#[]⟩, .string ⟨#[]⟩], .bool false]) (by simp [results, Tryz.results67, go_sem, c0, c1, c2]) rfl ⟨rfl, gr_setn (gr_setn (gr_setn G3.out (Nat.le_refl _)) (Nat.le_refl _)) (Nat.le_refl _)⟩
          · have f0 := T3.fr 0
            have f1 := T3.fr 1
            have f2 := T3.fr 2
            have c0 := T3.c0
            have c1 := T3.c1
            have c2 := T3.c2
            go_wp2
            exact bodyPost_ret (v := .tuple #[.agg #[.bool false, .string ⟨#[]⟩, .string ⟨#[]⟩], .bool false]) (by simp [results, Tryz.results67, go_sem, c0, c1, c2]) rfl ⟨rfl, gr_setn (gr_setn (gr_setn G3.out (Nat.le_refl _)) (Nat.le_refl _)) (Nat.le_refl _)⟩
          · rcases hcase with ⟨hm, rfl, rfl, rfl, rfl⟩ | ⟨qa, qb, qc, t, hm, ht, hcase⟩
            · have HM := Lib.hid hm
              clear hm
              go_wp2_with fail
              refine (HM.out _).mono ?_
              rintro e w4 ⟨rfl, g1⟩
              have T4 := (T3.kept g1).alloc (.cells #[.bool false, .string ⟨#[]⟩, .string ⟨#[]⟩] 49)
              have U4 := Three.new w4 (.bool false) (.string ⟨#[]⟩) (.string ⟨#[]⟩) 49
              have G4 := Lib.hid (gr_al (o := .cells #[.bool false, .string ⟨#[]⟩, .string ⟨#[]⟩] 49) (gr_then G3.out g1))
              have hne : w.heap.size ≠ w4.heap.size := by have := (T3.kept g1).lt; omega
              have hne2 : w4.heap.size ≠ w.heap.size := fun e => hne e.symm
              clear g1 T3 G3
              have f0 := T4.fr 0
              have f1 := T4.fr 1
              have f2 := T4.fr 2
              have c0 := T4.c0
              have c1 := T4.c1
              have c2 := T4.c2
              go_wp2
              exact bodyPost_ret (v := .tuple #[.agg #[.bool false, .string ⟨#[]⟩, .string ⟨#[]⟩], .bool false]) (by simp [results, Tryz.results67, go_sem, c0, c1, c2]) rfl ⟨rfl, gr_setn (gr_setn (gr_setn G4.out (Nat.le_refl _)) (Nat.le_refl _)) (Nat.le_refl _)⟩
            · have HX := Lib.hid ht
              clear ht
              have HM := Lib.hid hm
              clear hm
              go_wp2_with fail
              refine (HM.out _).mono ?_
              rintro e w4 ⟨rfl, g1⟩
              have T4 := (T3.kept g1).alloc (.cells #[.bool qa, .string qb, .string qc] 49)
              have U4 := Three.new w4 (.bool qa) (.string qb) (.string qc) 49
              have G4 := Lib.hid (gr_al (o := .cells #[.bool qa, .string qb, .string qc] 49) (gr_then G3.out g1))
              have hne : w.heap.size ≠ w4.heap.size := by have := (T3.kept g1).lt; omega
              have hne2 : w4.heap.size ≠ w.heap.size := fun e => hne e.symm
              clear g1 T3 G3
              have u0 := U4.c0
              have u1 := U4.c1
              have u2 := U4.c2
              go_wp2_with fail
              refine (HX.out _).mono ?_
              rintro e w5 ⟨rfl, g1⟩
              have T5 := T4.kept g1
              have U5 := U4.kept g1
              have G5 := Lib.hid (gr_then G4.out g1)
              clear g1 T4 U4 G4 u0 u1 u2
              have u0 := U5.c0
              have u1 := U5.c1
              have u2 := U5.c2
              generalize w4.heap.size = B4 at *
              rcases hcase with ⟨ht, rfl, rfl, rfl, rfl⟩ | ⟨rfl, rfl, rfl, rfl, rfl⟩
              · have f0 := T5.fr 0
                have f1 := T5.fr 1
                have f2 := T5.fr 2
                have c0 := T5.c0
                have c1 := T5.c1
                have c2 := T5.c2
                go_wp2
                exact bodyPost_ret (v := .tuple #[.agg #[.bool false, .string ⟨#[]⟩, .string ⟨#[]⟩], .bool false]) (by simp [results, Tryz.results67, go_sem, c0, c1, c2]) rfl ⟨rfl, gr_setn (gr_setn (gr_setn G5.out (Nat.le_refl _)) (Nat.le_refl _)) (Nat.le_refl _)⟩
              · have f0 := T5.fr 0
                have f1 := T5.fr 1
                have f2 := T5.fr 2
                have c0 := T5.c0
                have c1 := T5.c1
                have c2 := T5.c2
                go_wp2
                exact bodyPost_ret (v := .tuple #[.agg #[.bool a, .string b, .string c], .bool true]) (by simp [results, Tryz.results67, go_sem, c0, c1, c2]) rfl ⟨rfl, gr_setn (gr_setn (gr_setn G5.out (Nat.le_refl _)) (Nat.le_refl _)) (Nat.le_refl _)⟩
        · exact absurd hn (hi2 k hlt)
      · have hm : ((n : Int) == 47) = false := by rw [beq_eq_false_iff_ne]; omega
        go_wp2_with fail
        exact ⟨⟨k + 1, by omega, rfl, rfl, by first | rfl | go_num, Lib.hid (fun j h1 h2 => by
          rcases Nat.lt_or_ge j k with h | h
          · exact HA.out j h1 h
          · obtain rfl : j = k := by omega
            rw [hn]; exact h47), T1, G1.out⟩, by simp [RowKit.intOf]; omega⟩
    · obtain rfl : k = x.size := by omega
      have hcc := HCC.out
      clear HCC
      rcases hcc with ⟨_, i, hi, hi1, _, _, _⟩ | ⟨rfl, _, rfl, rfl⟩
      · exact absurd hi1 (HA.out i hi hi)
      · clear HA
        go_wp2_with fail
        refine (H1.out _).mono ?_
        rintro e w2 ⟨rfl, g1⟩
        have T2 := T1.kept g1
        have G2 := Lib.hid (gr_then G1.out g1)
        clear g1 T1 G1
        go_wp2_with fail
        refine (H2.out _).mono ?_
        rintro e w3 ⟨rfl, g1⟩
        have T3 := T2.kept g1
        have G3 := Lib.hid (gr_then G2.out g1)
        clear g1 T2 G2
        have hcase := HE.out
        clear HE
        rcases hcase with ⟨rfl, rfl, rfl, rfl, rfl⟩ | ⟨rfl, rfl, rfl, rfl, rfl, rfl⟩ | ⟨rfl, rfl, hcase⟩
        · have f0 := T3.fr 0
          have f1 := T3.fr 1
          have f2 := T3.fr 2
          have c0 := T3.c0
          have c1 := T3.c1
          have c2 := T3.c2
          go_wp2
          exact bodyPost_ret (v := .tuple #[.agg #[.bool false, .string ⟨#[]⟩, .string ⟨#[]⟩], .bool false]) (by simp [results, Tryz.results67, go_sem, c0, c1, c2]) rfl ⟨rfl, gr_setn (gr_setn (gr_setn G3.out (Nat.le_refl _)) (Nat.le_refl _)) (Nat.le_refl _)⟩
        · have f0 := T3.fr 0
          have f1 := T3.fr 1
          have f2 := T3.fr 2
          have c0 := T3.c0
          have c1 := T3.c1
          have c2 := T3.c2
          go_wp2
          exact bodyPost_ret (v := .tuple #[.agg #[.bool false, .string ⟨#[]⟩, .string ⟨#[]⟩], .bool false]) (by simp [results, Tryz.results67, go_sem, c0, c1, c2]) rfl ⟨rfl, gr_setn (gr_setn (gr_setn G3.out (Nat.le_refl _)) (Nat.le_refl _)) (Nat.le_refl _)⟩
        · rcases hcase with ⟨hm, rfl, rfl, rfl, rfl⟩ | ⟨qa, qb, qc, t, hm, ht, hcase⟩
          · have HM := Lib.hid hm
            clear hm
            go_wp2_with fail
            refine (HM.out _).mono ?_
            rintro e w4 ⟨rfl, g1⟩
            have T4 := (T3.kept g1).alloc (.cells #[.bool false, .string ⟨#[]⟩, .string ⟨#[]⟩] 49)
            have U4 := Three.new w4 (.bool false) (.string ⟨#[]⟩) (.string ⟨#[]⟩) 49
            have G4 := Lib.hid (gr_al (o := .cells #[.bool false, .string ⟨#[]⟩, .string ⟨#[]⟩] 49) (gr_then G3.out g1))
            have hne : w.heap.size ≠ w4.heap.size := by have := (T3.kept g1).lt; omega
            have hne2 : w4.heap.size ≠ w.heap.size := fun e => hne e.symm
            clear g1 T3 G3
            have f0 := T4.fr 0
            have f1 := T4.fr 1
            have f2 := T4.fr 2
            have c0 := T4.c0
            have c1 := T4.c1
            have c2 := T4.c2
            go_wp2
            exact bodyPost_ret (v := .tuple #[.agg #[.bool false, .string ⟨#[]⟩, .string ⟨#[]⟩], .bool false]) (by simp [results, Tryz.results67, go_sem, c0, c1, c2]) rfl ⟨rfl, gr_setn (gr_setn (gr_setn G4.out (Nat.le_refl _)) (Nat.le_refl _)) (Nat.le_refl _)⟩
          · have HX := Lib.hid ht
            clear ht
            have HM := Lib.hid hm
            clear hm
            go_wp2_with fail
            refine (HM.out _).mono ?_
            rintro e w4 ⟨rfl, g1⟩
            have T4 := (T3.kept g1).alloc (.cells #[.bool qa, .string qb, .string qc] 49)
            have U4 := Three.new w4 (.bool qa) (.string qb) (.string qc) 49
            have G4 := Lib.hid (gr_al (o := .cells #[.bool qa, .string qb, .string qc] 49) (gr_then G3.out g1))
            have hne : w.heap.size ≠ w4.heap.size := by have := (T3.kept g1).lt; omega
            have hne2 : w4.heap.size ≠ w.heap.size := fun e => hne e.symm
            clear g1 T3 G3
            have u0 := U4.c0
            have u1 := U4.c1
            have u2 := U4.c2
            go_wp2_with fail
            refine (HX.out _).mono ?_
            rintro e w5 ⟨rfl, g1⟩
            have T5 := T4.kept g1
            have U5 := U4.kept g1
            have G5 := Lib.hid (gr_then G4.out g1)
            clear g1 T4 U4 G4 u0 u1 u2
            have u0 := U5.c0
            have u1 := U5.c1
            have u2 := U5.c2
            generalize w4.heap.size = B4 at *
            rcases hcase with ⟨ht, rfl, rfl, rfl, rfl⟩ | ⟨rfl, rfl, rfl, rfl, rfl⟩
            · have f0 := T5.fr 0
              have f1 := T5.fr 1
              have f2 := T5.fr 2
              have c0 := T5.c0
              have c1 := T5.c1
              have c2 := T5.c2
              go_wp2
              exact bodyPost_ret (v := .tuple #[.agg #[.bool false, .string ⟨#[]⟩, .string ⟨#[]⟩], .bool false]) (by simp [results, Tryz.results67, go_sem, c0, c1, c2]) rfl ⟨rfl, gr_setn (gr_setn (gr_setn G5.out (Nat.le_refl _)) (Nat.le_refl _)) (Nat.le_refl _)⟩
            · have f0 := T5.fr 0
              have f1 := T5.fr 1
              have f2 := T5.fr 2
              have c0 := T5.c0
              have c1 := T5.c1
              have c2 := T5.c2
              go_wp2
              exact bodyPost_ret (v := .tuple #[.agg #[.bool a, .string b, .string c], .bool true]) (by simp [results, Tryz.results67, go_sem, c0, c1, c2]) rfl ⟨rfl, gr_setn (gr_setn (gr_setn G5.out (Nat.le_refl _)) (Nat.le_refl _)) (Nat.le_refl _)⟩
end Go.Proofs.YteajpefbmiiioaaGreatDoor
namespace Go.Proofs.YteajpefbmiiioaaGreatDoor
open Go.RowKit Mth Go.Lib

set_option maxHeartbeats 4000000 in
set_option maxRecDepth 100000 in
theorem rparse_pos (s x y z : ByteArray) (dv a : Bool) (b c : ByteArray) (o : Bool) (w : World) (hs : s.size ≤ 1000) (h0 : 0 < s.size) (hsg : ¬ s[0].toNat = 45 ∧ s = x) (hc : (dv = true ∧ ∃ i, ∃ h : i < x.size, x[i].toNat = 47 ∧ (∀ j (_ : j < i) (h : j < x.size), x[j].toNat ≠ 47) ∧ x.extract 0 i = y ∧ x.extract (i + 1) x.size = z) ∨ (dv = false ∧ (∀ j (h : j < x.size), x[j].toNat ≠ 47) ∧ y = x ∧ z = ⟨#[49]⟩)) (he : EndsIn s y z false a b c o) :
    Gives 67 #[.string s] w (.tuple #[.agg #[.bool a, .string b, .string c], .bool o]) := by
  obtain ⟨n1, d1, o1, o2, h1, h2, he⟩ := he
  have H1 := Lib.hid h1
  have H2 := Lib.hid h2
  have HE := Lib.hid he
  clear h1 h2 he
  have T0 := Three.new w (.bool false) (.string ⟨#[]⟩) (.string ⟨#[]⟩) 49
  have G0 := Lib.hid (gr_alloc w (.cells #[.bool false, .string ⟨#[]⟩, .string ⟨#[]⟩] 49) none)
  obtain ⟨hc0, rfl⟩ := hsg
  have hxs := hs
  obtain ⟨m0, hm0⟩ : ∃ m0, s[0].toNat = m0 := ⟨_, rfl⟩
  have hm1 : ((m0 : Int) == 45) = false := by rw [beq_eq_false_iff_ne]; omega
  clear hc0
  have hz0 : (0 : Int) < (s.size : Int) := by omega
  have HCC := Lib.hid hc
  clear hc
  go_enter Tryz.func67, Tryz.ntmps67
  go_wp2_with fail
  clear hm1 hm0
  go_loopw [6, 7, 8] (fun a6 a7 v wr => ∃ k : Nat, k ≤ s.size ∧ a6 = .string s ∧ a7 = .string ⟨#[49]⟩ ∧ v = .int .i64 (k : Int) ∧ Hid (∀ j (h : j < s.size), j < k → s[j].toNat ≠ 47) ∧ Three wr w.heap.size (.bool false) (.string ⟨#[]⟩) (.string ⟨#[]⟩) 49 ∧ w.grownBy wr none) (fun _ _ v _ => s.size - (RowKit.intOf v).toNat)
  case atStart => exact ⟨0, by omega, rfl, rfl, rfl, Lib.hid (fun j h1 h2 => by omega), T0, G0.out⟩
  case round =>
    clear T0 G0
    obtain ⟨k, hk, rfl, rfl, rfl, HA, T1, g0⟩ := hrel
    have G1 := Lib.hid g0
    clear g0
    by_cases hlt : k < s.size
    · have hb1 : (k : Int) < (s.size : Int) := by omega
      have k1 : (k : Int) + 1 ≤ 9223372036854775807 := by omega
      obtain ⟨n, hn⟩ : ∃ n, s[k].toNat = n := ⟨_, rfl⟩
      by_cases h47 : n = 47
      · subst h47
        have hlen : k ≤ s.size := hk
        have hlen2 : k + 1 ≤ s.size := hlt
        have hcc := HCC.out
        clear HCC
        rcases hcc with ⟨rfl, i, hi, hi1, hi2, hy, hz⟩ | ⟨_, hi2, _, _⟩
        · have hki : k = i := by
            rcases Nat.lt_trichotomy k i with h | h | h
            · exact absurd hn (hi2 k h hlt)
            · exact h
            · exact absurd hi1 (HA.out i hi h)
          subst hki
          clear hi hi1 hi2 HA
          go_wp2_with fail
          refine (H1.out _).mono ?_
          rintro e w2 ⟨rfl, g1⟩
          have T2 := T1.kept g1
          have G2 := Lib.hid (gr_then G1.out g1)
          clear g1 T1 G1
          go_wp2_with fail
          refine (H2.out _).mono ?_
          rintro e w3 ⟨rfl, g1⟩
          have T3 := T2.kept g1
          have G3 := Lib.hid (gr_then G2.out g1)
          clear g1 T2 G2
          have hcase := HE.out
          clear HE
          rcases hcase with ⟨rfl, rfl, rfl, rfl, rfl⟩ | ⟨rfl, rfl, rfl, rfl, rfl, rfl⟩ | ⟨rfl, rfl, hcase⟩
          · have f0 := T3.fr 0
            have f1 := T3.fr 1
            have f2 := T3.fr 2
            have c0 := T3.c0
            have c1 := T3.c1
            have c2 := T3.c2
            go_wp2
            exact bodyPost_ret (v := .tuple #[.agg #[.bool false, .string ⟨#[]⟩, .string ⟨#[]⟩], .bool false]) (by simp [results, Tryz.results67, go_sem, c0, c1, c2]) rfl ⟨rfl, gr_setn (gr_setn (gr_setn G3.out (Nat.le_refl _)) (Nat.le_refl _)) (Nat.le_refl _)⟩
          · have f0 := T3.fr 0
            have f1 := T3.fr 1
            have f2 := T3.fr 2
            have c0 := T3.c0
            have c1 := T3.c1
            have c2 := T3.c2
            go_wp2
            exact bodyPost_ret (v := .tuple #[.agg #[.bool false, .string ⟨#[]⟩, .string ⟨#[]⟩], .bool false]) (by simp [results, Tryz.results67, go_sem, c0, c1, c2]) rfl ⟨rfl, gr_setn (gr_setn (gr_setn G3.out (Nat.le_refl _)) (Nat.le_refl _)) (Nat.le_refl _)⟩
          · rcases hcase with ⟨hm, rfl, rfl, rfl, rfl⟩ | ⟨qa, qb, qc, t, hm, ht, hcase⟩
            · have HM := Lib.hid hm
              clear hm
              go_wp2_with fail
              refine (HM.out _).mono ?_
              rintro e w4 ⟨rfl, g1⟩
              have T4 := (T3.kept g1).alloc (.cells #[.bool false, .string ⟨#[]⟩, .string ⟨#[]⟩] 49)
              have U4 := Three.new w4 (.bool false) (.string ⟨#[]⟩) (.string ⟨#[]⟩) 49
              have G4 := Lib.hid (gr_al (o := .cells #[.bool false, .string ⟨#[]⟩, .string ⟨#[]⟩] 49) (gr_then G3.out g1))
              have hne : w.heap.size ≠ w4.heap.size := by have := (T3.kept g1).lt; omega
              have hne2 : w4.heap.size ≠ w.heap.size := fun e => hne e.symm
              clear g1 T3 G3
              have f0 := T4.fr 0
              have f1 := T4.fr 1
              have f2 := T4.fr 2
              have c0 := T4.c0
              have c1 := T4.c1
              have c2 := T4.c2
              go_wp2
              exact bodyPost_ret (v := .tuple #[.agg #[.bool false, .string ⟨#[]⟩, .string ⟨#[]⟩], .bool false]) (by simp [results, Tryz.results67, go_sem, c0, c1, c2]) rfl ⟨rfl, gr_setn (gr_setn (gr_setn G4.out (Nat.le_refl _)) (Nat.le_refl _)) (Nat.le_refl _)⟩
            · have HX := Lib.hid ht
              clear ht
              have HM := Lib.hid hm
              clear hm
              go_wp2_with fail
              refine (HM.out _).mono ?_
              rintro e w4 ⟨rfl, g1⟩
              have T4 := (T3.kept g1).alloc (.cells #[.bool qa, .string qb, .string qc] 49)
              have U4 := Three.new w4 (.bool qa) (.string qb) (.string qc) 49
              have G4 := Lib.hid (gr_al (o := .cells #[.bool qa, .string qb, .string qc] 49) (gr_then G3.out g1))
              have hne : w.heap.size ≠ w4.heap.size := by have := (T3.kept g1).lt; omega
              have hne2 : w4.heap.size ≠ w.heap.size := fun e => hne e.symm
              clear g1 T3 G3
              have u0 := U4.c0
              have u1 := U4.c1
              have u2 := U4.c2
              go_wp2_with fail
              refine (HX.out _).mono ?_
              rintro e w5 ⟨rfl, g1⟩
              have T5 := T4.kept g1
              have U5 := U4.kept g1
              have G5 := Lib.hid (gr_then G4.out g1)
              clear g1 T4 U4 G4 u0 u1 u2
              have u0 := U5.c0
              have u1 := U5.c1
              have u2 := U5.c2
              generalize w4.heap.size = B4 at *
              rcases hcase with ⟨ht, rfl, rfl, rfl, rfl⟩ | ⟨rfl, rfl, rfl, rfl, rfl⟩
              · have f0 := T5.fr 0
                have f1 := T5.fr 1
                have f2 := T5.fr 2
                have c0 := T5.c0
                have c1 := T5.c1
                have c2 := T5.c2
                go_wp2
                exact bodyPost_ret (v := .tuple #[.agg #[.bool false, .string ⟨#[]⟩, .string ⟨#[]⟩], .bool false]) (by simp [results, Tryz.results67, go_sem, c0, c1, c2]) rfl ⟨rfl, gr_setn (gr_setn (gr_setn G5.out (Nat.le_refl _)) (Nat.le_refl _)) (Nat.le_refl _)⟩
              · have f0 := T5.fr 0
                have f1 := T5.fr 1
                have f2 := T5.fr 2
                have c0 := T5.c0
                have c1 := T5.c1
                have c2 := T5.c2
                go_wp2
                exact bodyPost_ret (v := .tuple #[.agg #[.bool a, .string b, .string c], .bool true]) (by simp [results, Tryz.results67, go_sem, c0, c1, c2]) rfl ⟨rfl, gr_setn (gr_setn (gr_setn G5.out (Nat.le_refl _)) (Nat.le_refl _)) (Nat.le_refl _)⟩
        · exact absurd hn (hi2 k hlt)
      · have hm : ((n : Int) == 47) = false := by rw [beq_eq_false_iff_ne]; omega
        go_wp2_with fail
        exact ⟨⟨k + 1, by omega, rfl, rfl, by first | rfl | go_num, Lib.hid (fun j h1 h2 => by
          rcases Nat.lt_or_ge j k with h | h
          · exact HA.out j h1 h
          · obtain rfl : j = k := by omega
            rw [hn]; exact h47), T1, G1.out⟩, by simp [RowKit.intOf]; omega⟩
    · obtain rfl : k = s.size := by omega
      have hcc := HCC.out
      clear HCC
      rcases hcc with ⟨_, i, hi, hi1, _, _, _⟩ | ⟨rfl, _, rfl, rfl⟩
      · exact absurd hi1 (HA.out i hi hi)
      · clear HA
        go_wp2_with fail
        refine (H1.out _).mono ?_
        rintro e w2 ⟨rfl, g1⟩
        have T2 := T1.kept g1
        have G2 := Lib.hid (gr_then G1.out g1)
        clear g1 T1 G1
        go_wp2_with fail
        refine (H2.out _).mono ?_
        rintro e w3 ⟨rfl, g1⟩
        have T3 := T2.kept g1
        have G3 := Lib.hid (gr_then G2.out g1)
        clear g1 T2 G2
        have hcase := HE.out
        clear HE
        rcases hcase with ⟨rfl, rfl, rfl, rfl, rfl⟩ | ⟨rfl, rfl, rfl, rfl, rfl, rfl⟩ | ⟨rfl, rfl, hcase⟩
        · have f0 := T3.fr 0
          have f1 := T3.fr 1
          have f2 := T3.fr 2
          have c0 := T3.c0
          have c1 := T3.c1
          have c2 := T3.c2
          go_wp2
          exact bodyPost_ret (v := .tuple #[.agg #[.bool false, .string ⟨#[]⟩, .string ⟨#[]⟩], .bool false]) (by simp [results, Tryz.results67, go_sem, c0, c1, c2]) rfl ⟨rfl, gr_setn (gr_setn (gr_setn G3.out (Nat.le_refl _)) (Nat.le_refl _)) (Nat.le_refl _)⟩
        · have f0 := T3.fr 0
          have f1 := T3.fr 1
          have f2 := T3.fr 2
          have c0 := T3.c0
          have c1 := T3.c1
          have c2 := T3.c2
          go_wp2
          exact bodyPost_ret (v := .tuple #[.agg #[.bool false, .string ⟨#[]⟩, .string ⟨#[]⟩], .bool false]) (by simp [results, Tryz.results67, go_sem, c0, c1, c2]) rfl ⟨rfl, gr_setn (gr_setn (gr_setn G3.out (Nat.le_refl _)) (Nat.le_refl _)) (Nat.le_refl _)⟩
        · rcases hcase with ⟨hm, rfl, rfl, rfl, rfl⟩ | ⟨qa, qb, qc, t, hm, ht, hcase⟩
          · have HM := Lib.hid hm
            clear hm
            go_wp2_with fail
            refine (HM.out _).mono ?_
            rintro e w4 ⟨rfl, g1⟩
            have T4 := (T3.kept g1).alloc (.cells #[.bool false, .string ⟨#[]⟩, .string ⟨#[]⟩] 49)
            have U4 := Three.new w4 (.bool false) (.string ⟨#[]⟩) (.string ⟨#[]⟩) 49
            have G4 := Lib.hid (gr_al (o := .cells #[.bool false, .string ⟨#[]⟩, .string ⟨#[]⟩] 49) (gr_then G3.out g1))
            have hne : w.heap.size ≠ w4.heap.size := by have := (T3.kept g1).lt; omega
            have hne2 : w4.heap.size ≠ w.heap.size := fun e => hne e.symm
            clear g1 T3 G3
            have f0 := T4.fr 0
            have f1 := T4.fr 1
            have f2 := T4.fr 2
            have c0 := T4.c0
            have c1 := T4.c1
            have c2 := T4.c2
            go_wp2
            exact bodyPost_ret (v := .tuple #[.agg #[.bool false, .string ⟨#[]⟩, .string ⟨#[]⟩], .bool false]) (by simp [results, Tryz.results67, go_sem, c0, c1, c2]) rfl ⟨rfl, gr_setn (gr_setn (gr_setn G4.out (Nat.le_refl _)) (Nat.le_refl _)) (Nat.le_refl _)⟩
          · have HX := Lib.hid ht
            clear ht
            have HM := Lib.hid hm
            clear hm
            go_wp2_with fail
            refine (HM.out _).mono ?_
            rintro e w4 ⟨rfl, g1⟩
            have T4 := (T3.kept g1).alloc (.cells #[.bool qa, .string qb, .string qc] 49)
            have U4 := Three.new w4 (.bool qa) (.string qb) (.string qc) 49
            have G4 := Lib.hid (gr_al (o := .cells #[.bool qa, .string qb, .string qc] 49) (gr_then G3.out g1))
            have hne : w.heap.size ≠ w4.heap.size := by have := (T3.kept g1).lt; omega
            have hne2 : w4.heap.size ≠ w.heap.size := fun e => hne e.symm
            clear g1 T3 G3
            have u0 := U4.c0
            have u1 := U4.c1
            have u2 := U4.c2
            go_wp2_with fail
            refine (HX.out _).mono ?_
            rintro e w5 ⟨rfl, g1⟩
            have T5 := T4.kept g1
            have U5 := U4.kept g1
            have G5 := Lib.hid (gr_then G4.out g1)
            clear g1 T4 U4 G4 u0 u1 u2
            have u0 := U5.c0
            have u1 := U5.c1
            have u2 := U5.c2
            generalize w4.heap.size = B4 at *
            rcases hcase with ⟨ht, rfl, rfl, rfl, rfl⟩ | ⟨rfl, rfl, rfl, rfl, rfl⟩
            · have f0 := T5.fr 0
              have f1 := T5.fr 1
              have f2 := T5.fr 2
              have c0 := T5.c0
              have c1 := T5.c1
              have c2 := T5.c2
              go_wp2
              exact bodyPost_ret (v := .tuple #[.agg #[.bool false, .string ⟨#[]⟩, .string ⟨#[]⟩], .bool false]) (by simp [results, Tryz.results67, go_sem, c0, c1, c2]) rfl ⟨rfl, gr_setn (gr_setn (gr_setn G5.out (Nat.le_refl _)) (Nat.le_refl _)) (Nat.le_refl _)⟩
            · have f0 := T5.fr 0
              have f1 := T5.fr 1
              have f2 := T5.fr 2
              have c0 := T5.c0
              have c1 := T5.c1
              have c2 := T5.c2
              go_wp2
              exact bodyPost_ret (v := .tuple #[.agg #[.bool a, .string b, .string c], .bool true]) (by simp [results, Tryz.results67, go_sem, c0, c1, c2]) rfl ⟨rfl, gr_setn (gr_setn (gr_setn G5.out (Nat.le_refl _)) (Nat.le_refl _)) (Nat.le_refl _)⟩
end Go.Proofs.YteajpefbmiiioaaGreatDoor
namespace Go.Proofs.YteajpefbmiiioaaGreatDoor
open Go.RowKit Mth Go.Lib

theorem ba_ext {a b : ByteArray} (h : a.data.toList = b.data.toList) : a = b := by
  cases a; cases b
  simp at h
  rw [h]
theorem ba_len (s : ByteArray) : s.data.toList.length = s.size := rfl
theorem textQ_list (q : Rat) : (textQ q).data.toList = txtL (decide (q.num < 0)) q.num.natAbs q.den := by
  unfold textQ txtL
  by_cases h1 : q.num < 0 <;> by_cases h2 : q.den = 1 <;> simp [h1, h2, ByteArray.data_append]
theorem rw_of {b : Bool} {m n : Nat} {q : Rat} (h : RW b m n = RV q) : mkRat (sg b m) n = q := by
  obtain ⟨h1, h2, h3⟩ := rw_inj h
  have : sg b m = q.num := by
    unfold sg
    rw [h1, h2]
    by_cases h : q.num < 0
    · rw [decide_eq_true h]; simp; omega
    · rw [decide_eq_false h]; simp; omega
  rw [this, h3]
  exact Rat.mkRat_self q
theorem rv_of {b : Bool} {m n : Nat} {q : Rat} (h1 : b = decide (q.num < 0)) (h2 : m = q.num.natAbs) (h3 : n = q.den) : RW b m n = RV q := by
  subst h1 h2 h3; rfl
theorem s_rparse_no (s : ByteArray) (w : World) (hs : s.size ≤ 200) (h : isTxt s.data.toList = false) : Gives 36 #[.string s] w (.tuple #[.string ⟨#[]⟩, .bool false]) := by
  have := s_rparse s w hs
  unfold parsed at this
  rw [if_neg (by rw [h]; exact Bool.false_ne_true)] at this
  exact this
theorem s_rparse_yes (s : ByteArray) (n : Nat) (w : World) (hs : s.size ≤ 200) (h : isTxt s.data.toList = true) (hn : dnum s.data.toList = n) : Gives 36 #[.string s] w (.tuple #[.string (S n), .bool true]) := by
  have := s_rparse s w hs
  unfold parsed at this
  rw [if_pos h, hn] at this
  exact this
theorem s_parse_no (s : ByteArray) (w : World) (hs : s.size ≤ 200) (h : isTxt s.data.toList = false) : Gives 33 #[.string s] w (.tuple #[.string ⟨#[]⟩, .bool false]) := by
  have := s_parse s w hs
  unfold parsed at this
  rw [if_neg (by rw [h]; exact Bool.false_ne_true)] at this
  exact this
theorem some_rparse (s : ByteArray) (hs : s.size ≤ 200) : ∃ (x : ByteArray) (b : Bool), ∀ w, Gives 36 #[.string s] w (.tuple #[.string x, .bool b]) := by
  cases h : isTxt s.data.toList
  · exact ⟨_, _, fun w => s_rparse_no s w hs h⟩
  · exact ⟨_, _, fun w => s_rparse_yes s _ w hs h rfl⟩
theorem rightq_nil (b : Bool) (m : Nat) (w : World) : Gives 58 #[RW b m 0] w (.bool false) := by
  have HM := Lib.hid (fun w => make_nil b m w)
  unfold RW
  rw [show S 0 = ⟨#[]⟩ from s_empty.2 rfl]
  generalize S m = x at *
  have A0 := Three.new w (.bool b) (.string x) (.string ⟨#[]⟩) 49
  go_enter Tryz.func58, Tryz.ntmps58
  go_wp2_with fail
  refine (HM.out _).mono ?_
  rintro e w1 ⟨rfl, g1⟩
  have G1 := Lib.hid (gr_one g1)
  clear g1
  go_wp2
  go_ret
  exact ⟨rfl, gr_al G1.out⟩
theorem rmake_nil (b : Bool) (m : Nat) (w : World) : Gives 54 #[.bool b, .string (S m), .string (S 0)] w (.tuple #[.agg #[.bool false, .string ⟨#[]⟩, .string ⟨#[]⟩], .bool false]) := by
  have HR0 := Lib.hid (s_rright m)
  have HR1 := Lib.hid (s_rright 0)
  have e1 := tl_zero
  have e2 : (S 0).toList.isEmpty = true := by rw [tl_zero]; rfl
  generalize S m = sm at *
  generalize S 0 = sn at *
  have hN := Three.new w (.bool false) (.string ⟨#[]⟩) (.string ⟨#[]⟩) 49
  have f0 := hN.fr 0
  have f1 := hN.fr 1
  have f2 := hN.fr 2
  have k0 := hN.c0
  have k1 := hN.c1
  have k2 := hN.c2
  go_enter Tryz.func54, Tryz.ntmps54
  go_wp2_with fail
  refine (HR0.out _).mono ?_
  rintro e w1 ⟨rfl, rfl⟩
  go_wp2_with fail
  refine (HR1.out _).mono ?_
  rintro e w1 ⟨rfl, rfl⟩
  go_wp2
  exact bodyPost_ret (v := .tuple #[.agg #[.bool false, .string ⟨#[]⟩, .string ⟨#[]⟩], .bool false]) (by simp [results, Tryz.results54, go_sem, k0, k1, k2]) rfl ⟨rfl, gr_al (gr_rfl _)⟩

/-- What both Parse give of a string. -/
def Both (s : ByteArray) : Prop := ∃ (a : Bool) (b c : ByteArray) (o : Bool), (∀ w, Gives 66 #[.string s] w (.tuple #[.agg #[.bool a, .string b, .string c], .bool o])) ∧ (∀ w, Gives 67 #[.string s] w (.tuple #[.agg #[.bool a, .string b, .string c], .bool o])) ∧ (∀ q : Rat, textQ q = s → .agg #[.bool a, .string b, .string c] = RV q ∧ o = true)

theorem both_end (s x y z zr : ByteArray) (neg dv : Bool) (hy : y.size ≤ 100) (hz : zr.size ≤ 100) (hdz : (dv = true ∧ zr = z) ∨ (dv = false ∧ zr = ⟨#[49]⟩))
    (hP : ∀ w, Gives 121 #[.string s, .string ⟨#[45]⟩] w (.tuple #[.string x, .bool neg])) (hC : ∀ w, Gives 122 #[.string x, .string ⟨#[47]⟩] w (.tuple #[.string y, .string z, .bool dv]))
    (hR : ∀ a b c o, EndsIn s y zr neg a b c o → ∀ w, Gives 67 #[.string s] w (.tuple #[.agg #[.bool a, .string b, .string c], .bool o]))
    (hl : s.data.toList = (if neg then [(45 : UInt8)] else []) ++ (y.data.toList ++ (if dv then 47 :: z.data.toList else [])))
    (hn0 : neg = false → (y.data.toList ++ (if dv then 47 :: z.data.toList else [])).head? ≠ some 45) (hY : ¬ (47 : UInt8) ∈ y.data.toList) : Both s := by
  have key : ∀ q : Rat, textQ q = s → neg = decide (q.num < 0) ∧ y.data.toList = decDigits q.num.natAbs ∧ (dv = true → z.data.toList = decDigits q.den ∧ q.den ≠ 1) ∧ (dv = false → q.den = 1) := by
    intro q hq
    have e := textQ_list q
    rw [hq, hl] at e
    exact parts_txt e hn0 hY
  have no_text : ∀ (q : Rat), ¬ textQ q = s → (((textQ q).toList == s.toList) = false) := by
    intro q h
    rw [beq_eq_false_iff_ne]
    intro e
    rw [ByteArray.toList_eq, ByteArray.toList_eq] at e
    exact h (ba_ext e)
  obtain ⟨zx, zb, hzr⟩ := some_rparse zr (by omega)
  cases ty : isTxt y.data.toList
  · refine ⟨false, ⟨#[]⟩, ⟨#[]⟩, false, fun w => ?_, hR _ _ _ _ ⟨⟨#[]⟩, zx, false, zb, fun w => s_rparse_no y w (by omega) ty, hzr, .inl ⟨rfl, rfl, rfl, rfl, rfl⟩⟩, fun q hq => ?_⟩
    · cases dv
      · exact parse_num_bad_false s x y z neg w hP hC (fun w => s_parse_no y w (by omega) ty)
      · exact parse_num_bad_true s x y z neg w hP hC (fun w => s_parse_no y w (by omega) ty)
    · have h := (key q hq).2.1
      rw [h, txt_dec] at ty
      cases ty
  obtain ⟨n, hn⟩ : ∃ n, dnum y.data.toList = n := ⟨_, rfl⟩
  have hyd := dec_txt _ _ rfl ty
  rw [hn] at hyd
  have bn : n < 256 ^ 50 := by rw [← hn]; exact dnum_50 ty (by rw [ba_len]; exact hy)
  have hpy : ∀ w, Gives 33 #[.string y] w (.tuple #[.string (S n), .bool true]) := fun w => parse_at y n w (by omega) ty hn
  have hry : ∀ w, Gives 36 #[.string y] w (.tuple #[.string (S n), .bool true]) := fun w => s_rparse_yes y n w (by omega) ty hn
  -- the end with a denominator that is not 0
  have fin : ∀ (d : Nat), d ≠ 0 → d < 256 ^ 50 → (∀ w, Gives 36 #[.string zr] w (.tuple #[.string (S d), .bool true])) →
      (∀ a b c o, (RW neg n d = RV (mkRat (sg neg n) d) ∧ textQ (mkRat (sg neg n) d) = s ∧ a = neg ∧ b = S n ∧ c = S d ∧ o = true) ∨ (¬ textQ (mkRat (sg neg n) d) = s ∧ a = false ∧ b = ⟨#[]⟩ ∧ c = ⟨#[]⟩ ∧ o = false) → ∀ w, Gives 67 #[.string s] w (.tuple #[.agg #[.bool a, .string b, .string c], .bool o])) := by
    intro d h0 bd hzd a b c o hcase
    obtain ⟨q, hq⟩ : ∃ q, mkRat (sg neg n) d = q := ⟨_, rfl⟩
    rw [hq] at hcase
    have bq : Bd 50 q := by rw [← hq]; exact bd_low h0 bn bd
    have hm : ∀ w, Gives 54 #[.bool neg, .string (S n), .string (S d)] w (.tuple #[.agg #[.bool (decide (q.num < 0)), .string (S q.num.natAbs), .string (S q.den)], .bool true]) := fun w => by
      have := rmake_yes neg n d w h0 (lt_le256 bn (by decide)) (lt_le256 bd (by decide))
      rw [hq] at this
      exact this
    have ht : ∀ w, Gives 65 #[.agg #[.bool (decide (q.num < 0)), .string (S q.num.natAbs), .string (S q.den)]] w (.string (textQ q)) := fun w => rtextq_any q 50 w bq (by decide) (dec_50 bq.1) (dec_50 bq.2)
    refine hR _ _ _ _ ⟨S n, S d, true, true, hry, hzd, .inr (.inr ⟨rfl, rfl, .inr ⟨_, _, _, _, hm, ht, ?_⟩⟩)⟩
    rcases hcase with ⟨h1, h2, h3, h4, h5, h6⟩ | ⟨h2, h3, h4, h5, h6⟩
    · obtain ⟨i1, i2, i3⟩ := rw_inj h1
      exact .inr ⟨h2, by rw [h3, i1], by rw [h4, i2], by rw [h5, i3], h6⟩
    · exact .inl ⟨no_text q h2, h3, h4, h5, h6⟩
  rcases hdz with ⟨rfl, rfl⟩ | ⟨rfl, rfl⟩
  · -- with a denominator
    cases tz : isTxt zr.data.toList
    · refine ⟨false, ⟨#[]⟩, ⟨#[]⟩, false, fun w => parse_den_bad s x y zr neg n w hP hC hpy (fun w => s_parse_no zr w (by omega) tz), hR _ _ _ _ ⟨S n, ⟨#[]⟩, true, false, hry, fun w => s_rparse_no zr w (by omega) tz, .inr (.inl ⟨rfl, rfl, rfl, rfl, rfl, rfl⟩)⟩, fun q hq => ?_⟩
      have h := ((key q hq).2.2.1 rfl).1
      rw [h, txt_dec] at tz
      cases tz
    obtain ⟨d, hd⟩ : ∃ d, dnum zr.data.toList = d := ⟨_, rfl⟩
    have hzd := dec_txt _ _ rfl tz
    rw [hd] at hzd
    have bd : d < 256 ^ 50 := by rw [← hd]; exact dnum_50 tz (by rw [ba_len]; exact hz)
    have hpz : ∀ w, Gives 33 #[.string zr] w (.tuple #[.string (S d), .bool true]) := fun w => parse_at zr d w (by omega) tz hd
    have hrz : ∀ w, Gives 36 #[.string zr] w (.tuple #[.string (S d), .bool true]) := fun w => s_rparse_yes zr d w (by omega) tz hd
    have same : ∀ q : Rat, textQ q = s → RW neg n d = RV q ∧ d ≠ 1 := by
      intro q hq
      obtain ⟨k1, k2, k3, _⟩ := key q hq
      obtain ⟨k4, k5⟩ := k3 rfl
      rw [← hyd] at k2
      rw [← hzd] at k4
      have e2 := dec_inj k2
      have e3 := dec_inj k4
      exact ⟨rv_of k1 e2 e3, by rw [e3]; exact k5⟩
    by_cases h0 : d = 0
    · subst h0
      refine ⟨false, ⟨#[]⟩, ⟨#[]⟩, false, fun w => parse_frac_no s x y zr neg n 0 w hP hC hpy hpz (by decide) (fun w => rightq_nil neg n w), hR _ _ _ _ ⟨S n, S 0, true, true, hry, hrz, .inr (.inr ⟨rfl, rfl, .inl ⟨fun w => rmake_nil neg n w, rfl, rfl, rfl, rfl⟩⟩)⟩, fun q hq => ?_⟩
      have h := (rw_inj (same q hq).1).2.2
      exact absurd h.symm q.den_nz
    by_cases h1 : d = 1
    · subst h1
      have hnt : ¬ textQ (mkRat (sg neg n) 1) = s := fun e => (same _ e).2 rfl
      exact ⟨false, ⟨#[]⟩, ⟨#[]⟩, false, fun w => parse_frac_one s x y zr neg n w hP hC hpy hpz, fin 1 h0 bd hrz _ _ _ _ (.inr ⟨hnt, rfl, rfl, rfl, rfl⟩), fun q hq => absurd rfl (same q hq).2⟩
    by_cases hr : RW neg n d = RV (mkRat (sg neg n) d)
    · have bq : Bd 50 (mkRat (sg neg n) d) := bd_low h0 bn bd
      obtain ⟨i1, i2, i3⟩ := rw_inj hr
      have ht : textQ (mkRat (sg neg n) d) = s := by
        refine ba_ext ?_
        rw [textQ_list, hl, ← i1, ← i2, ← i3]
        unfold txtL
        rw [if_neg h1, hyd, hzd]; rfl
      refine ⟨neg, S n, S d, true, fun w => parse_frac_yes s x y zr neg n d w hP hC hpy hpz h1 (fun w => ?_), fin d h0 bd hrz _ _ _ _ (.inl ⟨hr, ht, rfl, rfl, rfl, rfl⟩), fun q hq => ⟨(same q hq).1, rfl⟩⟩
      rw [hr]; exact right_rv _ 50 w bq (by decide)
    · have hnt : ¬ textQ (mkRat (sg neg n) d) = s := fun e => hr (same _ e).1
      refine ⟨false, ⟨#[]⟩, ⟨#[]⟩, false, fun w => parse_frac_no s x y zr neg n d w hP hC hpy hpz h1 (fun w => rightq_no neg n d 50 w h0 bn bd (by decide) hr), fin d h0 bd hrz _ _ _ _ (.inr ⟨hnt, rfl, rfl, rfl, rfl⟩), fun q hq => ?_⟩
      have e := (same q hq).1
      rw [rw_of e] at hr
      exact absurd e hr
  · -- without one
    have hrz : ∀ w, Gives 36 #[.string ⟨#[49]⟩] w (.tuple #[.string (S 1), .bool true]) := fun w => s_rparse_yes ⟨#[49]⟩ 1 w (by decide) (by decide +kernel) (by decide +kernel)
    have same : ∀ q : Rat, textQ q = s → RW neg n 1 = RV q := by
      intro q hq
      obtain ⟨k1, k2, _, k3⟩ := key q hq
      rw [← hyd] at k2
      exact rv_of k1 (dec_inj k2) (k3 rfl).symm
    by_cases hr : RW neg n 1 = RV (mkRat (sg neg n) 1)
    · have bq : Bd 50 (mkRat (sg neg n) 1) := bd_low (by decide) bn (by decide +kernel)
      obtain ⟨i1, i2, i3⟩ := rw_inj hr
      have ht : textQ (mkRat (sg neg n) 1) = s := by
        refine ba_ext ?_
        rw [textQ_list, hl, ← i1, ← i2, ← i3]
        unfold txtL
        rw [if_pos rfl, hyd]; rfl
      refine ⟨neg, S n, S 1, true, fun w => parse_whole_yes s x y z neg n w hP hC hpy (fun w => ?_), fin 1 (by decide) (by decide +kernel) hrz _ _ _ _ (.inl ⟨hr, ht, rfl, rfl, rfl, rfl⟩), fun q hq => ⟨same q hq, rfl⟩⟩
      rw [hr]; exact right_rv _ 50 w bq (by decide)
    · have hnt : ¬ textQ (mkRat (sg neg n) 1) = s := fun e => hr (same _ e)
      refine ⟨false, ⟨#[]⟩, ⟨#[]⟩, false, fun w => parse_whole_no s x y z neg n w hP hC hpy (fun w => rightq_no neg n 1 50 w (by decide) bn (by decide +kernel) (by decide) hr), fin 1 (by decide) (by decide +kernel) hrz _ _ _ _ (.inr ⟨hnt, rfl, rfl, rfl, rfl⟩), fun q hq => ?_⟩
      have e := same q hq
      rw [rw_of e] at hr
      exact absurd e hr
theorem ext_list (s : ByteArray) (i j : Nat) : (s.extract i j).data.toList = (s.data.toList.drop i).take (j - i) := by
  rw [ByteArray.data_extract, Array.toList_extract, List.extract_eq_take_drop]
theorem get_list (s : ByteArray) (i : Nat) (h : i < s.size) : s.data.toList[i]? = some s[i] := by
  rw [List.getElem?_eq_getElem (by rw [ba_len]; exact h)]; rfl
theorem u8_is {c : UInt8} {n : Nat} (hn : n < 256) : c = UInt8.ofNat n ↔ c.toNat = n := by
  constructor
  · rintro rfl; simp; omega
  · intro h; exact UInt8.toNat_inj.1 (by rw [h]; simp; omega)
theorem both_parse (s : ByteArray) (hs : s.size ≤ 100) : Both s := by
  obtain ⟨neg, hneg⟩ : ∃ neg, Lib.hasPrefix s.data.toList [45] = neg := ⟨_, rfl⟩
  obtain ⟨x, hx⟩ : ∃ x : ByteArray, (⟨(Lib.trimPrefix s.data.toList [45]).toArray⟩ : ByteArray) = x := ⟨_, rfl⟩
  have hxl : x.data.toList = Lib.trimPrefix s.data.toList [45] := by rw [← hx]
  have hP : ∀ w, Gives 121 #[.string s, .string ⟨#[45]⟩] w (.tuple #[.string x, .bool neg]) := fun w => prefix_at s x neg w hx hneg
  have hsx : s.data.toList = (if neg then [(45 : UInt8)] else []) ++ x.data.toList ∧ (neg = false → x = s ∧ x.data.toList.head? ≠ some 45) ∧ (neg = true → ∃ h : 0 < s.size, s[0].toNat = 45 ∧ s.extract 1 s.size = x) := by
    rcases prefix_split s.data.toList with ⟨h1, h2⟩ | ⟨h1, h2, h3⟩
    · rw [h1] at hneg
      subst hneg
      refine ⟨by rw [hxl]; exact h2, (fun e => by cases e), fun _ => ?_⟩
      have hp : 0 < s.size := by rw [← ba_len, h2]; simp
      refine ⟨hp, ?_, ?_⟩
      · have := get_list s 0 hp
        rw [h2] at this
        simp at this
        rw [← this]; rfl
      · refine ba_ext ?_
        rw [ext_list, hxl]
        rw [List.take_of_length_le (by rw [List.length_drop, ba_len]; omega)]
        conv => lhs; rw [h2]
        rfl
    · rw [h1] at hneg
      subst hneg
      exact ⟨by rw [hxl, h2]; rfl, fun _ => ⟨ba_ext (by rw [hxl, h2]), by rw [hxl, h2]; exact h3⟩, fun e => by cases e⟩
  obtain ⟨hl, hn0, hn1⟩ := hsx
  have hxs : x.size ≤ 100 := by
    have := congrArg List.length hl
    rw [List.length_append, ba_len, ba_len] at this
    omega
  -- an empty string
  have href : ∀ (y z : ByteArray) (dv : Bool), ((dv = true ∧ ∃ i, ∃ h : i < x.size, x[i].toNat = 47 ∧ (∀ j (_ : j < i) (h : j < x.size), x[j].toNat ≠ 47) ∧ x.extract 0 i = y ∧ x.extract (i + 1) x.size = z) ∨ (dv = false ∧ (∀ j (h : j < x.size), x[j].toNat ≠ 47) ∧ y = x ∧ z = ⟨#[49]⟩)) → ∀ a b c o, EndsIn s y z neg a b c o → ∀ w, Gives 67 #[.string s] w (.tuple #[.agg #[.bool a, .string b, .string c], .bool o]) := by
    intro y z dv hc a b c o he w
    cases neg
    · obtain ⟨e1, e2⟩ := hn0 rfl
      by_cases h0 : s.size = 0
      · exact rparse_nil s x y z dv a b c o w (by omega) h0 e1.symm hc he
      · refine rparse_pos s x y z dv a b c o w (by omega) (by omega) ⟨fun h => ?_, e1.symm⟩ hc he
        rw [e1] at e2
        apply e2
        rw [List.head?_eq_getElem?, get_list s 0 (by omega), Option.some.injEq]
        exact (u8_is (n := 45) (by decide)).2 h
    · obtain ⟨h, h1, h2⟩ := hn1 rfl
      exact rparse_neg s x y z dv a b c o w (by omega) h ⟨h1, h2⟩ hc he
  have hge := indexByte_ge x.data.toList 47
  rcases Int.lt_or_le (Lib.indexByte x.data.toList 47) 0 with h | h
  · have hi : Lib.indexByte x.data.toList 47 = -1 := by omega
    have hno := indexByte_none hi
    have hY : ¬ (47 : UInt8) ∈ x.data.toList := by
      intro hm
      obtain ⟨j, hj, he⟩ := List.getElem_of_mem hm
      exact hno j (by rw [List.getElem?_eq_getElem hj, he])
    refine both_end s x x ⟨#[]⟩ ⟨#[49]⟩ neg false hxs (by decide) (.inr ⟨rfl, rfl⟩) hP (fun w => cutq_no x w hi) (href x ⟨#[49]⟩ false (.inr ⟨rfl, fun j hj he => ?_, rfl, rfl⟩)) (by rw [hl]; simp) (fun e => ?_) hY
    · apply hno j
      rw [get_list x j hj, Option.some.injEq]
      exact (u8_is (n := 47) (by decide)).2 he
    · have := (hn0 e).2
      simpa using this
  · obtain ⟨i, hi⟩ : ∃ i : Nat, Lib.indexByte x.data.toList 47 = (i : Int) := ⟨(Lib.indexByte x.data.toList 47).toNat, by omega⟩
    obtain ⟨hil, hsp⟩ := index_split hi
    have his := indexByte_some hi
    have hil' : i < x.size := hil
    obtain ⟨y, hy⟩ : ∃ y, x.extract 0 i = y := ⟨_, rfl⟩
    obtain ⟨z, hz⟩ : ∃ z, x.extract (i + 1) x.size = z := ⟨_, rfl⟩
    have hyl : y.data.toList = x.data.toList.take i := by rw [← hy, ext_list]; rfl
    have hzl : z.data.toList = x.data.toList.drop (i + 1) := by
      rw [← hz, ext_list, List.take_of_length_le (by rw [List.length_drop, ba_len]; omega)]
    have hY : ¬ (47 : UInt8) ∈ y.data.toList := by
      intro hm
      rw [hyl] at hm
      obtain ⟨j, hj, he⟩ := List.getElem_of_mem hm
      have hji : j < i := by rw [List.length_take] at hj; omega
      refine his.2 j hji ?_
      rw [List.getElem_take] at he
      rw [List.getElem?_eq_getElem (by omega), he]
    refine both_end s x y z z neg true (by rw [← hy, ByteArray.size_extract]; omega) (by rw [← hz, ByteArray.size_extract]; omega) (.inl ⟨rfl, rfl⟩) hP (fun w => by have := cutq_yes x i w hi hil' (by omega); rw [hy, hz] at this; exact this) (href y z true (.inl ⟨rfl, i, hil', ?_, ?_, hy, hz⟩)) ?_ (fun e => ?_) hY
    · have := his.1
      rw [get_list x i hil', Option.some.injEq] at this
      exact (u8_is (n := 47) (by decide)).1 this
    · intro j hji hj he
      refine his.2 j hji ?_
      rw [get_list x j hj, Option.some.injEq]
      exact (u8_is (n := 47) (by decide)).2 he
    · rw [hl, hyl, hzl]
      conv => lhs; rw [hsp]
      simp
    · have := (hn0 e).2
      rw [hyl, hzl]
      rw [hsp] at this
      simpa using this
end Go.Proofs.YteajpefbmiiioaaGreatDoor
namespace Go.Proofs.YteajpefbmiiioaaGreatDoor
open Go.RowKit Mth Go.Lib

theorem rightq_false (b : Bool) (x y : ByteArray) (w : World) (h : ∀ w, Gives 53 #[.bool b, .string x, .string y] w (.tuple #[.agg #[.bool false, .string ⟨#[]⟩, .string ⟨#[]⟩], .bool false])) : Gives 58 #[.agg #[.bool b, .string x, .string y]] w (.bool false) := by
  have HM := Lib.hid h
  clear h
  go_enter Tryz.func58, Tryz.ntmps58
  go_wp2_with fail
  refine (HM.out _).mono ?_
  rintro e w1 ⟨rfl, g1⟩
  have G1 := Lib.hid (gr_one g1)
  clear g1
  go_wp2
  go_ret
  exact ⟨rfl, gr_al G1.out⟩
set_option maxRecDepth 100000 in
theorem rright_bad (b : Bool) (s t : ByteArray) (w : World) (h : rtB s.data.toList = false ∨ rtB t.data.toList = false) : Gives 120 #[.agg #[.bool b, .string s, .string t]] w (.bool false) := by
  have HS := Lib.hid (fun w => rright_any s w)
  have HR := Lib.hid (fun w => rright_any t w)
  generalize rtB s.data.toList = x at *
  generalize rtB t.data.toList = y at *
  have hxy : (x = false) ∨ (x = true ∧ y = false) := by rcases h with h | h <;> cases x <;> simp_all
  clear h
  rcases hxy with rfl | ⟨rfl, rfl⟩
  all_goals
    go_enter Tryz.func120, Tryz.ntmps120
    go_wp2_with fail
    refine (HS.out _).mono ?_
    rintro e w1 ⟨rfl, rfl⟩
    go_wp2_with fail
    refine (HR.out _).mono ?_
    rintro e w1 ⟨rfl, rfl⟩
    go_wp2
    go_ret
    exact ⟨rfl, gr_al (gr_rfl _)⟩
set_option maxRecDepth 100000 in
theorem rrightq_nil (b : Bool) (m : Nat) (w : World) : Gives 120 #[RW b m 0] w (.bool false) := by
  have HR0 := Lib.hid (s_rright m)
  have HR1 := Lib.hid (s_rright 0)
  have e1 := tl_zero
  have e2 : (S 0).toList.isEmpty = true := by rw [tl_zero]; rfl
  unfold RW
  generalize S m = x at *
  generalize S 0 = y at *
  have A0 := Three.new w (.bool b) (.string x) (.string y) 49
  have c2 := A0.c2
  go_enter Tryz.func120, Tryz.ntmps120
  go_wp2_with fail
  refine (HR0.out _).mono ?_
  rintro e w1 ⟨rfl, rfl⟩
  go_wp2_with fail
  refine (HR1.out _).mono ?_
  rintro e w1 ⟨rfl, rfl⟩
  go_wp2
  go_ret
  exact ⟨rfl, gr_al (gr_rfl _)⟩
theorem rright_zero1 (n : Nat) (w : World) (hn : n ≠ 0) : Gives 120 #[RW true 0 n] w (.bool false) := by
  have HR0 := Lib.hid (s_rright 0)
  have HR1 := Lib.hid (s_rright n)
  have e1 := tl_ne hn
  have e2 := tl_emp hn
  have e3 := tl_zero
  have e4 : (S 0).toList.isEmpty = true := by rw [tl_zero]; rfl
  unfold RW
  clear hn
  generalize S 0 = x at *
  generalize S n = y at *
  have A0 := Three.new w (.bool true) (.string x) (.string y) 49
  have c0 := A0.c0
  have c1 := A0.c1
  have c2 := A0.c2
  go_enter Tryz.func120, Tryz.ntmps120
  go_wp2_with fail
  refine (HR0.out _).mono ?_
  rintro e w1 ⟨rfl, rfl⟩
  go_wp2_with fail
  refine (HR1.out _).mono ?_
  rintro e w1 ⟨rfl, rfl⟩
  go_wp2
  go_region
  all_goals
    go_wp2
    go_ret
    exact ⟨rfl, gr_dr (gr_al (gr_rfl _))⟩
theorem rright_zero2 (n : Nat) (w : World) (hn : n ≠ 0) (h1 : n ≠ 1) (hb : n < 256 ^ 200) : Gives 120 #[RW false 0 n] w (.bool false) := by
  have HC := Lib.hid (fun w => s_rcmp (S n) (S 1) n 1 w (s_num _) (s_num _) (s_size9 hb) (s_size9 (by decide)))
  have HO0 : ∀ w, Gives 25 #[.int .i64 1] w (.string (S 1)) := fun w => s_rof 1 w (by decide)
  have HO := Lib.hid HO0
  have HR0 := Lib.hid (s_rright 0)
  have HR1 := Lib.hid (s_rright n)
  have e1 := tl_ne hn
  have e2 := tl_emp hn
  have e3 := tl_zero
  have e4 : (S 0).toList.isEmpty = true := by rw [tl_zero]; rfl
  have e5 : (cmpN n 1 == 0) = false := by rw [beq_eq_false_iff_ne]; exact cmp_one h1
  unfold RW
  clear hn h1 hb HO0
  generalize cmpN n 1 = z at *
  generalize S 0 = x at *
  generalize S n = y at *
  generalize S 1 = o at *
  have A0 := Three.new w (.bool false) (.string x) (.string y) 49
  have G0 := gr_alloc w (.cells #[.bool false, .string x, .string y] 49) none
  go_enter Tryz.func120, Tryz.ntmps120
  go_wp2_with fail
  refine (HR0.out _).mono ?_
  rintro e w1 ⟨rfl, rfl⟩
  go_wp2_with fail
  refine (HR1.out _).mono ?_
  rintro e w1 ⟨rfl, rfl⟩
  go_wp2_with fail
  have A0 := A0.drew
  have G0 := gr_dr G0
  go_region_held3 (fun w' => w'.cell? ⟨w.heap.size, 0, none⟩ = some (.bool false) ∧ w'.cell? ⟨w.heap.size, 2, none⟩ = some (.string y)) (first | exact ⟨Three.c0 (by assumption), Three.c2 (by assumption)⟩ | go_keep)
    (first
      | (go_at_call 25; with_reducible refine (HO.out _).mono ?_; rintro e v1 ⟨rfl, gv1⟩; have hAv1 : Three v1 (w.heap.size) (.bool false) (.string x) (.string y) 49 := Three.kept (by assumption) gv1; have Gv1 : w.grownBy v1 none := gr_then (by assumption) gv1)
      | (go_at_call 21; with_reducible refine (HC.out _).mono ?_; rintro e v2 ⟨rfl, gv2⟩; have hAv2 : Three v2 (w.heap.size) (.bool false) (.string x) (.string y) 49 := Three.kept (by assumption) gv2; have Gv2 : w.grownBy v2 none := gr_then (by assumption) gv2))
  all_goals
    go_wp2
    go_ret
    exact ⟨rfl, by assumption⟩
theorem rright_gcd (b : Bool) (m n : Nat) (w : World) (hm : m ≠ 0) (hn : n ≠ 0) (h1 : Nat.gcd m n ≠ 1) (b1 : m < 256 ^ 200) (b2 : n < 256 ^ 200) : Gives 120 #[RW b m n] w (.bool false) := by
  have z1 := s_size9 b1
  have z2 := s_size9 b2
  have hg : Nat.gcd m n < 256 ^ 200 := lt_gcd256 _ (by omega) b2
  have HC := Lib.hid (fun w => s_rcmp (S (Nat.gcd m n)) (S 1) (Nat.gcd m n) 1 w (s_num _) (s_num _) (s_size9 hg) (s_size9 (by decide)))
  have HG := Lib.hid (fun w => s_rgcd (S m) (S n) m n w (s_num _) (s_num _) z1 z2 b1 b2)
  have HO := Lib.hid (fun w => s_rof 1 w (by decide))
  have HR0 := Lib.hid (s_rright m)
  have HR1 := Lib.hid (s_rright n)
  have e1 := tl_ne hn
  have e2 := tl_emp hn
  have e3 := tl_ne hm
  have e4 := tl_emp hm
  have e5 : (cmpN (Nat.gcd m n) 1 == 0) = false := by rw [beq_eq_false_iff_ne]; exact cmp_one h1
  unfold RW
  clear hm hn h1 b1 b2 z1 z2 hg
  generalize cmpN (Nat.gcd m n) 1 = z at *
  generalize S (Nat.gcd m n) = sg at *
  generalize S m = x at *
  generalize S n = y at *
  generalize S 1 = o at *
  have A0 := Three.new w (.bool b) (.string x) (.string y) 49
  go_enter Tryz.func120, Tryz.ntmps120
  go_wp2_with fail
  refine (HR0.out _).mono ?_
  rintro e w1 ⟨rfl, rfl⟩
  go_wp2_with fail
  refine (HR1.out _).mono ?_
  rintro e w1 ⟨rfl, rfl⟩
  go_wp2_with fail
  refine (HG.out _).mono ?_
  rintro e w1 ⟨rfl, g1⟩
  go_wp2_with fail
  refine (HO.out _).mono ?_
  rintro e w2 ⟨rfl, g2⟩
  go_wp2_with fail
  refine (HC.out _).mono ?_
  rintro e w3 ⟨rfl, g3⟩
  go_wp2
  go_ret
  exact ⟨rfl, gr_then (gr_then (gr_one g1) g2) g3⟩
theorem rright_no (b : Bool) (m n : Nat) (w : World) (hn : n ≠ 0) (b1 : m < 256 ^ 200) (b2 : n < 256 ^ 200) (h : ¬ RW b m n = RV (mkRat (sg b m) n)) : Gives 120 #[RW b m n] w (.bool false) := by
  by_cases hm : m = 0
  · subst hm
    cases b
    · refine rright_zero2 n w hn (fun e => h ?_) b2
      subst e
      have : mkRat (sg false 0) 1 = 0 := by decide +kernel
      rw [this]; rfl
    · exact rright_zero1 n w hn
  · refine rright_gcd b m n w hm hn (fun e => h ?_) b1 b2
    have := rv_low b m hn
    rw [e, Nat.div_one, Nat.div_one, decide_eq_true hm, Bool.and_true] at this
    exact this
/-- A number of two strings of at most 10 bytes: right, or not, for both. -/
theorem right_dec (a : Bool) (x y : ByteArray) (hx : x.size ≤ 10) (hy : y.size ≤ 10) : (∃ q, Bd 16 q ∧ RV q = .agg #[.bool a, .string x, .string y]) ∨ ((∀ w, Gives 58 #[.agg #[.bool a, .string x, .string y]] w (.bool false)) ∧ (∀ w, Gives 120 #[.agg #[.bool a, .string x, .string y]] w (.bool false))) := by
  cases h1 : rtB x.data.toList
  · exact .inr ⟨fun w => rightq_false a x y w (fun w => make_bad1 a x y w h1), fun w => rright_bad a x y w (.inl h1)⟩
  cases h2 : rtB y.data.toList
  · exact .inr ⟨fun w => rightq_false a x y w (fun w => make_bad2 a x y w h1 h2), fun w => rright_bad a x y w (.inr h2)⟩
  obtain ⟨m, rfl⟩ := s_of_right x h1
  obtain ⟨n, rfl⟩ := s_of_right y h2
  have bm : m < 256 ^ 16 := by
    have := num_lt (S m).data.toList
    rw [s_num] at this
    exact Nat.lt_of_lt_of_le this (Nat.pow_le_pow_right (by decide) (by rw [ba_len]; omega))
  have bn : n < 256 ^ 16 := by
    have := num_lt (S n).data.toList
    rw [s_num] at this
    exact Nat.lt_of_lt_of_le this (Nat.pow_le_pow_right (by decide) (by rw [ba_len]; omega))
  by_cases h0 : n = 0
  · subst h0
    exact .inr ⟨fun w => rightq_nil a m w, fun w => rrightq_nil a m w⟩
  by_cases hr : RW a m n = RV (mkRat (sg a m) n)
  · exact .inl ⟨_, bd_low h0 bm bn, hr.symm⟩
  · exact .inr ⟨fun w => rightq_no a m n 16 w h0 bm bn (by decide) hr, fun w => rright_no a m n w h0 (lt_le256 bm (by decide)) (lt_le256 bn (by decide)) hr⟩
end Go.Proofs.YteajpefbmiiioaaGreatDoor
namespace Go.Proofs.YteajpefbmiiioaaGreatDoor
open Go.RowKit Mth Go.Lib

theorem Buf.keptS {w w1 : World} {b n p : Nat} {qs : List Rat} (h : Buf w b n qs) (hg : w.grownBy w1 (some p)) (hne : b ≠ p) : Buf w1 b n qs := by
  obtain ⟨cur, h1, h2⟩ := h
  exact ⟨cur, by rw [hg.block b (Array.getElem?_eq_some_iff.1 h1).1 (by intro e; exact hne (by simpa using e))]; exact h1, h2⟩
theorem grS_then {a b c : World} {p : Nat} (h : a.grownBy b (some p)) (g : b.grownBy c none) : a.grownBy c (some p) := gr_trans h g (.inr rfl) (.inl rfl)
theorem grS_new {a b : World} {p g i : Nat} {v : Value} (h : a.grownBy b (some p)) (hg : a.heap.size ≤ g) : a.grownBy (b.setCell ⟨g, i, none⟩ v) (some p) :=
  gr_trans h (gr_set b g i v) (.inr rfl) (.inr (.inr fun k e => by cases e; exact hg))
set_option maxHeartbeats 2000000 in
set_option maxRecDepth 100000 in
theorem mappedv_nil (pb po : Nat) (w : World) :
    Calls Tryz.prog 112 #[.slice none 0 0, .func (.func 113) #[.pointer (some ⟨pb, po, none⟩)] #[]] w fun e w' => ∃ m, e = .returned (.slice (some ⟨m, 0, none⟩) 0 0) ∧ Buf w' m 0 [] ∧ w.heap.size ≤ m ∧ w.grownBy w' none := by
  obtain ⟨i0, hi, hz⟩ : ∃ i0, Tryz.prog.info? 49 = some i0 ∧ (i0.zero, i0.size, i0.bytes) = (some (.agg #[.bool false, .string ⟨#[]⟩, .string ⟨#[]⟩]), 3, 40) := by
    have h : (Tryz.prog.info? 49).map (fun i => (i.zero, i.size, i.bytes)) = some (some (.agg #[.bool false, .string ⟨#[]⟩, .string ⟨#[]⟩]), 3, 40) := by kernel_rfl
    cases hh : Tryz.prog.info? 49 with
    | none => rw [hh] at h; exact absurd h (by simp)
    | some i => rw [hh] at h; exact ⟨i, rfl, by simpa using h⟩
  simp only [Prod.mk.injEq] at hz
  obtain ⟨hz0, hz1, hz2⟩ := hz
  have hmk := run_make (P := Tryz.prog) w 64 49 i0 (.agg #[.bool false, .string ⟨#[]⟩, .string ⟨#[]⟩]) Tryz.underlying64 hi hz0 .i64 .i64 0 0 (by decide) (Int.le_refl _) (by rw [hz2]; omega) (by omega)
  simp only [Int.toNat_zero] at hmk
  have hs := size_madeCells (Value.agg #[.bool false, .string ⟨#[]⟩, .string ⟨#[]⟩]).cells (0 * i0.size)
  rw [hz1] at hmk hs
  generalize madeCells (Value.agg #[.bool false, .string ⟨#[]⟩, .string ⟨#[]⟩]).cells (0 * 3) = xs at hmk hs
  have B0 := Buf.made w 0 xs hs
  have G0 := gr_alloc w (.cells xs 49) none
  generalize w.alloc (.cells xs 49) = w0 at *
  have HM := Lib.hid hmk
  obtain ⟨m, hm⟩ : ∃ m, m = w.heap.size := ⟨_, rfl⟩
  rw [← hm] at hmk B0
  have hwm : w.heap.size ≤ m := Nat.le_of_eq hm.symm
  clear hz0 hz1 hz2 hi hs HM hm
  go_enter Tryz.func112, Tryz.ntmps112
  go_wp2
  go_loopw [13] (fun u wr => u = .int .i64 0 ∧ wr = w0) (fun _ _ => 0)
  case atStart => exact ⟨rfl, rfl⟩
  case round =>
    obtain ⟨rfl, rfl⟩ := hrel
    go_wp2
    go_ret
    exact ⟨m, rfl, B0, hwm, G0⟩
theorem wvalue_wrong (a : Bool) (x y : ByteArray) (b : Nat) (w : World) (hR : ∀ w, Gives 58 #[.agg #[.bool a, .string x, .string y]] w (.bool false)) (hc : w.cell? ⟨b, 0, none⟩ = some (.bool false)) (hf : w.frozen? ⟨b, 0, none⟩ = false) :
    Calls Tryz.prog 113 #[.pointer (some ⟨b, 0, none⟩), .agg #[.bool a, .string x, .string y]] w fun e w' => e = .returned (RW false 0 1) ∧ w'.cell? ⟨b, 0, none⟩ = some (.bool true) ∧ w.grownBy w' (some b) := by
  have HR := Lib.hid hR
  have HW := Lib.hid (fun w => whole_any false 0 w)
  rw [s_zero] at HW
  unfold RW at *
  generalize S 0 = sz at *
  generalize S 1 = so at *
  have hlt := World.block_lt_of_cell? w _ hc
  dsimp only at hlt
  have A0 := (Three.new w (.bool a) (.string x) (.string y) 49).alloc (.cells #[.bool false, .string ⟨#[]⟩, .string ⟨#[]⟩] 49)
  have N0 := Three.new1 w (.cells #[.bool a, .string x, .string y] 49) (.bool false) (.string ⟨#[]⟩) (.string ⟨#[]⟩) 49
  have G0 : w.grownBy ((w.alloc (.cells #[.bool a, .string x, .string y] 49)).alloc (.cells #[.bool false, .string ⟨#[]⟩, .string ⟨#[]⟩] 49)) none := gr_al (gr_al (gr_rfl _))
  clear hR
  have a0 := A0.c0
  have a1 := A0.c1
  have a2 := A0.c2
  go_enter Tryz.func113, Tryz.ntmps113
  go_wp2_with fail
  refine (HR.out _).mono ?_
  rintro e w1 ⟨rfl, g1⟩
  have G1 := gr_then G0 g1
  have c1 := G1.cell hc (by simp)
  have f1 : w1.frozen? ⟨b, 0, none⟩ = false := by rw [(gcell G1).2 b 0 hlt]; exact hf
  have N1 := N0.kept g1
  have A1 := A0.kept g1
  clear a0 a1 a2 g1 G0 hc hf N0 A0
  have hbs : w.grownBy (w1.setCell ⟨b, 0, none⟩ (.bool true)) (some b) := gr_then G1 (gr_set w1 b 0 (.bool true))
  have hct : (w1.setCell ⟨b, 0, none⟩ (.bool true)).cell? ⟨b, 0, none⟩ = some (.bool true) := World.cell?_setCell_same _ _ _ c1
  have N2 := N1.other (i := 0) (v := .bool true) (b' := b) (by omega)
  have HBS := Lib.hid hbs
  have HCT := Lib.hid hct
  clear hbs hct G1 N1 A1
  go_wp2_with fail
  refine (HW.out _).mono ?_
  rintro e w2 ⟨rfl, g2⟩
  have G3 := grS_then HBS.out g2
  have c3 := g2.cell HCT.out (by simp)
  have N3 := N2.kept g2
  have hne : w.heap.size + 1 ≠ b := by omega
  have hne2 : b ≠ w.heap.size + 1 := by omega
  have x0 := N3.fr 0
  have x1 := N3.fr 1
  have x2 := N3.fr 2
  have k0 := N3.c0
  have k1 := N3.c1
  have k2 := N3.c2
  go_wp2
  exact bodyPost_ret (v := .agg #[.bool false, .string sz, .string so]) (by simp [results, Tryz.results113, go_sem, k0, k1, k2]) rfl ⟨rfl, by simp [World.cell?_setCell_far, hne, c3], grS_new (grS_new (grS_new G3 (by omega)) (by omega)) (by omega)⟩
end Go.Proofs.YteajpefbmiiioaaGreatDoor
namespace Go.Proofs.YteajpefbmiiioaaGreatDoor
open Go.RowKit Mth Go.Lib

/-- What Common gives where it does not give a denominator. -/
abbrev noCommon : Value := .tuple #[.string ⟨#[]⟩, .slice none 0 0, .bool false]
def RelW (w : World) (m pb n : Nat) (qs : List Rat) (u : Value) (wr : World) : Prop :=
  (∃ j : Nat, j ≤ qs.length ∧ u = .int .i64 (j : Int) ∧ Buf wr m n (qs.take j) ∧ w.grownBy wr none) ∨ (u = .int .i64 ((qs.length + 1 : Nat) : Int) ∧ wr.cell? ⟨pb, 0, none⟩ = some (.bool true) ∧ w.grownBy wr (some pb))
set_option maxHeartbeats 2000000 in
set_option maxRecDepth 100000 in
theorem mapped_wrong (qs : List Rat) (a : Bool) (x y : ByteArray) (k g c pb : Nat) (w : World) (hr : Rats w g 0 qs) (hb : ∀ q ∈ qs, Bd k q) (hk : k ≤ 1000) (hn : qs.length ≤ 999) (hR : ∀ w, Gives 58 #[.agg #[.bool a, .string x, .string y]] w (.bool false))
    (hx0 : w.cell? ⟨g, qs.length * 3, none⟩ = some (.bool a)) (hx1 : w.cell? ⟨g, qs.length * 3 + 1, none⟩ = some (.string x)) (hx2 : w.cell? ⟨g, qs.length * 3 + 2, none⟩ = some (.string y)) (hc : w.cell? ⟨pb, 0, none⟩ = some (.bool false)) (hf : w.frozen? ⟨pb, 0, none⟩ = false) :
    Calls Tryz.prog 112 #[.slice (some ⟨g, 0, none⟩) (qs.length + 1) c, .func (.func 113) #[.pointer (some ⟨pb, 0, none⟩)] #[]] w fun e w' => ∃ m, e = .returned (.slice (some ⟨m, 0, none⟩) (qs.length + 1) (qs.length + 1)) ∧ w'.cell? ⟨pb, 0, none⟩ = some (.bool true) ∧ w.grownBy w' (some pb) := by
  obtain ⟨n, hnn⟩ : ∃ n, qs.length + 1 = n := ⟨_, rfl⟩
  rw [hnn]
  obtain ⟨i0, hi, hz⟩ : ∃ i0, Tryz.prog.info? 49 = some i0 ∧ (i0.zero, i0.size, i0.bytes) = (some (.agg #[.bool false, .string ⟨#[]⟩, .string ⟨#[]⟩]), 3, 40) := by
    have h : (Tryz.prog.info? 49).map (fun i => (i.zero, i.size, i.bytes)) = some (some (.agg #[.bool false, .string ⟨#[]⟩, .string ⟨#[]⟩]), 3, 40) := by kernel_rfl
    cases hh : Tryz.prog.info? 49 with
    | none => rw [hh] at h; exact absurd h (by simp)
    | some i => rw [hh] at h; exact ⟨i, rfl, by simpa using h⟩
  simp only [Prod.mk.injEq] at hz
  obtain ⟨hz0, hz1, hz2⟩ := hz
  have hmk := run_make (P := Tryz.prog) w 64 49 i0 (.agg #[.bool false, .string ⟨#[]⟩, .string ⟨#[]⟩]) Tryz.underlying64 hi hz0 .i64 .i64 n n (by omega) (Int.le_refl _) (by rw [hz2]; omega) (by omega)
  simp only [Int.toNat_natCast] at hmk
  have hs := size_madeCells (Value.agg #[.bool false, .string ⟨#[]⟩, .string ⟨#[]⟩]).cells (n * i0.size)
  rw [hz1] at hmk hs
  generalize madeCells (Value.agg #[.bool false, .string ⟨#[]⟩, .string ⟨#[]⟩]).cells (n * 3) = xs at hmk hs
  have B0 := Buf.made w n xs hs
  have G0 := gr_alloc w (.cells xs 49) none
  have HR := Lib.hid hr
  have HB := Lib.hid hb
  have HX0 := Lib.hid hx0
  have HX1 := Lib.hid hx1
  have HX2 := Lib.hid hx2
  have HCC := Lib.hid hc
  have hlt := World.block_lt_of_cell? w _ hc
  dsimp only at hlt
  have HFF := Lib.hid hf
  generalize w.alloc (.cells xs 49) = w0 at *
  have HM := Lib.hid hmk
  obtain ⟨m, hm⟩ : ∃ m, m = w.heap.size := ⟨_, rfl⟩
  rw [← hm] at hmk B0
  have hwm : w.heap.size ≤ m := Nat.le_of_eq hm.symm
  have HN := Lib.hid hn
  have HNN := Lib.hid hnn
  have HRW := Lib.hid hR
  clear hb hz0 hz1 hz2 hi hs HM hm hr hx0 hx1 hx2 hc hf hR hn hnn
  go_enter Tryz.func112, Tryz.ntmps112
  go_wp2
  go_loopw [13] (fun u wr => RelW w m pb n qs u wr) (fun u _ => n - (RowKit.intOf u).toNat)
  case atStart => exact .inl ⟨0, Nat.zero_le _, rfl, by simpa using B0, G0⟩
  case round =>
    clear B0 G0 hmk
    have hn1 := HN.out
    have hnn := HNN.out
    rcases hrel with ⟨j, hj, rfl, B1, G1⟩ | ⟨rfl, hct, GS⟩
    · have R1 := HR.out.kept G1
      have hb1 : (j : Int) < (n : Int) := by omega
      have hk1 : (j : Int) + 1 ≤ 9223372036854775807 := by omega
      have hl : (qs.take j).length = j := by rw [List.length_take]; omega
      have HL := Lib.hid hl
      clear hl
      rcases Nat.lt_or_ge j qs.length with hlt1 | hge
      · obtain ⟨c0, c1, c2⟩ := R1 j hlt1
        rw [Nat.zero_add] at c0 c1 c2
        have HV := Lib.hid (fun b o w => wvalue_rv qs[j] k b o w (HB.out _ (List.getElem_mem _)) (by omega))
        unfold RV RW at HV
        have B2 := B1.kept (gr_alloc wr (.cells #[.bool (decide (qs[j].num < 0)), .string (S qs[j].num.natAbs), .string (S qs[j].den)] 49) none)
        clear hn1 hnn
        go_wp2_with fail
        refine (HV.out _ _ _).mono ?_
        rintro e w1 ⟨rfl, g1⟩
        have hnn := HNN.out
        have B3 := B2.kept g1
        obtain ⟨⟨z0, hz0⟩, f0⟩ := B3.at (j * 3) (by omega)
        obtain ⟨⟨z1, hz1⟩, f1⟩ := B3.at (j * 3 + 1) (by omega)
        obtain ⟨⟨z2, hz2⟩, f2⟩ := B3.at (j * 3 + 2) (by omega)
        have G2 := gr_then (gr_then G1 (gr_alloc wr (.cells #[.bool (decide (qs[j].num < 0)), .string (S qs[j].num.natAbs), .string (S qs[j].den)] 49) none)) g1
        have HB3 := Lib.hid B3
        have HG2 := Lib.hid G2
        clear B3 G2 B2 g1 B1 G1 c0 c1 c2 R1 hnn
        go_wp2
        have hnn := HNN.out
        have hst := HB3.out.step qs[j] (by rw [HL.out]; omega)
        rw [HL.out, List.take_append_getElem hlt1] at hst
        exact ⟨.inl ⟨j + 1, by omega, by go_num, hst, gr_setn (gr_setn (gr_setn HG2.out hwm) hwm) hwm⟩, by simp [RowKit.intOf]; omega⟩
      · obtain rfl : j = qs.length := by omega
        have c0 := G1.cell HX0.out (by simp)
        have c1 := G1.cell HX1.out (by simp)
        have c2 := G1.cell HX2.out (by simp)
        have hal := gr_then G1 (gr_alloc wr (.cells #[.bool a, .string x, .string y] 49) none)
        have HV := Lib.hid (wvalue_wrong a x y pb _ HRW.out (hal.cell HCC.out (by simp)) (by rw [(gcell hal).2 pb 0 hlt]; exact HFF.out))
        unfold RW at HV
        have B2 := B1.kept (gr_alloc wr (.cells #[.bool a, .string x, .string y] 49) none)
        have HG := Lib.hid hal
        clear hn1 hnn hal G1 R1
        go_wp2_with fail
        refine HV.out.mono ?_
        rintro e w1 ⟨rfl, hct, g1⟩
        have hnn := HNN.out
        have B3 := B2.keptS g1 (by omega)
        obtain ⟨⟨z0, hz0⟩, f0⟩ := B3.at (qs.length * 3) (by omega)
        obtain ⟨⟨z1, hz1⟩, f1⟩ := B3.at (qs.length * 3 + 1) (by omega)
        obtain ⟨⟨z2, hz2⟩, f2⟩ := B3.at (qs.length * 3 + 2) (by omega)
        have G2 : w.grownBy w1 (some pb) := gr_then HG.out g1
        have HG2 := Lib.hid G2
        have HCT := Lib.hid hct
        clear B3 G2 B2 g1 B1 c0 c1 c2 hnn hct
        go_wp2
        have hnn := HNN.out
        have hne : m ≠ pb := by omega
        exact ⟨.inr ⟨by go_num, by simp [World.cell?_setCell_far, hne, HCT.out], grS_new (grS_new (grS_new HG2.out hwm) hwm) hwm⟩, by simp [RowKit.intOf]; omega⟩
    · rw [hnn]
      clear hn1 hnn
      have HCT := Lib.hid hct
      have HGS := Lib.hid GS
      clear hct GS
      go_wp2
      go_ret
      exact ⟨m, rfl, HCT.out, HGS.out⟩
set_option maxHeartbeats 2000000 in
set_option maxRecDepth 100000 in
theorem index_some (qs : List Rat) (x y : ByteArray) (g c n : Nat) (w : World) (hr : Rats w g 0 qs) (hb : ∀ q ∈ qs, decide (q.num < 0) = false) (hn : n ≤ 1000) (hq : qs.length < n)
    (hx0 : w.cell? ⟨g, qs.length * 3, none⟩ = some (.bool true)) (hx1 : w.cell? ⟨g, qs.length * 3 + 1, none⟩ = some (.string x)) (hx2 : w.cell? ⟨g, qs.length * 3 + 2, none⟩ = some (.string y)) :
    Gives 153 #[.slice (some ⟨g, 0, none⟩) n c, .func (.func 115) #[] #[]] w (.int .i64 (qs.length : Int)) := by
  have HR := Lib.hid hr
  have HB := Lib.hid hb
  have HX0 := Lib.hid hx0
  have HX1 := Lib.hid hx1
  have HX2 := Lib.hid hx2
  clear hr hb hx0 hx1 hx2
  go_enter Tryz.func153, Tryz.ntmps153
  go_wp2
  go_loopw [8] (fun u wr => ∃ j : Nat, j ≤ qs.length ∧ u = .int .i64 (j : Int) ∧ w.grownBy wr none) (fun u _ => n - (RowKit.intOf u).toNat)
  case atStart => exact ⟨0, Nat.zero_le _, rfl, gr_rfl _⟩
  case round =>
    obtain ⟨j, hj, rfl, G1⟩ := hrel
    have hb1 : (j : Int) < (n : Int) := by omega
    by_cases hlt : j < qs.length
    · obtain ⟨c0, c1, c2⟩ := HR.out.kept G1 j hlt
      rw [HB.out _ (List.getElem_mem hlt), Nat.zero_add] at c0
      rw [Nat.zero_add] at c1 c2
      go_wp2_with fail
      refine (isneg_any _ _ _ _).mono ?_
      rintro e w1 ⟨rfl, g1⟩
      have G2 := Lib.hid (gr_then G1 g1)
      clear G1 g1 c0 c1 c2
      go_wp2
      exact ⟨⟨j + 1, by omega, by go_num, G2.out⟩, by simp [RowKit.intOf]; omega⟩
    · obtain rfl : j = qs.length := by omega
      have c0 := G1.cell HX0.out (by simp)
      have c1 := G1.cell HX1.out (by simp)
      have c2 := G1.cell HX2.out (by simp)
      go_wp2_with fail
      refine (isneg_any _ _ _ _).mono ?_
      rintro e w1 ⟨rfl, g1⟩
      have G2 := Lib.hid (gr_then G1 g1)
      clear G1 g1 c0 c1 c2
      go_wp2
      go_ret
      exact ⟨rfl, G2.out⟩
theorem contains_some (qs : List Rat) (x y : ByteArray) (g c n : Nat) (w : World) (hr : Rats w g 0 qs) (hb : ∀ q ∈ qs, decide (q.num < 0) = false) (hn : n ≤ 1000) (hq : qs.length < n)
    (hx0 : w.cell? ⟨g, qs.length * 3, none⟩ = some (.bool true)) (hx1 : w.cell? ⟨g, qs.length * 3 + 1, none⟩ = some (.string x)) (hx2 : w.cell? ⟨g, qs.length * 3 + 2, none⟩ = some (.string y)) :
    Gives 114 #[.slice (some ⟨g, 0, none⟩) n c, .func (.func 115) #[] #[]] w (.bool true) := by
  have H := Lib.hid (index_some qs x y g c n w hr hb hn hq hx0 hx1 hx2)
  have hp : (0 : Int) ≤ (qs.length : Int) := by omega
  clear hr hb hx0 hx1 hx2
  go_enter Tryz.func114, Tryz.ntmps114
  go_wp2_with fail
  refine H.out.mono ?_
  rintro e w1 ⟨rfl, g1⟩
  go_wp2
  go_ret
  exact ⟨rfl, g1⟩
set_option maxRecDepth 100000 in
theorem common_wrong (qs : List Rat) (a : Bool) (x y : ByteArray) (k g c : Nat) (w : World) (hr : Rats w g 0 qs) (hb : ∀ q ∈ qs, Bd k q) (hk : k ≤ 1000) (hn : qs.length ≤ 999) (hR : ∀ w, Gives 58 #[.agg #[.bool a, .string x, .string y]] w (.bool false))
    (hx0 : w.cell? ⟨g, qs.length * 3, none⟩ = some (.bool a)) (hx1 : w.cell? ⟨g, qs.length * 3 + 1, none⟩ = some (.string x)) (hx2 : w.cell? ⟨g, qs.length * 3 + 2, none⟩ = some (.string y)) :
    Gives 61 #[.slice (some ⟨g, 0, none⟩) (qs.length + 1) c] w noCommon := by
  have G0 := gr_alloc w (.cells #[.bool false] 118) none
  have c0 : (w.alloc (.cells #[.bool false] 118)).cell? ⟨w.heap.size, 0, none⟩ = some (.bool false) := by rw [cell_of_row _ _ 0 _ _ (0, 0) (heap_alloc_new w _)]; rfl
  have f0 : (w.alloc (.cells #[.bool false] 118)).frozen? ⟨w.heap.size, 0, none⟩ = false := by
    simp only [World.frozen?]; rw [heap_alloc_new w _]; simp
  have HM := Lib.hid (mapped_wrong qs a x y k g c w.heap.size _ (hr.kept G0) hb hk hn hR (G0.cell hx0 (by simp)) (G0.cell hx1 (by simp)) (G0.cell hx2 (by simp)) c0 f0)
  clear hr hb hR hx0 hx1 hx2 c0 f0
  go_enter Tryz.func61, Tryz.ntmps61
  go_wp2_with fail
  refine HM.out.mono ?_
  rintro e w1 ⟨m1, rfl, c1, g1⟩
  have G1 := Lib.hid (gr_new G0 g1 (Nat.le_refl _))
  clear g1 G0
  go_wp2
  go_ret3
  exact ⟨rfl, G1.out⟩
set_option maxRecDepth 100000 in
theorem common_neg (qs rest : List Rat) (p : Rat) (k g c : Nat) (w : World) (hr : Rats w g 0 (qs ++ p :: rest)) (hb : ∀ q ∈ qs ++ p :: rest, Bd k q) (hs : ∀ q ∈ qs, decide (q.num < 0) = false) (hp : decide (p.num < 0) = true) (hk : k ≤ 1000) (hn : (qs ++ p :: rest).length ≤ 1000) :
    Gives 61 #[.slice (some ⟨g, 0, none⟩) (qs ++ p :: rest).length c] w noCommon := by
  have G0 := gr_alloc w (.cells #[.bool false] 118) none
  have c0 : (w.alloc (.cells #[.bool false] 118)).cell? ⟨w.heap.size, 0, none⟩ = some (.bool false) := by rw [cell_of_row _ _ 0 _ _ (0, 0) (heap_alloc_new w _)]; rfl
  have HM := Lib.hid (mappedv_any (qs ++ p :: rest) k g 0 c w.heap.size 0 _ (hr.kept G0) hb hk hn)
  have hlt : qs.length < (qs ++ p :: rest).length := by rw [List.length_append, List.length_cons]; omega
  have hgp : (qs ++ p :: rest)[qs.length] = p := by simp
  have HRP : ∀ (w : World) (m : Nat), Rats w m 0 (qs ++ p :: rest) → Rats w m 0 qs ∧ w.cell? ⟨m, qs.length * 3, none⟩ = some (.bool true) ∧ w.cell? ⟨m, qs.length * 3 + 1, none⟩ = some (.string (S p.num.natAbs)) ∧ w.cell? ⟨m, qs.length * 3 + 2, none⟩ = some (.string (S p.den)) := by
    intro w m h
    refine ⟨fun i hi => ?_, ?_⟩
    · have := h i (by omega)
      rwa [List.getElem_append_left hi] at this
    · have := h qs.length hlt
      rw [hgp, hp, Nat.zero_add] at this
      exact this
  have HP := Lib.hid HRP
  have HS := Lib.hid hs
  have HLT := Lib.hid hlt
  have HN := Lib.hid hn
  clear hr hb hs hp hgp HRP hlt hn
  generalize qs ++ p :: rest = L at *
  go_enter Tryz.func61, Tryz.ntmps61
  go_wp2_with fail
  refine HM.out.mono ?_
  rintro e w1 ⟨m1, rfl, B1, hm1, g1⟩
  have c1 := g1.cell c0 (by simp)
  have G1 := Lib.hid (gr_then G0 g1)
  obtain ⟨r1, r2, r3, r4⟩ := HP.out w1 m1 B1.rats
  have HCS := Lib.hid (contains_some qs _ _ m1 L.length L.length w1 r1 HS.out HN.out HLT.out r2 r3 r4)
  clear c0 g1 B1 G0 r1 r2 r3 r4
  go_wp2_with fail
  refine HCS.out.mono ?_
  rintro e w2 ⟨rfl, g2⟩
  have G2 := Lib.hid (gr_then G1.out g2)
  clear g2
  go_wp2
  go_ret3
  exact ⟨rfl, G2.out⟩
end Go.Proofs.YteajpefbmiiioaaGreatDoor
namespace Go.Proofs.YteajpefbmiiioaaGreatDoor
open Go.RowKit Mth Go.Lib

theorem s_size9L {n : Nat} (h : n < 256 ^ 400) : (S n).size ≤ 1000000000 := sz_ok h (by decide)
set_option maxHeartbeats 2000000 in
set_option maxRecDepth 100000 in
theorem s_rgcdL (s t : ByteArray) (m n : Nat) (w : World) (hm : num s.data.toList = m) (hn : num t.data.toList = n) (h1 : s.size ≤ 1000000000) (h2 : t.size ≤ 1000000000) (hm2 : m < 256 ^ 400) (hn2 : n < 256 ^ 400) : Gives 29 #[.string s, .string t] w (.string (S (Nat.gcd m n))) := by
  have HM := Lib.hid hm
  have HN := Lib.hid hn
  have HM2 := Lib.hid hm2
  have HN2 := Lib.hid hn2
  clear hm hn hm2 hn2
  go_enter Tryz.func29, Tryz.ntmps29
  go_wp2_with fail
  refine (s_canon s m _ HM.out (by omega)).mono ?_
  rintro e w1 ⟨rfl, hg1⟩
  go_wp2_with fail
  refine (s_canon t n _ HN.out (by omega)).mono ?_
  rintro e w2 ⟨rfl, hg2⟩
  have hg := gr_then hg1 hg2
  clear hg1 hg2
  go_wp2
  go_loopw [0, 1] (fun u v wr => ∃ x y : Nat, u = .string (S x) ∧ v = .string (S y) ∧ w.grownBy wr none ∧ Hid (Nat.gcd x y = Nat.gcd m n ∧ x < 256 ^ 400 ∧ y < 256 ^ 400)) (fun _ v _ => numOf v)
  case atStart => exact ⟨m, n, rfl, rfl, hg, Lib.hid ⟨rfl, HM2.out, HN2.out⟩⟩
  case round =>
    obtain ⟨x, y, rfl, rfl, hg, HI⟩ := hrel
    rcases Nat.eq_zero_or_pos y with h0 | h0
    · subst h0
      have hz := s_len_zero
      have HF := Lib.hid (show x = Nat.gcd m n by have := HI.out.1; rwa [Nat.gcd_zero_right] at this)
      go_wp2
      go_ret
      exact ⟨by rw [← HF.out]; rfl, hg⟩
    · have hp := s_len_pos h0
      have H0 := Lib.hid h0
      have HNX := Lib.hid (show Nat.gcd y (x % y) = Nat.gcd m n ∧ y < 256 ^ 400 ∧ x % y < 256 ^ 400 by
        refine ⟨?_, HI.out.2.2, Nat.lt_trans (Nat.mod_lt _ h0) HI.out.2.2⟩
        rw [← HI.out.1, Nat.gcd_comm y, ← Nat.gcd_rec, Nat.gcd_comm])
      clear h0
      go_wp2_with fail
      refine (s_rquo (S x) (S y) x y _ (s_num _) (s_num _) H0.out (s_size9L HI.out.2.1) (s_size9L HI.out.2.2)).mono ?_
      rintro e w3 ⟨rfl, h3⟩
      have hg := gr_then hg h3
      go_wp2
      refine ⟨⟨y, x % y, rfl, rfl, hg, HNX⟩, ?_⟩
      show numOf (.string (S (x % y))) < numOf (.string (S y))
      rw [numOf_s, numOf_s]
      exact Nat.mod_lt _ H0.out


theorem infoN : (Tryz.prog.info? 24).map (fun i => (i.zero, i.size, i.bytes)) = some (some (.string ⟨#[]⟩), 1, 16) := by kernel_rfl
theorem infoR : (Tryz.prog.info? 49).map (fun i => (i.zero, i.size, i.bytes)) = some (some (.agg #[.bool false, .string ⟨#[]⟩, .string ⟨#[]⟩]), 3, 40) := by kernel_rfl
theorem wpList_call_append {P : Program} {w : World} {ops : Array Oper} {rest : List Oper} {o : Oper} {a : Act} {Q : Exit → Act → World → Prop} (hgd : o.guard = none) (s x : Operand) (t : TypeId)
    (ho : o.op = .call { callee := .builtin .append, args := #[s, x], argTypes := #[t, t] }) (v xv : Value) (hs : a.eval s = v) (hx : a.eval x = xv) (v' : Value) (w' : World)
    (hr : Sem.run P (Builtin.append_ #[t, t] o.type #[v, xv]) w = .ok v' w') (h : wpList P ops Q rest (a.put o.dst v') w') : wpList P ops Q (o :: rest) a w := by
  refine wpList_plain hgd fun K hK => ?_
  unfold Oper.wp execOp
  simp only [ho, resolve, invoke, builtin, Sem.run_bind, Sem.run_pure, Result.andThen_ok, List.map_toArray, List.map_cons, List.map_nil, hs, hx, hr]
  exact hK _ _ h
theorem gr_own {a b c : World} {r : Option Nat} (g : a.grownBy b none) (h : b.grownBy c r) (hr : ∀ x, r = some x → a.heap.size ≤ x) : a.grownBy c none := by
  refine ⟨h.os.trans g.os, h.tape.trans g.tape, h.output.trans g.output, Nat.le_trans g.size h.size, fun k hk _ => ?_⟩
  refine (h.block k (Nat.lt_of_lt_of_le hk g.size) ?_).trans (g.block k hk (by simp))
  intro e
  have := hr k e.symm
  omega
theorem own_base {w : World} {base : Nat} {e : TypeId} {size : Nat} {v : Value} {n : Nat} {xs : List Value} (hown : w.ownsRow base e size v n xs) : ∀ g, v.ownBlock = some g → base ≤ g := by
  intro g hgg
  rcases hown.2 with ⟨rfl, _⟩ | ⟨g', _, _, rfl, hb, _⟩
  · cases hgg
  · cases hgg; exact hb
/-- append of one string. -/
theorem app_nat (W wr : World) (v : Value) (n : Nat) (xs : List Value) (t : ByteArray) (hown : wr.ownsRow W.heap.size 24 1 v n xs) (hn : n ≤ 1000) (hg : W.grownBy wr none) :
    ∃ v' w', (Builtin.append_ #[39, 39] 39 #[v, .slice (some ⟨wr.heap.size, 0, none⟩) 1 1]).run Tryz.prog (wr.alloc (.cells #[.string t] 24)) = .ok v' w' ∧ w'.ownsRow W.heap.size 24 1 v' (n + 1) (xs ++ [.string t]) ∧ W.grownBy w' none := by
  obtain ⟨i0, hi, hz0, hz1, hz2⟩ := info_parts infoN
  obtain ⟨v', w', h1, h2, h3, _⟩ := run_append_own_at (P := Tryz.prog) (wr.alloc (.cells #[.string t] 24)) W.heap.size 39 39 24 i0 (.string ⟨#[]⟩) 1 16 Tryz.underlying39 hi hz0 hz1 hz2 rfl (by decide) v n xs (hown.alloc _) ⟨wr.heap.size, 0, none⟩ 1 1 [.string t] rfl (fun j u hj => by
    have hc := cell_of_row _ _ j _ 24 (0, 0) (heap_alloc_new wr (.cells #[.string t] 24))
    have ea : (⟨wr.heap.size, 0, none⟩ : Addr).add j = ⟨wr.heap.size, j, none⟩ := by simp [Addr.add]; exact fun h => h.symm
    rw [ea, hc]
    simpa using hj) (by simp [Value.oneCell']) (by unfold maxLen; omega) (by omega) (by have := hg.size; simp; omega)
  exact ⟨v', w', h1, h2, gr_own (gr_then hg (gr_alloc wr _ none)) h3 (own_base hown)⟩
/-- append of one rational number. -/
theorem app_rat (W wr : World) (v : Value) (n : Nat) (xs : List Value) (a : Bool) (x y : ByteArray) (hown : wr.ownsRow W.heap.size 49 3 v n xs) (hn : n ≤ 1000) (hg : W.grownBy wr none) :
    ∃ v' w', (Builtin.append_ #[64, 64] 64 #[v, .slice (some ⟨wr.heap.size, 0, none⟩) 1 1]).run Tryz.prog (wr.alloc (.cells #[.bool a, .string x, .string y] 49)) = .ok v' w' ∧ w'.ownsRow W.heap.size 49 3 v' (n + 1) (xs ++ [.bool a, .string x, .string y]) ∧ W.grownBy w' none := by
  obtain ⟨i0, hi, hz0, hz1, hz2⟩ := info_parts infoR
  obtain ⟨v', w', h1, h2, h3, _⟩ := run_append_own_at (P := Tryz.prog) (wr.alloc (.cells #[.bool a, .string x, .string y] 49)) W.heap.size 64 64 49 i0 (.agg #[.bool false, .string ⟨#[]⟩, .string ⟨#[]⟩]) 3 40 Tryz.underlying64 hi hz0 hz1 hz2 rfl (by decide) v n xs (hown.alloc _) ⟨wr.heap.size, 0, none⟩ 1 1 [.bool a, .string x, .string y] rfl (fun j u hj => by
    have hc := cell_of_row _ _ j _ 49 (0, 0) (heap_alloc_new wr (.cells #[.bool a, .string x, .string y] 49))
    have ea : (⟨wr.heap.size, 0, none⟩ : Addr).add j = ⟨wr.heap.size, j, none⟩ := by simp [Addr.add]; exact fun h => h.symm
    rw [ea, hc]
    simpa using hj) (by simp [Value.oneCell']) (by unfold maxLen; omega) (by omega) (by have := hg.size; simp; omega)
  exact ⟨v', w', h1, h2, gr_own (gr_then hg (gr_alloc wr _ none)) h3 (own_base hown)⟩
/-- The strings of numbers. -/
def natV (ns : List Nat) : List Value := ns.map fun m => Value.string (S m)
theorem natV_snoc (ns : List Nat) (m : Nat) : natV (ns ++ [m]) = natV ns ++ [Value.string (S m)] := by simp [natV]
/-- A list of numbers that the call has gathered: nil where there is none. -/
def NatsOf (v : Value) (w : World) (ns : List Nat) : Prop := (v = .slice none 0 0 ∧ ns = []) ∨ ∃ g c, v = .slice (some ⟨g, 0, none⟩) ns.length c ∧ Nums w g 0 ns
theorem natsOf_own {w : World} {base : Nat} {v : Value} {ns : List Nat} (h : w.ownsRow base 24 1 v ns.length (natV ns)) : NatsOf v w ns := by
  rcases h.2 with ⟨h1, h2⟩ | ⟨g, cap, cur, h1, _⟩
  · refine .inl ⟨h1, ?_⟩
    cases ns with
    | nil => rfl
    | cons a l => simp at h2
  · refine .inr ⟨g, cap, h1, fun i hi => ?_⟩
    have := h.cells (g := g) (by rw [h1]; rfl) i (.string (S ns[i])) (by simp [natV, hi])
    have ea : (⟨g, 0, none⟩ : Addr).add i = ⟨g, 0 + i, none⟩ := by simp [Addr.add]; exact fun h => h.symm
    rw [ea] at this
    exact this
end Go.Proofs.YteajpefbmiiioaaGreatDoor
namespace Go.Proofs.YteajpefbmiiioaaGreatDoor
open Go.RowKit Mth Go.Lib

theorem take15 {qs : List Rat} {k j : Nat} (hk : k ≤ 20) (hn : qs.length ≤ 15) : 1 + k * (qs.take j).length ≤ 400 := by
  have h1 : (qs.take j).length ≤ 15 := by rw [List.length_take]; omega
  have := Nat.mul_le_mul hk h1
  omega
set_option maxRecDepth 100000 in
theorem rcommon_nil (w : World) : Gives 62 #[.slice none 0 0] w (.tuple #[.string (S 1), .slice none 0 0, .bool true]) := by
  have HO0 : ∀ w, Gives 25 #[.int .i64 1] w (.string (S 1)) := fun w => s_rof 1 w (by decide)
  have HO := Lib.hid HO0
  clear HO0
  generalize S 1 = so at *
  go_enter Tryz.func62, Tryz.ntmps62
  go_wp2_with fail
  refine (HO.out _).mono ?_
  rintro e w1 ⟨rfl, g1⟩
  have HG1 := Lib.hid g1
  clear g1
  go_wp2_with fail
  go_loopw [5, 6] (fun d u wr => d = .string so ∧ u = .int .i64 0 ∧ w.grownBy wr none) (fun _ _ _ => 0)
  case atStart => exact ⟨rfl, rfl, HG1.out⟩
  case round =>
    clear HG1
    obtain ⟨rfl, rfl, G1⟩ := hrel
    have HG := Lib.hid G1
    clear G1
    go_wp2_with fail
    go_loopw [12, 13] (fun v u wr => v = .slice none 0 0 ∧ u = .int .i64 0 ∧ w.grownBy wr none) (fun _ _ _ => 0)
    case atStart => exact ⟨rfl, rfl, HG.out⟩
    case round =>
      clear HG
      obtain ⟨rfl, rfl, G1⟩ := hrel
      have HG := Lib.hid G1
      clear G1
      go_wp2
      go_ret3
      exact ⟨rfl, HG.out⟩
set_option maxHeartbeats 4000000 in
set_option maxRecDepth 100000 in
theorem rcommon_bad (qs : List Rat) (a : Bool) (x y : ByteArray) (k g c n : Nat) (w : World) (hr : Rats w g 0 qs) (hs : ∀ q ∈ qs, decide (q.num < 0) = false) (hb : ∀ q ∈ qs, Bd k q) (hk : k ≤ 20) (hn : qs.length ≤ 15) (hq : qs.length < n) (hn2 : n ≤ 1000)
    (hx0 : w.cell? ⟨g, qs.length * 3, none⟩ = some (.bool a)) (hx1 : w.cell? ⟨g, qs.length * 3 + 1, none⟩ = some (.string x)) (hx2 : w.cell? ⟨g, qs.length * 3 + 2, none⟩ = some (.string y))
    (hbad : (∀ w, Gives 120 #[.agg #[.bool a, .string x, .string y]] w (.bool false)) ∨ ((∀ w, Gives 120 #[.agg #[.bool a, .string x, .string y]] w (.bool true)) ∧ a = true)) :
    Gives 62 #[.slice (some ⟨g, 0, none⟩) n c] w noCommon := by
  have HO0 : ∀ w, Gives 25 #[.int .i64 1] w (.string (S 1)) := fun w => s_rof 1 w (by decide)
  have HO := Lib.hid HO0
  have HR := Lib.hid hr
  have HS := Lib.hid hs
  have HB := Lib.hid hb
  have HX0 := Lib.hid hx0
  have HX1 := Lib.hid hx1
  have HX2 := Lib.hid hx2
  have HBAD := Lib.hid hbad
  clear hr hs hb HO0 hx0 hx1 hx2 hbad
  go_enter Tryz.func62, Tryz.ntmps62
  go_wp2_with fail
  refine (HO.out _).mono ?_
  rintro e w1 ⟨rfl, g1⟩
  have HG1 := Lib.hid g1
  clear g1
  go_wp2_with fail
  go_loopw [5, 6] (fun d u wr => ∃ j : Nat, j ≤ qs.length ∧ u = .int .i64 (j : Int) ∧ d = .string (S ((qs.take j).foldl lcmQ 1)) ∧ w.grownBy wr none) (fun _ u _ => n - (RowKit.intOf u).toNat)
  case atStart => exact ⟨0, Nat.zero_le _, rfl, rfl, HG1.out⟩
  case round =>
    clear HG1
    obtain ⟨j, hj, rfl, rfl, G1⟩ := hrel
    by_cases hlt : j < qs.length
    · obtain ⟨c0, c1, c2⟩ := HR.out.kept G1 j hlt
      rw [HS.out _ (List.getElem_mem hlt), Nat.zero_add] at c0
      rw [Nat.zero_add] at c1 c2
      have hv := fun w => rright_rv qs[j] k w (HB.out _ (List.getElem_mem _)) (by omega)
      unfold RV RW at hv
      rw [HS.out _ (List.getElem_mem hlt)] at hv
      have HV := Lib.hid hv
      have hb1 : (j : Int) < (n : Int) := by omega
      have hk1 : (j : Int) + 1 ≤ 9223372036854775807 := by omega
      have hD := fold_lt (qs.take j) 1 1 (by decide) (fun q hq => HB.out q (List.mem_of_mem_take hq))
      have hpos := fold_pos (qs.take j) 1 (by decide)
      have hD4 : (qs.take j).foldl lcmQ 1 < 256 ^ 400 := lt_le256 (k := 400) hD (take15 hk hn)
      have hq4 : qs[j].den < 256 ^ 400 := lt_le256 (k := 400) (HB.out _ (List.getElem_mem hlt)).2 (Nat.le_trans hk (by decide))
      have hgp : 0 < Nat.gcd ((qs.take j).foldl lcmQ 1) qs[j].den := Nat.gcd_pos_of_pos_left _ hpos
      have hg4 : Nat.gcd ((qs.take j).foldl lcmQ 1) qs[j].den < 256 ^ 400 := lt_gcd256' (j := 400) _ hpos hD4
      have hgc := fun w => s_rgcdL (S ((qs.take j).foldl lcmQ 1)) (S qs[j].den) _ _ w (s_num _) (s_num _) (s_size9L hD4) (s_size9L hq4) hD4 hq4
      have hqu := fun w => s_rquo (S qs[j].den) (S (Nat.gcd ((qs.take j).foldl lcmQ 1) qs[j].den)) _ _ w (s_num _) (s_num _) hgp (s_size9L hq4) (s_size9L hg4)
      have hmu := fun w => s_rmul (S ((qs.take j).foldl lcmQ 1)) (S (qs[j].den / Nat.gcd ((qs.take j).foldl lcmQ 1) qs[j].den)) _ _ w (s_num _) (s_num _) (Nat.le_trans (s_size9L hD4) (by decide)) (Nat.le_trans (s_size9L (Nat.lt_of_le_of_lt (Nat.div_le_self _ _) hq4)) (by decide))
      rw [show (qs.take j).foldl lcmQ 1 * (qs[j].den / Nat.gcd ((qs.take j).foldl lcmQ 1) qs[j].den) = (qs.take (j + 1)).foldl lcmQ 1 from by rw [← List.take_append_getElem hlt, List.foldl_append]; rfl] at hmu
      have HGC := Lib.hid hgc
      have HQU := Lib.hid hqu
      have HMU := Lib.hid hmu
      clear hD hpos hD4 hq4 hgp hg4 hgc hqu hmu hv
      generalize S (qs[j].den / Nat.gcd ((qs.take j).foldl lcmQ 1) qs[j].den) = sq at *
      generalize S (qs[j].den % Nat.gcd ((qs.take j).foldl lcmQ 1) qs[j].den) = sr at *
      generalize S (Nat.gcd ((qs.take j).foldl lcmQ 1) qs[j].den) = sg at *
      generalize S ((qs.take j).foldl lcmQ 1) = sd at *
      generalize S qs[j].den = sden at *
      generalize S qs[j].num.natAbs = snum at *
      have HC0 := Lib.hid c0
      have HC2 := Lib.hid c2
      go_wp2_with fail
      refine (HV.out _).mono ?_
      rintro e w2 ⟨rfl, g2⟩
      have d0 := g2.cell HC0.out (by simp)
      have d2 := g2.cell HC2.out (by simp)
      have G2 := Lib.hid (gr_then G1 g2)
      clear c0 c1 c2 G1 g2 HC0 HC2
      go_wp2_with fail
      refine (HGC.out _).mono ?_
      rintro e w3 ⟨rfl, g3⟩
      have e2 := g3.cell d2 (by simp)
      have G3 := Lib.hid (gr_then G2.out g3)
      clear d0 d2 g3
      go_wp2_with fail
      refine (HQU.out _).mono ?_
      rintro e w4 ⟨rfl, g4⟩
      have G4 := Lib.hid (gr_then G3.out g4)
      clear e2 g4
      go_wp2_with fail
      refine (HMU.out _).mono ?_
      rintro e w5 ⟨rfl, g5⟩
      have G5 := Lib.hid (gr_then G4.out g5)
      clear g5
      go_wp2
      exact ⟨⟨j + 1, by omega, by go_num, rfl, G5.out⟩, by simp [RowKit.intOf]; omega⟩
    · obtain rfl : j = qs.length := by omega
      have hb1 : ((qs.length : Nat) : Int) < (n : Int) := by omega
      have c0 := G1.cell HX0.out (by simp)
      have c1 := G1.cell HX1.out (by simp)
      have c2 := G1.cell HX2.out (by simp)
      have hbb := HBAD.out
      clear HBAD
      rcases hbb with hR | ⟨hR, rfl⟩
      · have HRR := Lib.hid hR
        clear hR
        go_wp2_with fail
        refine (HRR.out _).mono ?_
        rintro e w2 ⟨rfl, g2⟩
        have G2 := Lib.hid (gr_then G1 g2)
        clear G1 g2 c0 c1 c2
        go_wp2
        go_ret3
        exact ⟨rfl, G2.out⟩
      · have HRR := Lib.hid hR
        have HC0 := Lib.hid c0
        clear hR
        go_wp2_with fail
        refine (HRR.out _).mono ?_
        rintro e w2 ⟨rfl, g2⟩
        have d0 := g2.cell HC0.out (by simp)
        have G2 := Lib.hid (gr_then G1 g2)
        clear G1 g2 c0 c1 c2 HC0
        go_wp2
        go_ret3
        exact ⟨rfl, G2.out⟩
set_option maxHeartbeats 4000000 in
set_option maxRecDepth 100000 in
theorem rcommon_good (qs : List Rat) (k g c : Nat) (w : World) (hr : Rats w g 0 qs) (hs : ∀ q ∈ qs, decide (q.num < 0) = false) (hb : ∀ q ∈ qs, Bd k q) (hk : k ≤ 20) (hn : qs.length ≤ 15) :
    Calls Tryz.prog 62 #[.slice (some ⟨g, 0, none⟩) qs.length c] w fun e w' => ∃ v, e = .returned (.tuple #[.string (S (qs.foldl lcmQ 1)), v, .bool true]) ∧ NatsOf v w' (qs.map (scaleQ (qs.foldl lcmQ 1))) ∧ w.grownBy w' none := by
  have HO0 : ∀ w, Gives 25 #[.int .i64 1] w (.string (S 1)) := fun w => s_rof 1 w (by decide)
  have HO := Lib.hid HO0
  have HR := Lib.hid hr
  have HS := Lib.hid hs
  have HB := Lib.hid hb
  clear hr hs hb HO0
  go_enter Tryz.func62, Tryz.ntmps62
  go_wp2_with fail
  refine (HO.out _).mono ?_
  rintro e w1 ⟨rfl, g1⟩
  have HG1 := Lib.hid g1
  clear g1
  go_wp2_with fail
  go_loopw [5, 6] (fun d u wr => ∃ j : Nat, j ≤ qs.length ∧ u = .int .i64 (j : Int) ∧ d = .string (S ((qs.take j).foldl lcmQ 1)) ∧ w.grownBy wr none) (fun _ u _ => qs.length - (RowKit.intOf u).toNat)
  case atStart => exact ⟨0, Nat.zero_le _, rfl, rfl, HG1.out⟩
  case round =>
    clear HG1
    obtain ⟨j, hj, rfl, rfl, G1⟩ := hrel
    by_cases hlt : j < qs.length
    · obtain ⟨c0, c1, c2⟩ := HR.out.kept G1 j hlt
      rw [HS.out _ (List.getElem_mem hlt), Nat.zero_add] at c0
      rw [Nat.zero_add] at c1 c2
      have hv := fun w => rright_rv qs[j] k w (HB.out _ (List.getElem_mem _)) (by omega)
      unfold RV RW at hv
      rw [HS.out _ (List.getElem_mem hlt)] at hv
      have HV := Lib.hid hv
      have hb1 : (j : Int) < (qs.length : Int) := by omega
      have hk1 : (j : Int) + 1 ≤ 9223372036854775807 := by omega
      have hD := fold_lt (qs.take j) 1 1 (by decide) (fun q hq => HB.out q (List.mem_of_mem_take hq))
      have hpos := fold_pos (qs.take j) 1 (by decide)
      have hD4 : (qs.take j).foldl lcmQ 1 < 256 ^ 400 := lt_le256 (k := 400) hD (take15 hk hn)
      have hq4 : qs[j].den < 256 ^ 400 := lt_le256 (k := 400) (HB.out _ (List.getElem_mem hlt)).2 (Nat.le_trans hk (by decide))
      have hgp : 0 < Nat.gcd ((qs.take j).foldl lcmQ 1) qs[j].den := Nat.gcd_pos_of_pos_left _ hpos
      have hg4 : Nat.gcd ((qs.take j).foldl lcmQ 1) qs[j].den < 256 ^ 400 := lt_gcd256' (j := 400) _ hpos hD4
      have hgc := fun w => s_rgcdL (S ((qs.take j).foldl lcmQ 1)) (S qs[j].den) _ _ w (s_num _) (s_num _) (s_size9L hD4) (s_size9L hq4) hD4 hq4
      have hqu := fun w => s_rquo (S qs[j].den) (S (Nat.gcd ((qs.take j).foldl lcmQ 1) qs[j].den)) _ _ w (s_num _) (s_num _) hgp (s_size9L hq4) (s_size9L hg4)
      have hmu := fun w => s_rmul (S ((qs.take j).foldl lcmQ 1)) (S (qs[j].den / Nat.gcd ((qs.take j).foldl lcmQ 1) qs[j].den)) _ _ w (s_num _) (s_num _) (Nat.le_trans (s_size9L hD4) (by decide)) (Nat.le_trans (s_size9L (Nat.lt_of_le_of_lt (Nat.div_le_self _ _) hq4)) (by decide))
      rw [show (qs.take j).foldl lcmQ 1 * (qs[j].den / Nat.gcd ((qs.take j).foldl lcmQ 1) qs[j].den) = (qs.take (j + 1)).foldl lcmQ 1 from by rw [← List.take_append_getElem hlt, List.foldl_append]; rfl] at hmu
      have HGC := Lib.hid hgc
      have HQU := Lib.hid hqu
      have HMU := Lib.hid hmu
      clear hD hpos hD4 hq4 hgp hg4 hgc hqu hmu hv
      generalize S (qs[j].den / Nat.gcd ((qs.take j).foldl lcmQ 1) qs[j].den) = sq at *
      generalize S (qs[j].den % Nat.gcd ((qs.take j).foldl lcmQ 1) qs[j].den) = sr at *
      generalize S (Nat.gcd ((qs.take j).foldl lcmQ 1) qs[j].den) = sg at *
      generalize S ((qs.take j).foldl lcmQ 1) = sd at *
      generalize S qs[j].den = sden at *
      generalize S qs[j].num.natAbs = snum at *
      have HC0 := Lib.hid c0
      have HC2 := Lib.hid c2
      go_wp2_with fail
      refine (HV.out _).mono ?_
      rintro e w2 ⟨rfl, g2⟩
      have d0 := g2.cell HC0.out (by simp)
      have d2 := g2.cell HC2.out (by simp)
      have G2 := Lib.hid (gr_then G1 g2)
      clear c0 c1 c2 G1 g2 HC0 HC2
      go_wp2_with fail
      refine (HGC.out _).mono ?_
      rintro e w3 ⟨rfl, g3⟩
      have e2 := g3.cell d2 (by simp)
      have G3 := Lib.hid (gr_then G2.out g3)
      clear d0 d2 g3
      go_wp2_with fail
      refine (HQU.out _).mono ?_
      rintro e w4 ⟨rfl, g4⟩
      have G4 := Lib.hid (gr_then G3.out g4)
      clear e2 g4
      go_wp2_with fail
      refine (HMU.out _).mono ?_
      rintro e w5 ⟨rfl, g5⟩
      have G5 := Lib.hid (gr_then G4.out g5)
      clear g5
      go_wp2
      exact ⟨⟨j + 1, by omega, by go_num, rfl, G5.out⟩, by simp [RowKit.intOf]; omega⟩
    · obtain rfl : j = qs.length := by omega
      have hD := fold_lt qs 1 1 (by decide) HB.out
      have hle := take15 (j := qs.length) hk hn
      rw [List.take_length] at hle ⊢
      have hD4 : qs.foldl lcmQ 1 < 256 ^ 400 := lt_le256 (k := 400) hD hle
      clear hD hle
      obtain ⟨D, hDD⟩ : ∃ D, qs.foldl lcmQ 1 = D := ⟨_, rfl⟩
      rw [hDD] at hD4 ⊢
      have HDD := Lib.hid hDD
      clear hDD
      have HG2 := Lib.hid G1
      clear G1
      go_wp2_with fail
      go_loopw [12, 13] (fun v u wq => ∃ j : Nat, j ≤ qs.length ∧ u = .int .i64 (j : Int) ∧ wq.ownsRow w.heap.size 24 1 v j (natV ((qs.take j).map (scaleQ D))) ∧ w.grownBy wq none) (fun _ u _ => qs.length - (RowKit.intOf u).toNat)
      case atStart => exact ⟨0, Nat.zero_le _, rfl, World.ownsRow_nil _ _ _ _, HG2.out⟩
      case round =>
        clear HG2
        obtain ⟨j, hj, rfl, hown, G3⟩ := hrel
        by_cases hlt2 : j < qs.length
        · obtain ⟨c0, c1, c2⟩ := HR.out.kept G3 j hlt2
          rw [Nat.zero_add] at c0 c1 c2
          have hb2 : (j : Int) < (qs.length : Int) := by omega
          have hk2 : (j : Int) + 1 ≤ 9223372036854775807 := by omega
          have hq4 : qs[j].den < 256 ^ 400 := lt_le256 (k := 400) (HB.out _ (List.getElem_mem hlt2)).2 (Nat.le_trans hk (by decide))
          have hn4 : qs[j].num.natAbs < 256 ^ 400 := lt_le256 (k := 400) (HB.out _ (List.getElem_mem hlt2)).1 (Nat.le_trans hk (by decide))
          have hqu := fun w => s_rquo (S D) (S qs[j].den) _ _ w (s_num _) (s_num _) qs[j].den_pos (s_size9L hD4) (s_size9L hq4)
          have hmu := fun w => s_rmul (S qs[j].num.natAbs) (S (D / qs[j].den)) _ _ w (s_num _) (s_num _) (Nat.le_trans (s_size9L hn4) (by decide)) (Nat.le_trans (s_size9L (Nat.lt_of_le_of_lt (Nat.div_le_self _ _) hD4)) (by decide))
          rw [show qs[j].num.natAbs * (D / qs[j].den) = scaleQ D qs[j] from rfl] at hmu
          have HQU := Lib.hid hqu
          have HMU := Lib.hid hmu
          have hsn : natV ((qs.take (j + 1)).map (scaleQ D)) = natV ((qs.take j).map (scaleQ D)) ++ [.string (S (scaleQ D qs[j]))] := by
            rw [← List.take_append_getElem hlt2, List.map_append, ← natV_snoc]; rfl
          have HSN := Lib.hid hsn
          clear hq4 hn4 hqu hmu hsn
          generalize S (D / qs[j].den) = sq at *
          generalize S (D % qs[j].den) = sr at *
          generalize S D = sd at *
          generalize S qs[j].den = sden at *
          generalize S qs[j].num.natAbs = snum at *
          generalize S (scaleQ D qs[j]) = sv at *
          have HC1 := Lib.hid c1
          have HOWN := Lib.hid hown
          clear hown
          go_wp2_with fail
          refine (HQU.out _).mono ?_
          rintro e w4 ⟨rfl, g4⟩
          have d1 := g4.cell HC1.out (by simp)
          have G4 := Lib.hid (gr_then G3 g4)
          have HO4 := Lib.hid (HOWN.out.kept g4 (by rename_i v0; cases Value.ownBlock _ <;> simp))
          clear c0 c1 c2 G3 g4 HC1 HOWN
          go_wp2_with fail
          refine (HMU.out _).mono ?_
          rintro e w5 ⟨rfl, g5⟩
          have G5 := Lib.hid (gr_then G4.out g5)
          have HO5 := Lib.hid (HO4.out.kept g5 (by rename_i v0; cases Value.ownBlock _ <;> simp))
          clear d1 g5 HO4 G4
          obtain ⟨v', w6, hap, hown6, G6⟩ := app_nat w w5 _ j _ sv HO5.out (by omega) G5.out
          have HO6 := Lib.hid hown6
          clear hown6
          go_wp2_with (at_builtin; refine wpList_call_append rfl (.tmp 76) (.tmp 84) 39 rfl _ _ rfl rfl _ _ hap ?_)
          exact ⟨⟨j + 1, by omega, by go_num, by rw [HSN.out]; exact HO6.out, G6⟩, by simp [RowKit.intOf]; omega⟩
        · obtain rfl : j = qs.length := by omega
          rw [List.take_length] at hown
          have hdd := HDD.out
          subst hdd
          have hv := natsOf_own (ns := qs.map (scaleQ (qs.foldl lcmQ 1))) (by rw [List.length_map]; exact hown)
          have HVV := Lib.hid hv
          have HG3 := Lib.hid G3
          clear hown hv G3
          go_wp2
          go_ret3
          exact ⟨_, rfl, HVV.out, HG3.out⟩
end Go.Proofs.YteajpefbmiiioaaGreatDoor
namespace Go.Proofs.YteajpefbmiiioaaGreatDoor
open Go.RowKit Mth Go.Lib

theorem rats_nil (w : World) (g : Nat) : Rats w g 0 [] := fun _ h => absurd h (by simp)
set_option maxHeartbeats 2000000 in
set_option maxRecDepth 100000 in
theorem commonq_nil (w : World) :
    Calls Tryz.prog 61 #[.slice none 0 0] w fun e w' => ∃ m, e = .returned (.tuple #[.string (S 1), .slice (some ⟨m, 0, none⟩) 0 0, .bool true]) ∧ w.grownBy w' none := by
  have G0 := gr_alloc w (.cells #[.bool false] 118) none
  have c0 : (w.alloc (.cells #[.bool false] 118)).cell? ⟨w.heap.size, 0, none⟩ = some (.bool false) := by rw [cell_of_row _ _ 0 _ _ (0, 0) (heap_alloc_new w _)]; rfl
  have HM := Lib.hid (mappedv_nil w.heap.size 0 (w.alloc (.cells #[.bool false] 118)))
  have hcn : ∀ (w : World) (m : Nat), Gives 114 #[.slice (some ⟨m, 0, none⟩) 0 0, .func (.func 115) #[] #[]] w (.bool false) := fun w m => contains_none [] m 0 0 w (rats_nil w m) (by simp) (by decide)
  have hfo : ∀ (w : World) (m : Nat), Gives 116 #[.slice (some ⟨m, 0, none⟩) 0 0, .string ⟨#[1]⟩, .func (.func 117) #[] #[]] w (.string (S 1)) := fun w m => fold1_any [] 1 m 0 0 w (rats_nil w m) (by simp) (by decide) (by decide)
  have HCN := Lib.hid hcn
  have HFO := Lib.hid hfo
  have hmp : ∀ (w : World) (m pb : Nat), w.cell? ⟨pb, 0, none⟩ = some (.string (S 1)) → Calls Tryz.prog 118 #[.slice (some ⟨m, 0, none⟩) 0 0, .func (.func 119) #[] #[.pointer (some ⟨pb, 0, none⟩)]] w fun e w' => ∃ m, e = .returned (.slice (some ⟨m, 0, none⟩) 0 0) ∧ w.grownBy w' none := fun w m pb hc =>
    (mappedn_any [] 1 1 1 m 0 0 pb w (rats_nil w m) hc (by decide) (by decide) (by simp) (by decide) (by decide)).mono (by
      rintro e w' ⟨m2, rfl, _, _, hg⟩
      exact ⟨m2, rfl, hg⟩)
  have HMP := Lib.hid hmp
  clear hcn hfo hmp
  generalize S 1 = so at *
  go_enter Tryz.func61, Tryz.ntmps61
  go_wp2_with fail
  refine HM.out.mono ?_
  rintro e w1 ⟨m1, rfl, _, hm1, g1⟩
  have c1 := g1.cell c0 (by simp)
  have G1 := Lib.hid (gr_then G0 g1)
  clear c0 g1 G0
  go_wp2_with fail
  refine (HCN.out _ _).mono ?_
  rintro e w2 ⟨rfl, g2⟩
  have G2 := Lib.hid (gr_then G1.out g2)
  clear c1 g2
  go_wp2_with fail
  refine (HFO.out _ _).mono ?_
  rintro e w3 ⟨rfl, g3⟩
  have G3 := gr_then G2.out g3
  clear g3
  go_wp2_with fail
  have G4 : w.grownBy (w3.alloc (.cells #[.string so] 24)).drew none := gr_dr (gr_al G3)
  have c4 : (w3.alloc (.cells #[.string so] 24)).drew.cell? ⟨w3.heap.size, 0, none⟩ = some (.string so) := by
    show (w3.alloc (.cells #[.string so] 24)).cell? _ = _
    rw [cell_of_row _ _ 0 _ _ (0, 0) (heap_alloc_new w3 _)]; rfl
  have GG := Lib.hid G4
  clear G3 G4
  go_region_held3 (fun w' => w'.cell? ⟨w3.heap.size, 0, none⟩ = some (.string so)) (first | exact c4 | go_keep)
    ((go_at_call 118; refine (HMP.out _ m1 w3.heap.size c4).mono ?_; rintro e w4 ⟨m2, rfl, g4⟩; have c5 := g4.cell c4 (by simp)))
  all_goals
    have G5 := Lib.hid (gr_then GG.out g4)
    clear g4
    go_wp2
    go_ret3
    exact ⟨m2, rfl, G5.out⟩
set_option maxHeartbeats 2000000 in
set_option maxRecDepth 100000 in
theorem sumlist_nil (w : World) : Gives 59 #[.slice none 0 0] w (RV 0) := by
  have T0 := (Three.new w (.bool false) (.string ⟨#[]⟩) (.string ⟨#[]⟩) 49).alloc (.cells #[.bool false] 118)
  have G0 := gr_al (o := .cells #[.bool false] 118) (gr_al (o := .cells #[.bool false, .string ⟨#[]⟩, .string ⟨#[]⟩] 49) (gr_rfl w))
  have HM := Lib.hid (fun pb w => mappedv_nil pb 0 w)
  have hf : ∀ (w : World) (m : Nat), Gives 111 #[.slice (some ⟨m, 0, none⟩) 0 0, RV 0, .func (.func 105) #[] #[]] w (RV 0) := fun w m => fold2_any [] 1 m 0 0 w (rats_nil w m) (by simp) (by decide) (by decide) (by decide)
  have HF := Lib.hid hf
  have HW := Lib.hid (fun w => whole_any false 0 w)
  have hz : RW false 0 1 = RV 0 := rfl
  rw [hz] at HW
  rw [s_zero] at HW
  have HT0 := Lib.hid T0
  have HG0 := Lib.hid G0
  clear T0 G0 hz hf
  obtain ⟨ya, yx, yy, hy⟩ : ∃ a x y, RV 0 = .agg #[.bool a, .string x, .string y] := ⟨_, _, _, rfl⟩
  rw [hy] at HW ⊢
  simp only [hy] at HF
  clear hy
  go_enter Tryz.func59, Tryz.ntmps59
  go_wp2_with fail
  refine (HM.out _ _).mono ?_
  rintro e w1 ⟨m1, rfl, _, hm1, g1⟩
  have T1 := HT0.out.kept g1
  have G1 := Lib.hid (gr_then HG0.out g1)
  clear g1
  go_wp2_with fail
  refine (HW.out _).mono ?_
  rintro e w2 ⟨rfl, g2⟩
  have T2 := T1.kept g2
  have G2 := Lib.hid (gr_then G1.out g2)
  clear g2 T1
  go_wp2_with fail
  refine (HF.out _ _).mono ?_
  rintro e w3 ⟨rfl, g3⟩
  have T3 := T2.kept g3
  have G3 := Lib.hid (gr_then G2.out g3)
  have k0 := T3.c0
  have k1 := T3.c1
  have k2 := T3.c2
  have f0 := T3.fr 0
  have f1 := T3.fr 1
  have f2 := T3.fr 2
  go_wp2
  exact bodyPost_ret (v := .agg #[.bool ya, .string yx, .string yy]) (by simp [results, Tryz.results59, go_sem, k0, k1, k2]) rfl ⟨rfl, gr_set3 G3.out (Nat.le_refl _) _ _ _⟩
end Go.Proofs.YteajpefbmiiioaaGreatDoor
