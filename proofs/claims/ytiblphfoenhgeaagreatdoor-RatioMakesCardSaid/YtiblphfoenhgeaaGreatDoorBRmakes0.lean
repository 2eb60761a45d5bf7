/- The law of the claim at the level of the call, and its row: Rx, Ry, RowS, Rmakes, RmakesRow. -/
import Derived.Test.YtiblphfoenhgeaaGreatDoorBRsums0
namespace Go.Proofs.YtiblphfoenhgeaaGreatDoor
open Go.RowKit Mth Go.Lib

theorem bd_fold {k : Nat} : ∀ (qs : List Rat) (p : Rat) (j : Nat), Bd j p → (∀ q ∈ qs, Bd k q) → Bd (j + (k + 1) * qs.length) (qs.foldl (· + ·) p)
  | [], p, j, h, _ => by simpa using h
  | q :: qs, p, j, h, hb => by
    have := bd_fold qs (p + q) (j + k + 1) (bd_add h (hb q (by simp))) (fun x hx => hb x (by simp [hx]))
    rw [List.foldl_cons, List.length_cons, show j + (k + 1) * (qs.length + 1) = j + k + 1 + (k + 1) * qs.length from by rw [Nat.mul_succ]; omega]
    exact this
set_option maxHeartbeats 2000000 in
set_option maxRecDepth 100000 in
theorem fold2_any (qs : List Rat) (k g o c : Nat) (w : World) (hr : Rats w g o qs) (hb : ∀ q ∈ qs, Bd k q) (hk : 1 + (k + 1) * qs.length ≤ 900) (hk2 : k ≤ 900) (hn : qs.length ≤ 1000) :
    Gives 111 #[.slice (some ⟨g, o, none⟩) qs.length c, RV 0, .func (.func 105) #[] #[]] w (RV (qs.foldl (· + ·) 0)) := by
  have HR := Lib.hid hr
  have HB := Lib.hid hb
  have HN := Lib.hid hn
  have HK := Lib.hid hk
  have HSUM := Lib.hid (fun (j : Nat) (hj : j < qs.length) w => sumq_any ((qs.take j).foldl (· + ·) 0) qs[j] 900 w (bd_mono (bd_fold (k := k) (qs.take j) 0 1 (bd1 (by decide) (by decide)) (fun q hq => hb q (List.mem_of_mem_take hq))) (by
    have : (k + 1) * (qs.take j).length ≤ (k + 1) * qs.length := Nat.mul_le_mul_left _ (by rw [List.length_take]; omega)
    omega)) (bd_mono (hb _ (List.getElem_mem hj)) hk2) (by decide))
  clear hr hb hk hk2
  obtain ⟨F, hF0, hFs, hFn, hFt⟩ : ∃ F : Nat → Rat, F 0 = 0 ∧ (∀ j (h : j < qs.length), F j + qs[j] = F (j + 1)) ∧ F qs.length = qs.foldl (· + ·) 0 ∧ ∀ j, (qs.take j).foldl (· + ·) 0 = F j :=
    ⟨fun j => (qs.take j).foldl (· + ·) 0, rfl, fun j h => by show (qs.take j).foldl (· + ·) 0 + qs[j] = (qs.take (j + 1)).foldl (· + ·) 0; rw [← List.take_append_getElem h, List.foldl_append]; rfl, by show (qs.take qs.length).foldl (· + ·) 0 = _; rw [List.take_length], fun j => rfl⟩
  have HS2 := Lib.hid (fun (j : Nat) (hj : j < qs.length) w => (by have h := HSUM.out j hj w; rw [hFt, hFs j hj] at h; exact h : Gives 105 #[RV (F j), RV qs[j]] w (RV (F (j + 1)))))
  rw [← hFn]
  have hz : RV 0 = .agg #[.bool (decide ((F 0).num < 0)), .string (S (F 0).num.natAbs), .string (S (F 0).den)] := by rw [hF0]; rfl
  rw [hz]
  clear hz HSUM hFt hFs hFn hF0
  have T0 := (Three.new w (.bool (decide ((F 0).num < 0))) (.string (S (F 0).num.natAbs)) (.string (S (F 0).den)) 49).alloc (.cells #[.bool false, .string ⟨#[]⟩, .string ⟨#[]⟩] 49)
  have U0 := Three.new1 w (.cells #[.bool (decide ((F 0).num < 0)), .string (S (F 0).num.natAbs), .string (S (F 0).den)] 49) (.bool false) (.string ⟨#[]⟩) (.string ⟨#[]⟩) 49
  have G0 := gr_al (o := .cells #[.bool false, .string ⟨#[]⟩, .string ⟨#[]⟩] 49) (gr_al (o := .cells #[.bool (decide ((F 0).num < 0)), .string (S (F 0).num.natAbs), .string (S (F 0).den)] 49) (gr_rfl w))
  have HT0 := Lib.hid T0
  have HU0 := Lib.hid U0
  have HG0 := Lib.hid G0
  clear T0 U0 G0
  have n01 : w.heap.size ≠ w.heap.size + 1 := by omega
  have n10 : w.heap.size + 1 ≠ w.heap.size := by omega
  unfold RV RW at *
  go_enter Tryz.func111, Tryz.ntmps111
  go_wp2
  go_loopw [11] (fun u wr => ∃ j : Nat, j ≤ qs.length ∧ u = .int .i64 j ∧ Three wr w.heap.size (.bool (decide ((F j).num < 0))) (.string (S (F j).num.natAbs)) (.string (S (F j).den)) 49 ∧ Three wr (w.heap.size + 1) (.bool false) (.string ⟨#[]⟩) (.string ⟨#[]⟩) 49 ∧ w.grownBy wr none) (fun u _ => qs.length - (RowKit.intOf u).toNat)
  case atStart => exact ⟨0, Nat.zero_le _, rfl, HT0.out, HU0.out, HG0.out⟩
  case round =>
    obtain ⟨j, hj, rfl, T1, U1, G1⟩ := hrel
    by_cases hlt : j < qs.length
    · obtain ⟨c0, c1, c2⟩ := HR.out.kept G1 j hlt
      have hb1 : (j : Int) < (qs.length : Int) := by omega
      have HV := Lib.hid (HS2.out j hlt)
      have T2 := T1.alloc (.cells #[.bool (decide (qs[j].num < 0)), .string (S qs[j].num.natAbs), .string (S qs[j].den)] 49)
      have U2 := U1.alloc (.cells #[.bool (decide (qs[j].num < 0)), .string (S qs[j].num.natAbs), .string (S qs[j].den)] 49)
      have G2 := gr_al (o := .cells #[.bool (decide (qs[j].num < 0)), .string (S qs[j].num.natAbs), .string (S qs[j].den)] 49) G1
      have a0 := T2.c0
      have a1 := T2.c1
      have a2 := T2.c2
      have b0 := T1.c0
      have b1 := T1.c1
      have b2 := T1.c2
      go_wp2_with fail
      refine (HV.out _).mono ?_
      rintro e w1 ⟨rfl, g1⟩
      have T3 := T2.kept g1
      have HT3 := Lib.hid T3
      have HU3 := Lib.hid (U2.kept g1)
      have HG3 := Lib.hid (gr_then G2 g1)
      have k0 := T3.c0
      have k1 := T3.c1
      have k2 := T3.c2
      have f0 := T3.fr 0
      have f1 := T3.fr 1
      have f2 := T3.fr 2
      clear T3 T2 U2 G2 g1 T1 U1 G1 c0 c1 c2 a0 a1 a2 b0 b1 b2
      go_wp2
      exact ⟨⟨j + 1, by omega, by go_num, HT3.out.all _ _ _, HU3.out.oth3 n10 _ _ _, gr_set3 HG3.out (Nat.le_refl _) _ _ _⟩, by simp [RowKit.intOf]; omega⟩
    · obtain rfl : j = qs.length := by omega
      have HG := Lib.hid G1
      have a0 := T1.c0
      have a1 := T1.c1
      have a2 := T1.c2
      have k0 := U1.c0
      have k1 := U1.c1
      have k2 := U1.c2
      have f0 := U1.fr 0
      have f1 := U1.fr 1
      have f2 := U1.fr 2
      clear G1
      go_wp2
      exact bodyPost_ret (v := .agg #[.bool (decide ((F qs.length).num < 0)), .string (S (F qs.length).num.natAbs), .string (S (F qs.length).den)]) (by simp [results, Tryz.results111, go_sem, k0, k1, k2]) rfl ⟨rfl, gr_set3 HG.out (Nat.le_succ _) _ _ _⟩
set_option maxHeartbeats 2000000 in
set_option maxRecDepth 100000 in
theorem sumlist_any (qs : List Rat) (k g o c : Nat) (w : World) (hr : Rats w g o qs) (hb : ∀ q ∈ qs, Bd k q) (hk : 1 + (k + 1) * qs.length ≤ 900) (hk2 : k ≤ 900) (hn : qs.length ≤ 1000) :
    Gives 59 #[.slice (some ⟨g, o, none⟩) qs.length c] w (RV (qs.foldl (· + ·) 0)) := by
  have T0 := (Three.new w (.bool false) (.string ⟨#[]⟩) (.string ⟨#[]⟩) 49).alloc (.cells #[.bool false] 118)
  have G0 := gr_al (o := .cells #[.bool false] 118) (gr_al (o := .cells #[.bool false, .string ⟨#[]⟩, .string ⟨#[]⟩] 49) (gr_rfl w))
  have HM := Lib.hid (fun pb => mappedv_any qs k g o c pb 0 _ (hr.kept G0) hb (by omega) hn)
  have HF := Lib.hid (fun m w hr => fold2_any qs k m 0 qs.length w hr hb hk hk2 hn)
  have HW := Lib.hid (fun w => whole_any false 0 w)
  have hz : RW false 0 1 = RV 0 := rfl
  rw [hz] at HW
  have HT0 := Lib.hid T0
  have HG0 := Lib.hid G0
  clear T0 G0 hr hb hk hk2 hz
  rw [s_zero] at HW
  generalize hX : RV 0 = X at *
  have HX := Lib.hid hX
  clear hX
  obtain ⟨ya, yx, yy, hy⟩ : ∃ a x y, RV (qs.foldl (· + ·) 0) = .agg #[.bool a, .string x, .string y] := ⟨_, _, _, rfl⟩
  rw [hy] at HF ⊢
  clear hy
  go_enter Tryz.func59, Tryz.ntmps59
  go_wp2_with fail
  refine (HM.out _).mono ?_
  rintro e w1 ⟨m1, rfl, B1, hm1, g1⟩
  have T1 := HT0.out.kept g1
  have R1 := Lib.hid B1.rats
  have G1 := Lib.hid (gr_then HG0.out g1)
  clear g1 B1
  go_wp2_with fail
  refine (HW.out _).mono ?_
  rintro e w2 ⟨rfl, g2⟩
  have T2 := T1.kept g2
  have R2 := Lib.hid (R1.out.kept g2)
  have G2 := Lib.hid (gr_then G1.out g2)
  clear g2 T1
  go_wp2_with fail
  refine (HF.out m1 _ R2.out).mono ?_
  rintro e w3 ⟨rfl, g3⟩
  have T3 := T2.kept g3
  have G3 := Lib.hid (gr_then G2.out g3)
  have k0 := T3.c0
  have k1 := T3.c1
  have k2 := T3.c2
  have f0 := T3.fr 0
  have f1 := T3.fr 1
  have f2 := T3.fr 2
  clear g3 T2
  go_wp2
  exact bodyPost_ret (v := .agg #[.bool ya, .string yx, .string yy]) (by simp [results, Tryz.results59, go_sem, k0, k1, k2]) rfl ⟨rfl, gr_set3 G3.out (Nat.le_refl _) _ _ _⟩
end Go.Proofs.YtiblphfoenhgeaaGreatDoor
namespace Go.Proofs.YtiblphfoenhgeaaGreatDoor
open Go.RowKit Mth Go.Lib

theorem ofq_neg (n : Nat) (w : World) (h : n ≤ 9223372036854775807) : Gives 56 #[.int .i64 (-((n : Int) + 1))] w (RW true (n + 1) 1) := by
  have HN := Lib.hid (fun w => of_any n w (by omega))
  rw [show (⟨(enc n).toArray⟩ : ByteArray) = S n from rfl] at HN
  have hz := s_sz (n := n) (k := 8) (Nat.lt_of_le_of_lt h (by decide))
  have h1 := s_size9 (n := 1) (by decide)
  have HA := Lib.hid (fun w => s_add (S n) (S 1) n 1 w (s_num _) (s_num _) (by omega) (by omega))
  have HW := Lib.hid (whole_any true (n + 1))
  unfold RW at *
  rw [one_lit] at *
  generalize S (n + 1) = z at *
  generalize S n = x at *
  have C0 := Three.new w (.bool false) (.string ⟨#[]⟩) (.string ⟨#[]⟩) 49
  have hn : decide ((0 : Int) ≤ -((n : Int) + 1)) = false := decide_eq_false (by omega)
  go_enter Tryz.func56, Tryz.ntmps56
  go_wp2_with fail
  have hx : -(-((n : Int) + 1) + 1) = (n : Int) := by omega
  rw [hx]
  refine (HN.out _).mono ?_
  rintro e w1 ⟨rfl, g1⟩
  have C1 := C0.kept g1
  have G1 := Lib.hid (gr_one g1)
  clear g1 C0 hx
  go_wp2_with fail
  refine (HA.out _).mono ?_
  rintro e w2 ⟨rfl, g1⟩
  have C2 := C1.kept g1
  have G2 := Lib.hid (gr_then G1.out g1)
  clear g1 C1 G1
  go_wp2_with fail
  refine (HW.out _).mono ?_
  rintro e w3 ⟨rfl, g1⟩
  have C3 := C2.kept g1
  have G3 := Lib.hid (gr_then G2.out g1)
  clear g1 C2 G2
  have k0 := C3.c0
  have k1 := C3.c1
  have k2 := C3.c2
  have f0 := C3.fr 0
  have f1 := C3.fr 1
  have f2 := C3.fr 2
  go_wp2
  exact bodyPost_ret (v := .agg #[.bool true, .string z, .string ⟨#[1]⟩]) (by simp [results, Tryz.results56, go_sem, k0, k1, k2]) rfl ⟨rfl, gr_set3 G3.out (Nat.le_refl _) _ _ _⟩
theorem rofq_negall (n : Nat) (w : World) (h : n ≤ 9223372036854775807) : Gives 57 #[.int .i64 (-((n : Int) + 1))] w (RW true (n + 1) 1) := by
  have HN := Lib.hid (fun w => s_rof n w (by omega))
  have HW := Lib.hid (fun w => s_rof 1 w (by decide))
  have hz := s_sz (n := n) (k := 8) (Nat.lt_of_le_of_lt h (by decide))
  have HA := Lib.hid (fun w => s_radd (S n) (S 1) n 1 w (s_num _) (s_num _) (by omega) (s_size9 (by decide)))
  unfold RW at *
  generalize S (n + 1) = z at *
  generalize S n = x at *
  generalize S 1 = y at *
  have C0 := Three.new w (.bool false) (.string ⟨#[]⟩) (.string ⟨#[]⟩) 49
  have hn : decide ((0 : Int) ≤ -((n : Int) + 1)) = false := decide_eq_false (by omega)
  have hw1 : wrap64 (-((n : Int) + 1) + 1) = -(n : Int) := by unfold wrap64; omega
  have hw2 : wrap64 (- -(n : Int)) = (n : Int) := by unfold wrap64; omega
  have hw3 : wrap64 (n : Int) = (n : Int) := by unfold wrap64; omega
  go_enter Tryz.func57, Tryz.ntmps57
  go_wp2_with fail
  have hx : -(-((n : Int) + 1) + 1) = (n : Int) := by omega
  rw [hx]
  refine (HN.out _).mono ?_
  rintro e w1 ⟨rfl, g1⟩
  have C1 := C0.kept g1
  have G1 := Lib.hid (gr_one g1)
  clear g1 C0 hw1 hw2 hw3 hx
  go_wp2_with fail
  refine (HW.out _).mono ?_
  rintro e w2 ⟨rfl, g1⟩
  have C2 := C1.kept g1
  have G2 := Lib.hid (gr_then G1.out g1)
  clear g1 C1 G1
  go_wp2_with fail
  refine (HA.out _).mono ?_
  rintro e w3 ⟨rfl, g1⟩
  have C3 := C2.kept g1
  have G3 := Lib.hid (gr_then G2.out g1)
  clear g1 C2 G2
  go_wp2_with fail
  refine (HW.out _).mono ?_
  rintro e w4 ⟨rfl, g1⟩
  have C4 := C3.kept g1
  have G4 := Lib.hid (gr_then G3.out g1)
  clear g1 C3 G3
  have k0 := C4.c0
  have k1 := C4.c1
  have k2 := C4.c2
  have f0 := C4.fr 0
  have f1 := C4.fr 1
  have f2 := C4.fr 2
  go_wp2
  exact bodyPost_ret (v := .agg #[.bool true, .string z, .string y]) (by simp [results, Tryz.results57, go_sem, k0, k1, k2]) rfl ⟨rfl, gr_set3 G4.out (Nat.le_refl _) _ _ _⟩
set_option maxRecDepth 100000 in
theorem make_bad1 (b : Bool) (s t : ByteArray) (w : World) (h : rtB s.data.toList = false) : Gives 53 #[.bool b, .string s, .string t] w (.tuple #[.agg #[.bool false, .string ⟨#[]⟩, .string ⟨#[]⟩], .bool false]) := by
  have HR := Lib.hid (fun w => right_any s w)
  rw [h] at HR
  clear h
  have hT := Three.new w (.bool false) (.string ⟨#[]⟩) (.string ⟨#[]⟩) 49
  go_enter Tryz.func53, Tryz.ntmps53
  go_wp2_with fail
  refine (HR.out _).mono ?_
  rintro e w1 ⟨rfl, rfl⟩
  have c0 := hT.c0
  have c1 := hT.c1
  have c2 := hT.c2
  go_wp2
  exact bodyPost_ret (v := .tuple #[.agg #[.bool false, .string ⟨#[]⟩, .string ⟨#[]⟩], .bool false]) (by simp [results, Tryz.results53, go_sem, c0, c1, c2]) rfl ⟨rfl, gr_al (gr_rfl _)⟩
set_option maxRecDepth 100000 in
theorem make_bad2 (b : Bool) (s t : ByteArray) (w : World) (h0 : rtB s.data.toList = true) (h : rtB t.data.toList = false) : Gives 53 #[.bool b, .string s, .string t] w (.tuple #[.agg #[.bool false, .string ⟨#[]⟩, .string ⟨#[]⟩], .bool false]) := by
  have HS := Lib.hid (fun w => right_any s w)
  have HR := Lib.hid (fun w => right_any t w)
  rw [h0] at HS
  rw [h] at HR
  clear h h0
  have hT := Three.new w (.bool false) (.string ⟨#[]⟩) (.string ⟨#[]⟩) 49
  go_enter Tryz.func53, Tryz.ntmps53
  go_wp2_with fail
  refine (HS.out _).mono ?_
  rintro e w1 ⟨rfl, rfl⟩
  go_wp2_with fail
  refine (HR.out _).mono ?_
  rintro e w1 ⟨rfl, rfl⟩
  have c0 := hT.c0
  have c1 := hT.c1
  have c2 := hT.c2
  go_wp2
  exact bodyPost_ret (v := .tuple #[.agg #[.bool false, .string ⟨#[]⟩, .string ⟨#[]⟩], .bool false]) (by simp [results, Tryz.results53, go_sem, c0, c1, c2]) rfl ⟨rfl, gr_al (gr_rfl _)⟩
set_option maxRecDepth 100000 in
theorem rmake_bad (b : Bool) (s t : ByteArray) (w : World) (h : rtB s.data.toList = false ∨ rtB t.data.toList = false) : Gives 54 #[.bool b, .string s, .string t] w (.tuple #[.agg #[.bool false, .string ⟨#[]⟩, .string ⟨#[]⟩], .bool false]) := by
  have HS := Lib.hid (fun w => rright_any s w)
  have HR := Lib.hid (fun w => rright_any t w)
  generalize rtB s.data.toList = x at *
  generalize rtB t.data.toList = y at *
  have hT := Three.new w (.bool false) (.string ⟨#[]⟩) (.string ⟨#[]⟩) 49
  have hxy : (x = false) ∨ (x = true ∧ y = false) := by rcases h with h | h <;> cases x <;> simp_all
  clear h
  rcases hxy with rfl | ⟨rfl, rfl⟩
  all_goals
    go_enter Tryz.func54, Tryz.ntmps54
    go_wp2_with fail
    refine (HS.out _).mono ?_
    rintro e w1 ⟨rfl, rfl⟩
    go_wp2_with fail
    refine (HR.out _).mono ?_
    rintro e w1 ⟨rfl, rfl⟩
    have c0 := hT.c0
    have c1 := hT.c1
    have c2 := hT.c2
    go_wp2
    exact bodyPost_ret (v := .tuple #[.agg #[.bool false, .string ⟨#[]⟩, .string ⟨#[]⟩], .bool false]) (by simp [results, Tryz.results54, go_sem, c0, c1, c2]) rfl ⟨rfl, gr_al (gr_rfl _)⟩
theorem s_of_right (s : ByteArray) (h : rtB s.data.toList = true) : ∃ m, s = S m := by
  have hr : Rt s.data.toList := by
    revert h
    generalize s.data.toList = l
    intro h e
    cases l with
    | nil => simp at e
    | cons d l => simp only [List.head?_cons, Option.some.injEq] at e; subst e; simp [rtB] at h
  refine ⟨num s.data.toList, ?_⟩
  unfold S
  rw [enc_num hr]
end Go.Proofs.YtiblphfoenhgeaaGreatDoor
namespace Go.Proofs.YtiblphfoenhgeaaGreatDoor
open Go.ChangeShapes Go.WideShapes Go.ChangeAt Go.RowKit Mth

theorem str2_arg {P : Program} {t e : TypeId} (ht : P.underlying t = some (.array 2 e)) (he : P.underlying e = some .string) (hc : P.cellsOf t = 2) (hce : P.cellsOf e = 1) {H : Type} {enc : TypeId × Value → H} {W : World} {base : Nat} {v : Value} {d : DataW H} {p : List MemPlace} (hok : Value.okWide P W .any base t v) (h : DataW.Trod enc P W 0 (fun _ => true) true t v d p) : ∃ a b : ByteArray, v = .agg #[.string a, .string b] ∧ a.size ≤ maxLen ∧ b.size ≤ maxLen := by
  simp only [Value.okWide, ht] at hok
  obtain ⟨cs, rfl, hsz, _⟩ := hok
  obtain ⟨fuel, hf⟩ := h
  rw [hc] at hsz
  obtain ⟨x0, x1, rfl⟩ : ∃ x0 x1, cs = #[x0, x1] := by
    rcases cs with ⟨l⟩
    match l, hsz with
    | [x0, x1], _ => exact ⟨x0, x1, rfl⟩
  obtain ⟨xs, m, _, _, _, hlen, hf2⟩ := DataW.trod_array ht hf
  have h0 := hf2 0 (by decide)
  have h1 := hf2 1 (by decide)
  rw [hce] at h0 h1
  match xs, hlen with
  | [y0, y1], _ =>
    obtain ⟨a0, e0, _, w0⟩ := DataW.trod_string he (x := y0) (by simpa using h0)
    obtain ⟨a1, e1, _, w1⟩ := DataW.trod_string he (x := y1) (by simpa using h1)
    simp [Value.cells] at e0 e1
    exact ⟨a0, a1, by rw [e0, e1], w0, w1⟩
end Go.Proofs.YtiblphfoenhgeaaGreatDoor
namespace Go.Proofs.YtiblphfoenhgeaaGreatDoor
open Go.RowKit Mth Go.Lib

set_option maxRecDepth 100000 in
theorem rmake_nil (b : Bool) (m : Nat) (w : World) : Gives 54 #[.bool b, .string (S m), .string ⟨#[]⟩] w (.tuple #[.agg #[.bool false, .string ⟨#[]⟩, .string ⟨#[]⟩], .bool false]) := by
  have HS := Lib.hid (s_rright m)
  have HR := Lib.hid (s_rright 0)
  rw [s_zero] at HR
  generalize S m = x at *
  have hT := Three.new w (.bool false) (.string ⟨#[]⟩) (.string ⟨#[]⟩) 49
  go_enter Tryz.func54, Tryz.ntmps54
  go_wp2_with fail
  refine (HS.out _).mono ?_
  rintro e w1 ⟨rfl, rfl⟩
  go_wp2_with fail
  refine (HR.out _).mono ?_
  rintro e w1 ⟨rfl, rfl⟩
  have c0 := hT.c0
  have c1 := hT.c1
  have c2 := hT.c2
  go_wp2
  exact bodyPost_ret (v := .tuple #[.agg #[.bool false, .string ⟨#[]⟩, .string ⟨#[]⟩], .bool false]) (by simp [results, Tryz.results54, go_sem, c0, c1, c2]) rfl ⟨rfl, gr_al (gr_rfl _)⟩
theorem cut20 (s : ByteArray) : (s.extract 0 (min (s.size : Int) 20).toNat).size ≤ 20 := by
  rw [ByteArray.size_extract]; omega
/-- Make of the program and of the reference, of any short strings. -/
theorem make_both (b : Bool) (s t : ByteArray) (h1 : s.size ≤ 20) (h2 : t.size ≤ 20) : ∃ (a : Bool) (x y : ByteArray) (o : Bool), (∀ w, Gives 53 #[.bool b, .string s, .string t] w (.tuple #[.agg #[.bool a, .string x, .string y], .bool o])) ∧ (∀ w, Gives 54 #[.bool b, .string s, .string t] w (.tuple #[.agg #[.bool a, .string x, .string y], .bool o])) := by
  cases hs : rtB s.data.toList with
  | false => exact ⟨_, _, _, _, fun w => make_bad1 b s t w hs, fun w => rmake_bad b s t w (.inl hs)⟩
  | true =>
    cases ht : rtB t.data.toList with
    | false => exact ⟨_, _, _, _, fun w => make_bad2 b s t w hs ht, fun w => rmake_bad b s t w (.inr ht)⟩
    | true =>
      obtain ⟨m, rfl⟩ := s_of_right s hs
      obtain ⟨n, rfl⟩ := s_of_right t ht
      have bm := bnum (S m) (by omega)
      have bn := bnum (S n) (by omega)
      rw [s_num] at bm bn
      by_cases h0 : n = 0
      · subst h0
        rw [s_zero]
        exact ⟨_, _, _, _, fun w => make_nil b m w, fun w => rmake_nil b m w⟩
      · exact ⟨_, _, _, _, fun w => make_yes b m n 40 w h0 bm bn (by decide), fun w => rmake_yes b m n w h0 (lt_le256 bm (by decide)) (lt_le256 bn (by decide))⟩
theorem of_both (n : Int) (h : -9223372036854775808 ≤ n ∧ n ≤ 9223372036854775807) : ∃ (a : Bool) (x y : ByteArray), (∀ w, Gives 56 #[.int .i64 n] w (.agg #[.bool a, .string x, .string y])) ∧ (∀ w, Gives 57 #[.int .i64 n] w (.agg #[.bool a, .string x, .string y])) ∧ (∀ w, Gives 58 #[.agg #[.bool a, .string x, .string y]] w (.bool true)) := by
  have b9 : ∀ m : Nat, m ≤ 9223372036854775808 → m < 256 ^ 9 := fun m hm => Nat.lt_of_le_of_lt hm (by decide)
  rcases Int.lt_or_le n 0 with hn | hn
  · obtain ⟨m, rfl⟩ : ∃ m : Nat, n = -((m : Int) + 1) := ⟨(-n - 1).toNat, by omega⟩
    have hm : m ≤ 9223372036854775807 := by omega
    refine ⟨_, _, _, fun w => ofq_neg m w hm, fun w => rofq_negall m w hm, fun w => ?_⟩
    have h2 := right_rv ((-((m : Int) + 1) : Int) : Rat) 9 w ⟨by rw [Rat.num_intCast]; exact b9 _ (show (-((m : Int) + 1)).natAbs ≤ 9223372036854775808 by omega), by rw [Rat.den_intCast]; exact b9 1 (by decide)⟩ (by decide)
    rw [← rv_negnat] at h2
    exact h2
  · obtain ⟨m, rfl⟩ : ∃ m : Nat, n = (m : Int) := ⟨n.toNat, by omega⟩
    have hm : m ≤ 9223372036854775807 := by omega
    refine ⟨_, _, _, fun w => ofq_nat m w hm, fun w => rofq_nat m w hm, fun w => ?_⟩
    have h2 := right_rv ((m : Int) : Rat) 9 w ⟨by rw [Rat.num_intCast]; exact b9 _ (show ((m : Nat) : Int).natAbs ≤ 9223372036854775808 by omega), by rw [Rat.den_intCast]; exact b9 1 (by decide)⟩ (by decide)
    rw [← rv_nat] at h2
    exact h2
set_option maxHeartbeats 4000000 in
set_option maxRecDepth 100000 in
theorem makesq_true (neg : Bool) (s t : ByteArray) (n : Int) (W : World) (htab : Tab W) (hn : -9223372036854775808 ≤ n ∧ n ≤ 9223372036854775807) :
    Gives 9 #[.bool neg, .agg #[.string s, .string t], .int .i64 n] W (.bool true) := by
  have z1 := cut20 s
  have z2 := cut20 t
  obtain ⟨s2, hs2⟩ : ∃ x, x = s.extract 0 (min (s.size : Int) 20).toNat := ⟨_, rfl⟩
  obtain ⟨t2, ht2⟩ : ∃ x, x = t.extract 0 (min (t.size : Int) 20).toNat := ⟨_, rfl⟩
  rw [← hs2] at z1
  rw [← ht2] at z2
  obtain ⟨ua, ux, uy, uo, hu1, hu2⟩ := make_both neg s2 t2 z1 z2
  obtain ⟨oa, ox, oy, ho1, ho2, ho3⟩ := of_both n hn
  have HU1 := Lib.hid hu1
  have HU2 := Lib.hid hu2
  have HO1 := Lib.hid ho1
  have HO2 := Lib.hid ho2
  have HO3 := Lib.hid ho3
  have HMo := Lib.hid (fun w => mod_at n 1099511627776 w (by decide) (by decide) hn.1 hn.2)
  have lmo := mod_lt n 1099511627776 (by decide)
  generalize (n % 1099511627776).toNat = a at *
  have HOa := Lib.hid (fun w => s_rof a w (by omega))
  have HOb := Lib.hid (fun w => of_succ s2.size w (by omega))
  have ba : a < 256 ^ 40 := Nat.lt_of_lt_of_le (show a < 1099511627776 by omega) (by decide)
  have bb : 1 + s2.size < 256 ^ 40 := Nat.lt_of_le_of_lt (show 1 + s2.size ≤ 21 by omega) (by decide)
  have HY1 := Lib.hid (fun w => make_yes neg a (1 + s2.size) 40 w (by omega) ba bb (by decide))
  have HY2 := Lib.hid (fun w => rmake_yes neg a (1 + s2.size) w (by omega) (lt_le256 ba (by decide)) (lt_le256 bb (by decide)))
  obtain ⟨ya, yx, yy, hy⟩ : ∃ (c : Bool) (x y : ByteArray), RV (mkRat (sg neg a) (1 + s2.size)) = .agg #[.bool c, .string x, .string y] := ⟨_, _, _, rfl⟩
  rw [hy] at HY1 HY2
  have HS0 := Lib.hid (sanityq_true)
  have HT := Lib.hid htab
  have HE1 := Lib.hid hs2
  have HE2 := Lib.hid ht2
  clear htab hu1 hu2 ho1 ho2 ho3 hy ba bb hs2 ht2 z2 lmo
  go_enter Tryz.func9, Tryz.ntmps9
  have c0 : (W.alloc (.cells #[.string s, .string t] 26)).cell? ⟨W.heap.size, 0, none⟩ = some (.string s) := by rw [cell_of_row _ _ 0 _ _ (0, 0) (heap_alloc_new W _)]; rfl
  have c1 : (W.alloc (.cells #[.string s, .string t] 26)).cell? ⟨W.heap.size, 1, none⟩ = some (.string t) := by rw [cell_of_row _ _ 1 _ _ (0, 0) (heap_alloc_new W _)]; rfl
  have G0 := gr_alloc W (.cells #[.string s, .string t] 26) none
  go_wp2_with fail
  refine (HS0.out _ (tab_gr HT.out G0)).mono ?_
  rintro e w1 ⟨rfl, g1⟩
  have c0 := g1.cell c0 (by simp)
  have c1 := g1.cell c1 (by simp)
  have G1 := Lib.hid (gr_then G0 g1)
  clear G0 g1
  go_wp2_with fail
  rw [← HE1.out, ← HE2.out]
  refine (HU1.out _).mono ?_
  rintro e w2 ⟨rfl, g1⟩
  have A2 := Three.new w2 (.bool ua) (.string ux) (.string uy) 49
  have G2 := Lib.hid (gr_al (o := (.cells #[.bool ua, .string ux, .string uy] 49)) (gr_then G1.out g1))
  clear g1 G1 c0 c1
  go_wp2_with fail
  refine (HU2.out _).mono ?_
  rintro e w3 ⟨rfl, g1⟩
  have A3 := (A2.kept g1).alloc (.cells #[.bool ua, .string ux, .string uy] 49)
  have B3 := Three.new w3 (.bool ua) (.string ux) (.string uy) 49
  have G3 := Lib.hid (gr_al (o := (.cells #[.bool ua, .string ux, .string uy] 49)) (gr_then G2.out g1))
  clear g1 G2 A2
  go_wp2_with fail
  refine (HMo.out _).mono ?_
  rintro e wm ⟨rfl, rfl⟩
  go_wp2_with fail
  refine (HOa.out _).mono ?_
  rintro e w4 ⟨rfl, g1⟩
  have A4 := A3.kept g1
  have B4 := B3.kept g1
  have G4 := Lib.hid (gr_then G3.out g1)
  clear g1 G3 A3 B3
  go_wp2_with fail
  refine (HOb.out _).mono ?_
  rintro e w5 ⟨rfl, g1⟩
  have A5 := A4.kept g1
  have B5 := B4.kept g1
  have G5 := Lib.hid (gr_then G4.out g1)
  clear g1 G4 A4 B4
  go_wp2_with fail
  refine (HY1.out _).mono ?_
  rintro e w6 ⟨rfl, g1⟩
  have A6 := (A5.kept g1).alloc (.cells #[.bool ya, .string yx, .string yy] 49)
  have B6 := (B5.kept g1).alloc (.cells #[.bool ya, .string yx, .string yy] 49)
  have C6 := Three.new w6 (.bool ya) (.string yx) (.string yy) 49
  have G6 := Lib.hid (gr_al (o := (.cells #[.bool ya, .string yx, .string yy] 49)) (gr_then G5.out g1))
  clear g1 G5 A5 B5
  go_wp2_with fail
  refine (HMo.out _).mono ?_
  rintro e wn ⟨rfl, rfl⟩
  go_wp2_with fail
  refine (HOa.out _).mono ?_
  rintro e w7 ⟨rfl, g1⟩
  have A7 := A6.kept g1
  have B7 := B6.kept g1
  have C7 := C6.kept g1
  have G7 := Lib.hid (gr_then G6.out g1)
  clear g1 G6 A6 B6 C6
  go_wp2_with fail
  refine (HOb.out _).mono ?_
  rintro e w8 ⟨rfl, g1⟩
  have A8 := A7.kept g1
  have B8 := B7.kept g1
  have C8 := C7.kept g1
  have G8 := Lib.hid (gr_then G7.out g1)
  clear g1 G7 A7 B7 C7
  go_wp2_with fail
  refine (HY2.out _).mono ?_
  rintro e w9 ⟨rfl, g1⟩
  have A9 := (A8.kept g1).alloc (.cells #[.bool ya, .string yx, .string yy] 49)
  have B9 := (B8.kept g1).alloc (.cells #[.bool ya, .string yx, .string yy] 49)
  have C9 := (C8.kept g1).alloc (.cells #[.bool ya, .string yx, .string yy] 49)
  have D9 := Three.new w9 (.bool ya) (.string yx) (.string yy) 49
  have G9 := Lib.hid (gr_al (o := (.cells #[.bool ya, .string yx, .string yy] 49)) (gr_then G8.out g1))
  clear g1 G8 A8 B8 C8
  have xA0 := A9.c0
  have xA1 := A9.c1
  have xA2 := A9.c2
  have xB0 := B9.c0
  have xB1 := B9.c1
  have xB2 := B9.c2
  have xC0 := C9.c0
  have xC1 := C9.c1
  have xC2 := C9.c2
  have xD0 := D9.c0
  have xD1 := D9.c1
  have xD2 := D9.c2
  go_wp2_with fail
  refine (HO1.out _).mono ?_
  rintro e w10 ⟨rfl, g1⟩
  have G10 := Lib.hid (gr_then G9.out g1)
  clear g1 G9 xA0 xA1 xA2 xB0 xB1 xB2 xC0 xC1 xC2 xD0 xD1 xD2
  go_wp2_with fail
  refine (HO2.out _).mono ?_
  rintro e w11 ⟨rfl, g1⟩
  have G11 := Lib.hid (gr_then G10.out g1)
  clear g1 G10
  go_wp2_with fail
  refine (HO1.out _).mono ?_
  rintro e w12 ⟨rfl, g1⟩
  have G12 := Lib.hid (gr_then G11.out g1)
  clear g1 G11
  go_wp2_with fail
  refine (HO3.out _).mono ?_
  rintro e w13 ⟨rfl, g1⟩
  have G13 := Lib.hid (gr_then G12.out g1)
  clear g1 G12
  go_wp2
  go_ret
  exact ⟨rfl, G13.out⟩
end Go.Proofs.YtiblphfoenhgeaaGreatDoor
namespace Go.Proofs.YtiblphfoenhgeaaGreatDoor
open Go.ChangeShapes Go.WideShapes Go.ChangeAt Go.RowKit Mth

set_option maxRecDepth 1000000 in
theorem makesq_laid (os : Os) (args : Array Value) : laidMet Tryz.prog Rows.ratioMakesRow.laid ((laidWorld os).forCall (fun _ _ => 0) ⟨#[], args, []⟩).memory :=
  have h : LaidIn Tryz.prog ((laidWorld os).forCall (fun _ _ => 0) ⟨#[], args, []⟩).memory Rows.ratioMakesRow.laid [4, 5, 2] :=
    LaidIn.of_run [4, 5, 2] 8 (by kernel_rfl) (by kernel_rfl) (by kernel_rfl) (by kernel_rfl)
  h.met
theorem makesq_tab {w : World} (h : laidMet Tryz.prog Rows.ratioMakesRow.laid w) : Tab w :=
  Lib.tabIs_of_head (g := 2) (t := 178) (e := 96) (n := 20) (by kernel_rfl) (by kernel_rfl) (by kernel_rfl) (by kernel_rfl) (by kernel_rfl) (by kernel_rfl) (show laidMet Tryz.prog [("internal/strconv.uint64pow10", Lib.tabData .u64 Lib.pow10Tab)] w from h.tail.tail)

set_option maxRecDepth 1000000 in
set_option maxHeartbeats 4000000 in
theorem makesq_lifted (os : Os) (started : os.Started) (H : Type) (enc : TypeId × Value → H) :
    ReturnsInHanded {} Tryz.checked os 9 .any (fun w args => (Rows.ratioMakesSpec.pre enc Tryz.prog Tryz.f9 Rows.ratioMakesRow.domain false w args ∧ laidMet Tryz.prog Rows.ratioMakesRow.laid w) ∧ sizedMet enc Tryz.prog Tryz.f9 (OpenSpec.ofChange Rows.ratioMakesSpec) false w args)
      (Rows.ratioMakesSpec.post enc Tryz.prog Tryz.f9 false true false false) := by
  refine returnsInHanded_of_change_and (C := Tryz.checked) (X := fun w _ => laidMet Tryz.prog Rows.ratioMakesRow.laid w) (fun _ _ _ hh h => h.of_heap hh) own0 started (by kernel_rfl) Tryz.func9
    (ChangeSpec.witness_at (enc := enc) (C := Tryz.checked) (os := os) (X := fun w _ => laidMet Tryz.prog Rows.ratioMakesRow.laid w) false (laidWorld os) #[.bool false, .agg #[.string ⟨#[]⟩, .string ⟨#[]⟩], .int .i64 0] 8 rfl (by kernel_rfl) (by kernel_rfl) (by kernel_rfl) (by kernel_rfl) (by kernel_rfl) (makesq_laid os _)) ?_
  intro W base args ds gs before hval0 hW hcnd0 _ hL _
  have hval : ∀ (j : Nat) t v, Tryz.f9.params[j]? = some t → args[j]? = some v → Value.okWide Tryz.prog W .any base t v := hval0
  have hW' := hW
  obtain ⟨p, q, hA0, hV, rfl, hfz, hnd⟩ := hW
  have hA : DataW.TrodAll enc Tryz.prog W 0 (fun _ => true) true Tryz.f9.params.toList args.toList ds p := hA0
  rw [Tryz.params9] at hA hval
  obtain ⟨v0, v1, v2, d0, d1, d2, p0, p1, p2, rfl, rfl, rfl, h0, h1, h2⟩ := trodAll_three hA
  obtain ⟨rfl, rfl⟩ := trodVars_none hV
  clear hA0 hval0 hA
  simp only [List.append_nil] at hW'
  have k0 := hval 0 4 v0 rfl rfl
  have k1 := hval 1 26 v1 rfl rfl
  have k2 := hval 2 3 v2 rfl rfl
  obtain ⟨n0, rfl, _⟩ := open_bool Tryz.underlying4 k0 h0
  obtain ⟨n1_0, n1_1, rfl, _, _⟩ := str2_arg Tryz.underlying26 Tryz.underlying24 (by kernel_rfl) (by kernel_rfl) k1 h1
  obtain ⟨n2, rfl, w2⟩ := int_arg k2 h2
  refine (makesq_true n0 n1_0 n1_1 n2 W (makesq_tab hL) w2).mono fun e W' ⟨he, hg⟩ => ?_
  subst he
  have hb : Below W.heap.size W W' := gr_low hg (Nat.le_refl _)
  have hlt : ∀ x ∈ p0 ++ p1 ++ p2, x.block < W.heap.size := fun x hx => by simpa using hW'.lt x hx
  have hl0 : ∀ x ∈ p0, x.block < W.heap.size := fun x hx => hlt x (by simp [hx])
  have hl1 : ∀ x ∈ p1, x.block < W.heap.size := fun x hx => hlt x (by simp [hx])
  have hl2 : ∀ x ∈ p2, x.block < W.heap.size := fun x hx => hlt x (by simp [hx])
  refine ⟨_, rfl, _, _, _, [], p0 ++ p1 ++ p2, [], hW', ?_, ?_, rfl, hb.frame _, fun h => by cases h⟩
  · exact trodAll_mk1 (shut_bool Tryz.underlying4 true)
  · have h3 := trodAll_mk3 (Below.trod laidOut0 (by kernel_rfl) (of_decide_eq_true (by kernel_rfl)) h0 hb hl0) (Below.trod laidOut0 (by kernel_rfl) (of_decide_eq_true (by kernel_rfl)) h1 hb hl1) (Below.trod laidOut0 (by kernel_rfl) (of_decide_eq_true (by kernel_rfl)) h2 hb hl2)
    rw [← List.append_assoc] at h3
    exact h3

theorem makesq_row : Rows.RatioMakesSaid :=
  OpenClaim.holds_of_wide 9 Tryz.f9 rfl rfl rfl rfl rfl rfl rfl ⟨rfl, rfl, rfl, rfl, rfl⟩ rfl rfl rfl rfl rfl (by kernel_rfl) Tryz.func9 (by kernel_rfl)
    (of_decide_eq_true (by kernel_rfl)) (by unfold Func.isWrapper; first | (rw [if_pos (by decide +kernel)]; kernel_rfl) | (rw [if_neg (by decide +kernel)]; exact ⟨rfl, rfl⟩))
    (fun os started H enc _ => makesq_lifted os started H enc)
end Go.Proofs.YtiblphfoenhgeaaGreatDoor
