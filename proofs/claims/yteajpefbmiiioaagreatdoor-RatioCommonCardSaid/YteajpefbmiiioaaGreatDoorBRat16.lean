/- Contracts of the program and of the reference, part 16: Rr, Rs, Rt, Ru. -/
import Derived.Test.YteajpefbmiiioaaGreatDoorBRat15
namespace Go.Proofs.YteajpefbmiiioaaGreatDoor
open Go.RowKit Mth Go.Lib

abbrev dg10 (n : Nat) : ByteArray := ⟨(decDigits n).toArray⟩
/-- The text of a rational number. -/
def textQ (q : Rat) : ByteArray :=
  let t := if q.num < 0 then (⟨#[45]⟩ : ByteArray) ++ dg10 q.num.natAbs else dg10 q.num.natAbs
  if q.den = 1 then t else t ++ ((⟨#[47]⟩ : ByteArray) ++ dg10 q.den)
theorem s_text (n : Nat) (w : World) (hs : (S n).size ≤ 1000000000) (htab : Tab w) : Gives 32 #[.string (S n)] w (.string (dg10 n)) := by
  have := text_any (S n) w (by omega) htab
  rw [s_num] at this
  exact this
set_option maxHeartbeats 1000000 in
set_option maxRecDepth 100000 in
theorem textq_any (q : Rat) (k : Nat) (w : World) (htab : Tab w) (hq : Bd k q) (hk : k ≤ 1000) (hl1 : (decDigits q.num.natAbs).length ≤ 1000000) (hl2 : (decDigits q.den).length ≤ 1000000) : Gives 64 #[RV q] w (.string (textQ q)) := by
  have HV := Lib.hid (fun w => value_rv q k w hq (by omega))
  have hsz := bd_lt hq (by omega)
  have HT := Lib.hid htab
  have HN := Lib.hid (fun w h => s_text q.num.natAbs w hsz.1 h)
  have HD := Lib.hid (fun w h => s_text q.den w hsz.2 h)
  have k1 : (dg10 q.num.natAbs).size ≤ 1000000 := hl1
  have k2 : (dg10 q.den).size ≤ 1000000 := hl2
  have hcase : (q.den = 1 ∧ S q.den = ⟨#[1]⟩) ∨ (q.den ≠ 1 ∧ ((S q.den).toList == [1]) = false) := by
    by_cases h : q.den = 1
    · exact .inl ⟨h, by rw [h]; exact one_lit⟩
    · exact .inr ⟨h, tl_one h⟩
  have hneg : (q.num < 0 ∧ decide (q.num < 0) = true) ∨ (¬ q.num < 0 ∧ decide (q.num < 0) = false) := by
    by_cases h : q.num < 0
    · exact .inl ⟨h, decide_eq_true h⟩
    · exact .inr ⟨h, decide_eq_false h⟩
  unfold textQ
  dsimp only
  unfold RV RW at *
  generalize dg10 q.num.natAbs = tn at *
  generalize dg10 q.den = td at *
  generalize S q.num.natAbs = x at *
  generalize S q.den = y at *
  generalize decide (q.num < 0) = a at *
  clear hsz hl1 hl2 htab hq hk
  have s1 : ¬ 9223372036854775807 < 1 + tn.size := by omega
  have s2 : ¬ 9223372036854775807 < 1 + td.size := by omega
  have s3 : ((⟨#[45]⟩ : ByteArray) ++ tn).size ≤ 2000000 := by rw [ByteArray.size_append]; show 1 + tn.size ≤ _; omega
  have s4 : ((⟨#[47]⟩ : ByteArray) ++ td).size ≤ 2000000 := by rw [ByteArray.size_append]; show 1 + td.size ≤ _; omega
  have hA0 := Three.new w (.bool a) (.string x) (.string y) 49
  rcases hneg with ⟨h1, rfl⟩ | ⟨h1, rfl⟩
  · rw [if_pos h1]
    rcases hcase with ⟨h2, rfl⟩ | ⟨h2, h3⟩
    · rw [if_pos h2]
      clear h1 h2
      go_enter Tryz.func64, Tryz.ntmps64
      go_wp2_with fail
      refine (HV.out _).mono ?_
      rintro e w1 ⟨rfl, g1⟩
      have hA1 := hA0.kept g1
      have G1 := Lib.hid (gr_one g1)
      have HT1 := Lib.hid (tab_gr HT.out G1.out)
      have a0 := hA1.c0
      have a1 := hA1.c1
      have a2 := hA1.c2
      have f0 := hA1.fr 0
      have f1 := hA1.fr 1
      have f2 := hA1.fr 2
      have hA2 := hA1.all (.bool true) (.string x) (.string ⟨#[1]⟩)
      have G2 := Lib.hid (gr_set3 G1.out (Nat.le_refl _) (.bool true) (.string x) (.string ⟨#[1]⟩))
      have HT2 := Lib.hid (tab_gr HT.out G2.out)
      clear g1 G1 HT1
      go_wp2_with fail
      refine (HN.out _ HT2.out).mono ?_
      rintro e w2 ⟨rfl, g2⟩
      have hA3 := hA2.kept g2
      have G3 := Lib.hid (gr_then G2.out g2)
      have HT3 := Lib.hid (tab_gr HT.out G3.out)
      clear a0 a1 a2 f0 f1 f2 g2 G2 hA2 hA1 HT2
      have b0 := hA3.c0
      have b1 := hA3.c1
      have b2 := hA3.c2
      go_wp2
      go_ret
      exact ⟨rfl, G3.out⟩
    · rw [if_neg h2]
      clear h1 h2
      go_enter Tryz.func64, Tryz.ntmps64
      go_wp2_with fail
      refine (HV.out _).mono ?_
      rintro e w1 ⟨rfl, g1⟩
      have hA1 := hA0.kept g1
      have G1 := Lib.hid (gr_one g1)
      have HT1 := Lib.hid (tab_gr HT.out G1.out)
      have a0 := hA1.c0
      have a1 := hA1.c1
      have a2 := hA1.c2
      have f0 := hA1.fr 0
      have f1 := hA1.fr 1
      have f2 := hA1.fr 2
      have hA2 := hA1.all (.bool true) (.string x) (.string y)
      have G2 := Lib.hid (gr_set3 G1.out (Nat.le_refl _) (.bool true) (.string x) (.string y))
      have HT2 := Lib.hid (tab_gr HT.out G2.out)
      clear g1 G1 HT1
      go_wp2_with fail
      refine (HN.out _ HT2.out).mono ?_
      rintro e w2 ⟨rfl, g2⟩
      have hA3 := hA2.kept g2
      have G3 := Lib.hid (gr_then G2.out g2)
      have HT3 := Lib.hid (tab_gr HT.out G3.out)
      clear a0 a1 a2 f0 f1 f2 g2 G2 hA2 hA1 HT2
      have b0 := hA3.c0
      have b1 := hA3.c1
      have b2 := hA3.c2
      go_wp2_with fail
      refine (HD.out _ HT3.out).mono ?_
      rintro e w3 ⟨rfl, g3⟩
      have G4 := Lib.hid (gr_then G3.out g3)
      clear g3 G3
      go_wp2
      go_ret
      exact ⟨rfl, G4.out⟩
  · rw [if_neg h1]
    rcases hcase with ⟨h2, rfl⟩ | ⟨h2, h3⟩
    · rw [if_pos h2]
      clear h1 h2
      go_enter Tryz.func64, Tryz.ntmps64
      go_wp2_with fail
      refine (HV.out _).mono ?_
      rintro e w1 ⟨rfl, g1⟩
      have hA1 := hA0.kept g1
      have G1 := Lib.hid (gr_one g1)
      have HT1 := Lib.hid (tab_gr HT.out G1.out)
      have a0 := hA1.c0
      have a1 := hA1.c1
      have a2 := hA1.c2
      have f0 := hA1.fr 0
      have f1 := hA1.fr 1
      have f2 := hA1.fr 2
      have hA2 := hA1.all (.bool false) (.string x) (.string ⟨#[1]⟩)
      have G2 := Lib.hid (gr_set3 G1.out (Nat.le_refl _) (.bool false) (.string x) (.string ⟨#[1]⟩))
      have HT2 := Lib.hid (tab_gr HT.out G2.out)
      clear g1 G1 HT1
      go_wp2_with fail
      refine (HN.out _ HT2.out).mono ?_
      rintro e w2 ⟨rfl, g2⟩
      have hA3 := hA2.kept g2
      have G3 := Lib.hid (gr_then G2.out g2)
      have HT3 := Lib.hid (tab_gr HT.out G3.out)
      clear a0 a1 a2 f0 f1 f2 g2 G2 hA2 hA1 HT2
      have b0 := hA3.c0
      have b1 := hA3.c1
      have b2 := hA3.c2
      go_wp2
      go_ret
      exact ⟨rfl, G3.out⟩
    · rw [if_neg h2]
      clear h1 h2
      go_enter Tryz.func64, Tryz.ntmps64
      go_wp2_with fail
      refine (HV.out _).mono ?_
      rintro e w1 ⟨rfl, g1⟩
      have hA1 := hA0.kept g1
      have G1 := Lib.hid (gr_one g1)
      have HT1 := Lib.hid (tab_gr HT.out G1.out)
      have a0 := hA1.c0
      have a1 := hA1.c1
      have a2 := hA1.c2
      have f0 := hA1.fr 0
      have f1 := hA1.fr 1
      have f2 := hA1.fr 2
      have hA2 := hA1.all (.bool false) (.string x) (.string y)
      have G2 := Lib.hid (gr_set3 G1.out (Nat.le_refl _) (.bool false) (.string x) (.string y))
      have HT2 := Lib.hid (tab_gr HT.out G2.out)
      clear g1 G1 HT1
      go_wp2_with fail
      refine (HN.out _ HT2.out).mono ?_
      rintro e w2 ⟨rfl, g2⟩
      have hA3 := hA2.kept g2
      have G3 := Lib.hid (gr_then G2.out g2)
      have HT3 := Lib.hid (tab_gr HT.out G3.out)
      clear a0 a1 a2 f0 f1 f2 g2 G2 hA2 hA1 HT2
      have b0 := hA3.c0
      have b1 := hA3.c1
      have b2 := hA3.c2
      go_wp2_with fail
      refine (HD.out _ HT3.out).mono ?_
      rintro e w3 ⟨rfl, g3⟩
      have G4 := Lib.hid (gr_then G3.out g3)
      clear g3 G3
      go_wp2
      go_ret
      exact ⟨rfl, G4.out⟩
set_option maxHeartbeats 1000000 in
theorem rsamen_some (g o c g' o' c' : Nat) (ns : List Nat) (w : World) (hp : Nums w g o ns) (hq : Nums w g' o' ns) (hn : ns.length ≤ 1000000) :
    Gives 63 #[.slice (some ⟨g, o, none⟩) ns.length c, .slice (some ⟨g', o', none⟩) ns.length c'] w (.bool true) := by
  have HP := Lib.hid hp
  have HQ := Lib.hid hq
  clear hp hq
  go_enter Tryz.func63, Tryz.ntmps63
  go_wp2
  go_loopw [5] (fun u wr => ∃ i : Nat, i ≤ ns.length ∧ u = .int .i64 i ∧ w.grownBy wr none) (fun u _ => ns.length - (RowKit.intOf u).toNat)
  case atStart => exact ⟨0, Nat.zero_le _, rfl, gr_rfl _⟩
  case round =>
    obtain ⟨i, hi, rfl, G1⟩ := hrel
    by_cases hlt : i < ns.length
    · have c0 : wr.drew.cell? ⟨g, o + i, none⟩ = some (.string (S ns[i])) := (HP.out.kept G1) i hlt
      have c1 : wr.drew.cell? ⟨g', o' + i, none⟩ = some (.string (S ns[i])) := (HQ.out.kept G1) i hlt
      have hb1 : (i : Int) < (ns.length : Int) := by omega
      have hb2 : ((i : Int) < 0) = False := by simp
      have G2 := Lib.hid (gr_dr G1)
      clear G1
      go_wp2_with fail
      go_region
      go_wp2
      exact ⟨⟨i + 1, by omega, by go_num, G2.out⟩, by simp [RowKit.intOf]; omega⟩
    · obtain rfl : i = ns.length := by omega
      have HG := Lib.hid G1
      clear G1
      go_wp2
      go_ret
      exact ⟨rfl, HG.out⟩
end Go.Proofs.YteajpefbmiiioaaGreatDoor
namespace Go.Proofs.YteajpefbmiiioaaGreatDoor
open Go.RowKit Mth Go.Lib

theorem rv_nat (n : Nat) : RW false n 1 = RV ((n : Int) : Rat) := by
  unfold RV
  rw [Rat.num_intCast, Rat.den_intCast, Int.natAbs_natCast]
  have : decide ((n : Int) < 0) = false := decide_eq_false (by omega)
  rw [this]
theorem rv_negnat (n : Nat) : RW true (n + 1) 1 = RV ((-((n : Int) + 1) : Int) : Rat) := by
  unfold RV
  rw [Rat.num_intCast, Rat.den_intCast]
  have : decide (-((n : Int) + 1) < 0) = true := decide_eq_true (by omega)
  rw [this, show (-((n : Int) + 1)).natAbs = n + 1 from by omega]
theorem rofq_neg (n : Nat) (w : World) (h : n < 9223372036854775807) : Gives 57 #[.int .i64 (-((n : Int) + 1))] w (RW true (n + 1) 1) := by
  have HN := Lib.hid (fun w => s_rof n w (by omega))
  have HW := Lib.hid (fun w => s_rof 1 w (by decide))
  have hz := s_sz (n := n) (k := 8) (Nat.lt_of_lt_of_le h (by decide))
  have HA := Lib.hid (fun w => s_radd (S n) (S 1) n 1 w (s_num _) (s_num _) (by omega) (s_size9 (by decide)))
  unfold RW at *
  generalize S (n + 1) = z at *
  generalize S n = x at *
  generalize S 1 = y at *
  have C0 := Three.new w (.bool false) (.string ⟨#[]⟩) (.string ⟨#[]⟩) 49
  have hn : decide ((0 : Int) ≤ -((n : Int) + 1)) = false := decide_eq_false (by omega)
  have hw1 : wrap64 (-((n : Int) + 1) + 1) = -(n : Int) := by unfold wrap64; omega
  have hw2 : wrap64 (- -(n : Int)) = (n : Int) := by unfold wrap64; omega
  have hw3 : wrap64 (n : Int) = (n : Int) := by unfold wrap64; omega
  go_enter Tryz.func57, Tryz.ntmps57
  go_wp2_with fail
  have hx : -(-((n : Int) + 1) + 1) = (n : Int) := by omega
  rw [hx]
  refine (HN.out _).mono ?_
  rintro e w1 ⟨rfl, g1⟩
  have C1 := C0.kept g1
  have G1 := Lib.hid (gr_one g1)
  clear g1 C0 hw1 hw2 hw3 hx
  go_wp2_with fail
  refine (HW.out _).mono ?_
  rintro e w2 ⟨rfl, g1⟩
  have C2 := C1.kept g1
  have G2 := Lib.hid (gr_then G1.out g1)
  clear g1 C1 G1
  go_wp2_with fail
  refine (HA.out _).mono ?_
  rintro e w3 ⟨rfl, g1⟩
  have C3 := C2.kept g1
  have G3 := Lib.hid (gr_then G2.out g1)
  clear g1 C2 G2
  go_wp2_with fail
  refine (HW.out _).mono ?_
  rintro e w4 ⟨rfl, g1⟩
  have C4 := C3.kept g1
  have G4 := Lib.hid (gr_then G3.out g1)
  clear g1 C3 G3
  have k0 := C4.c0
  have k1 := C4.c1
  have k2 := C4.c2
  have f0 := C4.fr 0
  have f1 := C4.fr 1
  have f2 := C4.fr 2
  go_wp2
  exact bodyPost_ret (v := .agg #[.bool true, .string z, .string y]) (by simp [results, Tryz.results57, go_sem, k0, k1, k2]) rfl ⟨rfl, gr_set3 G4.out (Nat.le_refl _) _ _ _⟩
set_option maxRecDepth 100000 in
theorem frac_of (n d : Int) (p q : Rat) (w : World) (hn : ∀ w, Gives 57 #[.int .i64 n] w (RV p)) (hd : ∀ w, Gives 57 #[.int .i64 d] w (RV q)) (hq : q ≠ 0) (b1 : Bd 9 p) (b2 : Bd 9 q) : Gives 100 #[.int .i64 n, .int .i64 d] w (RV (p / q)) := by
  have HN := Lib.hid hn
  have HD := Lib.hid hd
  have HQ := Lib.hid (fun w => rquoq_pos p q 9 w hq b1 b2 (by decide))
  clear hn hd hq b1 b2
  unfold RV RW at *
  generalize S (p / q).num.natAbs = zs at *
  generalize S (p / q).den = zd at *
  generalize decide ((p / q).num < 0) = c at *
  generalize decide (p.num < 0) = a at *
  generalize decide (q.num < 0) = b at *
  generalize S p.num.natAbs = pn at *
  generalize S p.den = pd at *
  generalize S q.num.natAbs = qn at *
  generalize S q.den = qd at *
  have C0 := Three.new w (.bool false) (.string ⟨#[]⟩) (.string ⟨#[]⟩) 49
  go_enter Tryz.func100, Tryz.ntmps100
  go_wp2_with fail
  refine (HN.out _).mono ?_
  rintro e w1 ⟨rfl, g1⟩
  have C1 := C0.kept g1
  have G1 := Lib.hid (gr_one g1)
  clear g1 C0
  go_wp2_with fail
  refine (HD.out _).mono ?_
  rintro e w2 ⟨rfl, g1⟩
  have C2 := C1.kept g1
  have G2 := Lib.hid (gr_then G1.out g1)
  clear g1 C1 G1
  go_wp2_with fail
  refine (HQ.out _).mono ?_
  rintro e w3 ⟨rfl, g1⟩
  have C3 := (C2.kept g1).alloc (.cells #[.bool c, .string zs, .string zd] 49)
  have G3 := Lib.hid (gr_al (o := .cells #[.bool c, .string zs, .string zd] 49) (gr_then G2.out g1))
  clear g1 C2 G2
  have k0 := C3.c0
  have k1 := C3.c1
  have k2 := C3.c2
  have f0 := C3.fr 0
  have f1 := C3.fr 1
  have f2 := C3.fr 2
  go_wp2
  exact bodyPost_ret (v := .agg #[.bool c, .string zs, .string zd]) (by simp [results, Tryz.results100, go_sem, k0, k1, k2]) rfl ⟨rfl, gr_set3 G3.out (Nat.le_refl _) _ _ _⟩
theorem rv_lit {q : Rat} {b : Bool} {m n : Nat} (h1 : decide (q.num < 0) = b) (h2 : q.num.natAbs = m) (h3 : q.den = n) : RV q = RW b m n := by unfold RV; rw [h1, h2, h3]
/-- A fraction of small numbers. -/
theorem frac_pos (n d : Nat) (b : Bool) (x y : Nat) (w : World) (hd : d ≠ 0) (hn9 : n ≤ 1000) (hd9 : d ≤ 1000) (h : RV (((n : Int) : Rat) / ((d : Int) : Rat)) = RW b x y) : Gives 100 #[.int .i64 (n : Int), .int .i64 (d : Int)] w (RW b x y) := by
  rw [← h]
  refine frac_of n d _ _ w (fun w => by rw [← rv_nat]; exact rofq_nat n w (by omega)) (fun w => by rw [← rv_nat]; exact rofq_nat d w (by omega)) (fun e => hd (by exact_mod_cast e)) ⟨?_, ?_⟩ ⟨?_, ?_⟩
  · rw [Rat.num_intCast]; exact Nat.lt_of_le_of_lt (show (n : Int).natAbs ≤ 1000 by omega) (by decide)
  · rw [Rat.den_intCast]; decide
  · rw [Rat.num_intCast]; exact Nat.lt_of_le_of_lt (show (d : Int).natAbs ≤ 1000 by omega) (by decide)
  · rw [Rat.den_intCast]; decide
theorem frac_neg (n d : Nat) (b : Bool) (x y : Nat) (w : World) (hd : d ≠ 0) (hn9 : n ≤ 1000) (hd9 : d ≤ 1000) (h : RV (((-((n : Int) + 1) : Int) : Rat) / ((d : Int) : Rat)) = RW b x y) : Gives 100 #[.int .i64 (-((n : Int) + 1)), .int .i64 (d : Int)] w (RW b x y) := by
  rw [← h]
  refine frac_of _ d _ _ w (fun w => by rw [← rv_negnat]; exact rofq_neg n w (by omega)) (fun w => by rw [← rv_nat]; exact rofq_nat d w (by omega)) (fun e => hd (by exact_mod_cast e)) ⟨?_, ?_⟩ ⟨?_, ?_⟩
  · rw [Rat.num_intCast]; exact Nat.lt_of_le_of_lt (show (-((n : Int) + 1)).natAbs ≤ 1001 by omega) (by decide)
  · rw [Rat.den_intCast]; decide
  · rw [Rat.num_intCast]; exact Nat.lt_of_le_of_lt (show (d : Int).natAbs ≤ 1000 by omega) (by decide)
  · rw [Rat.den_intCast]; decide
theorem f_1_2 (w : World) : Gives 100 #[.int .i64 1, .int .i64 2] w (RW false 1 2) := frac_pos 1 2 _ _ _ w (by decide) (by decide) (by decide) (rv_lit (by decide +kernel) (by decide +kernel) (by decide +kernel))
theorem f_1_3 (w : World) : Gives 100 #[.int .i64 1, .int .i64 3] w (RW false 1 3) := frac_pos 1 3 _ _ _ w (by decide) (by decide) (by decide) (rv_lit (by decide +kernel) (by decide +kernel) (by decide +kernel))
theorem f_1_6 (w : World) : Gives 100 #[.int .i64 1, .int .i64 6] w (RW false 1 6) := frac_pos 1 6 _ _ _ w (by decide) (by decide) (by decide) (rv_lit (by decide +kernel) (by decide +kernel) (by decide +kernel))
theorem f_0_1 (w : World) : Gives 100 #[.int .i64 0, .int .i64 1] w (RW false 0 1) := frac_pos 0 1 _ _ _ w (by decide) (by decide) (by decide) (rv_lit (by decide +kernel) (by decide +kernel) (by decide +kernel))
theorem f_m1_4 (w : World) : Gives 100 #[.int .i64 (-1), .int .i64 4] w (RW true 1 4) := frac_neg 0 4 _ _ _ w (by decide) (by decide) (by decide) (rv_lit (by decide +kernel) (by decide +kernel) (by decide +kernel))
theorem f_m1_3 (w : World) : Gives 100 #[.int .i64 (-1), .int .i64 3] w (RW true 1 3) := frac_neg 0 3 _ _ _ w (by decide) (by decide) (by decide) (rv_lit (by decide +kernel) (by decide +kernel) (by decide +kernel))
theorem f_m3_2 (w : World) : Gives 100 #[.int .i64 (-3), .int .i64 2] w (RW true 3 2) := frac_neg 2 2 _ _ _ w (by decide) (by decide) (by decide) (rv_lit (by decide +kernel) (by decide +kernel) (by decide +kernel))
theorem f_m2_1 (w : World) : Gives 100 #[.int .i64 (-2), .int .i64 1] w (RW true 2 1) := frac_neg 1 1 _ _ _ w (by decide) (by decide) (by decide) (rv_lit (by decide +kernel) (by decide +kernel) (by decide +kernel))
end Go.Proofs.YteajpefbmiiioaaGreatDoor
namespace Go.Proofs.YteajpefbmiiioaaGreatDoor
open Go.RowKit Mth Go.Lib

theorem rl (q : Rat) (b : Bool) (m n : Nat) (h : decide (q.num < 0) = b ∧ q.num.natAbs = m ∧ q.den = n) : RV q = RW b m n := rv_lit h.1 h.2.1 h.2.2
theorem bd1 {q : Rat} (h1 : q.num.natAbs < 256) (h2 : q.den < 256) : Bd 1 q := ⟨h1, h2⟩
theorem x_make (w : World) : Gives 53 #[.bool true, .string (S 6), .string (S 4)] w (.tuple #[RW true 3 2, .bool true]) := by
  have h := make_yes true 6 4 1 w (by decide) (by decide) (by decide) (by decide)
  rwa [rl (mkRat (sg true 6) 4) true 3 2 (by decide +kernel)] at h
theorem x_quo (w : World) : Gives 39 #[RW false 1 2, RW true 1 4] w (.tuple #[RW true 2 1, .bool true]) := by
  have h := quoq_dev (mkRat 1 2) (mkRat (-1) 4) 1 w (by decide +kernel) (bd1 (by decide +kernel) (by decide +kernel)) (bd1 (by decide +kernel) (by decide +kernel)) (by decide)
  rwa [rl (mkRat 1 2) false 1 2 (by decide +kernel), rl (mkRat (-1) 4) true 1 4 (by decide +kernel), rl (mkRat 1 2 / mkRat (-1) 4) true 2 1 (by decide +kernel)] at h
theorem x_add (w : World) : Gives 41 #[RW false 1 2, RW true 1 3] w (RW false 1 6) := by
  have h := addq_any (mkRat 1 2) (mkRat (-1) 3) 1 w (bd1 (by decide +kernel) (by decide +kernel)) (bd1 (by decide +kernel) (by decide +kernel)) (by decide)
  rwa [rl (mkRat 1 2) false 1 2 (by decide +kernel), rl (mkRat (-1) 3) true 1 3 (by decide +kernel), rl (mkRat 1 2 + mkRat (-1) 3) false 1 6 (by decide +kernel)] at h
theorem x_text (w : World) (htab : Tab w) : Gives 64 #[RW true 3 2] w (.string ⟨#[45, 51, 47, 50]⟩) := by
  have h := textq_any (mkRat (-3) 2) 1 w htab (bd1 (by decide +kernel) (by decide +kernel)) (by decide) (by decide +kernel) (by decide +kernel)
  rwa [rl (mkRat (-3) 2) true 3 2 (by decide +kernel), show textQ (mkRat (-3) 2) = ⟨#[45, 51, 47, 50]⟩ from by decide +kernel] at h
abbrev exL : List Rat := [mkRat 1 2, mkRat 1 3, 0]
/-- The list of the chapter's example, as it lies. -/
abbrev exC : Array Value := #[.bool false, .string (S 1), .string (S 2), .bool false, .string (S 1), .string (S 3), .bool false, .string (S 0), .string (S 1)]
theorem exL_rats (w : World) : Rats (w.alloc (.cells exC 49)) w.heap.size 0 exL := by
  have hc : ∀ j, (w.alloc (.cells exC 49)).cell? ⟨w.heap.size, j, none⟩ = exC[j]? := fun j => cell_of_row _ _ j _ _ (0, 0) (heap_alloc_new w _)
  intro i hi
  rw [hc, hc, hc]
  have e : ∀ q : Rat, ∀ b m n, (decide (q.num < 0) = b ∧ q.num.natAbs = m ∧ q.den = n) → some (Value.bool b) = some (.bool (decide (q.num < 0))) ∧ some (Value.string (S m)) = some (.string (S q.num.natAbs)) ∧ some (Value.string (S n)) = some (.string (S q.den)) := by
    rintro q b m n ⟨rfl, rfl, rfl⟩; exact ⟨rfl, rfl, rfl⟩
  match i, hi with
  | 0, _ => exact e (mkRat 1 2) false 1 2 (by decide +kernel)
  | 1, _ => exact e (mkRat 1 3) false 1 3 (by decide +kernel)
  | 2, _ => exact e 0 false 0 1 (by decide +kernel)
theorem x_common (g c : Nat) (w : World) (hr : Rats w g 0 exL) : Calls Tryz.prog 61 #[.slice (some ⟨g, 0, none⟩) 3 c] w fun e w' => ∃ m, e = .returned (.tuple #[.string (S 6), .slice (some ⟨m, 0, none⟩) 3 3, .bool true]) ∧ Nums w' m 0 [3, 2, 0] ∧ m < w'.heap.size ∧ w.grownBy w' none := by
  refine (commonq_any exL 1 g 0 c w hr (by intro q hq; simp only [exL, List.mem_cons, List.not_mem_nil, or_false] at hq; rcases hq with rfl | rfl | rfl <;> decide +kernel) (by intro q hq; simp only [exL, List.mem_cons, List.not_mem_nil, or_false] at hq; rcases hq with rfl | rfl | rfl <;> exact bd1 (by decide +kernel) (by decide +kernel)) (by decide) (by decide)).mono ?_
  rintro e w' ⟨m, rfl, hb, _, hg⟩
  have hd : exL.foldl lcmQ 1 = 6 := by decide +kernel
  rw [hd] at hb ⊢
  have hm : exL.map (scaleQ 6) = [3, 2, 0] := by decide +kernel
  rw [hm] at hb
  refine ⟨m, rfl, hb.nums, ?_, hg⟩
  obtain ⟨cur, h1, _⟩ := hb
  exact (Array.getElem?_eq_some_iff.1 h1).1
set_option maxHeartbeats 4000000 in
set_option maxRecDepth 100000 in
theorem sanityq_true (w : World) (htab : Tab w) : Gives 37 #[] w (.bool true) := by
  have HT := Lib.hid htab
  have O0 := Lib.hid (fun w => s_rof 0 w (by decide))
  have O1 := Lib.hid (fun w => s_rof 1 w (by decide))
  have O2 := Lib.hid (fun w => s_rof 2 w (by decide))
  have O3 := Lib.hid (fun w => s_rof 3 w (by decide))
  have O4 := Lib.hid (fun w => s_rof 4 w (by decide))
  have O6 := Lib.hid (fun w => s_rof 6 w (by decide))
  have HC := Lib.hid (fun w => x_common w.heap.size 3 (w.alloc (.cells exC 49)) (exL_rats w))
  have HS := Lib.hid (fun (g o c g' o' c' : Nat) (w : World) (h1 : Nums w g o [3, 2, 0]) (h2 : w.cell? ⟨g', o', none⟩ = some (.string (S 3))) (h3 : w.cell? ⟨g', o' + 1, none⟩ = some (.string (S 2))) (h4 : w.cell? ⟨g', o' + 2, none⟩ = some (.string (S 0))) => (show Gives 63 #[.slice (some ⟨g, o, none⟩) 3 c, .slice (some ⟨g', o', none⟩) 3 c'] w (.bool true) from rsamen_some g o c g' o' c' [3, 2, 0] w h1 (by
    intro i hi
    match i, hi with
    | 0, _ => exact h2
    | 1, _ => exact h3
    | 2, _ => exact h4) (by decide)))
  have HMK := Lib.hid x_make
  have HMN := Lib.hid (make_nil false 1)
  have HQ := Lib.hid x_quo
  have HA := Lib.hid x_add
  have HX := Lib.hid x_text
  have F1 := Lib.hid f_1_2
  have F2 := Lib.hid f_m1_4
  have F3 := Lib.hid f_1_3
  have F4 := Lib.hid f_0_1
  have F5 := Lib.hid f_m3_2
  have F6 := Lib.hid f_m1_3
  have F7 := Lib.hid f_1_6
  have F8 := Lib.hid f_m2_1
  have E1 := Lib.hid ex_frac
  have E2 := Lib.hid ex_zero
  have E3 := Lib.hid ex_one
  clear htab
  unfold RW at *
  unfold exC at HC
  rw [s_zero] at O0
  have hs0 := s_zero
  rw [hs0] at HC HS F4
  clear hs0
  generalize S 1 = s1 at *
  generalize S 2 = s2 at *
  generalize S 3 = s3 at *
  generalize S 4 = s4 at *
  generalize S 6 = s6 at *
  go_enter Tryz.func37, Tryz.ntmps37
  go_wp2_with fail
  refine (O6.out _).mono ?_
  rintro e w1 ⟨rfl, g1⟩
  go_wp2_with fail
  refine (O4.out _).mono ?_
  rintro e w2 ⟨rfl, g2⟩
  go_wp2_with fail
  refine (HMK.out _).mono ?_
  rintro e w3 ⟨rfl, g3⟩
  have A0 := Three.new w3 (.bool true) (.string s3) (.string s2) 49
  have G0 := Lib.hid (gr_al (o := .cells #[.bool true, .string s3, .string s2] 49) (gr_then (gr_then g1 g2) g3))
  clear g1 g2 g3
  go_wp2_with fail
  refine (O1.out _).mono ?_
  rintro e w4 ⟨rfl, g1⟩
  have A1 := A0.kept g1
  have G1 := Lib.hid (gr_then G0.out g1)
  clear g1 A0 G0
  go_wp2_with fail
  refine (O0.out _).mono ?_
  rintro e w5 ⟨rfl, g1⟩
  have A2 := A1.kept g1
  have G2 := Lib.hid (gr_then G1.out g1)
  clear g1 A1 G1
  go_wp2_with fail
  refine (HMN.out _).mono ?_
  rintro e w6 ⟨rfl, g1⟩
  have A3 := (A2.kept g1).alloc (.cells #[.bool false, .string ⟨#[]⟩, .string ⟨#[]⟩] 49)
  have G3 := Lib.hid (gr_al (o := .cells #[.bool false, .string ⟨#[]⟩, .string ⟨#[]⟩] 49) (gr_then G2.out g1))
  clear g1 A2 G2
  go_wp2_with fail
  refine (F1.out _).mono ?_
  rintro e w7 ⟨rfl, g1⟩
  have A4 := A3.kept g1
  have G4 := Lib.hid (gr_then G3.out g1)
  clear g1 A3 G3
  go_wp2_with fail
  refine (F2.out _).mono ?_
  rintro e w8 ⟨rfl, g1⟩
  have A5 := A4.kept g1
  have G5 := Lib.hid (gr_then G4.out g1)
  clear g1 A4 G4
  go_wp2_with fail
  refine (HQ.out _).mono ?_
  rintro e w9 ⟨rfl, g1⟩
  have A6 := (A5.kept g1).alloc (.cells #[.bool true, .string s2, .string s1] 49)
  have Q6 := Three.new w9 (.bool true) (.string s2) (.string s1) 49
  have G6 := Lib.hid (gr_al (o := .cells #[.bool true, .string s2, .string s1] 49) (gr_then G5.out g1))
  clear g1 A5 G5
  go_wp2_with fail
  refine (F1.out _).mono ?_
  rintro e w10 ⟨rfl, g1⟩
  have A7 := A6.kept g1
  have Q7 := Q6.kept g1
  have G7 := Lib.hid (gr_then G6.out g1)
  clear g1 A6 Q6 G6
  go_wp2_with fail
  refine (F3.out _).mono ?_
  rintro e w11 ⟨rfl, g1⟩
  have A8 := A7.kept g1
  have Q8 := Q7.kept g1
  have G8 := Lib.hid (gr_then G7.out g1)
  clear g1 A7 Q7 G7
  go_wp2_with fail
  refine (F4.out _).mono ?_
  rintro e w12 ⟨rfl, g1⟩
  have A9 := (A8.kept g1).alloc (.cells #[.bool false, .string s1, .string s2, .bool false, .string s1, .string s3, .bool false, .string ⟨#[]⟩, .string s1] 49)
  have Q9 := (Q8.kept g1).alloc (.cells #[.bool false, .string s1, .string s2, .bool false, .string s1, .string s3, .bool false, .string ⟨#[]⟩, .string s1] 49)
  have G9 := Lib.hid (gr_al (o := .cells #[.bool false, .string s1, .string s2, .bool false, .string s1, .string s3, .bool false, .string ⟨#[]⟩, .string s1] 49) (gr_then G8.out g1))
  clear g1 A8 Q8 G8
  go_wp2_with fail
  refine (HC.out w12).mono ?_
  rintro e w13 ⟨m, rfl, N1, hm, g1⟩
  have A10 := A9.kept g1
  have Q10 := Q9.kept g1
  have G10 := Lib.hid (gr_then G9.out g1)
  have N10 := Lib.hid N1
  clear g1 A9 Q9 G9 N1
  go_wp2_with fail
  refine (E1.out _).mono ?_
  rintro e w14 ⟨rfl, g1⟩
  have A11 := (A10.kept g1).alloc (.cells #[.bool false, .string ⟨#[]⟩, .string ⟨#[]⟩] 49)
  have Q11 := (Q10.kept g1).alloc (.cells #[.bool false, .string ⟨#[]⟩, .string ⟨#[]⟩] 49)
  have g2 := gr_al (o := (.cells #[.bool false, .string ⟨#[]⟩, .string ⟨#[]⟩] 49)) g1
  have G11 := Lib.hid (gr_then G10.out g2)
  have N11 := Lib.hid (N10.out.kept g2)
  have hm11 := Nat.lt_of_lt_of_le hm g2.size
  clear g1 g2 A10 Q10 G10 N10
  go_wp2_with fail
  refine (E2.out _).mono ?_
  rintro e w15 ⟨rfl, g1⟩
  have A12 := (A11.kept g1).alloc (.cells #[.bool false, .string ⟨#[]⟩, .string ⟨#[]⟩] 49)
  have Q12 := (Q11.kept g1).alloc (.cells #[.bool false, .string ⟨#[]⟩, .string ⟨#[]⟩] 49)
  have g2 := gr_al (o := (.cells #[.bool false, .string ⟨#[]⟩, .string ⟨#[]⟩] 49)) g1
  have G12 := Lib.hid (gr_then G11.out g2)
  have N12 := Lib.hid (N11.out.kept g2)
  have hm12 := Nat.lt_of_lt_of_le hm11 g2.size
  clear g1 g2 A11 Q11 G11 N11
  go_wp2_with fail
  refine (E3.out _).mono ?_
  rintro e w16 ⟨rfl, g1⟩
  have A13 := (A12.kept g1).alloc (.cells #[.bool false, .string ⟨#[]⟩, .string ⟨#[]⟩] 49)
  have Q13 := (Q12.kept g1).alloc (.cells #[.bool false, .string ⟨#[]⟩, .string ⟨#[]⟩] 49)
  have g2 := gr_al (o := (.cells #[.bool false, .string ⟨#[]⟩, .string ⟨#[]⟩] 49)) g1
  have G13 := Lib.hid (gr_then G12.out g2)
  have N13 := Lib.hid (N12.out.kept g2)
  have hm13 := Nat.lt_of_lt_of_le hm12 g2.size
  clear g1 g2 A12 Q12 G12 N12
  go_wp2_with fail
  have A14 := A13.drew
  have Q14 := Q13.drew
  have G14 := gr_dr G13.out
  have N14 := N13.out.kept (gr_drew _ none)
  go_region_held3 (fun w' => w'.cell? ⟨w3.heap.size, 0, none⟩ = some (.bool true) ∧ w'.cell? ⟨w3.heap.size, 1, none⟩ = some (.string s3) ∧ w'.cell? ⟨w3.heap.size, 2, none⟩ = some (.string s2) ∧ w'.cell? ⟨w9.heap.size, 0, none⟩ = some (.bool true) ∧ w'.cell? ⟨w9.heap.size, 1, none⟩ = some (.string s2) ∧ w'.cell? ⟨w9.heap.size, 2, none⟩ = some (.string s1)) (first | exact ⟨Three.c0 (by assumption), Three.c1 (by assumption), Three.c2 (by assumption), Three.c0 (by assumption), Three.c1 (by assumption), Three.c2 (by assumption)⟩ | go_keep)
    (first
    | (go_at_call 100; (first | with_reducible refine (F5.out _).mono ?_ | with_reducible refine (F1.out _).mono ?_ | with_reducible refine (F6.out _).mono ?_ | with_reducible refine (F7.out _).mono ?_ | with_reducible refine (F8.out _).mono ?_); rintro e v1 ⟨rfl, g1⟩; have AA : Three v1 w3.heap.size (.bool true) (.string s3) (.string s2) 49 := Three.kept (by assumption) g1; have QQ : Three v1 w9.heap.size (.bool true) (.string s2) (.string s1) 49 := Three.kept (by assumption) g1; have NN : Nums v1 m 0 [3, 2, 0] := Nums.kept (by assumption) g1; have GG : w.grownBy v1 none := gr_then (by assumption) g1)
    | (go_at_call 41; refine (HA.out _).mono ?_; rintro e v1 ⟨rfl, g1⟩; have AA : Three v1 w3.heap.size (.bool true) (.string s3) (.string s2) 49 := Three.kept (by assumption) g1; have QQ : Three v1 w9.heap.size (.bool true) (.string s2) (.string s1) 49 := Three.kept (by assumption) g1; have NN : Nums v1 m 0 [3, 2, 0] := Nums.kept (by assumption) g1; have GG : w.grownBy v1 none := gr_then (by assumption) g1))
  all_goals
    have N20 : Nums v1 m 0 [3, 2, 0] := by assumption
    have G20 : w.grownBy v1 none := by assumption
    have HN20 := Lib.hid N20
    have HG20 := Lib.hid G20
    clear N20 G20
    go_wp2_with fail
    refine (O6.out _).mono ?_
    rintro e u1 ⟨rfl, g1⟩
    have HN21 := Lib.hid (HN20.out.kept g1)
    have HG21 := Lib.hid (gr_then HG20.out g1)
    clear g1
    go_wp2_with fail
    refine (O3.out _).mono ?_
    rintro e u2 ⟨rfl, g1⟩
    have HN22 := Lib.hid (HN21.out.kept g1)
    have HG22 := Lib.hid (gr_then HG21.out g1)
    clear g1
    go_wp2_with fail
    refine (O2.out _).mono ?_
    rintro e u3 ⟨rfl, g1⟩
    have HN23 := Lib.hid (HN22.out.kept g1)
    have HG23 := Lib.hid (gr_then HG22.out g1)
    clear g1
    go_wp2_with fail
    refine (O0.out _).mono ?_
    rintro e u4 ⟨rfl, g1⟩
    have g2 := gr_al (o := .cells #[.string s3, .string s2, .string ⟨#[]⟩] 24) g1
    have HN24 := Lib.hid (HN23.out.kept g2)
    have HG24 := Lib.hid (gr_then HG23.out g2)
    clear g1 g2
    go_wp2_with fail
    refine (HS.out m 0 3 u4.heap.size 0 3 _ HN24.out (by rw [cell_of_row _ _ 0 _ _ (0, 0) (heap_alloc_new u4 _)]; rfl) (by rw [cell_of_row _ _ 1 _ _ (0, 0) (heap_alloc_new u4 _)]; rfl) (by rw [cell_of_row _ _ 2 _ _ (0, 0) (heap_alloc_new u4 _)]; rfl)).mono ?_
    rintro e u5 ⟨rfl, g1⟩
    have HG25 := Lib.hid (gr_then HG24.out g1)
    clear g1
    go_wp2_with fail
    refine (F5.out _).mono ?_
    rintro e u6 ⟨rfl, g1⟩
    have HG26 := Lib.hid (gr_then HG25.out g1)
    clear g1
    go_wp2_with fail
    refine (HX.out _ (tab_gr HT.out HG26.out)).mono ?_
    rintro e u7 ⟨rfl, g1⟩
    have HG27 := Lib.hid (gr_then HG26.out g1)
    clear g1
    go_wp2
    go_ret
    exact ⟨rfl, HG27.out⟩
end Go.Proofs.YteajpefbmiiioaaGreatDoor
namespace Go.Proofs.YteajpefbmiiioaaGreatDoor
open Go.RowKit Mth Go.Lib

theorem mod_at (a m : Int) (w : World) (h0 : 1 ≤ m) (h1 : m ≤ 4611686018427387904) (ha : -9223372036854775808 ≤ a) (hb : a ≤ 9223372036854775807) : Calls Tryz.prog 55 #[.int .i64 a, .int .i64 m] w fun e w' => e = .returned (.int .i64 ((a % m).toNat : Int)) ∧ w = w' := by
  have h := rmodq_any a m w h0 h1 ha hb
  rwa [Int.toNat_of_nonneg (Int.emod_nonneg _ (by omega))]
theorem of_succ (n : Nat) (w : World) (h : n < 9223372036854775807) : Gives 25 #[.int .i64 (1 + (n : Int))] w (.string (S (1 + n))) := by
  have := s_rof (1 + n) w (by omega)
  rwa [show ((1 + n : Nat) : Int) = 1 + (n : Int) from by omega] at this
theorem mod_lt (a m : Int) (h : 1 ≤ m) : ((a % m).toNat : Int) < m := by rw [Int.toNat_of_nonneg (Int.emod_nonneg _ (by omega))]; exact Int.emod_lt_of_pos _ (by omega)
def MadeQ (q0 q1 q2 : Int) (r : Rat) : Prop := ∀ w, Gives 38 #[.agg #[.int .i64 q0, .int .i64 q1, .int .i64 q2]] w (RV r)
set_option maxHeartbeats 2000000 in
set_option maxRecDepth 100000 in
theorem made_0 (q0 q1 q2 : Int) (h0 : -9223372036854775808 ≤ q0 ∧ q0 ≤ 9223372036854775807) (h1 : -9223372036854775808 ≤ q1 ∧ q1 ≤ 9223372036854775807) (h2 : -9223372036854775808 ≤ q2 ∧ q2 ≤ 9223372036854775807) (hc : (q2 % 4).toNat = 0) : ∃ r, Bd 16 r ∧ MadeQ q0 q1 q2 r := by
  have Ma := Lib.hid (fun w => mod_at q0 1000 w (by decide) (by decide) h0.1 h0.2)
  have LMa := mod_lt q0 1000 (by decide)
  have Mb := Lib.hid (fun w => mod_at q1 60 w (by decide) (by decide) h1.1 h1.2)
  have LMb := mod_lt q1 60 (by decide)
  have Mc := Lib.hid (fun w => mod_at q2 4 w (by decide) (by decide) h2.1 h2.2)
  rw [hc] at Mc
  generalize (q0 % 1000).toNat = a at *
  generalize (q1 % 60).toNat = b at *
  have Oa := Lib.hid (fun w => s_rof a w (by omega))
  have Ob := Lib.hid (fun w => of_succ b w (by omega))
  have bn : a < 256 ^ 16 := Nat.lt_of_lt_of_le (show a < 1000 by omega) (by decide)
  have bm : (1 + b) < 256 ^ 16 := Nat.lt_of_le_of_lt (show (1 + b) ≤ 60 by omega) (by decide)
  have d0 : 0 < (1 + b) := by omega
  refine ⟨mkRat (sg (decide (q0 < 0)) a) (1 + b), bd_low (by omega) bn bm, fun w => ?_⟩
  have HL := Lib.hid (fun w => rlow_any (decide (q0 < 0)) a (1 + b) w d0 (lt_le256 bn (by decide)) (lt_le256 bm (by decide)))
  generalize mkRat (sg (decide (q0 < 0)) a) (1 + b) = r at *
  unfold RV RW at *
  generalize S r.num.natAbs = zs at *
  generalize S r.den = zd at *
  generalize decide (r.num < 0) = rc at *
  clear bn bm d0 hc h0 h1 h2
  have T0 := (Three.new w (.int .i64 q0) (.int .i64 q1) (.int .i64 q2) 47).alloc (.cells #[.bool false, .string ⟨#[]⟩, .string ⟨#[]⟩] 49)
  have R0 := Three.new1 w (.cells #[.int .i64 q0, .int .i64 q1, .int .i64 q2] 47) (.bool false) (.string ⟨#[]⟩) (.string ⟨#[]⟩) 49
  have G0 := Lib.hid (gr_al (o := .cells #[.bool false, .string ⟨#[]⟩, .string ⟨#[]⟩] 49) (gr_al (o := .cells #[.int .i64 q0, .int .i64 q1, .int .i64 q2] 47) (gr_rfl w)))
  have c0 := T0.c0
  have c1 := T0.c1
  have c2 := T0.c2
  go_enter Tryz.func38, Tryz.ntmps38
  go_wp2_with fail
  refine (Ma.out _).mono ?_
  rintro e v1 ⟨rfl, rfl⟩
  go_wp2_with fail
  refine (Oa.out _).mono ?_
  rintro e v2 ⟨rfl, g1⟩
  have Tv2 := T0.kept g1
  have Rv2 := R0.kept g1
  have Gv2 := Lib.hid (gr_then G0.out g1)
  clear g1 T0 R0 G0 c0 c1 c2
  have c0 := Tv2.c0
  have c1 := Tv2.c1
  have c2 := Tv2.c2
  go_wp2_with fail
  refine (Mb.out _).mono ?_
  rintro e v3 ⟨rfl, rfl⟩
  go_wp2_with fail
  refine (Ob.out _).mono ?_
  rintro e v4 ⟨rfl, g1⟩
  have Tv4 := Tv2.kept g1
  have Rv4 := Rv2.kept g1
  have Gv4 := Lib.hid (gr_then Gv2.out g1)
  clear g1 Tv2 Rv2 Gv2 c0 c1 c2
  have c0 := Tv4.c0
  have c1 := Tv4.c1
  have c2 := Tv4.c2
  go_wp2_with fail
  refine (Mc.out _).mono ?_
  rintro e v5 ⟨rfl, rfl⟩
  go_wp2_with fail
  refine (HL.out _).mono ?_
  rintro e v6 ⟨rfl, g1⟩
  have Tv6 := Tv4.kept g1
  have Rv6 := Rv4.kept g1
  have Gv6 := Lib.hid (gr_then Gv4.out g1)
  clear g1 Tv4 Rv4 Gv4 c0 c1 c2
  have c0 := Tv6.c0
  have c1 := Tv6.c1
  have c2 := Tv6.c2
  have k0 := Rv6.c0
  have k1 := Rv6.c1
  have k2 := Rv6.c2
  have f0 := Rv6.fr 0
  have f1 := Rv6.fr 1
  have f2 := Rv6.fr 2
  go_wp2
  exact bodyPost_ret (v := .agg #[.bool rc, .string zs, .string zd]) (by simp [results, Tryz.results38, go_sem, k0, k1, k2]) rfl ⟨rfl, gr_set3 Gv6.out (Nat.le_succ _) _ _ _⟩
set_option maxHeartbeats 2000000 in
set_option maxRecDepth 100000 in
theorem made_1 (q0 q1 q2 : Int) (h0 : -9223372036854775808 ≤ q0 ∧ q0 ≤ 9223372036854775807) (h1 : -9223372036854775808 ≤ q1 ∧ q1 ≤ 9223372036854775807) (h2 : -9223372036854775808 ≤ q2 ∧ q2 ≤ 9223372036854775807) (hc : (q2 % 4).toNat = 1) : ∃ r, Bd 16 r ∧ MadeQ q0 q1 q2 r := by
  have Ma := Lib.hid (fun w => mod_at q0 1000 w (by decide) (by decide) h0.1 h0.2)
  have LMa := mod_lt q0 1000 (by decide)
  have Mb := Lib.hid (fun w => mod_at q1 60 w (by decide) (by decide) h1.1 h1.2)
  have LMb := mod_lt q1 60 (by decide)
  have Mc := Lib.hid (fun w => mod_at q2 4 w (by decide) (by decide) h2.1 h2.2)
  rw [hc] at Mc
  have Md := Lib.hid (fun w => mod_at q0 4611686018427387904 w (by decide) (by decide) h0.1 h0.2)
  have LMd := mod_lt q0 4611686018427387904 (by decide)
  have Me := Lib.hid (fun w => mod_at q1 4611686018427387904 w (by decide) (by decide) h1.1 h1.2)
  have LMe := mod_lt q1 4611686018427387904 (by decide)
  generalize (q0 % 1000).toNat = a at *
  generalize (q1 % 60).toNat = b at *
  generalize (q0 % 4611686018427387904).toNat = d at *
  generalize (q1 % 4611686018427387904).toNat = f at *
  have Oa := Lib.hid (fun w => s_rof a w (by omega))
  have Ob := Lib.hid (fun w => of_succ b w (by omega))
  have Od := Lib.hid (fun w => s_rof d w (by omega))
  have Oe := Lib.hid (fun w => of_succ f w (by omega))
  have bn : d < 256 ^ 16 := Nat.lt_of_lt_of_le (show d < 4611686018427387904 by omega) (by decide)
  have bm : (1 + f) < 256 ^ 16 := Nat.lt_of_le_of_lt (show (1 + f) ≤ 4611686018427387904 by omega) (by decide)
  have d0 : 0 < (1 + f) := by omega
  refine ⟨mkRat (sg (decide (q0 < 0)) d) (1 + f), bd_low (by omega) bn bm, fun w => ?_⟩
  have HL := Lib.hid (fun w => rlow_any (decide (q0 < 0)) d (1 + f) w d0 (lt_le256 bn (by decide)) (lt_le256 bm (by decide)))
  generalize mkRat (sg (decide (q0 < 0)) d) (1 + f) = r at *
  unfold RV RW at *
  generalize S r.num.natAbs = zs at *
  generalize S r.den = zd at *
  generalize decide (r.num < 0) = rc at *
  clear bn bm d0 hc h0 h1 h2
  have T0 := (Three.new w (.int .i64 q0) (.int .i64 q1) (.int .i64 q2) 47).alloc (.cells #[.bool false, .string ⟨#[]⟩, .string ⟨#[]⟩] 49)
  have R0 := Three.new1 w (.cells #[.int .i64 q0, .int .i64 q1, .int .i64 q2] 47) (.bool false) (.string ⟨#[]⟩) (.string ⟨#[]⟩) 49
  have G0 := Lib.hid (gr_al (o := .cells #[.bool false, .string ⟨#[]⟩, .string ⟨#[]⟩] 49) (gr_al (o := .cells #[.int .i64 q0, .int .i64 q1, .int .i64 q2] 47) (gr_rfl w)))
  have c0 := T0.c0
  have c1 := T0.c1
  have c2 := T0.c2
  go_enter Tryz.func38, Tryz.ntmps38
  go_wp2_with fail
  refine (Ma.out _).mono ?_
  rintro e v1 ⟨rfl, rfl⟩
  go_wp2_with fail
  refine (Oa.out _).mono ?_
  rintro e v2 ⟨rfl, g1⟩
  have Tv2 := T0.kept g1
  have Rv2 := R0.kept g1
  have Gv2 := Lib.hid (gr_then G0.out g1)
  clear g1 T0 R0 G0 c0 c1 c2
  have c0 := Tv2.c0
  have c1 := Tv2.c1
  have c2 := Tv2.c2
  go_wp2_with fail
  refine (Mb.out _).mono ?_
  rintro e v3 ⟨rfl, rfl⟩
  go_wp2_with fail
  refine (Ob.out _).mono ?_
  rintro e v4 ⟨rfl, g1⟩
  have Tv4 := Tv2.kept g1
  have Rv4 := Rv2.kept g1
  have Gv4 := Lib.hid (gr_then Gv2.out g1)
  clear g1 Tv2 Rv2 Gv2 c0 c1 c2
  have c0 := Tv4.c0
  have c1 := Tv4.c1
  have c2 := Tv4.c2
  go_wp2_with fail
  refine (Mc.out _).mono ?_
  rintro e v5 ⟨rfl, rfl⟩
  go_wp2_with fail
  refine (Md.out _).mono ?_
  rintro e v6 ⟨rfl, rfl⟩
  go_wp2_with fail
  refine (Od.out _).mono ?_
  rintro e v7 ⟨rfl, g1⟩
  have Tv7 := Tv4.kept g1
  have Rv7 := Rv4.kept g1
  have Gv7 := Lib.hid (gr_then Gv4.out g1)
  clear g1 Tv4 Rv4 Gv4 c0 c1 c2
  have c0 := Tv7.c0
  have c1 := Tv7.c1
  have c2 := Tv7.c2
  go_wp2_with fail
  refine (Me.out _).mono ?_
  rintro e v8 ⟨rfl, rfl⟩
  go_wp2_with fail
  refine (Oe.out _).mono ?_
  rintro e v9 ⟨rfl, g1⟩
  have Tv9 := Tv7.kept g1
  have Rv9 := Rv7.kept g1
  have Gv9 := Lib.hid (gr_then Gv7.out g1)
  clear g1 Tv7 Rv7 Gv7 c0 c1 c2
  have c0 := Tv9.c0
  have c1 := Tv9.c1
  have c2 := Tv9.c2
  go_wp2_with fail
  refine (HL.out _).mono ?_
  rintro e v10 ⟨rfl, g1⟩
  have Tv10 := Tv9.kept g1
  have Rv10 := Rv9.kept g1
  have Gv10 := Lib.hid (gr_then Gv9.out g1)
  clear g1 Tv9 Rv9 Gv9 c0 c1 c2
  have c0 := Tv10.c0
  have c1 := Tv10.c1
  have c2 := Tv10.c2
  have k0 := Rv10.c0
  have k1 := Rv10.c1
  have k2 := Rv10.c2
  have f0 := Rv10.fr 0
  have f1 := Rv10.fr 1
  have f2 := Rv10.fr 2
  go_wp2
  exact bodyPost_ret (v := .agg #[.bool rc, .string zs, .string zd]) (by simp [results, Tryz.results38, go_sem, k0, k1, k2]) rfl ⟨rfl, gr_set3 Gv10.out (Nat.le_succ _) _ _ _⟩
set_option maxHeartbeats 2000000 in
set_option maxRecDepth 100000 in
theorem made_2 (q0 q1 q2 : Int) (h0 : -9223372036854775808 ≤ q0 ∧ q0 ≤ 9223372036854775807) (h1 : -9223372036854775808 ≤ q1 ∧ q1 ≤ 9223372036854775807) (h2 : -9223372036854775808 ≤ q2 ∧ q2 ≤ 9223372036854775807) (hc : (q2 % 4).toNat = 2) : ∃ r, Bd 16 r ∧ MadeQ q0 q1 q2 r := by
  have Ma := Lib.hid (fun w => mod_at q0 1000 w (by decide) (by decide) h0.1 h0.2)
  have LMa := mod_lt q0 1000 (by decide)
  have Mb := Lib.hid (fun w => mod_at q1 60 w (by decide) (by decide) h1.1 h1.2)
  have LMb := mod_lt q1 60 (by decide)
  have Mc := Lib.hid (fun w => mod_at q2 4 w (by decide) (by decide) h2.1 h2.2)
  rw [hc] at Mc
  have Md := Lib.hid (fun w => mod_at q0 4611686018427387904 w (by decide) (by decide) h0.1 h0.2)
  have LMd := mod_lt q0 4611686018427387904 (by decide)
  have Me := Lib.hid (fun w => mod_at q1 4611686018427387904 w (by decide) (by decide) h1.1 h1.2)
  have LMe := mod_lt q1 4611686018427387904 (by decide)
  have Mf := Lib.hid (fun w => mod_at q0 2147483648 w (by decide) (by decide) h0.1 h0.2)
  have LMf := mod_lt q0 2147483648 (by decide)
  generalize (q0 % 1000).toNat = a at *
  generalize (q1 % 60).toNat = b at *
  generalize (q0 % 4611686018427387904).toNat = d at *
  generalize (q1 % 4611686018427387904).toNat = f at *
  generalize (q0 % 2147483648).toNat = g at *
  have Oa := Lib.hid (fun w => s_rof a w (by omega))
  have Ob := Lib.hid (fun w => of_succ b w (by omega))
  have Od := Lib.hid (fun w => s_rof d w (by omega))
  have Oe := Lib.hid (fun w => s_rof f w (by omega))
  obtain ⟨ff, hff⟩ : ∃ n : Nat, 1 + (f : Int) = (n : Int) := ⟨1 + f, by omega⟩
  obtain ⟨gg, hgg⟩ : ∃ n : Nat, 1 + (g : Int) = (n : Int) := ⟨1 + g, by omega⟩
  have Of := Lib.hid (fun w => s_rof ff w (by omega))
  have Og := Lib.hid (fun w => s_rof gg w (by omega))
  have bd : d < 256 ^ 8 := Nat.lt_of_lt_of_le (show d < 4611686018427387904 by omega) (by decide)
  have bf : f < 256 ^ 8 := Nat.lt_of_lt_of_le (show f < 4611686018427387904 by omega) (by decide)
  have bf1 : ff < 256 ^ 8 := Nat.lt_of_le_of_lt (show ff ≤ 4611686018427387904 by omega) (by decide)
  have bg1 : gg < 256 ^ 4 := Nat.lt_of_le_of_lt (show gg ≤ 2147483648 by omega) (by decide)
  have Mm := Lib.hid (fun w => s_rmul (S d) (S f) d f w (s_num _) (s_num _) (by have := s_sz bd; omega) (by have := s_sz bf; omega))
  have Mn := Lib.hid (fun w => s_rmul (S ff) (S gg) ff gg w (s_num _) (s_num _) (by have := s_sz bf1; omega) (by have := s_sz bg1; omega))
  have bn : d * f < 256 ^ 16 := lt_mul256 bd bf
  have bm : ff * gg < 256 ^ 16 := lt_le256 (lt_mul256 bf1 bg1) (by decide)
  have d0 : 0 < ff * gg := Nat.mul_pos (by omega) (by omega)
  refine ⟨mkRat (sg (decide (q0 < 0)) (d * f)) (ff * gg), bd_low (by omega) bn bm, fun w => ?_⟩
  have HL := Lib.hid (fun w => rlow_any (decide (q0 < 0)) (d * f) (ff * gg) w d0 (lt_le256 bn (by decide)) (lt_le256 bm (by decide)))
  generalize mkRat (sg (decide (q0 < 0)) (d * f)) (ff * gg) = r at *
  unfold RV RW at *
  generalize S r.num.natAbs = zs at *
  generalize S r.den = zd at *
  generalize decide (r.num < 0) = rc at *
  have HFF := Lib.hid hff
  have HGG := Lib.hid hgg
  clear hff hgg
  clear bn bm d0 hc h0 h1 h2 bd bf bf1 bg1
  have T0 := (Three.new w (.int .i64 q0) (.int .i64 q1) (.int .i64 q2) 47).alloc (.cells #[.bool false, .string ⟨#[]⟩, .string ⟨#[]⟩] 49)
  have R0 := Three.new1 w (.cells #[.int .i64 q0, .int .i64 q1, .int .i64 q2] 47) (.bool false) (.string ⟨#[]⟩) (.string ⟨#[]⟩) 49
  have G0 := Lib.hid (gr_al (o := .cells #[.bool false, .string ⟨#[]⟩, .string ⟨#[]⟩] 49) (gr_al (o := .cells #[.int .i64 q0, .int .i64 q1, .int .i64 q2] 47) (gr_rfl w)))
  have c0 := T0.c0
  have c1 := T0.c1
  have c2 := T0.c2
  go_enter Tryz.func38, Tryz.ntmps38
  go_wp2_with fail
  refine (Ma.out _).mono ?_
  rintro e v1 ⟨rfl, rfl⟩
  go_wp2_with fail
  refine (Oa.out _).mono ?_
  rintro e v2 ⟨rfl, g1⟩
  have Tv2 := T0.kept g1
  have Rv2 := R0.kept g1
  have Gv2 := Lib.hid (gr_then G0.out g1)
  clear g1 T0 R0 G0 c0 c1 c2
  have c0 := Tv2.c0
  have c1 := Tv2.c1
  have c2 := Tv2.c2
  go_wp2_with fail
  refine (Mb.out _).mono ?_
  rintro e v3 ⟨rfl, rfl⟩
  go_wp2_with fail
  refine (Ob.out _).mono ?_
  rintro e v4 ⟨rfl, g1⟩
  have Tv4 := Tv2.kept g1
  have Rv4 := Rv2.kept g1
  have Gv4 := Lib.hid (gr_then Gv2.out g1)
  clear g1 Tv2 Rv2 Gv2 c0 c1 c2
  have c0 := Tv4.c0
  have c1 := Tv4.c1
  have c2 := Tv4.c2
  go_wp2_with fail
  refine (Mc.out _).mono ?_
  rintro e v5 ⟨rfl, rfl⟩
  go_wp2_with fail
  have Tv4d := Tv4.drew
  have Rv4d := Rv4.drew
  have Gv4d := gr_dr (w := v4) (by first | exact Gv4.out | exact Gv4)
  go_region_held3 (fun w' => w'.cell? ⟨w.heap.size, 0, none⟩ = some (.int .i64 q0) ∧ w'.cell? ⟨w.heap.size, 1, none⟩ = some (.int .i64 q1)) (first | exact ⟨Three.c0 (by assumption), Three.c1 (by assumption)⟩ | go_keep)
    (first
    | (go_at_call_of 55 (Value.int .i64 q0); with_reducible refine (Md.out _).mono ?_; rintro e x1 ⟨rfl, rfl⟩)
    | (go_at_call_of 55 (Value.int .i64 q1); with_reducible refine (Me.out _).mono ?_; rintro e x2 ⟨rfl, rfl⟩)
    | (go_at_call_of 25 (Value.int .i64 (d : Int)); with_reducible refine (Od.out _).mono ?_; rintro e x3 ⟨rfl, g1⟩; have Tx3 : Three x3 w.heap.size (.int .i64 q0) (.int .i64 q1) (.int .i64 q2) 47 := Three.kept (by assumption) g1; have Rx3 : Three x3 (w.heap.size + 1) (.bool false) (.string ⟨#[]⟩) (.string ⟨#[]⟩) 49 := Three.kept (by assumption) g1; have Gx3 : w.grownBy x3 none := gr_then (by assumption) g1)
    | (go_at_call_of 25 (Value.int .i64 (f : Int)); with_reducible refine (Oe.out _).mono ?_; rintro e x4 ⟨rfl, g1⟩; have Tx4 : Three x4 w.heap.size (.int .i64 q0) (.int .i64 q1) (.int .i64 q2) 47 := Three.kept (by assumption) g1; have Rx4 : Three x4 (w.heap.size + 1) (.bool false) (.string ⟨#[]⟩) (.string ⟨#[]⟩) 49 := Three.kept (by assumption) g1; have Gx4 : w.grownBy x4 none := gr_then (by assumption) g1)
    | (go_at_call_of 24 (Value.string (S d)); with_reducible refine (Mm.out _).mono ?_; rintro e x5 ⟨rfl, g1⟩; have Tx5 : Three x5 w.heap.size (.int .i64 q0) (.int .i64 q1) (.int .i64 q2) 47 := Three.kept (by assumption) g1; have Rx5 : Three x5 (w.heap.size + 1) (.bool false) (.string ⟨#[]⟩) (.string ⟨#[]⟩) 49 := Three.kept (by assumption) g1; have Gx5 : w.grownBy x5 none := gr_then (by assumption) g1))
  all_goals
    clear c0 c1 c2
    have c0 := Tx5.c0
    have c1 := Tx5.c1
    have c2 := Tx5.c2
    go_wp2_with fail
    have hw1 : IntKind.i64.wrap (ff : Int) = (ff : Int) := by have h := HFF.out; exact IntWalk.i64_in (ff : Int) (by omega)
    have hw2 : IntKind.i64.wrap (gg : Int) = (gg : Int) := by have h := HGG.out; exact IntWalk.i64_in (gg : Int) (by omega)
    have hff := HFF.out
    have hgg := HGG.out
    have Tx5d := Tx5.drew
    have Rx5d := Rx5.drew
    have Gx5d := gr_dr Gx5
    go_region_held3 (fun w' => w'.cell? ⟨w.heap.size, 0, none⟩ = some (.int .i64 q0) ∧ w'.cell? ⟨w.heap.size, 1, none⟩ = some (.int .i64 q1)) (first | exact ⟨Three.c0 (by assumption), Three.c1 (by assumption)⟩ | go_keep)
      (first
      | (go_at_call_of 55 (Value.int .i64 q1); with_reducible refine (Me.out _).mono ?_; rintro e x6 ⟨rfl, rfl⟩)
      | (go_at_call_of 55 (Value.int .i64 q0); with_reducible refine (Mf.out _).mono ?_; rintro e x7 ⟨rfl, rfl⟩)
      | (go_at_call_of 25 (Value.int .i64 (ff : Int)); with_reducible refine (Of.out _).mono ?_; rintro e x8 ⟨rfl, g1⟩; have Tx8 : Three x8 w.heap.size (.int .i64 q0) (.int .i64 q1) (.int .i64 q2) 47 := Three.kept (by assumption) g1; have Rx8 : Three x8 (w.heap.size + 1) (.bool false) (.string ⟨#[]⟩) (.string ⟨#[]⟩) 49 := Three.kept (by assumption) g1; have Gx8 : w.grownBy x8 none := gr_then (by assumption) g1)
      | (go_at_call_of 25 (Value.int .i64 (gg : Int)); with_reducible refine (Og.out _).mono ?_; rintro e x9 ⟨rfl, g1⟩; have Tx9 : Three x9 w.heap.size (.int .i64 q0) (.int .i64 q1) (.int .i64 q2) 47 := Three.kept (by assumption) g1; have Rx9 : Three x9 (w.heap.size + 1) (.bool false) (.string ⟨#[]⟩) (.string ⟨#[]⟩) 49 := Three.kept (by assumption) g1; have Gx9 : w.grownBy x9 none := gr_then (by assumption) g1)
      | (go_at_call_of 24 (Value.string (S ff)); with_reducible refine (Mn.out _).mono ?_; rintro e x10 ⟨rfl, g1⟩; have Tx10 : Three x10 w.heap.size (.int .i64 q0) (.int .i64 q1) (.int .i64 q2) 47 := Three.kept (by assumption) g1; have Rx10 : Three x10 (w.heap.size + 1) (.bool false) (.string ⟨#[]⟩) (.string ⟨#[]⟩) 49 := Three.kept (by assumption) g1; have Gx10 : w.grownBy x10 none := gr_then (by assumption) g1))
    all_goals
      clear c0 c1 c2
      have c0 := Tx10.c0
      have c1 := Tx10.c1
      have c2 := Tx10.c2
      go_wp2_with fail
      refine (HL.out _).mono ?_
      rintro e x11 ⟨rfl, g11⟩
      have R11 := Rx10.kept g11
      have G11 := Lib.hid (gr_then Gx10 g11)
      have k0 := R11.c0
      have k1 := R11.c1
      have k2 := R11.c2
      have f0 := R11.fr 0
      have f1 := R11.fr 1
      have f2 := R11.fr 2
      go_wp2
      exact bodyPost_ret (v := .agg #[.bool rc, .string zs, .string zd]) (by simp [results, Tryz.results38, go_sem, k0, k1, k2]) rfl ⟨rfl, gr_set3 G11.out (Nat.le_succ _) _ _ _⟩
set_option maxHeartbeats 2000000 in
set_option maxRecDepth 100000 in
theorem made_3 (q0 q1 q2 : Int) (h0 : -9223372036854775808 ≤ q0 ∧ q0 ≤ 9223372036854775807) (h1 : -9223372036854775808 ≤ q1 ∧ q1 ≤ 9223372036854775807) (h2 : -9223372036854775808 ≤ q2 ∧ q2 ≤ 9223372036854775807) (hc : (q2 % 4).toNat = 3) : ∃ r, Bd 16 r ∧ MadeQ q0 q1 q2 r := by
  have Ma := Lib.hid (fun w => mod_at q0 1000 w (by decide) (by decide) h0.1 h0.2)
  have LMa := mod_lt q0 1000 (by decide)
  have Mb := Lib.hid (fun w => mod_at q1 60 w (by decide) (by decide) h1.1 h1.2)
  have LMb := mod_lt q1 60 (by decide)
  have Mc := Lib.hid (fun w => mod_at q2 4 w (by decide) (by decide) h2.1 h2.2)
  rw [hc] at Mc
  have Md := Lib.hid (fun w => mod_at q0 7 w (by decide) (by decide) h0.1 h0.2)
  have LMd := mod_lt q0 7 (by decide)
  have Me := Lib.hid (fun w => mod_at q1 7 w (by decide) (by decide) h1.1 h1.2)
  have LMe := mod_lt q1 7 (by decide)
  generalize (q0 % 1000).toNat = a at *
  generalize (q1 % 60).toNat = b at *
  generalize (q0 % 7).toNat = d at *
  generalize (q1 % 7).toNat = f at *
  have Oa := Lib.hid (fun w => s_rof a w (by omega))
  have Ob := Lib.hid (fun w => of_succ b w (by omega))
  have Od := Lib.hid (fun w => s_rof d w (by omega))
  have Oe := Lib.hid (fun w => of_succ f w (by omega))
  have bn : d < 256 ^ 16 := Nat.lt_of_lt_of_le (show d < 7 by omega) (by decide)
  have bm : (1 + f) < 256 ^ 16 := Nat.lt_of_le_of_lt (show (1 + f) ≤ 7 by omega) (by decide)
  have d0 : 0 < (1 + f) := by omega
  refine ⟨mkRat (sg (decide (q0 < 0)) d) (1 + f), bd_low (by omega) bn bm, fun w => ?_⟩
  have HL := Lib.hid (fun w => rlow_any (decide (q0 < 0)) d (1 + f) w d0 (lt_le256 bn (by decide)) (lt_le256 bm (by decide)))
  generalize mkRat (sg (decide (q0 < 0)) d) (1 + f) = r at *
  unfold RV RW at *
  generalize S r.num.natAbs = zs at *
  generalize S r.den = zd at *
  generalize decide (r.num < 0) = rc at *
  clear bn bm d0 hc h0 h1 h2
  have T0 := (Three.new w (.int .i64 q0) (.int .i64 q1) (.int .i64 q2) 47).alloc (.cells #[.bool false, .string ⟨#[]⟩, .string ⟨#[]⟩] 49)
  have R0 := Three.new1 w (.cells #[.int .i64 q0, .int .i64 q1, .int .i64 q2] 47) (.bool false) (.string ⟨#[]⟩) (.string ⟨#[]⟩) 49
  have G0 := Lib.hid (gr_al (o := .cells #[.bool false, .string ⟨#[]⟩, .string ⟨#[]⟩] 49) (gr_al (o := .cells #[.int .i64 q0, .int .i64 q1, .int .i64 q2] 47) (gr_rfl w)))
  have c0 := T0.c0
  have c1 := T0.c1
  have c2 := T0.c2
  go_enter Tryz.func38, Tryz.ntmps38
  go_wp2_with fail
  refine (Ma.out _).mono ?_
  rintro e v1 ⟨rfl, rfl⟩
  go_wp2_with fail
  refine (Oa.out _).mono ?_
  rintro e v2 ⟨rfl, g1⟩
  have Tv2 := T0.kept g1
  have Rv2 := R0.kept g1
  have Gv2 := Lib.hid (gr_then G0.out g1)
  clear g1 T0 R0 G0 c0 c1 c2
  have c0 := Tv2.c0
  have c1 := Tv2.c1
  have c2 := Tv2.c2
  go_wp2_with fail
  refine (Mb.out _).mono ?_
  rintro e v3 ⟨rfl, rfl⟩
  go_wp2_with fail
  refine (Ob.out _).mono ?_
  rintro e v4 ⟨rfl, g1⟩
  have Tv4 := Tv2.kept g1
  have Rv4 := Rv2.kept g1
  have Gv4 := Lib.hid (gr_then Gv2.out g1)
  clear g1 Tv2 Rv2 Gv2 c0 c1 c2
  have c0 := Tv4.c0
  have c1 := Tv4.c1
  have c2 := Tv4.c2
  go_wp2_with fail
  refine (Mc.out _).mono ?_
  rintro e v5 ⟨rfl, rfl⟩
  go_wp2_with fail
  refine (Md.out _).mono ?_
  rintro e v6 ⟨rfl, rfl⟩
  go_wp2_with fail
  refine (Od.out _).mono ?_
  rintro e v7 ⟨rfl, g1⟩
  have Tv7 := Tv4.kept g1
  have Rv7 := Rv4.kept g1
  have Gv7 := Lib.hid (gr_then Gv4.out g1)
  clear g1 Tv4 Rv4 Gv4 c0 c1 c2
  have c0 := Tv7.c0
  have c1 := Tv7.c1
  have c2 := Tv7.c2
  go_wp2_with fail
  refine (Me.out _).mono ?_
  rintro e v8 ⟨rfl, rfl⟩
  go_wp2_with fail
  refine (Oe.out _).mono ?_
  rintro e v9 ⟨rfl, g1⟩
  have Tv9 := Tv7.kept g1
  have Rv9 := Rv7.kept g1
  have Gv9 := Lib.hid (gr_then Gv7.out g1)
  clear g1 Tv7 Rv7 Gv7 c0 c1 c2
  have c0 := Tv9.c0
  have c1 := Tv9.c1
  have c2 := Tv9.c2
  go_wp2_with fail
  refine (HL.out _).mono ?_
  rintro e v10 ⟨rfl, g1⟩
  have Tv10 := Tv9.kept g1
  have Rv10 := Rv9.kept g1
  have Gv10 := Lib.hid (gr_then Gv9.out g1)
  clear g1 Tv9 Rv9 Gv9 c0 c1 c2
  have c0 := Tv10.c0
  have c1 := Tv10.c1
  have c2 := Tv10.c2
  have k0 := Rv10.c0
  have k1 := Rv10.c1
  have k2 := Rv10.c2
  have f0 := Rv10.fr 0
  have f1 := Rv10.fr 1
  have f2 := Rv10.fr 2
  go_wp2
  exact bodyPost_ret (v := .agg #[.bool rc, .string zs, .string zd]) (by simp [results, Tryz.results38, go_sem, k0, k1, k2]) rfl ⟨rfl, gr_set3 Gv10.out (Nat.le_succ _) _ _ _⟩
theorem madeq_any (q0 q1 q2 : Int) (h0 : -9223372036854775808 ≤ q0 ∧ q0 ≤ 9223372036854775807) (h1 : -9223372036854775808 ≤ q1 ∧ q1 ≤ 9223372036854775807) (h2 : -9223372036854775808 ≤ q2 ∧ q2 ≤ 9223372036854775807) : ∃ r, Bd 16 r ∧ MadeQ q0 q1 q2 r := by
  have hm := mod_lt q2 4 (by decide)
  have hc : (q2 % 4).toNat = 0 ∨ (q2 % 4).toNat = 1 ∨ (q2 % 4).toNat = 2 ∨ (q2 % 4).toNat = 3 := by omega
  rcases hc with hc | hc | hc | hc
  · exact made_0 q0 q1 q2 h0 h1 h2 hc
  · exact made_1 q0 q1 q2 h0 h1 h2 hc
  · exact made_2 q0 q1 q2 h0 h1 h2 hc
  · exact made_3 q0 q1 q2 h0 h1 h2 hc
end Go.Proofs.YteajpefbmiiioaaGreatDoor
