/- The law of the claim at the level of the call, and its row: Rz, Rtx, Rpa, Rpb, Rpd, Rpe, Rpc, RowQ, RowU, Rtexts, RtextsRow. -/
import Derived.Test.YteajpefbmiiioaaGreatDoorBRat17
namespace Go.Proofs.YteajpefbmiiioaaGreatDoor
open Go.RowKit Mth Go.Lib

--BEGIN
theorem isDig_eq : isDig = isDg := rfl
/-- A decimal numeral is that of the number that it denotes. -/
theorem dec_txt : ∀ (k : Nat) (l : List UInt8), l.length = k → isTxt l = true → decDigits (dnum l) = l
  | 0, l, hk, h => by
    obtain rfl := List.eq_nil_of_length_eq_zero hk
    simp [isTxt] at h
  | k + 1, l, hk, h => by
    rcases List.eq_nil_or_concat l with rfl | ⟨l', d, rfl⟩
    · simp at hk
    · simp only [List.concat_eq_append] at *
      unfold isTxt at h
      rw [Bool.and_eq_true, List.all_append, Bool.and_eq_true] at h
      obtain ⟨⟨ha, hd⟩, hh⟩ := h
      have hd' : 48 ≤ d.toNat ∧ d.toNat ≤ 57 := by simpa [isDig] using hd
      have hof : UInt8.ofNat (48 + (d.toNat - 48)) = d := by
        rw [show 48 + (d.toNat - 48) = d.toNat from by omega]; simp
      rw [dnum_snoc]
      by_cases h0 : l' = []
      · subst h0
        rw [dnum_nil, decDigits, dif_pos (by omega), show 10 * 0 + (d.toNat - 48) = d.toNat - 48 from by omega, hof]; rfl
      · have hne : l'.head? ≠ some 48 := by
          intro he
          cases l' with
          | nil => exact h0 rfl
          | cons x t =>
            simp only [List.head?_cons, Option.some.injEq] at he
            subst he
            simp at hh
        have ht : isTxt l' = true := by
          unfold isTxt
          rw [ha, Bool.true_and, Bool.or_eq_true]
          right
          rw [Bool.and_eq_true]
          refine ⟨by cases l' with | nil => exact absurd rfl h0 | cons => rfl, ?_⟩
          rw [Bool.not_eq_true', beq_eq_false_iff_ne]; exact hne
        have ih := dec_txt k l' (by simpa using hk) ht
        have hp : dnum l' ≠ 0 := by
          intro e
          rw [e, decDigits, dif_pos (by decide)] at ih
          rw [← ih] at hne
          exact hne rfl
        rw [decDigits, dif_neg (by omega), show (10 * dnum l' + (d.toNat - 48)) / 10 = dnum l' from by omega, ih, show (10 * dnum l' + (d.toNat - 48)) % 10 = d.toNat - 48 from by omega, hof]
/-- A sign, a numeral, and perhaps / and another numeral. -/
def txtL (neg : Bool) (n d : Nat) : List UInt8 := (if neg then [45] else []) ++ (decDigits n ++ (if d = 1 then [] else 47 :: decDigits d))
theorem take_dg (A X : List UInt8) (hA : A.all isDg = true) (hX : X = [] ∨ ∃ Y, X = 47 :: Y) : (A ++ X).takeWhile isDg = A := by
  rw [List.takeWhile_append_of_pos (by simpa using hA)]
  rcases hX with rfl | ⟨Y, rfl⟩
  · simp
  · rw [List.takeWhile_cons_of_neg (by decide)]; simp
theorem dec_inj {m n : Nat} (h : decDigits m = decDigits n) : m = n := by rw [← dnum_dec m, ← dnum_dec n, h]
theorem dec_cons (n : Nat) : ∃ c t, decDigits n = c :: t ∧ c ≠ 45 := by
  have h := dec_pos n
  have ha := dec_all n
  cases hd : decDigits n with
  | nil => rw [hd] at h; simp at h
  | cons c t =>
    refine ⟨c, t, rfl, ?_⟩
    rintro rfl
    rw [hd] at ha
    simp [isDg] at ha
theorem take_sl (A X : List UInt8) (hA : ¬ (47 : UInt8) ∈ A) (hX : X = [] ∨ ∃ Y, X = 47 :: Y) : (A ++ X).takeWhile (fun c => !(c == 47)) = A := by
  rw [List.takeWhile_append_of_pos]
  · rcases hX with rfl | ⟨Y, rfl⟩
    · simp
    · rw [List.takeWhile_cons_of_neg (by decide)]; simp
  · intro c hc
    rw [Bool.not_eq_true', beq_eq_false_iff_ne]
    rintro rfl
    exact hA hc
theorem dec_no (n : Nat) : ¬ (47 : UInt8) ∈ decDigits n := by
  intro h
  have := List.all_eq_true.1 (dec_all n) _ h
  simp [isDg] at this
theorem parts_txt {neg neg' dv : Bool} {Y Z : List UInt8} {n' d' : Nat} (h : (if neg then [(45 : UInt8)] else []) ++ (Y ++ (if dv then 47 :: Z else [])) = txtL neg' n' d') (h0 : neg = false → (Y ++ (if dv then 47 :: Z else [])).head? ≠ some 45) (hY : ¬ (47 : UInt8) ∈ Y) : neg = neg' ∧ Y = decDigits n' ∧ (dv = true → Z = decDigits d' ∧ d' ≠ 1) ∧ (dv = false → d' = 1) := by
  unfold txtL at h
  have hs : neg = neg' := by
    obtain ⟨c', t', e2, n2⟩ := dec_cons n'
    cases neg <;> cases neg'
    · rfl
    · exfalso
      have h1 := h0 rfl
      simp only [Bool.false_eq_true, if_false, List.nil_append, if_true] at h
      rw [h] at h1
      exact h1 rfl
    · exfalso
      rw [e2] at h
      simp at h
      exact n2 h.1.symm
    · rfl
  subst hs
  have h2 := List.append_cancel_left h
  have hX : (if dv then 47 :: Z else []) = ([] : List UInt8) ∨ ∃ W, (if dv then 47 :: Z else []) = 47 :: W := by cases dv <;> simp
  have hW : (if d' = 1 then [] else 47 :: decDigits d') = ([] : List UInt8) ∨ ∃ W, (if d' = 1 then [] else 47 :: decDigits d') = 47 :: W := by split <;> simp
  have e2 := congrArg (List.takeWhile (fun c => !(c == 47))) h2
  rw [take_sl _ _ hY hX, take_sl _ _ (dec_no n') hW] at e2
  subst e2
  have hXY := List.append_cancel_left h2
  refine ⟨rfl, rfl, ?_, ?_⟩
  · rintro rfl
    by_cases h1 : d' = 1
    · rw [if_pos h1] at hXY; simp at hXY
    · rw [if_neg h1] at hXY
      simp at hXY
      exact ⟨hXY, h1⟩
  · rintro rfl
    by_cases h1 : d' = 1
    · exact h1
    · rw [if_neg h1] at hXY; simp at hXY
theorem txt_dec (n : Nat) : isTxt (decDigits n) = true := by
  unfold isTxt
  rw [isDig_eq, dec_all, Bool.true_and, Bool.or_eq_true]
  rcases dec_head n with ⟨h, _⟩ | ⟨h1, h2⟩
  · left; rw [h]; rfl
  · right
    cases hd : decDigits n with
    | nil => exact absurd hd h2
    | cons x l =>
      rw [hd] at h1
      simp at h1
      simp [h1]
theorem pow_ten : (10 : Nat) ^ 100 < 256 ^ 50 := by decide +kernel
theorem dnum_50 {l : List UInt8} (h : isTxt l = true) (hl : l.length ≤ 100) : dnum l < 256 ^ 50 := by
  unfold isTxt at h
  rw [Bool.and_eq_true] at h
  have h1 := dnum_lt l h.1
  exact Nat.lt_of_lt_of_le h1 (Nat.le_trans (Nat.pow_le_pow_right (by decide) hl) (Nat.le_of_lt pow_ten))
theorem dec_50 {n : Nat} (h : n < 256 ^ 50) : (decDigits n).length ≤ 1000 :=
  Nat.le_trans (dec_le n 121 (by decide) (Nat.lt_of_lt_of_le h (by decide +kernel : (256 : Nat) ^ 50 ≤ 10 ^ 121))) (by decide)
/-- Where a string is parted at its first /. -/
theorem index_split {l : List UInt8} {i : Nat} (h : Lib.indexByte l 47 = (i : Int)) : i < l.length ∧ l = l.take i ++ 47 :: l.drop (i + 1) := by
  have h1 := (indexByte_some h).1
  have hi : i < l.length := by
    rcases Nat.lt_or_ge i l.length with h2 | h2
    · exact h2
    · rw [List.getElem?_eq_none h2] at h1; cases h1
  refine ⟨hi, ?_⟩
  rw [List.getElem?_eq_getElem hi] at h1
  have h3 : l.drop i = l[i] :: l.drop (i + 1) := List.drop_eq_getElem_cons hi
  injection h1 with h1
  rw [h1] at h3
  rw [← h3, List.take_append_drop]
theorem index_first {l : List UInt8} {i : Nat} (hi : l[i]? = some 47) (hf : ∀ k, k < i → l[k]? ≠ some 47) : Lib.indexByte l 47 = (i : Int) := by
  rcases Int.lt_or_le (Lib.indexByte l 47) 0 with h | h
  · have := indexByte_ge l 47
    exact absurd hi (indexByte_none (by omega) i)
  · obtain ⟨j, hj⟩ : ∃ j : Nat, Lib.indexByte l 47 = (j : Int) := ⟨(Lib.indexByte l 47).toNat, by omega⟩
    have h1 := indexByte_some hj
    rcases Nat.lt_trichotomy i j with h2 | h2 | h2
    · exact absurd hi (h1.2 i h2)
    · rw [hj, h2]
    · exact absurd h1.1 (hf j h2)
theorem index_never {l : List UInt8} (hf : ∀ k, k < l.length → l[k]? ≠ some 47) : Lib.indexByte l 47 = -1 := by
  have := indexByte_ge l 47
  rcases Int.lt_or_le (Lib.indexByte l 47) 0 with h | h
  · omega
  · obtain ⟨j, hj⟩ : ∃ j : Nat, Lib.indexByte l 47 = (j : Int) := ⟨(Lib.indexByte l 47).toNat, by omega⟩
    have h1 := (indexByte_some hj).1
    have hi : j < l.length := by
      rcases Nat.lt_or_ge j l.length with h2 | h2
      · exact h2
      · rw [List.getElem?_eq_none h2] at h1; cases h1
    exact absurd h1 (hf j hi)
theorem prefix_split (l : List UInt8) : (Lib.hasPrefix l [45] = true ∧ l = 45 :: Lib.trimPrefix l [45]) ∨ (Lib.hasPrefix l [45] = false ∧ Lib.trimPrefix l [45] = l ∧ l.head? ≠ some 45) := by
  cases l with
  | nil => right; exact ⟨rfl, rfl, by simp⟩
  | cons c t =>
    by_cases h : c = 45
    · subst h
      left
      have : Lib.hasPrefix (45 :: t) [45] = true := by simp [Lib.hasPrefix]
      exact ⟨this, by unfold Lib.trimPrefix; rw [if_pos this]; rfl⟩
    · right
      have h' : ¬ (45 : UInt8) = c := fun e => h e.symm
      have : Lib.hasPrefix (c :: t) [45] = false := by show (((45 : UInt8) == c) && true) = false; rw [beq_eq_false_iff_ne.2 h']; rfl
      exact ⟨this, by unfold Lib.trimPrefix; rw [this]; rfl, by simpa using h⟩
--END
end Go.Proofs.YteajpefbmiiioaaGreatDoor
namespace Go.Proofs.YteajpefbmiiioaaGreatDoor
open Go.RowKit Mth Go.Lib

theorem cmp_one {d : Nat} (h : d ≠ 1) : cmpN d 1 ≠ 0 := by
  unfold cmpN; split
  · decide
  · split
    · decide
    · omega
set_option maxHeartbeats 4000000 in
set_option maxRecDepth 100000 in
theorem rtextq_any (q : Rat) (k : Nat) (w : World) (hq : Bd k q) (hk : k ≤ 200) (hl1 : (decDigits q.num.natAbs).length ≤ 1000) (hl2 : (decDigits q.den).length ≤ 1000) : Gives 65 #[RV q] w (.string (textQ q)) := by
  have HV := Lib.hid (fun w => rvalue_rv q k w hq hk)
  obtain ⟨b1, b2⟩ := bd200 hq hk
  have z1 := s_size9 b1
  have z2 := s_size9 b2
  have HN := Lib.hid (fun w => s_rtext (S q.num.natAbs) q.num.natAbs w (s_num _) z1 b1 hl1)
  have HD := Lib.hid (fun w => s_rtext (S q.den) q.den w (s_num _) z2 b2 hl2)
  have HC := Lib.hid (fun w => s_rcmp (S q.den) (S 1) q.den 1 w (s_num _) (s_num _) z2 (s_size9 (by decide)))
  have HO := Lib.hid (fun w => s_rof 1 w (by decide))
  have k1 : (dg10 q.num.natAbs).size ≤ 1000 := hl1
  have k2 : (dg10 q.den).size ≤ 1000 := hl2
  have hcase : (q.den = 1 ∧ cmpN q.den 1 = 0) ∨ (q.den ≠ 1 ∧ cmpN q.den 1 ≠ 0) := by
    by_cases h : q.den = 1
    · exact .inl ⟨h, by rw [h]; rfl⟩
    · exact .inr ⟨h, cmp_one h⟩
  have hneg : (q.num < 0 ∧ decide (q.num < 0) = true) ∨ (¬ q.num < 0 ∧ decide (q.num < 0) = false) := by
    by_cases h : q.num < 0
    · exact .inl ⟨h, decide_eq_true h⟩
    · exact .inr ⟨h, decide_eq_false h⟩
  unfold textQ
  dsimp only
  unfold RV RW at *
  generalize cmpN q.den 1 = cz at *
  have e10 : (⟨(decDigits q.num.natAbs).toArray⟩ : ByteArray) = dg10 q.num.natAbs := rfl
  have e11 : (⟨(decDigits q.den).toArray⟩ : ByteArray) = dg10 q.den := rfl
  rw [e10] at HN
  rw [e11] at HD
  clear e10 e11
  generalize dg10 q.num.natAbs = tn at *
  generalize dg10 q.den = td at *
  generalize S q.num.natAbs = x at *
  generalize S q.den = y at *
  generalize S 1 = o at *
  generalize decide (q.num < 0) = a at *
  clear b1 b2 z1 z2 hl1 hl2 hq hk
  have s1 : ¬ 9223372036854775807 < 1 + tn.size := by omega
  have s2 : ¬ 9223372036854775807 < 1 + td.size := by omega
  have s3 : ((⟨#[45]⟩ : ByteArray) ++ tn).size ≤ 2000 := by rw [ByteArray.size_append]; show 1 + tn.size ≤ _; omega
  have s4 : (((⟨#[45]⟩ : ByteArray) ++ tn) ++ (⟨#[47]⟩ : ByteArray)).size ≤ 3000 := by rw [ByteArray.size_append]; show _ + 1 ≤ _; omega
  have s5 : (tn ++ (⟨#[47]⟩ : ByteArray)).size ≤ 3000 := by rw [ByteArray.size_append]; show _ + 1 ≤ _; omega
  have hA0 := Three.new w (.bool a) (.string x) (.string y) 49
  rcases hneg with ⟨h1, rfl⟩ | ⟨h1, rfl⟩
  · rcases hcase with ⟨h2, h3⟩ | ⟨h2, h3⟩
    · simp only [if_pos h1, if_pos h2]; subst h3; clear h1 h2
      go_enter Tryz.func65, Tryz.ntmps65
      go_wp2_with fail
      refine (HV.out _).mono ?_
      rintro e w1 ⟨rfl, g1⟩
      have hA1 := hA0.kept g1
      have G1 := Lib.hid (gr_one g1)
      have a0 := hA1.c0
      have a1 := hA1.c1
      have a2 := hA1.c2
      have f0 := hA1.fr 0
      have f1 := hA1.fr 1
      have f2 := hA1.fr 2
      have hA2 := hA1.all (.bool true) (.string x) (.string y)
      have G2 := Lib.hid (gr_set3 G1.out (Nat.le_refl _) (.bool true) (.string x) (.string y))
      clear g1 G1
      go_wp2_with fail
      refine (HN.out _).mono ?_
      rintro e w2 ⟨rfl, g2⟩
      have hA3 := hA2.kept g2
      have G3 := Lib.hid (gr_then G2.out g2)
      clear a0 a1 a2 f0 f1 f2 g2 G2 hA2 hA1
      have b0 := hA3.c0
      have b1 := hA3.c1
      have b2 := hA3.c2
      go_wp2_with fail
      have hA4 := hA3.drew
      have G4 := gr_dr G3.out
      go_region_held3 (fun w' => w'.cell? ⟨w.heap.size, 2, none⟩ = some (.string y)) (first | exact Three.c2 (by assumption) | go_keep)
        (first
        | (go_at_call 25; refine (HO.out _).mono ?_; rintro e v1 ⟨rfl, g1⟩; have T : Three v1 w.heap.size (.bool true) (.string x) (.string y) 49 := Three.kept (by assumption) g1; have GG : w.grownBy v1 none := gr_then (by assumption) g1)
        | (go_at_call 21; with_reducible refine (HC.out _).mono ?_; rintro e v2 ⟨rfl, g1⟩; have T2 : Three v2 w.heap.size (.bool true) (.string x) (.string y) 49 := Three.kept (by assumption) g1; have GG2 : w.grownBy v2 none := gr_then (by assumption) g1))
      go_wp2
      go_ret
      exact ⟨rfl, by assumption⟩
    · simp only [if_pos h1, if_neg h2]; have h4 : (cz == 0) = false := by rw [beq_eq_false_iff_ne]; exact h3
      clear h1 h2
      go_enter Tryz.func65, Tryz.ntmps65
      go_wp2_with fail
      refine (HV.out _).mono ?_
      rintro e w1 ⟨rfl, g1⟩
      have hA1 := hA0.kept g1
      have G1 := Lib.hid (gr_one g1)
      have a0 := hA1.c0
      have a1 := hA1.c1
      have a2 := hA1.c2
      have f0 := hA1.fr 0
      have f1 := hA1.fr 1
      have f2 := hA1.fr 2
      have hA2 := hA1.all (.bool true) (.string x) (.string y)
      have G2 := Lib.hid (gr_set3 G1.out (Nat.le_refl _) (.bool true) (.string x) (.string y))
      clear g1 G1
      go_wp2_with fail
      refine (HN.out _).mono ?_
      rintro e w2 ⟨rfl, g2⟩
      have hA3 := hA2.kept g2
      have G3 := Lib.hid (gr_then G2.out g2)
      clear a0 a1 a2 f0 f1 f2 g2 G2 hA2 hA1
      have b0 := hA3.c0
      have b1 := hA3.c1
      have b2 := hA3.c2
      go_wp2_with fail
      have hA4 := hA3.drew
      have G4 := gr_dr G3.out
      go_region_held3 (fun w' => w'.cell? ⟨w.heap.size, 2, none⟩ = some (.string y)) (first | exact Three.c2 (by assumption) | go_keep)
        (first
        | (go_at_call 25; refine (HO.out _).mono ?_; rintro e v1 ⟨rfl, g1⟩; have T : Three v1 w.heap.size (.bool true) (.string x) (.string y) 49 := Three.kept (by assumption) g1; have GG : w.grownBy v1 none := gr_then (by assumption) g1)
        | (go_at_call 21; with_reducible refine (HC.out _).mono ?_; rintro e v2 ⟨rfl, g1⟩; have T2 : Three v2 w.heap.size (.bool true) (.string x) (.string y) 49 := Three.kept (by assumption) g1; have GG2 : w.grownBy v2 none := gr_then (by assumption) g1))
      have HG5 := Lib.hid GG2
      have b0 := T2.c0
      have b1 := T2.c1
      have b2 := T2.c2
      go_wp2_with fail
      refine (HD.out _).mono ?_
      rintro e w3 ⟨rfl, g3⟩
      have G6 := gr_then HG5.out g3
      go_wp2
      go_ret
      exact ⟨by rw [← ByteArray.append_assoc]; rfl, G6⟩
  · rcases hcase with ⟨h2, h3⟩ | ⟨h2, h3⟩
    · simp only [if_neg h1, if_pos h2]; subst h3; clear h1 h2
      go_enter Tryz.func65, Tryz.ntmps65
      go_wp2_with fail
      refine (HV.out _).mono ?_
      rintro e w1 ⟨rfl, g1⟩
      have hA1 := hA0.kept g1
      have G1 := Lib.hid (gr_one g1)
      have a0 := hA1.c0
      have a1 := hA1.c1
      have a2 := hA1.c2
      have f0 := hA1.fr 0
      have f1 := hA1.fr 1
      have f2 := hA1.fr 2
      have hA2 := hA1.all (.bool false) (.string x) (.string y)
      have G2 := Lib.hid (gr_set3 G1.out (Nat.le_refl _) (.bool false) (.string x) (.string y))
      clear g1 G1
      go_wp2_with fail
      refine (HN.out _).mono ?_
      rintro e w2 ⟨rfl, g2⟩
      have hA3 := hA2.kept g2
      have G3 := Lib.hid (gr_then G2.out g2)
      clear a0 a1 a2 f0 f1 f2 g2 G2 hA2 hA1
      have b0 := hA3.c0
      have b1 := hA3.c1
      have b2 := hA3.c2
      go_wp2_with fail
      have hA4 := hA3.drew
      have G4 := gr_dr G3.out
      go_region_held3 (fun w' => w'.cell? ⟨w.heap.size, 2, none⟩ = some (.string y)) (first | exact Three.c2 (by assumption) | go_keep)
        (first
        | (go_at_call 25; refine (HO.out _).mono ?_; rintro e v1 ⟨rfl, g1⟩; have T : Three v1 w.heap.size (.bool false) (.string x) (.string y) 49 := Three.kept (by assumption) g1; have GG : w.grownBy v1 none := gr_then (by assumption) g1)
        | (go_at_call 21; with_reducible refine (HC.out _).mono ?_; rintro e v2 ⟨rfl, g1⟩; have T2 : Three v2 w.heap.size (.bool false) (.string x) (.string y) 49 := Three.kept (by assumption) g1; have GG2 : w.grownBy v2 none := gr_then (by assumption) g1))
      go_wp2
      go_ret
      exact ⟨rfl, by assumption⟩
    · simp only [if_neg h1, if_neg h2]; have h4 : (cz == 0) = false := by rw [beq_eq_false_iff_ne]; exact h3
      clear h1 h2
      go_enter Tryz.func65, Tryz.ntmps65
      go_wp2_with fail
      refine (HV.out _).mono ?_
      rintro e w1 ⟨rfl, g1⟩
      have hA1 := hA0.kept g1
      have G1 := Lib.hid (gr_one g1)
      have a0 := hA1.c0
      have a1 := hA1.c1
      have a2 := hA1.c2
      have f0 := hA1.fr 0
      have f1 := hA1.fr 1
      have f2 := hA1.fr 2
      have hA2 := hA1.all (.bool false) (.string x) (.string y)
      have G2 := Lib.hid (gr_set3 G1.out (Nat.le_refl _) (.bool false) (.string x) (.string y))
      clear g1 G1
      go_wp2_with fail
      refine (HN.out _).mono ?_
      rintro e w2 ⟨rfl, g2⟩
      have hA3 := hA2.kept g2
      have G3 := Lib.hid (gr_then G2.out g2)
      clear a0 a1 a2 f0 f1 f2 g2 G2 hA2 hA1
      have b0 := hA3.c0
      have b1 := hA3.c1
      have b2 := hA3.c2
      go_wp2_with fail
      have hA4 := hA3.drew
      have G4 := gr_dr G3.out
      go_region_held3 (fun w' => w'.cell? ⟨w.heap.size, 2, none⟩ = some (.string y)) (first | exact Three.c2 (by assumption) | go_keep)
        (first
        | (go_at_call 25; refine (HO.out _).mono ?_; rintro e v1 ⟨rfl, g1⟩; have T : Three v1 w.heap.size (.bool false) (.string x) (.string y) 49 := Three.kept (by assumption) g1; have GG : w.grownBy v1 none := gr_then (by assumption) g1)
        | (go_at_call 21; with_reducible refine (HC.out _).mono ?_; rintro e v2 ⟨rfl, g1⟩; have T2 : Three v2 w.heap.size (.bool false) (.string x) (.string y) 49 := Three.kept (by assumption) g1; have GG2 : w.grownBy v2 none := gr_then (by assumption) g1))
      have HG5 := Lib.hid GG2
      have b0 := T2.c0
      have b1 := T2.c1
      have b2 := T2.c2
      go_wp2_with fail
      refine (HD.out _).mono ?_
      rintro e w3 ⟨rfl, g3⟩
      have G6 := gr_then HG5.out g3
      go_wp2
      go_ret
      exact ⟨by rw [← ByteArray.append_assoc]; rfl, G6⟩
end Go.Proofs.YteajpefbmiiioaaGreatDoor
namespace Go.Proofs.YteajpefbmiiioaaGreatDoor
open Go.RowKit Mth Go.Lib

section
variable (s x y z : ByteArray) (neg : Bool) (n d : Nat) (w : World)
set_option maxRecDepth 100000 in
theorem parse_num_bad_true (hP : ∀ w, Gives 121 #[.string s, .string ⟨#[45]⟩] w (.tuple #[.string x, .bool neg])) (hC : ∀ w, Gives 122 #[.string x, .string ⟨#[47]⟩] w (.tuple #[.string y, .string z, .bool true])) (hn : ∀ w, Gives 33 #[.string y] w (.tuple #[.string ⟨#[]⟩, .bool false])) :
    Gives 66 #[.string s] w (.tuple #[.agg #[.bool false, .string ⟨#[]⟩, .string ⟨#[]⟩], .bool false]) := by
  have HP := Lib.hid hP
  have HC := Lib.hid hC
  have Hn := Lib.hid hn
  clear hP hC hn
  have hT0 := Three.new w (.bool false) (.string ⟨#[]⟩) (.string ⟨#[]⟩) 49
  go_enter Tryz.func66, Tryz.ntmps66
  go_wp2_with fail
  refine (HP.out _).mono ?_
  rintro e w1 ⟨rfl, g1⟩
  have hT1 := hT0.kept g1
  have G1 := Lib.hid (gr_one g1)
  clear g1 hT0
  go_wp2_with fail
  refine (HC.out _).mono ?_
  rintro e w2 ⟨rfl, g1⟩
  have hT2 := hT1.kept g1
  have G2 := Lib.hid (gr_then G1.out g1)
  clear g1 hT1 G1
  go_wp2_with fail
  refine (Hn.out _).mono ?_
  rintro e w3 ⟨rfl, g1⟩
  have hT3 := hT2.kept g1
  have G3 := Lib.hid (gr_then G2.out g1)
  clear g1 hT2 G2
  have f0 := hT3.fr 0
  have f1 := hT3.fr 1
  have f2 := hT3.fr 2
  have c0 := hT3.c0
  have c1 := hT3.c1
  have c2 := hT3.c2
  go_wp2
  exact bodyPost_ret (v := .tuple #[.agg #[.bool false, .string ⟨#[]⟩, .string ⟨#[]⟩], .bool false]) (by simp [results, Tryz.results66, go_sem, c0, c1, c2]) rfl ⟨rfl, gr_setn (gr_setn (gr_setn G3.out (Nat.le_refl _)) (Nat.le_refl _)) (Nat.le_refl _)⟩
set_option maxRecDepth 100000 in
theorem parse_num_bad_false (hP : ∀ w, Gives 121 #[.string s, .string ⟨#[45]⟩] w (.tuple #[.string x, .bool neg])) (hC : ∀ w, Gives 122 #[.string x, .string ⟨#[47]⟩] w (.tuple #[.string y, .string z, .bool false])) (hn : ∀ w, Gives 33 #[.string y] w (.tuple #[.string ⟨#[]⟩, .bool false])) :
    Gives 66 #[.string s] w (.tuple #[.agg #[.bool false, .string ⟨#[]⟩, .string ⟨#[]⟩], .bool false]) := by
  have HP := Lib.hid hP
  have HC := Lib.hid hC
  have Hn := Lib.hid hn
  clear hP hC hn
  have hT0 := Three.new w (.bool false) (.string ⟨#[]⟩) (.string ⟨#[]⟩) 49
  go_enter Tryz.func66, Tryz.ntmps66
  go_wp2_with fail
  refine (HP.out _).mono ?_
  rintro e w1 ⟨rfl, g1⟩
  have hT1 := hT0.kept g1
  have G1 := Lib.hid (gr_one g1)
  clear g1 hT0
  go_wp2_with fail
  refine (HC.out _).mono ?_
  rintro e w2 ⟨rfl, g1⟩
  have hT2 := hT1.kept g1
  have G2 := Lib.hid (gr_then G1.out g1)
  clear g1 hT1 G1
  go_wp2_with fail
  refine (Hn.out _).mono ?_
  rintro e w3 ⟨rfl, g1⟩
  have hT3 := hT2.kept g1
  have G3 := Lib.hid (gr_then G2.out g1)
  clear g1 hT2 G2
  have f0 := hT3.fr 0
  have f1 := hT3.fr 1
  have f2 := hT3.fr 2
  have c0 := hT3.c0
  have c1 := hT3.c1
  have c2 := hT3.c2
  go_wp2
  exact bodyPost_ret (v := .tuple #[.agg #[.bool false, .string ⟨#[]⟩, .string ⟨#[]⟩], .bool false]) (by simp [results, Tryz.results66, go_sem, c0, c1, c2]) rfl ⟨rfl, gr_setn (gr_setn (gr_setn G3.out (Nat.le_refl _)) (Nat.le_refl _)) (Nat.le_refl _)⟩
set_option maxRecDepth 100000 in
theorem parse_den_bad (hP : ∀ w, Gives 121 #[.string s, .string ⟨#[45]⟩] w (.tuple #[.string x, .bool neg])) (hC : ∀ w, Gives 122 #[.string x, .string ⟨#[47]⟩] w (.tuple #[.string y, .string z, .bool true])) (hn : ∀ w, Gives 33 #[.string y] w (.tuple #[.string (S n), .bool true])) (hd : ∀ w, Gives 33 #[.string z] w (.tuple #[.string ⟨#[]⟩, .bool false])) :
    Gives 66 #[.string s] w (.tuple #[.agg #[.bool false, .string ⟨#[]⟩, .string ⟨#[]⟩], .bool false]) := by
  have HP := Lib.hid hP
  have HC := Lib.hid hC
  have Hn := Lib.hid hn
  have Hd := Lib.hid hd
  generalize S n = sn at *
  clear hP hC hn hd
  have hT0 := Three.new w (.bool false) (.string ⟨#[]⟩) (.string ⟨#[]⟩) 49
  go_enter Tryz.func66, Tryz.ntmps66
  go_wp2_with fail
  refine (HP.out _).mono ?_
  rintro e w1 ⟨rfl, g1⟩
  have hT1 := hT0.kept g1
  have G1 := Lib.hid (gr_one g1)
  clear g1 hT0
  go_wp2_with fail
  refine (HC.out _).mono ?_
  rintro e w2 ⟨rfl, g1⟩
  have hT2 := hT1.kept g1
  have G2 := Lib.hid (gr_then G1.out g1)
  clear g1 hT1 G1
  go_wp2_with fail
  refine (Hn.out _).mono ?_
  rintro e w3 ⟨rfl, g1⟩
  have hT3 := hT2.kept g1
  have G3 := Lib.hid (gr_then G2.out g1)
  clear g1 hT2 G2
  go_wp2_with fail
  refine (Hd.out _).mono ?_
  rintro e w4 ⟨rfl, g1⟩
  have hT4 := hT3.kept g1
  have G4 := Lib.hid (gr_then G3.out g1)
  clear g1 hT3 G3
  have f0 := hT4.fr 0
  have f1 := hT4.fr 1
  have f2 := hT4.fr 2
  have c0 := hT4.c0
  have c1 := hT4.c1
  have c2 := hT4.c2
  go_wp2
  exact bodyPost_ret (v := .tuple #[.agg #[.bool false, .string ⟨#[]⟩, .string ⟨#[]⟩], .bool false]) (by simp [results, Tryz.results66, go_sem, c0, c1, c2]) rfl ⟨rfl, gr_setn (gr_setn (gr_setn G4.out (Nat.le_refl _)) (Nat.le_refl _)) (Nat.le_refl _)⟩
set_option maxRecDepth 100000 in
theorem parse_frac_yes (hP : ∀ w, Gives 121 #[.string s, .string ⟨#[45]⟩] w (.tuple #[.string x, .bool neg])) (hC : ∀ w, Gives 122 #[.string x, .string ⟨#[47]⟩] w (.tuple #[.string y, .string z, .bool true])) (hn : ∀ w, Gives 33 #[.string y] w (.tuple #[.string (S n), .bool true])) (hd : ∀ w, Gives 33 #[.string z] w (.tuple #[.string (S d), .bool true])) (h1 : d ≠ 1) (hR : ∀ w, Gives 58 #[RW neg n d] w (.bool true)) :
    Gives 66 #[.string s] w (.tuple #[RW neg n d, .bool true]) := by
  have HP := Lib.hid hP
  have HC := Lib.hid hC
  have Hn := Lib.hid hn
  have Hd := Lib.hid hd
  have e1 := tl_one h1
  unfold RW at hR ⊢
  have HR := Lib.hid hR
  generalize S n = sn at *
  generalize S d = sd at *
  clear hP hC hn hd hR h1
  have hT0 := Three.new w (.bool false) (.string ⟨#[]⟩) (.string ⟨#[]⟩) 49
  go_enter Tryz.func66, Tryz.ntmps66
  go_wp2_with fail
  refine (HP.out _).mono ?_
  rintro e w1 ⟨rfl, g1⟩
  have hT1 := hT0.kept g1
  have G1 := Lib.hid (gr_one g1)
  clear g1 hT0
  go_wp2_with fail
  refine (HC.out _).mono ?_
  rintro e w2 ⟨rfl, g1⟩
  have hT2 := hT1.kept g1
  have G2 := Lib.hid (gr_then G1.out g1)
  clear g1 hT1 G1
  go_wp2_with fail
  refine (Hn.out _).mono ?_
  rintro e w3 ⟨rfl, g1⟩
  have hT3 := hT2.kept g1
  have G3 := Lib.hid (gr_then G2.out g1)
  clear g1 hT2 G2
  go_wp2_with fail
  refine (Hd.out _).mono ?_
  rintro e w4 ⟨rfl, g1⟩
  have hT4 := hT3.kept g1
  have G4 := Lib.hid (gr_then G3.out g1)
  clear g1 hT3 G3
  have hU4 := Three.new w4 (.bool neg) (.string sn) (.string sd) 49
  go_wp2_with fail
  refine (HR.out _).mono ?_
  rintro e w5 ⟨rfl, g1⟩
  have hT5 := (hT4.alloc (.cells #[.bool neg, .string sn, .string sd] 49)).kept g1
  have hU5 := hU4.kept g1
  have G5 := Lib.hid (gr_then (gr_then G4.out (gr_alloc w4 (.cells #[.bool neg, .string sn, .string sd] 49) none)) g1)
  have hne : w.heap.size ≠ w4.heap.size := by have := hT4.lt; omega
  have hne2 : w4.heap.size ≠ w.heap.size := fun e => hne e.symm
  clear g1 hU4 G4
  have u0 := hU5.c0
  have u1 := hU5.c1
  have u2 := hU5.c2
  clear hT4
  have f0 := hT5.fr 0
  have f1 := hT5.fr 1
  have f2 := hT5.fr 2
  have c0 := hT5.c0
  have c1 := hT5.c1
  have c2 := hT5.c2
  generalize w4.heap.size = B at *
  go_wp2
  exact bodyPost_ret (v := .tuple #[.agg #[.bool neg, .string sn, .string sd], .bool true]) (by simp [results, Tryz.results66, go_sem, c0, c1, c2]) rfl ⟨rfl, gr_setn (gr_setn (gr_setn G5.out (Nat.le_refl _)) (Nat.le_refl _)) (Nat.le_refl _)⟩
set_option maxRecDepth 100000 in
theorem parse_whole_yes (hP : ∀ w, Gives 121 #[.string s, .string ⟨#[45]⟩] w (.tuple #[.string x, .bool neg])) (hC : ∀ w, Gives 122 #[.string x, .string ⟨#[47]⟩] w (.tuple #[.string y, .string z, .bool false])) (hn : ∀ w, Gives 33 #[.string y] w (.tuple #[.string (S n), .bool true])) (hR : ∀ w, Gives 58 #[RW neg n 1] w (.bool true)) :
    Gives 66 #[.string s] w (.tuple #[RW neg n 1, .bool true]) := by
  have HP := Lib.hid hP
  have HC := Lib.hid hC
  have Hn := Lib.hid hn
  unfold RW at hR ⊢
  rw [one_lit] at hR ⊢
  have HR := Lib.hid hR
  generalize S n = sn at *
  clear hP hC hn hR
  have hT0 := Three.new w (.bool false) (.string ⟨#[]⟩) (.string ⟨#[]⟩) 49
  go_enter Tryz.func66, Tryz.ntmps66
  go_wp2_with fail
  refine (HP.out _).mono ?_
  rintro e w1 ⟨rfl, g1⟩
  have hT1 := hT0.kept g1
  have G1 := Lib.hid (gr_one g1)
  clear g1 hT0
  go_wp2_with fail
  refine (HC.out _).mono ?_
  rintro e w2 ⟨rfl, g1⟩
  have hT2 := hT1.kept g1
  have G2 := Lib.hid (gr_then G1.out g1)
  clear g1 hT1 G1
  go_wp2_with fail
  refine (Hn.out _).mono ?_
  rintro e w3 ⟨rfl, g1⟩
  have hT3 := hT2.kept g1
  have G3 := Lib.hid (gr_then G2.out g1)
  clear g1 hT2 G2
  have hU3 := Three.new w3 (.bool neg) (.string sn) (.string ⟨#[1]⟩) 49
  go_wp2_with fail
  refine (HR.out _).mono ?_
  rintro e w5 ⟨rfl, g1⟩
  have hT5 := (hT3.alloc (.cells #[.bool neg, .string sn, .string ⟨#[1]⟩] 49)).kept g1
  have hU5 := hU3.kept g1
  have G5 := Lib.hid (gr_then (gr_then G3.out (gr_alloc w3 (.cells #[.bool neg, .string sn, .string ⟨#[1]⟩] 49) none)) g1)
  have hne : w.heap.size ≠ w3.heap.size := by have := hT3.lt; omega
  have hne2 : w3.heap.size ≠ w.heap.size := fun e => hne e.symm
  clear g1 hU3 G3
  have u0 := hU5.c0
  have u1 := hU5.c1
  have u2 := hU5.c2
  clear hT3
  have f0 := hT5.fr 0
  have f1 := hT5.fr 1
  have f2 := hT5.fr 2
  have c0 := hT5.c0
  have c1 := hT5.c1
  have c2 := hT5.c2
  generalize w3.heap.size = B at *
  go_wp2
  exact bodyPost_ret (v := .tuple #[.agg #[.bool neg, .string sn, .string ⟨#[1]⟩], .bool true]) (by simp [results, Tryz.results66, go_sem, c0, c1, c2]) rfl ⟨rfl, gr_setn (gr_setn (gr_setn G5.out (Nat.le_refl _)) (Nat.le_refl _)) (Nat.le_refl _)⟩
end
end Go.Proofs.YteajpefbmiiioaaGreatDoor
namespace Go.Proofs.YteajpefbmiiioaaGreatDoor
open Go.RowKit Mth Go.Lib

/-- What the reference's Parse gives, by what its parts give. -/
def EndsIn (s y z : ByteArray) (neg : Bool) (a : Bool) (b c : ByteArray) (o : Bool) : Prop :=
  ∃ (n1 d1 : ByteArray) (o1 o2 : Bool), (∀ w, Gives 36 #[.string y] w (.tuple #[.string n1, .bool o1])) ∧ (∀ w, Gives 36 #[.string z] w (.tuple #[.string d1, .bool o2])) ∧
    ((o1 = false ∧ a = false ∧ b = ⟨#[]⟩ ∧ c = ⟨#[]⟩ ∧ o = false) ∨ (o1 = true ∧ o2 = false ∧ a = false ∧ b = ⟨#[]⟩ ∧ c = ⟨#[]⟩ ∧ o = false) ∨ (o1 = true ∧ o2 = true ∧
      (((∀ w, Gives 54 #[.bool neg, .string n1, .string d1] w (.tuple #[.agg #[.bool false, .string ⟨#[]⟩, .string ⟨#[]⟩], .bool false])) ∧ a = false ∧ b = ⟨#[]⟩ ∧ c = ⟨#[]⟩ ∧ o = false) ∨
       (∃ (qa : Bool) (qb qc t : ByteArray), (∀ w, Gives 54 #[.bool neg, .string n1, .string d1] w (.tuple #[.agg #[.bool qa, .string qb, .string qc], .bool true])) ∧ (∀ w, Gives 65 #[.agg #[.bool qa, .string qb, .string qc]] w (.string t)) ∧
         (((t.toList == s.toList) = false ∧ a = false ∧ b = ⟨#[]⟩ ∧ c = ⟨#[]⟩ ∧ o = false) ∨ (t = s ∧ a = qa ∧ b = qb ∧ c = qc ∧ o = true))))))
set_option maxHeartbeats 4000000 in
set_option maxRecDepth 100000 in
theorem rparse_nil (s x y z : ByteArray) (dv a : Bool) (b c : ByteArray) (o : Bool) (w : World) (hs : s.size ≤ 1000) (h0 : s.size = 0) (hsg : s = x) (hc : (dv = true ∧ ∃ i, ∃ h : i < x.size, x[i].toNat = 47 ∧ (∀ j (_ : j < i) (h : j < x.size), x[j].toNat ≠ 47) ∧ x.extract 0 i = y ∧ x.extract (i + 1) x.size = z) ∨ (dv = false ∧ (∀ j (h : j < x.size), x[j].toNat ≠ 47) ∧ y = x ∧ z = ⟨#[49]⟩)) (he : EndsIn s y z false a b c o) :
    Gives 67 #[.string s] w (.tuple #[.agg #[.bool a, .string b, .string c], .bool o]) := by
  obtain ⟨n1, d1, o1, o2, h1, h2, he⟩ := he
  have H1 := Lib.hid h1
  have H2 := Lib.hid h2
  have HE := Lib.hid he
  clear h1 h2 he
  have T0 := Three.new w (.bool false) (.string ⟨#[]⟩) (.string ⟨#[]⟩) 49
  have G0 := Lib.hid (gr_alloc w (.cells #[.bool false, .string ⟨#[]⟩, .string ⟨#[]⟩] 49) none)
  obtain rfl := hsg
  have hxs := hs
  have hz0 : ¬ (0 : Int) < (s.size : Int) := by omega
  have HCC := Lib.hid hc
  clear hc
  go_enter Tryz.func67, Tryz.ntmps67
  go_wp2_with fail
  go_loopw [6, 7, 8] (fun a6 a7 v wr => ∃ k : Nat, k ≤ s.size ∧ a6 = .string s ∧ a7 = .string ⟨#[49]⟩ ∧ v = .int .i64 (k : Int) ∧ Hid (∀ j (h : j < s.size), j < k → s[j].toNat ≠ 47) ∧ Three wr w.heap.size (.bool false) (.string ⟨#[]⟩) (.string ⟨#[]⟩) 49 ∧ w.grownBy wr none) (fun _ _ v _ => s.size - (RowKit.intOf v).toNat)
  case atStart => exact ⟨0, by omega, rfl, rfl, rfl, Lib.hid (fun j h1 h2 => by omega), T0, G0.out⟩
  case round =>
    clear T0 G0
    obtain ⟨k, hk, rfl, rfl, rfl, HA, T1, g0⟩ := hrel
    have G1 := Lib.hid g0
    clear g0
    by_cases hlt : k < s.size
    · exact absurd hlt (by omega)
    · obtain rfl : k = s.size := by omega
      have hcc := HCC.out
      clear HCC
      rcases hcc with ⟨_, i, hi, hi1, _, _, _⟩ | ⟨rfl, _, rfl, rfl⟩
      · exact absurd hi1 (HA.out i hi hi)
      · clear HA
        go_wp2_with fail
        refine (H1.out _).mono ?_
        rintro e w2 ⟨rfl, g1⟩
        have T2 := T1.kept g1
        have G2 := Lib.hid (gr_then G1.out g1)
        clear g1 T1 G1
        go_wp2_with fail
        refine (H2.out _).mono ?_
        rintro e w3 ⟨rfl, g1⟩
        have T3 := T2.kept g1
        have G3 := Lib.hid (gr_then G2.out g1)
        clear g1 T2 G2
        have hcase := HE.out
        clear HE
        rcases hcase with ⟨rfl, rfl, rfl, rfl, rfl⟩ | ⟨rfl, rfl, rfl, rfl, rfl, rfl⟩ | ⟨rfl, rfl, hcase⟩
        · have f0 := T3.fr 0
          have f1 := T3.fr 1
          have f2 := T3.fr 2
          have c0 := T3.c0
          have c1 := T3.c1
          have c2 := T3.c2
          go_wp2
          exact bodyPost_ret (v := .tuple #[.agg #[.bool false, .string ⟨#[]⟩, .string ⟨#[]⟩], .bool false]) (by simp [results, Tryz.results67, go_sem, c0, c1, c2]) rfl ⟨rfl, gr_setn (gr_setn (gr_setn G3.out (Nat.le_refl _)) (Nat.le_refl _)) (Nat.le_refl _)⟩
        · have f0 := T3.fr 0
          have f1 := T3.fr 1
          have f2 := T3.fr 2
          have c0 := T3.c0
          have c1 := T3.c1
          have c2 := T3.c2
          go_wp2
          exact bodyPost_ret (v := .tuple #[.agg #[.bool false, .string ⟨#[]⟩, .string ⟨#[]⟩], .bool false]) (by simp [results, Tryz.results67, go_sem, c0, c1, c2]) rfl ⟨rfl, gr_setn (gr_setn (gr_setn G3.out (Nat.le_refl _)) (Nat.le_refl _)) (Nat.le_refl _)⟩
        · rcases hcase with ⟨hm, rfl, rfl, rfl, rfl⟩ | ⟨qa, qb, qc, t, hm, ht, hcase⟩
          · have HM := Lib.hid hm
            clear hm
            go_wp2_with fail
            refine (HM.out _).mono ?_
            rintro e w4 ⟨rfl, g1⟩
            have T4 := (T3.kept g1).alloc (.cells #[.bool false, .string ⟨#[]⟩, .string ⟨#[]⟩] 49)
            have U4 := Three.new w4 (.bool false) (.string ⟨#[]⟩) (.string ⟨#[]⟩) 49
            have G4 := Lib.hid (gr_al (o := .cells #[.bool false, .string ⟨#[]⟩, .string ⟨#[]⟩] 49) (gr_then G3.out g1))
            have hne : w.heap.size ≠ w4.heap.size := by have := (T3.kept g1).lt; omega
            have hne2 : w4.heap.size ≠ w.heap.size := fun e => hne e.symm
            clear g1 T3 G3
            have f0 := T4.fr 0
            have f1 := T4.fr 1
            have f2 := T4.fr 2
            have c0 := T4.c0
            have c1 := T4.c1
            have c2 := T4.c2
            go_wp2
            exact bodyPost_ret (v := .tuple #[.agg #[.bool false, .string ⟨#[]⟩, .string ⟨#[]⟩], .bool false]) (by simp [results, Tryz.results67, go_sem, c0, c1, c2]) rfl ⟨rfl, gr_setn (gr_setn (gr_setn G4.out (Nat.le_refl _)) (Nat.le_refl _)) (Nat.le_refl _)⟩
          · have HX := Lib.hid ht
            clear ht
            have HM := Lib.hid hm
            clear hm
            go_wp2_with fail
            refine (HM.out _).mono ?_
            rintro e w4 ⟨rfl, g1⟩
            have T4 := (T3.kept g1).alloc (.cells #[.bool qa, .string qb, .string qc] 49)
            have U4 := Three.new w4 (.bool qa) (.string qb) (.string qc) 49
            have G4 := Lib.hid (gr_al (o := .cells #[.bool qa, .string qb, .string qc] 49) (gr_then G3.out g1))
            have hne : w.heap.size ≠ w4.heap.size := by have := (T3.kept g1).lt; omega
            have hne2 : w4.heap.size ≠ w.heap.size := fun e => hne e.symm
            clear g1 T3 G3
            have u0 := U4.c0
            have u1 := U4.c1
            have u2 := U4.c2
            go_wp2_with fail
            refine (HX.out _).mono ?_
            rintro e w5 ⟨rfl, g1⟩
            have T5 := T4.kept g1
            have U5 := U4.kept g1
            have G5 := Lib.hid (gr_then G4.out g1)
            clear g1 T4 U4 G4 u0 u1 u2
            have u0 := U5.c0
            have u1 := U5.c1
            have u2 := U5.c2
            generalize w4.heap.size = B4 at *
            rcases hcase with ⟨ht, rfl, rfl, rfl, rfl⟩ | ⟨rfl, rfl, rfl, rfl, rfl⟩
            · have f0 := T5.fr 0
              have f1 := T5.fr 1
              have f2 := T5.fr 2
              have c0 := T5.c0
              have c1 := T5.c1
              have c2 := T5.c2
              go_wp2
              exact bodyPost_ret (v := .tuple #[.agg #[.bool false, .string ⟨#[]⟩, .string ⟨#[]⟩], .bool false]) (by simp [results, Tryz.results67, go_sem, c0, c1, c2]) rfl ⟨rfl, gr_setn (gr_setn (gr_setn G5.out (Nat.le_refl _)) (Nat.le_refl _)) (Nat.le_refl _)⟩
            · have f0 := T5.fr 0
              have f1 := T5.fr 1
              have f2 := T5.fr 2
              have c0 := T5.c0
              have c1 := T5.c1
              have c2 := T5.c2
              go_wp2
              exact bodyPost_ret (v := .tuple #[.agg #[.bool a, .string b, .string c], .bool true]) (by simp [results, Tryz.results67, go_sem, c0, c1, c2]) rfl ⟨rfl, gr_setn (gr_setn (gr_setn G5.out (Nat.le_refl _)) (Nat.le_refl _)) (Nat.le_refl _)⟩
end Go.Proofs.YteajpefbmiiioaaGreatDoor
namespace Go.Proofs.YteajpefbmiiioaaGreatDoor
open Go.RowKit Mth Go.Lib

set_option maxHeartbeats 4000000 in
set_option maxRecDepth 100000 in
theorem rparse_neg (s x y z : ByteArray) (dv a : Bool) (b c : ByteArray) (o : Bool) (w : World) (hs : s.size ≤ 1000) (h0 : 0 < s.size) (hsg : s[0].toNat = 45 ∧ s.extract 1 s.size = x) (hc : (dv = true ∧ ∃ i, ∃ h : i < x.size, x[i].toNat = 47 ∧ (∀ j (_ : j < i) (h : j < x.size), x[j].toNat ≠ 47) ∧ x.extract 0 i = y ∧ x.extract (i + 1) x.size = z) ∨ (dv = false ∧ (∀ j (h : j < x.size), x[j].toNat ≠ 47) ∧ y = x ∧ z = ⟨#[49]⟩)) (he : EndsIn s y z true a b c o) :
    Gives 67 #[.string s] w (.tuple #[.agg #[.bool a, .string b, .string c], .bool o]) := by
  obtain ⟨n1, d1, o1, o2, h1, h2, he⟩ := he
  have H1 := Lib.hid h1
  have H2 := Lib.hid h2
  have HE := Lib.hid he
  clear h1 h2 he
  have T0 := Three.new w (.bool false) (.string ⟨#[]⟩) (.string ⟨#[]⟩) 49
  have G0 := Lib.hid (gr_alloc w (.cells #[.bool false, .string ⟨#[]⟩, .string ⟨#[]⟩] 49) none)
  obtain ⟨hc0, hx⟩ := hsg
  have hxs : x.size ≤ 1000 := by rw [← hx, ByteArray.size_extract]; omega
  have hz0 : (0 : Int) < (s.size : Int) := by omega
  have HCC := Lib.hid hc
  clear hc
  go_enter Tryz.func67, Tryz.ntmps67
  go_wp2_with fail
  clear hx hc0
  go_loopw [6, 7, 8] (fun a6 a7 v wr => ∃ k : Nat, k ≤ x.size ∧ a6 = .string x ∧ a7 = .string ⟨#[49]⟩ ∧ v = .int .i64 (k : Int) ∧ Hid (∀ j (h : j < x.size), j < k → x[j].toNat ≠ 47) ∧ Three wr w.heap.size (.bool false) (.string ⟨#[]⟩) (.string ⟨#[]⟩) 49 ∧ w.grownBy wr none) (fun _ _ v _ => x.size - (RowKit.intOf v).toNat)
  case atStart => exact ⟨0, by omega, rfl, rfl, rfl, Lib.hid (fun j h1 h2 => by omega), T0, G0.out⟩
  case round =>
    clear T0 G0
    obtain ⟨k, hk, rfl, rfl, rfl, HA, T1, g0⟩ := hrel
    have G1 := Lib.hid g0
    clear g0
    by_cases hlt : k < x.size
    · have hb1 : (k : Int) < (x.size : Int) := by omega
      have k1 : (k : Int) + 1 ≤ 9223372036854775807 := by omega
      obtain ⟨n, hn⟩ : ∃ n, x[k].toNat = n := ⟨_, rfl⟩
      by_cases h47 : n = 47
      · subst h47
        have hlen : k ≤ x.size := hk
        have hlen2 : k + 1 ≤ x.size := hlt
        have hcc := HCC.out
        clear HCC
        rcases hcc with ⟨rfl, i, hi, hi1, hi2, hy, hz⟩ | ⟨_, hi2, _, _⟩
        · have hki : k = i := by
            rcases Nat.lt_trichotomy k i with h | h | h
            · exact absurd hn (hi2 k h hlt)
            · exact h
            · exact absurd hi1 (HA.out i hi h)
          subst hki
          clear hi hi1 hi2 HA
          go_wp2_with fail
          refine (H1.out _).mono ?_
          rintro e w2 ⟨rfl, g1⟩
          have T2 := T1.kept g1
          have G2 := Lib.hid (gr_then G1.out g1)
          clear g1 T1 G1
          go_wp2_with fail
          refine (H2.out _).mono ?_
          rintro e w3 ⟨rfl, g1⟩
          have T3 := T2.kept g1
          have G3 := Lib.hid (gr_then G2.out g1)
          clear g1 T2 G2
          have hcase := HE.out
          clear HE
          rcases hcase with ⟨rfl, rfl, rfl, rfl, rfl⟩ | ⟨rfl, rfl, rfl, rfl, rfl, rfl⟩ | ⟨rfl, rfl, hcase⟩
          · have f0 := T3.fr 0
            have f1 := T3.fr 1
            have f2 := T3.fr 2
            have c0 := T3.c0
            have c1 := T3.c1
            have c2 := T3.c2
            go_wp2
            exact bodyPost_ret (v := .tuple #[.agg #[.bool false, .string ⟨#[]⟩, .string ⟨#[]⟩], .bool false]) (by simp [results, Tryz.results67, go_sem, c0, c1, c2]) rfl ⟨rfl, gr_setn (gr_setn (gr_setn G3.out (Nat.le_refl _)) (Nat.le_refl _)) (Nat.le_refl _)⟩
          · have f0 := T3.fr 0
            have f1 := T3.fr 1
            have f2 := T3.fr 2
            have c0 := T3.c0
            have c1 := T3.c1
            have c2 := T3.c2
            go_wp2
            exact bodyPost_ret (v := .tuple #[.agg #[.bool false, .string ⟨#[]⟩, .string ⟨#[]⟩], .bool false]) (by simp [results, Tryz.results67, go_sem, c0, c1, c2]) rfl ⟨rfl, gr_setn (gr_setn (gr_setn G3.out (Nat.le_refl _)) (Nat.le_refl _)) (Nat.le_refl _)⟩
          · rcases hcase with ⟨hm, rfl, rfl, rfl, rfl⟩ | ⟨qa, qb, qc, t, hm, ht, hcase⟩
            · have HM := Lib.hid hm
              clear hm
              go_wp2_with fail
              refine (HM.out _).mono ?_
              rintro e w4 ⟨rfl, g1⟩
              have T4 := (T3.kept g1).alloc (.cells #[.bool false, .string ⟨#[]⟩, .string ⟨#[]⟩] 49)
              have U4 := Three.new w4 (.bool false) (.string ⟨#[]⟩) (.string ⟨#[]⟩) 49
              have G4 := Lib.hid (gr_al (o := .cells #[.bool false, .string ⟨#[]⟩, .string ⟨#[]⟩] 49) (gr_then G3.out g1))
              have hne : w.heap.size ≠ w4.heap.size := by have := (T3.kept g1).lt; omega
              have hne2 : w4.heap.size ≠ w.heap.size := fun e => hne e.symm
              clear g1 T3 G3
              have f0 := T4.fr 0
              have f1 := T4.fr 1
              have f2 := T4.fr 2
              have c0 := T4.c0
              have c1 := T4.c1
              have c2 := T4.c2
              go_wp2
              exact bodyPost_ret (v := .tuple #[.agg #[.bool false, .string ⟨#[]⟩, .string ⟨#[]⟩], .bool false]) (by simp [results, Tryz.results67, go_sem, c0, c1, c2]) rfl ⟨rfl, gr_setn (gr_setn (gr_setn G4.out (Nat.le_refl _)) (Nat.le_refl _)) (Nat.le_refl _)⟩
            · have HX := Lib.hid ht
              clear ht
              have HM := Lib.hid hm
              clear hm
              go_wp2_with fail
              refine (HM.out _).mono ?_
              rintro e w4 ⟨rfl, g1⟩
              have T4 := (T3.kept g1).alloc (.cells #[.bool qa, .string qb, .string qc] 49)
              have U4 := Three.new w4 (.bool qa) (.string qb) (.string qc) 49
              have G4 := Lib.hid (gr_al (o := .cells #[.bool qa, .string qb, .string qc] 49) (gr_then G3.out g1))
              have hne : w.heap.size ≠ w4.heap.size := by have := (T3.kept g1).lt; omega
              have hne2 : w4.heap.size ≠ w.heap.size := fun e => hne e.symm
              clear g1 T3 G3
              have u0 := U4.c0
              have u1 := U4.c1
              have u2 := U4.c2
              go_wp2_with fail
              refine (HX.out _).mono ?_
              rintro e w5 ⟨rfl, g1⟩
              have T5 := T4.kept g1
              have U5 := U4.kept g1
              have G5 := Lib.hid (gr_then G4.out g1)
              clear g1 T4 U4 G4 u0 u1 u2
              have u0 := U5.c0
              have u1 := U5.c1
              have u2 := U5.c2
              generalize w4.heap.size = B4 at *
              rcases hcase with ⟨ht, rfl, rfl, rfl, rfl⟩ | ⟨rfl, rfl, rfl, rfl, rfl⟩
              · have f0 := T5.fr 0
                have f1 := T5.fr 1
                have f2 := T5.fr 2
                have c0 := T5.c0
                have c1 := T5.c1
                have c2 := T5.c2
                go_wp2
                exact bodyPost_ret (v := .tuple #[.agg #[.bool false, .string ⟨#[]⟩, .string ⟨#[]⟩], .bool false]) (by simp [results, Tryz.results67, go_sem, c0, c1, c2]) rfl ⟨rfl, gr_setn (gr_setn (gr_setn G5.out (Nat.le_refl _)) (Nat.le_refl _)) (Nat.le_refl _)⟩
              · have f0 := T5.fr 0
                have f1 := T5.fr 1
                have f2 := T5.fr 2
                have c0 := T5.c0
                have c1 := T5.c1
                have c2 := T5.c2
                go_wp2
                exact bodyPost_ret (v := .tuple #[.agg #[.bool a, .string b, .string c], .bool true]) (by simp [results, Tryz.results67, go_sem, c0, c1, c2]) rfl ⟨rfl, gr_setn (gr_setn (gr_setn G5.out (Nat.le_refl _)) (Nat.le_refl _)) (Nat.le_refl _)⟩
        · exact absurd hn (hi2 k hlt)
      · have hm : ((n : Int) == 47) = false := by rw [beq_eq_false_iff_ne]; omega
        go_wp2_with fail
        exact ⟨⟨k + 1, by omega, rfl, rfl, by first | rfl | go_num, Lib.hid (fun j h1 h2 => by
          rcases Nat.lt_or_ge j k with h | h
          · exact HA.out j h1 h
          · obtain rfl : j = k := by omega
            rw [hn]; exact h47), T1, G1.out⟩, by simp [RowKit.intOf]; omega⟩
    · obtain rfl : k = x.size := by omega
      have hcc := HCC.out
      clear HCC
      rcases hcc with ⟨_, i, hi, hi1, _, _, _⟩ | ⟨rfl, _, rfl, rfl⟩
      · exact absurd hi1 (HA.out i hi hi)
      · clear HA
        go_wp2_with fail
        refine (H1.out _).mono ?_
        rintro e w2 ⟨rfl, g1⟩
        have T2 := T1.kept g1
        have G2 := Lib.hid (gr_then G1.out g1)
        clear g1 T1 G1
        go_wp2_with fail
        refine (H2.out _).mono ?_
        rintro e w3 ⟨rfl, g1⟩
        have T3 := T2.kept g1
        have G3 := Lib.hid (gr_then G2.out g1)
        clear g1 T2 G2
        have hcase := HE.out
        clear HE
        rcases hcase with ⟨rfl, rfl, rfl, rfl, rfl⟩ | ⟨rfl, rfl, rfl, rfl, rfl, rfl⟩ | ⟨rfl, rfl, hcase⟩
        · have f0 := T3.fr 0
          have f1 := T3.fr 1
          have f2 := T3.fr 2
          have c0 := T3.c0
          have c1 := T3.c1
          have c2 := T3.c2
          go_wp2
          exact bodyPost_ret (v := .tuple #[.agg #[.bool false, .string ⟨#[]⟩, .string ⟨#[]⟩], .bool false]) (by simp [results, Tryz.results67, go_sem, c0, c1, c2]) rfl ⟨rfl, gr_setn (gr_setn (gr_setn G3.out (Nat.le_refl _)) (Nat.le_refl _)) (Nat.le_refl _)⟩
        · have f0 := T3.fr 0
          have f1 := T3.fr 1
          have f2 := T3.fr 2
          have c0 := T3.c0
          have c1 := T3.c1
          have c2 := T3.c2
          go_wp2
          exact bodyPost_ret (v := .tuple #[.agg #[.bool false, .string ⟨#[]⟩, .string ⟨#[]⟩], .bool false]) (by simp [results, Tryz.results67, go_sem, c0, c1, c2]) rfl ⟨rfl, gr_setn (gr_setn (gr_setn G3.out (Nat.le_refl _)) (Nat.le_refl _)) (Nat.le_refl _)⟩
        · rcases hcase with ⟨hm, rfl, rfl, rfl, rfl⟩ | ⟨qa, qb, qc, t, hm, ht, hcase⟩
          · have HM := Lib.hid hm
            clear hm
            go_wp2_with fail
            refine (HM.out _).mono ?_
            rintro e w4 ⟨rfl, g1⟩
            have T4 := (T3.kept g1).alloc (.cells #[.bool false, .string ⟨#[]⟩, .string ⟨#[]⟩] 49)
            have U4 := Three.new w4 (.bool false) (.string ⟨#[]⟩) (.string ⟨#[]⟩) 49
            have G4 := Lib.hid (gr_al (o := .cells #[.bool false, .string ⟨#[]⟩, .string ⟨#[]⟩] 49) (gr_then G3.out g1))
            have hne : w.heap.size ≠ w4.heap.size := by have := (T3.kept g1).lt; omega
            have hne2 : w4.heap.size ≠ w.heap.size := fun e => hne e.symm
            clear g1 T3 G3
            have f0 := T4.fr 0
            have f1 := T4.fr 1
            have f2 := T4.fr 2
            have c0 := T4.c0
            have c1 := T4.c1
            have c2 := T4.c2
            go_wp2
            exact bodyPost_ret (v := .tuple #[.agg #[.bool false, .string ⟨#[]⟩, .string ⟨#[]⟩], .bool false]) (by simp [results, Tryz.results67, go_sem, c0, c1, c2]) rfl ⟨rfl, gr_setn (gr_setn (gr_setn G4.out (Nat.le_refl _)) (Nat.le_refl _)) (Nat.le_refl _)⟩
          · have HX := Lib.hid ht
            clear ht
            have HM := Lib.hid hm
            clear hm
            go_wp2_with fail
            refine (HM.out _).mono ?_
            rintro e w4 ⟨rfl, g1⟩
            have T4 := (T3.kept g1).alloc (.cells #[.bool qa, .string qb, .string qc] 49)
            have U4 := Three.new w4 (.bool qa) (.string qb) (.string qc) 49
            have G4 := Lib.hid (gr_al (o := .cells #[.bool qa, .string qb, .string qc] 49) (gr_then G3.out g1))
            have hne : w.heap.size ≠ w4.heap.size := by have := (T3.kept g1).lt; omega
            have hne2 : w4.heap.size ≠ w.heap.size := fun e => hne e.symm
            clear g1 T3 G3
            have u0 := U4.c0
            have u1 := U4.c1
            have u2 := U4.c2
            go_wp2_with fail
            refine (HX.out _).mono ?_
            rintro e w5 ⟨rfl, g1⟩
            have T5 := T4.kept g1
            have U5 := U4.kept g1
            have G5 := Lib.hid (gr_then G4.out g1)
            clear g1 T4 U4 G4 u0 u1 u2
            have u0 := U5.c0
            have u1 := U5.c1
            have u2 := U5.c2
            generalize w4.heap.size = B4 at *
            rcases hcase with ⟨ht, rfl, rfl, rfl, rfl⟩ | ⟨rfl, rfl, rfl, rfl, rfl⟩
            · have f0 := T5.fr 0
              have f1 := T5.fr 1
              have f2 := T5.fr 2
              have c0 := T5.c0
              have c1 := T5.c1
              have c2 := T5.c2
              go_wp2
              exact bodyPost_ret (v := .tuple #[.agg #[.bool false, .string ⟨#[]⟩, .string ⟨#[]⟩], .bool false]) (by simp [results, Tryz.results67, go_sem, c0, c1, c2]) rfl ⟨rfl, gr_setn (gr_setn (gr_setn G5.out (Nat.le_refl _)) (Nat.le_refl _)) (Nat.le_refl _)⟩
            · have f0 := T5.fr 0
              have f1 := T5.fr 1
              have f2 := T5.fr 2
              have c0 := T5.c0
              have c1 := T5.c1
              have c2 := T5.c2
              go_wp2
              exact bodyPost_ret (v := .tuple #[.agg #[.bool a, .string b, .string c], .bool true]) (by simp [results, Tryz.results67, go_sem, c0, c1, c2]) rfl ⟨rfl, gr_setn (gr_setn (gr_setn G5.out (Nat.le_refl _)) (Nat.le_refl _)) (Nat.le_refl _)⟩
end Go.Proofs.YteajpefbmiiioaaGreatDoor
namespace Go.Proofs.YteajpefbmiiioaaGreatDoor
open Go.RowKit Mth Go.Lib

set_option maxHeartbeats 4000000 in
set_option maxRecDepth 100000 in
theorem rparse_pos (s x y z : ByteArray) (dv a : Bool) (b c : ByteArray) (o : Bool) (w : World) (hs : s.size ≤ 1000) (h0 : 0 < s.size) (hsg : ¬ s[0].toNat = 45 ∧ s = x) (hc : (dv = true ∧ ∃ i, ∃ h : i < x.size, x[i].toNat = 47 ∧ (∀ j (_ : j < i) (h : j < x.size), x[j].toNat ≠ 47) ∧ x.extract 0 i = y ∧ x.extract (i + 1) x.size = z) ∨ (dv = false ∧ (∀ j (h : j < x.size), x[j].toNat ≠ 47) ∧ y = x ∧ z = ⟨#[49]⟩)) (he : EndsIn s y z false a b c o) :
    Gives 67 #[.string s] w (.tuple #[.agg #[.bool a, .string b, .string c], .bool o]) := by
  obtain ⟨n1, d1, o1, o2, h1, h2, he⟩ := he
  have H1 := Lib.hid h1
  have H2 := Lib.hid h2
  have HE := Lib.hid he
  clear h1 h2 he
  have T0 := Three.new w (.bool false) (.string ⟨#[]⟩) (.string ⟨#[]⟩) 49
  have G0 := Lib.hid (gr_alloc w (.cells #[.bool false, .string ⟨#[]⟩, .string ⟨#[]⟩] 49) none)
  obtain ⟨hc0, rfl⟩ := hsg
  have hxs := hs
  obtain ⟨m0, hm0⟩ : ∃ m0, s[0].toNat = m0 := ⟨_, rfl⟩
  have hm1 : ((m0 : Int) == 45) = false := by rw [beq_eq_false_iff_ne]; omega
  clear hc0
  have hz0 : (0 : Int) < (s.size : Int) := by omega
  have HCC := Lib.hid hc
  clear hc
  go_enter Tryz.func67, Tryz.ntmps67
  go_wp2_with fail
  clear hm1 hm0
  go_loopw [6, 7, 8] (fun a6 a7 v wr => ∃ k : Nat, k ≤ s.size ∧ a6 = .string s ∧ a7 = .string ⟨#[49]⟩ ∧ v = .int .i64 (k : Int) ∧ Hid (∀ j (h : j < s.size), j < k → s[j].toNat ≠ 47) ∧ Three wr w.heap.size (.bool false) (.string ⟨#[]⟩) (.string ⟨#[]⟩) 49 ∧ w.grownBy wr none) (fun _ _ v _ => s.size - (RowKit.intOf v).toNat)
  case atStart => exact ⟨0, by omega, rfl, rfl, rfl, Lib.hid (fun j h1 h2 => by omega), T0, G0.out⟩
  case round =>
    clear T0 G0
    obtain ⟨k, hk, rfl, rfl, rfl, HA, T1, g0⟩ := hrel
    have G1 := Lib.hid g0
    clear g0
    by_cases hlt : k < s.size
    · have hb1 : (k : Int) < (s.size : Int) := by omega
      have k1 : (k : Int) + 1 ≤ 9223372036854775807 := by omega
      obtain ⟨n, hn⟩ : ∃ n, s[k].toNat = n := ⟨_, rfl⟩
      by_cases h47 : n = 47
      · subst h47
        have hlen : k ≤ s.size := hk
        have hlen2 : k + 1 ≤ s.size := hlt
        have hcc := HCC.out
        clear HCC
        rcases hcc with ⟨rfl, i, hi, hi1, hi2, hy, hz⟩ | ⟨_, hi2, _, _⟩
        · have hki : k = i := by
            rcases Nat.lt_trichotomy k i with h | h | h
            · exact absurd hn (hi2 k h hlt)
            · exact h
            · exact absurd hi1 (HA.out i hi h)
          subst hki
          clear hi hi1 hi2 HA
          go_wp2_with fail
          refine (H1.out _).mono ?_
          rintro e w2 ⟨rfl, g1⟩
          have T2 := T1.kept g1
          have G2 := Lib.hid (gr_then G1.out g1)
          clear g1 T1 G1
          go_wp2_with fail
          refine (H2.out _).mono ?_
          rintro e w3 ⟨rfl, g1⟩
          have T3 := T2.kept g1
          have G3 := Lib.hid (gr_then G2.out g1)
          clear g1 T2 G2
          have hcase := HE.out
          clear HE
          rcases hcase with ⟨rfl, rfl, rfl, rfl, rfl⟩ | ⟨rfl, rfl, rfl, rfl, rfl, rfl⟩ | ⟨rfl, rfl, hcase⟩
          · have f0 := T3.fr 0
            have f1 := T3.fr 1
            have f2 := T3.fr 2
            have c0 := T3.c0
            have c1 := T3.c1
            have c2 := T3.c2
            go_wp2
            exact bodyPost_ret (v := .tuple #[.agg #[.bool false, .string ⟨#[]⟩, .string ⟨#[]⟩], .bool false]) (by simp [results, Tryz.results67, go_sem, c0, c1, c2]) rfl ⟨rfl, gr_setn (gr_setn (gr_setn G3.out (Nat.le_refl _)) (Nat.le_refl _)) (Nat.le_refl _)⟩
          · have f0 := T3.fr 0
            have f1 := T3.fr 1
            have f2 := T3.fr 2
            have c0 := T3.c0
            have c1 := T3.c1
            have c2 := T3.c2
            go_wp2
            exact bodyPost_ret (v := .tuple #[.agg #[.bool false, .string ⟨#[]⟩, .string ⟨#[]⟩], .bool false]) (by simp [results, Tryz.results67, go_sem, c0, c1, c2]) rfl ⟨rfl, gr_setn (gr_setn (gr_setn G3.out (Nat.le_refl _)) (Nat.le_refl _)) (Nat.le_refl _)⟩
          · rcases hcase with ⟨hm, rfl, rfl, rfl, rfl⟩ | ⟨qa, qb, qc, t, hm, ht, hcase⟩
            · have HM := Lib.hid hm
              clear hm
              go_wp2_with fail
              refine (HM.out _).mono ?_
              rintro e w4 ⟨rfl, g1⟩
              have T4 := (T3.kept g1).alloc (.cells #[.bool false, .string ⟨#[]⟩, .string ⟨#[]⟩] 49)
              have U4 := Three.new w4 (.bool false) (.string ⟨#[]⟩) (.string ⟨#[]⟩) 49
              have G4 := Lib.hid (gr_al (o := .cells #[.bool false, .string ⟨#[]⟩, .string ⟨#[]⟩] 49) (gr_then G3.out g1))
              have hne : w.heap.size ≠ w4.heap.size := by have := (T3.kept g1).lt; omega
              have hne2 : w4.heap.size ≠ w.heap.size := fun e => hne e.symm
              clear g1 T3 G3
              have f0 := T4.fr 0
              have f1 := T4.fr 1
              have f2 := T4.fr 2
              have c0 := T4.c0
              have c1 := T4.c1
              have c2 := T4.c2
              go_wp2
              exact bodyPost_ret (v := .tuple #[.agg #[.bool false, .string ⟨#[]⟩, .string ⟨#[]⟩], .bool false]) (by simp [results, Tryz.results67, go_sem, c0, c1, c2]) rfl ⟨rfl, gr_setn (gr_setn (gr_setn G4.out (Nat.le_refl _)) (Nat.le_refl _)) (Nat.le_refl _)⟩
            · have HX := Lib.hid ht
              clear ht
              have HM := Lib.hid hm
              clear hm
              go_wp2_with fail
              refine (HM.out _).mono ?_
              rintro e w4 ⟨rfl, g1⟩
              have T4 := (T3.kept g1).alloc (.cells #[.bool qa, .string qb, .string qc] 49)
              have U4 := Three.new w4 (.bool qa) (.string qb) (.string qc) 49
              have G4 := Lib.hid (gr_al (o := .cells #[.bool qa, .string qb, .string qc] 49) (gr_then G3.out g1))
              have hne : w.heap.size ≠ w4.heap.size := by have := (T3.kept g1).lt; omega
              have hne2 : w4.heap.size ≠ w.heap.size := fun e => hne e.symm
              clear g1 T3 G3
              have u0 := U4.c0
              have u1 := U4.c1
              have u2 := U4.c2
              go_wp2_with fail
              refine (HX.out _).mono ?_
              rintro e w5 ⟨rfl, g1⟩
              have T5 := T4.kept g1
              have U5 := U4.kept g1
              have G5 := Lib.hid (gr_then G4.out g1)
              clear g1 T4 U4 G4 u0 u1 u2
              have u0 := U5.c0
              have u1 := U5.c1
              have u2 := U5.c2
              generalize w4.heap.size = B4 at *
              rcases hcase with ⟨ht, rfl, rfl, rfl, rfl⟩ | ⟨rfl, rfl, rfl, rfl, rfl⟩
              · have f0 := T5.fr 0
                have f1 := T5.fr 1
                have f2 := T5.fr 2
                have c0 := T5.c0
                have c1 := T5.c1
                have c2 := T5.c2
                go_wp2
                exact bodyPost_ret (v := .tuple #[.agg #[.bool false, .string ⟨#[]⟩, .string ⟨#[]⟩], .bool false]) (by simp [results, Tryz.results67, go_sem, c0, c1, c2]) rfl ⟨rfl, gr_setn (gr_setn (gr_setn G5.out (Nat.le_refl _)) (Nat.le_refl _)) (Nat.le_refl _)⟩
              · have f0 := T5.fr 0
                have f1 := T5.fr 1
                have f2 := T5.fr 2
                have c0 := T5.c0
                have c1 := T5.c1
                have c2 := T5.c2
                go_wp2
                exact bodyPost_ret (v := .tuple #[.agg #[.bool a, .string b, .string c], .bool true]) (by simp [results, Tryz.results67, go_sem, c0, c1, c2]) rfl ⟨rfl, gr_setn (gr_setn (gr_setn G5.out (Nat.le_refl _)) (Nat.le_refl _)) (Nat.le_refl _)⟩
        · exact absurd hn (hi2 k hlt)
      · have hm : ((n : Int) == 47) = false := by rw [beq_eq_false_iff_ne]; omega
        go_wp2_with fail
        exact ⟨⟨k + 1, by omega, rfl, rfl, by first | rfl | go_num, Lib.hid (fun j h1 h2 => by
          rcases Nat.lt_or_ge j k with h | h
          · exact HA.out j h1 h
          · obtain rfl : j = k := by omega
            rw [hn]; exact h47), T1, G1.out⟩, by simp [RowKit.intOf]; omega⟩
    · obtain rfl : k = s.size := by omega
      have hcc := HCC.out
      clear HCC
      rcases hcc with ⟨_, i, hi, hi1, _, _, _⟩ | ⟨rfl, _, rfl, rfl⟩
      · exact absurd hi1 (HA.out i hi hi)
      · clear HA
        go_wp2_with fail
        refine (H1.out _).mono ?_
        rintro e w2 ⟨rfl, g1⟩
        have T2 := T1.kept g1
        have G2 := Lib.hid (gr_then G1.out g1)
        clear g1 T1 G1
        go_wp2_with fail
        refine (H2.out _).mono ?_
        rintro e w3 ⟨rfl, g1⟩
        have T3 := T2.kept g1
        have G3 := Lib.hid (gr_then G2.out g1)
        clear g1 T2 G2
        have hcase := HE.out
        clear HE
        rcases hcase with ⟨rfl, rfl, rfl, rfl, rfl⟩ | ⟨rfl, rfl, rfl, rfl, rfl, rfl⟩ | ⟨rfl, rfl, hcase⟩
        · have f0 := T3.fr 0
          have f1 := T3.fr 1
          have f2 := T3.fr 2
          have c0 := T3.c0
          have c1 := T3.c1
          have c2 := T3.c2
          go_wp2
          exact bodyPost_ret (v := .tuple #[.agg #[.bool false, .string ⟨#[]⟩, .string ⟨#[]⟩], .bool false]) (by simp [results, Tryz.results67, go_sem, c0, c1, c2]) rfl ⟨rfl, gr_setn (gr_setn (gr_setn G3.out (Nat.le_refl _)) (Nat.le_refl _)) (Nat.le_refl _)⟩
        · have f0 := T3.fr 0
          have f1 := T3.fr 1
          have f2 := T3.fr 2
          have c0 := T3.c0
          have c1 := T3.c1
          have c2 := T3.c2
          go_wp2
          exact bodyPost_ret (v := .tuple #[.agg #[.bool false, .string ⟨#[]⟩, .string ⟨#[]⟩], .bool false]) (by simp [results, Tryz.results67, go_sem, c0, c1, c2]) rfl ⟨rfl, gr_setn (gr_setn (gr_setn G3.out (Nat.le_refl _)) (Nat.le_refl _)) (Nat.le_refl _)⟩
        · rcases hcase with ⟨hm, rfl, rfl, rfl, rfl⟩ | ⟨qa, qb, qc, t, hm, ht, hcase⟩
          · have HM := Lib.hid hm
            clear hm
            go_wp2_with fail
            refine (HM.out _).mono ?_
            rintro e w4 ⟨rfl, g1⟩
            have T4 := (T3.kept g1).alloc (.cells #[.bool false, .string ⟨#[]⟩, .string ⟨#[]⟩] 49)
            have U4 := Three.new w4 (.bool false) (.string ⟨#[]⟩) (.string ⟨#[]⟩) 49
            have G4 := Lib.hid (gr_al (o := .cells #[.bool false, .string ⟨#[]⟩, .string ⟨#[]⟩] 49) (gr_then G3.out g1))
            have hne : w.heap.size ≠ w4.heap.size := by have := (T3.kept g1).lt; omega
            have hne2 : w4.heap.size ≠ w.heap.size := fun e => hne e.symm
            clear g1 T3 G3
            have f0 := T4.fr 0
            have f1 := T4.fr 1
            have f2 := T4.fr 2
            have c0 := T4.c0
            have c1 := T4.c1
            have c2 := T4.c2
            go_wp2
            exact bodyPost_ret (v := .tuple #[.agg #[.bool false, .string ⟨#[]⟩, .string ⟨#[]⟩], .bool false]) (by simp [results, Tryz.results67, go_sem, c0, c1, c2]) rfl ⟨rfl, gr_setn (gr_setn (gr_setn G4.out (Nat.le_refl _)) (Nat.le_refl _)) (Nat.le_refl _)⟩
          · have HX := Lib.hid ht
            clear ht
            have HM := Lib.hid hm
            clear hm
            go_wp2_with fail
            refine (HM.out _).mono ?_
            rintro e w4 ⟨rfl, g1⟩
            have T4 := (T3.kept g1).alloc (.cells #[.bool qa, .string qb, .string qc] 49)
            have U4 := Three.new w4 (.bool qa) (.string qb) (.string qc) 49
            have G4 := Lib.hid (gr_al (o := .cells #[.bool qa, .string qb, .string qc] 49) (gr_then G3.out g1))
            have hne : w.heap.size ≠ w4.heap.size := by have := (T3.kept g1).lt; omega
            have hne2 : w4.heap.size ≠ w.heap.size := fun e => hne e.symm
            clear g1 T3 G3
            have u0 := U4.c0
            have u1 := U4.c1
            have u2 := U4.c2
            go_wp2_with fail
            refine (HX.out _).mono ?_
            rintro e w5 ⟨rfl, g1⟩
            have T5 := T4.kept g1
            have U5 := U4.kept g1
            have G5 := Lib.hid (gr_then G4.out g1)
            clear g1 T4 U4 G4 u0 u1 u2
            have u0 := U5.c0
            have u1 := U5.c1
            have u2 := U5.c2
            generalize w4.heap.size = B4 at *
            rcases hcase with ⟨ht, rfl, rfl, rfl, rfl⟩ | ⟨rfl, rfl, rfl, rfl, rfl⟩
            · have f0 := T5.fr 0
              have f1 := T5.fr 1
              have f2 := T5.fr 2
              have c0 := T5.c0
              have c1 := T5.c1
              have c2 := T5.c2
              go_wp2
              exact bodyPost_ret (v := .tuple #[.agg #[.bool false, .string ⟨#[]⟩, .string ⟨#[]⟩], .bool false]) (by simp [results, Tryz.results67, go_sem, c0, c1, c2]) rfl ⟨rfl, gr_setn (gr_setn (gr_setn G5.out (Nat.le_refl _)) (Nat.le_refl _)) (Nat.le_refl _)⟩
            · have f0 := T5.fr 0
              have f1 := T5.fr 1
              have f2 := T5.fr 2
              have c0 := T5.c0
              have c1 := T5.c1
              have c2 := T5.c2
              go_wp2
              exact bodyPost_ret (v := .tuple #[.agg #[.bool a, .string b, .string c], .bool true]) (by simp [results, Tryz.results67, go_sem, c0, c1, c2]) rfl ⟨rfl, gr_setn (gr_setn (gr_setn G5.out (Nat.le_refl _)) (Nat.le_refl _)) (Nat.le_refl _)⟩
end Go.Proofs.YteajpefbmiiioaaGreatDoor
namespace Go.Proofs.YteajpefbmiiioaaGreatDoor
open Go.RowKit Mth Go.Lib

theorem ba_ext {a b : ByteArray} (h : a.data.toList = b.data.toList) : a = b := by
  cases a; cases b
  simp at h
  rw [h]
theorem ba_len (s : ByteArray) : s.data.toList.length = s.size := rfl
theorem textQ_list (q : Rat) : (textQ q).data.toList = txtL (decide (q.num < 0)) q.num.natAbs q.den := by
  unfold textQ txtL
  by_cases h1 : q.num < 0 <;> by_cases h2 : q.den = 1 <;> simp [h1, h2, ByteArray.data_append]
theorem rw_of {b : Bool} {m n : Nat} {q : Rat} (h : RW b m n = RV q) : mkRat (sg b m) n = q := by
  obtain ⟨h1, h2, h3⟩ := rw_inj h
  have : sg b m = q.num := by
    unfold sg
    rw [h1, h2]
    by_cases h : q.num < 0
    · rw [decide_eq_true h]; simp; omega
    · rw [decide_eq_false h]; simp; omega
  rw [this, h3]
  exact Rat.mkRat_self q
theorem rv_of {b : Bool} {m n : Nat} {q : Rat} (h1 : b = decide (q.num < 0)) (h2 : m = q.num.natAbs) (h3 : n = q.den) : RW b m n = RV q := by
  subst h1 h2 h3; rfl
theorem s_rparse_no (s : ByteArray) (w : World) (hs : s.size ≤ 200) (h : isTxt s.data.toList = false) : Gives 36 #[.string s] w (.tuple #[.string ⟨#[]⟩, .bool false]) := by
  have := s_rparse s w hs
  unfold parsed at this
  rw [if_neg (by rw [h]; exact Bool.false_ne_true)] at this
  exact this
theorem s_rparse_yes (s : ByteArray) (n : Nat) (w : World) (hs : s.size ≤ 200) (h : isTxt s.data.toList = true) (hn : dnum s.data.toList = n) : Gives 36 #[.string s] w (.tuple #[.string (S n), .bool true]) := by
  have := s_rparse s w hs
  unfold parsed at this
  rw [if_pos h, hn] at this
  exact this
theorem s_parse_no (s : ByteArray) (w : World) (hs : s.size ≤ 200) (h : isTxt s.data.toList = false) : Gives 33 #[.string s] w (.tuple #[.string ⟨#[]⟩, .bool false]) := by
  have := s_parse s w hs
  unfold parsed at this
  rw [if_neg (by rw [h]; exact Bool.false_ne_true)] at this
  exact this
theorem some_rparse (s : ByteArray) (hs : s.size ≤ 200) : ∃ (x : ByteArray) (b : Bool), ∀ w, Gives 36 #[.string s] w (.tuple #[.string x, .bool b]) := by
  cases h : isTxt s.data.toList
  · exact ⟨_, _, fun w => s_rparse_no s w hs h⟩
  · exact ⟨_, _, fun w => s_rparse_yes s _ w hs h rfl⟩
theorem rightq_nil (b : Bool) (m : Nat) (w : World) : Gives 58 #[RW b m 0] w (.bool false) := by
  have HM := Lib.hid (fun w => make_nil b m w)
  unfold RW
  rw [show S 0 = ⟨#[]⟩ from s_empty.2 rfl]
  generalize S m = x at *
  have A0 := Three.new w (.bool b) (.string x) (.string ⟨#[]⟩) 49
  go_enter Tryz.func58, Tryz.ntmps58
  go_wp2_with fail
  refine (HM.out _).mono ?_
  rintro e w1 ⟨rfl, g1⟩
  have G1 := Lib.hid (gr_one g1)
  clear g1
  go_wp2
  go_ret
  exact ⟨rfl, gr_al G1.out⟩
theorem rmake_nil (b : Bool) (m : Nat) (w : World) : Gives 54 #[.bool b, .string (S m), .string (S 0)] w (.tuple #[.agg #[.bool false, .string ⟨#[]⟩, .string ⟨#[]⟩], .bool false]) := by
  have HR0 := Lib.hid (s_rright m)
  have HR1 := Lib.hid (s_rright 0)
  have e1 := tl_zero
  have e2 : (S 0).toList.isEmpty = true := by rw [tl_zero]; rfl
  generalize S m = sm at *
  generalize S 0 = sn at *
  have hN := Three.new w (.bool false) (.string ⟨#[]⟩) (.string ⟨#[]⟩) 49
  have f0 := hN.fr 0
  have f1 := hN.fr 1
  have f2 := hN.fr 2
  have k0 := hN.c0
  have k1 := hN.c1
  have k2 := hN.c2
  go_enter Tryz.func54, Tryz.ntmps54
  go_wp2_with fail
  refine (HR0.out _).mono ?_
  rintro e w1 ⟨rfl, rfl⟩
  go_wp2_with fail
  refine (HR1.out _).mono ?_
  rintro e w1 ⟨rfl, rfl⟩
  go_wp2
  exact bodyPost_ret (v := .tuple #[.agg #[.bool false, .string ⟨#[]⟩, .string ⟨#[]⟩], .bool false]) (by simp [results, Tryz.results54, go_sem, k0, k1, k2]) rfl ⟨rfl, gr_al (gr_rfl _)⟩

/-- What both Parse give of a string. -/
def Both (s : ByteArray) : Prop := ∃ (a : Bool) (b c : ByteArray) (o : Bool), (∀ w, Gives 66 #[.string s] w (.tuple #[.agg #[.bool a, .string b, .string c], .bool o])) ∧ (∀ w, Gives 67 #[.string s] w (.tuple #[.agg #[.bool a, .string b, .string c], .bool o])) ∧ (∀ q : Rat, textQ q = s → .agg #[.bool a, .string b, .string c] = RV q ∧ o = true)

theorem both_end (s x y z zr : ByteArray) (neg dv : Bool) (hy : y.size ≤ 100) (hz : zr.size ≤ 100) (hdz : (dv = true ∧ zr = z) ∨ (dv = false ∧ zr = ⟨#[49]⟩))
    (hP : ∀ w, Gives 121 #[.string s, .string ⟨#[45]⟩] w (.tuple #[.string x, .bool neg])) (hC : ∀ w, Gives 122 #[.string x, .string ⟨#[47]⟩] w (.tuple #[.string y, .string z, .bool dv]))
    (hR : ∀ a b c o, EndsIn s y zr neg a b c o → ∀ w, Gives 67 #[.string s] w (.tuple #[.agg #[.bool a, .string b, .string c], .bool o]))
    (hl : s.data.toList = (if neg then [(45 : UInt8)] else []) ++ (y.data.toList ++ (if dv then 47 :: z.data.toList else [])))
    (hn0 : neg = false → (y.data.toList ++ (if dv then 47 :: z.data.toList else [])).head? ≠ some 45) (hY : ¬ (47 : UInt8) ∈ y.data.toList) : Both s := by
  have key : ∀ q : Rat, textQ q = s → neg = decide (q.num < 0) ∧ y.data.toList = decDigits q.num.natAbs ∧ (dv = true → z.data.toList = decDigits q.den ∧ q.den ≠ 1) ∧ (dv = false → q.den = 1) := by
    intro q hq
    have e := textQ_list q
    rw [hq, hl] at e
    exact parts_txt e hn0 hY
  have no_text : ∀ (q : Rat), ¬ textQ q = s → (((textQ q).toList == s.toList) = false) := by
    intro q h
    rw [beq_eq_false_iff_ne]
    intro e
    rw [ByteArray.toList_eq, ByteArray.toList_eq] at e
    exact h (ba_ext e)
  obtain ⟨zx, zb, hzr⟩ := some_rparse zr (by omega)
  cases ty : isTxt y.data.toList
  · refine ⟨false, ⟨#[]⟩, ⟨#[]⟩, false, fun w => ?_, hR _ _ _ _ ⟨⟨#[]⟩, zx, false, zb, fun w => s_rparse_no y w (by omega) ty, hzr, .inl ⟨rfl, rfl, rfl, rfl, rfl⟩⟩, fun q hq => ?_⟩
    · cases dv
      · exact parse_num_bad_false s x y z neg w hP hC (fun w => s_parse_no y w (by omega) ty)
      · exact parse_num_bad_true s x y z neg w hP hC (fun w => s_parse_no y w (by omega) ty)
    · have h := (key q hq).2.1
      rw [h, txt_dec] at ty
      cases ty
  obtain ⟨n, hn⟩ : ∃ n, dnum y.data.toList = n := ⟨_, rfl⟩
  have hyd := dec_txt _ _ rfl ty
  rw [hn] at hyd
  have bn : n < 256 ^ 50 := by rw [← hn]; exact dnum_50 ty (by rw [ba_len]; exact hy)
  have hpy : ∀ w, Gives 33 #[.string y] w (.tuple #[.string (S n), .bool true]) := fun w => parse_at y n w (by omega) ty hn
  have hry : ∀ w, Gives 36 #[.string y] w (.tuple #[.string (S n), .bool true]) := fun w => s_rparse_yes y n w (by omega) ty hn
  -- the end with a denominator that is not 0
  have fin : ∀ (d : Nat), d ≠ 0 → d < 256 ^ 50 → (∀ w, Gives 36 #[.string zr] w (.tuple #[.string (S d), .bool true])) →
      (∀ a b c o, (RW neg n d = RV (mkRat (sg neg n) d) ∧ textQ (mkRat (sg neg n) d) = s ∧ a = neg ∧ b = S n ∧ c = S d ∧ o = true) ∨ (¬ textQ (mkRat (sg neg n) d) = s ∧ a = false ∧ b = ⟨#[]⟩ ∧ c = ⟨#[]⟩ ∧ o = false) → ∀ w, Gives 67 #[.string s] w (.tuple #[.agg #[.bool a, .string b, .string c], .bool o])) := by
    intro d h0 bd hzd a b c o hcase
    obtain ⟨q, hq⟩ : ∃ q, mkRat (sg neg n) d = q := ⟨_, rfl⟩
    rw [hq] at hcase
    have bq : Bd 50 q := by rw [← hq]; exact bd_low h0 bn bd
    have hm : ∀ w, Gives 54 #[.bool neg, .string (S n), .string (S d)] w (.tuple #[.agg #[.bool (decide (q.num < 0)), .string (S q.num.natAbs), .string (S q.den)], .bool true]) := fun w => by
      have := rmake_yes neg n d w h0 (lt_le256 bn (by decide)) (lt_le256 bd (by decide))
      rw [hq] at this
      exact this
    have ht : ∀ w, Gives 65 #[.agg #[.bool (decide (q.num < 0)), .string (S q.num.natAbs), .string (S q.den)]] w (.string (textQ q)) := fun w => rtextq_any q 50 w bq (by decide) (dec_50 bq.1) (dec_50 bq.2)
    refine hR _ _ _ _ ⟨S n, S d, true, true, hry, hzd, .inr (.inr ⟨rfl, rfl, .inr ⟨_, _, _, _, hm, ht, ?_⟩⟩)⟩
    rcases hcase with ⟨h1, h2, h3, h4, h5, h6⟩ | ⟨h2, h3, h4, h5, h6⟩
    · obtain ⟨i1, i2, i3⟩ := rw_inj h1
      exact .inr ⟨h2, by rw [h3, i1], by rw [h4, i2], by rw [h5, i3], h6⟩
    · exact .inl ⟨no_text q h2, h3, h4, h5, h6⟩
  rcases hdz with ⟨rfl, rfl⟩ | ⟨rfl, rfl⟩
  · -- with a denominator
    cases tz : isTxt zr.data.toList
    · refine ⟨false, ⟨#[]⟩, ⟨#[]⟩, false, fun w => parse_den_bad s x y zr neg n w hP hC hpy (fun w => s_parse_no zr w (by omega) tz), hR _ _ _ _ ⟨S n, ⟨#[]⟩, true, false, hry, fun w => s_rparse_no zr w (by omega) tz, .inr (.inl ⟨rfl, rfl, rfl, rfl, rfl, rfl⟩)⟩, fun q hq => ?_⟩
      have h := ((key q hq).2.2.1 rfl).1
      rw [h, txt_dec] at tz
      cases tz
    obtain ⟨d, hd⟩ : ∃ d, dnum zr.data.toList = d := ⟨_, rfl⟩
    have hzd := dec_txt _ _ rfl tz
    rw [hd] at hzd
    have bd : d < 256 ^ 50 := by rw [← hd]; exact dnum_50 tz (by rw [ba_len]; exact hz)
    have hpz : ∀ w, Gives 33 #[.string zr] w (.tuple #[.string (S d), .bool true]) := fun w => parse_at zr d w (by omega) tz hd
    have hrz : ∀ w, Gives 36 #[.string zr] w (.tuple #[.string (S d), .bool true]) := fun w => s_rparse_yes zr d w (by omega) tz hd
    have same : ∀ q : Rat, textQ q = s → RW neg n d = RV q ∧ d ≠ 1 := by
      intro q hq
      obtain ⟨k1, k2, k3, _⟩ := key q hq
      obtain ⟨k4, k5⟩ := k3 rfl
      rw [← hyd] at k2
      rw [← hzd] at k4
      have e2 := dec_inj k2
      have e3 := dec_inj k4
      exact ⟨rv_of k1 e2 e3, by rw [e3]; exact k5⟩
    by_cases h0 : d = 0
    · subst h0
      refine ⟨false, ⟨#[]⟩, ⟨#[]⟩, false, fun w => parse_frac_no s x y zr neg n 0 w hP hC hpy hpz (by decide) (fun w => rightq_nil neg n w), hR _ _ _ _ ⟨S n, S 0, true, true, hry, hrz, .inr (.inr ⟨rfl, rfl, .inl ⟨fun w => rmake_nil neg n w, rfl, rfl, rfl, rfl⟩⟩)⟩, fun q hq => ?_⟩
      have h := (rw_inj (same q hq).1).2.2
      exact absurd h.symm q.den_nz
    by_cases h1 : d = 1
    · subst h1
      have hnt : ¬ textQ (mkRat (sg neg n) 1) = s := fun e => (same _ e).2 rfl
      exact ⟨false, ⟨#[]⟩, ⟨#[]⟩, false, fun w => parse_frac_one s x y zr neg n w hP hC hpy hpz, fin 1 h0 bd hrz _ _ _ _ (.inr ⟨hnt, rfl, rfl, rfl, rfl⟩), fun q hq => absurd rfl (same q hq).2⟩
    by_cases hr : RW neg n d = RV (mkRat (sg neg n) d)
    · have bq : Bd 50 (mkRat (sg neg n) d) := bd_low h0 bn bd
      obtain ⟨i1, i2, i3⟩ := rw_inj hr
      have ht : textQ (mkRat (sg neg n) d) = s := by
        refine ba_ext ?_
        rw [textQ_list, hl, ← i1, ← i2, ← i3]
        unfold txtL
        rw [if_neg h1, hyd, hzd]; rfl
      refine ⟨neg, S n, S d, true, fun w => parse_frac_yes s x y zr neg n d w hP hC hpy hpz h1 (fun w => ?_), fin d h0 bd hrz _ _ _ _ (.inl ⟨hr, ht, rfl, rfl, rfl, rfl⟩), fun q hq => ⟨(same q hq).1, rfl⟩⟩
      rw [hr]; exact right_rv _ 50 w bq (by decide)
    · have hnt : ¬ textQ (mkRat (sg neg n) d) = s := fun e => hr (same _ e).1
      refine ⟨false, ⟨#[]⟩, ⟨#[]⟩, false, fun w => parse_frac_no s x y zr neg n d w hP hC hpy hpz h1 (fun w => rightq_no neg n d 50 w h0 bn bd (by decide) hr), fin d h0 bd hrz _ _ _ _ (.inr ⟨hnt, rfl, rfl, rfl, rfl⟩), fun q hq => ?_⟩
      have e := (same q hq).1
      rw [rw_of e] at hr
      exact absurd e hr
  · -- without one
    have hrz : ∀ w, Gives 36 #[.string ⟨#[49]⟩] w (.tuple #[.string (S 1), .bool true]) := fun w => s_rparse_yes ⟨#[49]⟩ 1 w (by decide) (by decide +kernel) (by decide +kernel)
    have same : ∀ q : Rat, textQ q = s → RW neg n 1 = RV q := by
      intro q hq
      obtain ⟨k1, k2, _, k3⟩ := key q hq
      rw [← hyd] at k2
      exact rv_of k1 (dec_inj k2) (k3 rfl).symm
    by_cases hr : RW neg n 1 = RV (mkRat (sg neg n) 1)
    · have bq : Bd 50 (mkRat (sg neg n) 1) := bd_low (by decide) bn (by decide +kernel)
      obtain ⟨i1, i2, i3⟩ := rw_inj hr
      have ht : textQ (mkRat (sg neg n) 1) = s := by
        refine ba_ext ?_
        rw [textQ_list, hl, ← i1, ← i2, ← i3]
        unfold txtL
        rw [if_pos rfl, hyd]; rfl
      refine ⟨neg, S n, S 1, true, fun w => parse_whole_yes s x y z neg n w hP hC hpy (fun w => ?_), fin 1 (by decide) (by decide +kernel) hrz _ _ _ _ (.inl ⟨hr, ht, rfl, rfl, rfl, rfl⟩), fun q hq => ⟨same q hq, rfl⟩⟩
      rw [hr]; exact right_rv _ 50 w bq (by decide)
    · have hnt : ¬ textQ (mkRat (sg neg n) 1) = s := fun e => hr (same _ e)
      refine ⟨false, ⟨#[]⟩, ⟨#[]⟩, false, fun w => parse_whole_no s x y z neg n w hP hC hpy (fun w => rightq_no neg n 1 50 w (by decide) bn (by decide +kernel) (by decide) hr), fin 1 (by decide) (by decide +kernel) hrz _ _ _ _ (.inr ⟨hnt, rfl, rfl, rfl, rfl⟩), fun q hq => ?_⟩
      have e := same q hq
      rw [rw_of e] at hr
      exact absurd e hr
theorem ext_list (s : ByteArray) (i j : Nat) : (s.extract i j).data.toList = (s.data.toList.drop i).take (j - i) := by
  rw [ByteArray.data_extract, Array.toList_extract, List.extract_eq_take_drop]
theorem get_list (s : ByteArray) (i : Nat) (h : i < s.size) : s.data.toList[i]? = some s[i] := by
  rw [List.getElem?_eq_getElem (by rw [ba_len]; exact h)]; rfl
theorem u8_is {c : UInt8} {n : Nat} (hn : n < 256) : c = UInt8.ofNat n ↔ c.toNat = n := by
  constructor
  · rintro rfl; simp; omega
  · intro h; exact UInt8.toNat_inj.1 (by rw [h]; simp; omega)
theorem both_parse (s : ByteArray) (hs : s.size ≤ 100) : Both s := by
  obtain ⟨neg, hneg⟩ : ∃ neg, Lib.hasPrefix s.data.toList [45] = neg := ⟨_, rfl⟩
  obtain ⟨x, hx⟩ : ∃ x : ByteArray, (⟨(Lib.trimPrefix s.data.toList [45]).toArray⟩ : ByteArray) = x := ⟨_, rfl⟩
  have hxl : x.data.toList = Lib.trimPrefix s.data.toList [45] := by rw [← hx]
  have hP : ∀ w, Gives 121 #[.string s, .string ⟨#[45]⟩] w (.tuple #[.string x, .bool neg]) := fun w => prefix_at s x neg w hx hneg
  have hsx : s.data.toList = (if neg then [(45 : UInt8)] else []) ++ x.data.toList ∧ (neg = false → x = s ∧ x.data.toList.head? ≠ some 45) ∧ (neg = true → ∃ h : 0 < s.size, s[0].toNat = 45 ∧ s.extract 1 s.size = x) := by
    rcases prefix_split s.data.toList with ⟨h1, h2⟩ | ⟨h1, h2, h3⟩
    · rw [h1] at hneg
      subst hneg
      refine ⟨by rw [hxl]; exact h2, (fun e => by cases e), fun _ => ?_⟩
      have hp : 0 < s.size := by rw [← ba_len, h2]; simp
      refine ⟨hp, ?_, ?_⟩
      · have := get_list s 0 hp
        rw [h2] at this
        simp at this
        rw [← this]; rfl
      · refine ba_ext ?_
        rw [ext_list, hxl]
        rw [List.take_of_length_le (by rw [List.length_drop, ba_len]; omega)]
        conv => lhs; rw [h2]
        rfl
    · rw [h1] at hneg
      subst hneg
      exact ⟨by rw [hxl, h2]; rfl, fun _ => ⟨ba_ext (by rw [hxl, h2]), by rw [hxl, h2]; exact h3⟩, fun e => by cases e⟩
  obtain ⟨hl, hn0, hn1⟩ := hsx
  have hxs : x.size ≤ 100 := by
    have := congrArg List.length hl
    rw [List.length_append, ba_len, ba_len] at this
    omega
  -- an empty string
  have href : ∀ (y z : ByteArray) (dv : Bool), ((dv = true ∧ ∃ i, ∃ h : i < x.size, x[i].toNat = 47 ∧ (∀ j (_ : j < i) (h : j < x.size), x[j].toNat ≠ 47) ∧ x.extract 0 i = y ∧ x.extract (i + 1) x.size = z) ∨ (dv = false ∧ (∀ j (h : j < x.size), x[j].toNat ≠ 47) ∧ y = x ∧ z = ⟨#[49]⟩)) → ∀ a b c o, EndsIn s y z neg a b c o → ∀ w, Gives 67 #[.string s] w (.tuple #[.agg #[.bool a, .string b, .string c], .bool o]) := by
    intro y z dv hc a b c o he w
    cases neg
    · obtain ⟨e1, e2⟩ := hn0 rfl
      by_cases h0 : s.size = 0
      · exact rparse_nil s x y z dv a b c o w (by omega) h0 e1.symm hc he
      · refine rparse_pos s x y z dv a b c o w (by omega) (by omega) ⟨fun h => ?_, e1.symm⟩ hc he
        rw [e1] at e2
        apply e2
        rw [List.head?_eq_getElem?, get_list s 0 (by omega), Option.some.injEq]
        exact (u8_is (n := 45) (by decide)).2 h
    · obtain ⟨h, h1, h2⟩ := hn1 rfl
      exact rparse_neg s x y z dv a b c o w (by omega) h ⟨h1, h2⟩ hc he
  have hge := indexByte_ge x.data.toList 47
  rcases Int.lt_or_le (Lib.indexByte x.data.toList 47) 0 with h | h
  · have hi : Lib.indexByte x.data.toList 47 = -1 := by omega
    have hno := indexByte_none hi
    have hY : ¬ (47 : UInt8) ∈ x.data.toList := by
      intro hm
      obtain ⟨j, hj, he⟩ := List.getElem_of_mem hm
      exact hno j (by rw [List.getElem?_eq_getElem hj, he])
    refine both_end s x x ⟨#[]⟩ ⟨#[49]⟩ neg false hxs (by decide) (.inr ⟨rfl, rfl⟩) hP (fun w => cutq_no x w hi) (href x ⟨#[49]⟩ false (.inr ⟨rfl, fun j hj he => ?_, rfl, rfl⟩)) (by rw [hl]; simp) (fun e => ?_) hY
    · apply hno j
      rw [get_list x j hj, Option.some.injEq]
      exact (u8_is (n := 47) (by decide)).2 he
    · have := (hn0 e).2
      simpa using this
  · obtain ⟨i, hi⟩ : ∃ i : Nat, Lib.indexByte x.data.toList 47 = (i : Int) := ⟨(Lib.indexByte x.data.toList 47).toNat, by omega⟩
    obtain ⟨hil, hsp⟩ := index_split hi
    have his := indexByte_some hi
    have hil' : i < x.size := hil
    obtain ⟨y, hy⟩ : ∃ y, x.extract 0 i = y := ⟨_, rfl⟩
    obtain ⟨z, hz⟩ : ∃ z, x.extract (i + 1) x.size = z := ⟨_, rfl⟩
    have hyl : y.data.toList = x.data.toList.take i := by rw [← hy, ext_list]; rfl
    have hzl : z.data.toList = x.data.toList.drop (i + 1) := by
      rw [← hz, ext_list, List.take_of_length_le (by rw [List.length_drop, ba_len]; omega)]
    have hY : ¬ (47 : UInt8) ∈ y.data.toList := by
      intro hm
      rw [hyl] at hm
      obtain ⟨j, hj, he⟩ := List.getElem_of_mem hm
      have hji : j < i := by rw [List.length_take] at hj; omega
      refine his.2 j hji ?_
      rw [List.getElem_take] at he
      rw [List.getElem?_eq_getElem (by omega), he]
    refine both_end s x y z z neg true (by rw [← hy, ByteArray.size_extract]; omega) (by rw [← hz, ByteArray.size_extract]; omega) (.inl ⟨rfl, rfl⟩) hP (fun w => by have := cutq_yes x i w hi hil' (by omega); rw [hy, hz] at this; exact this) (href y z true (.inl ⟨rfl, i, hil', ?_, ?_, hy, hz⟩)) ?_ (fun e => ?_) hY
    · have := his.1
      rw [get_list x i hil', Option.some.injEq] at this
      exact (u8_is (n := 47) (by decide)).1 this
    · intro j hji hj he
      refine his.2 j hji ?_
      rw [get_list x j hj, Option.some.injEq]
      exact (u8_is (n := 47) (by decide)).2 he
    · rw [hl, hyl, hzl]
      conv => lhs; rw [hsp]
      simp
    · have := (hn0 e).2
      rw [hyl, hzl]
      rw [hsp] at this
      simpa using this
end Go.Proofs.YteajpefbmiiioaaGreatDoor
namespace Go.Proofs.YteajpefbmiiioaaGreatDoor
open Go.ChangeShapes Go.WideShapes Go.ChangeAt Go.RowKit Mth

theorem wf_i64 {n : Int} (h : (Lit.int .i64 n).wf = true) : -9223372036854775808 ≤ n ∧ n ≤ 9223372036854775807 := by
  have a1 : IntKind.i64.min = -9223372036854775808 := rfl
  have a2 : IntKind.i64.max = 9223372036854775807 := rfl
  simpa [Lit.wf, a1, a2] using h
set_option maxRecDepth 100000 in
/-- An argument that is an array of 3 numbers. -/
theorem arr3_arg {P : Program} {k : IntKind} {t e : TypeId} (ht : P.underlying t = some (.array 3 e)) (he : P.underlying e = some (.int k)) (hc : P.cellsOf t = 3) (hce : P.cellsOf e = 1) {H : Type} {enc : TypeId × Value → H} {W : World} {base : Nat} {v : Value} {d : DataW H} {p : List MemPlace} (hok : Value.okWide P W .any base t v) (h : DataW.Trod enc P W 0 (fun _ => true) true t v d p) : ∃ a0 a1 a2 : Int, v = .agg #[.int k a0, .int k a1, .int k a2] ∧ (Lit.int k a0).wf = true ∧ (Lit.int k a1).wf = true ∧ (Lit.int k a2).wf = true := by
  simp only [Value.okWide, ht] at hok
  obtain ⟨cs, rfl, hsz, _⟩ := hok
  obtain ⟨fuel, hf⟩ := h
  rw [hc] at hsz
  obtain ⟨x0, x1, x2, rfl⟩ : ∃ x0 x1 x2, cs = #[x0, x1, x2] := by
    rcases cs with ⟨l⟩
    match l, hsz with
    | [x0, x1, x2], _ => exact ⟨x0, x1, x2, rfl⟩
  obtain ⟨xs, m, _, _, _, hlen, hf2⟩ := DataW.trod_array ht hf
  have h0 := hf2 0 (by decide)
  have h1 := hf2 1 (by decide)
  have h2 := hf2 2 (by decide)
  rw [hce] at h0 h1 h2
  match xs, hlen with
  | [y0, y1, y2], _ =>
    obtain ⟨a0, e0, _, w0⟩ := DataW.trod_int he (x := y0) (by simpa using h0)
    obtain ⟨a1, e1, _, w1⟩ := DataW.trod_int he (x := y1) (by simpa using h1)
    obtain ⟨a2, e2, _, w2⟩ := DataW.trod_int he (x := y2) (by simpa using h2)
    simp [Value.cells] at e0 e1 e2
    exact ⟨a0, a1, a2, by rw [e0, e1, e2], w0, w1, w2⟩
end Go.Proofs.YteajpefbmiiioaaGreatDoor
namespace Go.Proofs.YteajpefbmiiioaaGreatDoor
open Go.ChangeShapes Go.WideShapes Go.ChangeAt Go.RowKit Mth

theorem arr2_arg {P : Program} {k : IntKind} {t e : TypeId} (ht : P.underlying t = some (.array 2 e)) (he : P.underlying e = some (.int k)) (hc : P.cellsOf t = 2) (hce : P.cellsOf e = 1) {H : Type} {enc : TypeId × Value → H} {W : World} {base : Nat} {v : Value} {d : DataW H} {p : List MemPlace} (hok : Value.okWide P W .any base t v) (h : DataW.Trod enc P W 0 (fun _ => true) true t v d p) : ∃ a0 a1 : Int, v = .agg #[.int k a0, .int k a1] ∧ (Lit.int k a0).wf = true ∧ (Lit.int k a1).wf = true := by
  simp only [Value.okWide, ht] at hok
  obtain ⟨cs, rfl, hsz, _⟩ := hok
  obtain ⟨fuel, hf⟩ := h
  rw [hc] at hsz
  obtain ⟨x0, x1, rfl⟩ : ∃ x0 x1, cs = #[x0, x1] := by
    rcases cs with ⟨l⟩
    match l, hsz with
    | [x0, x1], _ => exact ⟨x0, x1, rfl⟩
  obtain ⟨xs, m, _, _, _, hlen, hf2⟩ := DataW.trod_array ht hf
  have h0 := hf2 0 (by decide)
  have h1 := hf2 1 (by decide)
  rw [hce] at h0 h1
  match xs, hlen with
  | [y0, y1], _ =>
    obtain ⟨a0, e0, _, w0⟩ := DataW.trod_int he (x := y0) (by simpa using h0)
    obtain ⟨a1, e1, _, w1⟩ := DataW.trod_int he (x := y1) (by simpa using h1)
    simp [Value.cells] at e0 e1
    exact ⟨a0, a1, by rw [e0, e1], w0, w1⟩
end Go.Proofs.YteajpefbmiiioaaGreatDoor
namespace Go.Proofs.YteajpefbmiiioaaGreatDoor
open Go.RowKit Mth Go.Lib

theorem dec_16 {n : Nat} (h : n < 256 ^ 16) : (decDigits n).length ≤ 39 :=
  dec_le n 39 (by decide) (Nat.lt_of_lt_of_le h (by decide +kernel : (256 : Nat) ^ 16 ≤ 10 ^ 39))
theorem textQ_size (q : Rat) (h : Bd 16 q) : 1 ≤ (textQ q).size ∧ (textQ q).size ≤ 80 := by
  rw [← ba_len, textQ_list]
  unfold txtL
  have h1 := dec_16 h.1
  have h2 := dec_16 h.2
  have h3 := dec_pos q.num.natAbs
  rw [List.length_append, List.length_append]
  constructor
  · omega
  · have e1 : (if decide (q.num < 0) = true then [(45 : UInt8)] else []).length ≤ 1 := by split <;> simp
    have e2 : (if q.den = 1 then [] else 47 :: decDigits q.den).length ≤ 40 := by split <;> simp <;> omega
    omega
def Strs (b : Nat) (w : World) : Prop := ∀ j, j < 3 → ∃ t : ByteArray, w.cell? ⟨b, j, none⟩ = some (.string t) ∧ t.size ≤ 100
theorem Strs.kept {b : Nat} {w w1 : World} (h : Strs b w) (hg : w.grownBy w1 none) : Strs b w1 := fun j hj => by
  obtain ⟨t, h1, h2⟩ := h j hj
  exact ⟨t, hg.cell h1 (by simp), h2⟩
theorem strs_of (w : World) (x y z : ByteArray) (t : TypeId) (hx : x.size ≤ 100) (hy : y.size ≤ 100) (hz : z.size ≤ 100) : Strs w.heap.size (w.alloc (.cells #[.string x, .string y, .string z] t)) := by
  have key : ∀ (ys : Array Value) (j : Nat), (w.alloc (.cells ys t)).cell? ⟨w.heap.size, j, none⟩ = ys[j]? := fun ys j => cell_of_row _ w.heap.size j ys t (0, 0) (heap_alloc_new w _)
  intro j hj
  rcases (show j = 0 ∨ j = 1 ∨ j = 2 by omega) with rfl | rfl | rfl
  · exact ⟨x, by rw [key]; rfl, hx⟩
  · exact ⟨y, by rw [key]; rfl, hy⟩
  · exact ⟨z, by rw [key]; rfl, hz⟩
theorem Strs.drew {b : Nat} {w : World} (h : Strs b w) : Strs b w.drew := h
theorem two_at (w : World) (o : Obj) (j : Nat) (ys : Array Value) (t : TypeId) : ((w.alloc o).alloc (.cells ys t)).cell? ⟨w.heap.size + 1, j, none⟩ = ys[j]? := by
  have h : ((w.alloc o).alloc (.cells ys t)).heap[w.heap.size + 1]? = some (.cells ys t (0, 0)) := by
    have := heap_alloc_new (w.alloc o) (.cells ys t)
    rwa [show (w.alloc o).heap.size = w.heap.size + 1 from by simp] at this
  exact cell_of_row ((w.alloc o).alloc (.cells ys t)) (w.heap.size + 1) j ys t (0, 0) h
theorem one_byte (G c : Nat) (w1 : World) (h : w1.cell? ⟨G, 0, none⟩ = some (.int .u8 (c : Int))) : (convert 22 9 (.slice (some ⟨G, 0, none⟩) 1 1)).run Tryz.prog w1 = .ok (.string (strOfNums [(c : Int)])) w1 :=
  run_convert_bytes_arg (P := Tryz.prog) w1 22 5 Tryz.underlying22 Tryz.underlying5 G 0 1 1 [(c : Int)] rfl (fun i hi => by
    obtain rfl : i = 0 := by omega
    exact h) 9 Tryz.underlying9
set_option maxHeartbeats 16000000 in
set_option maxRecDepth 100000 in
theorem textsq_true (q0 q1 q2 : Int) (raw : ByteArray) (z0 z1 : Int) (W : World) (htab : Tab W) (h0 : -9223372036854775808 ≤ q0 ∧ q0 ≤ 9223372036854775807) (h1 : -9223372036854775808 ≤ q1 ∧ q1 ≤ 9223372036854775807) (h2 : -9223372036854775808 ≤ q2 ∧ q2 ≤ 9223372036854775807) (_hraw : raw.size ≤ maxLen) (hz : -9223372036854775808 ≤ z0 ∧ z0 ≤ 9223372036854775807) (_hz1 : -9223372036854775808 ≤ z1 ∧ z1 ≤ 9223372036854775807) :
    Gives 13 #[.agg #[.int .i64 q0, .int .i64 q1, .int .i64 q2], .string raw, .agg #[.int .i64 z0, .int .i64 z1]] W (.bool true) := by
  obtain ⟨p, bp, mp⟩ := madeq_any q0 q1 q2 h0 h1 h2
  clear h0 h1 h2
  unfold MadeQ at mp
  have d1 := dec_16 bp.1
  have d2 := dec_16 bp.2
  have htx := fun w h => textq_any p 16 w h bp (by decide) (by omega) (by omega)
  have hrx := fun w => rtextq_any p 16 w bp (by decide) (by omega) (by omega)
  obtain ⟨zT1, zT2⟩ := textQ_size p bp
  obtain ⟨pb, pc, pd, po, hpb, _, hpq⟩ := both_parse (textQ p) (by omega)
  obtain ⟨e1, e2⟩ := hpq p rfl
  rw [e1, e2] at hpb
  clear e1 e2 hpq d1 d2 bp
  generalize textQ p = T at *
  obtain ⟨pa, px, py, ep⟩ : ∃ (a : Bool) (x y : ByteArray), RV p = .agg #[.bool a, .string x, .string y] := ⟨_, _, _, rfl⟩
  rw [ep] at htx hrx hpb
  simp only [ep] at mp
  have MP := Lib.hid mp
  have HTX := Lib.hid htx
  have HRX := Lib.hid hrx
  have HPB := Lib.hid hpb
  have HS0 := Lib.hid (sanityq_true)
  have HT := Lib.hid htab
  have HMD := Lib.hid (fun w => mod_at z0 (T.size : Int) w (by omega) (by omega) hz.1 hz.2)
  have hk := mod_lt z0 (T.size : Int) (by omega)
  obtain ⟨k, hk0⟩ : ∃ k : Nat, (z0 % (T.size : Int)).toNat = k := ⟨_, rfl⟩
  rw [hk0] at HMD hk
  have hkl : k < T.size := by omega
  obtain ⟨c, hc1, hc2⟩ : ∃ c : Nat, IntKind.u8.wrap z1 = (c : Int) ∧ c < 256 := by
    have hh : IntKind.u8.wrap z1 = z1 % 256 := rfl
    exact ⟨(z1 % 256).toNat, by rw [hh]; omega, by omega⟩
  have hc3 : z1 % 256 = (c : Int) := hc1
  clear htab mp htx hrx hpb ep hk hk0 hz p
  have A0 := (Three.new W (.int .i64 q0) (.int .i64 q1) (.int .i64 q2) 47).alloc (.cells #[.int .i64 z0, .int .i64 z1] 73)
  have D0 : ((W.alloc (.cells #[.int .i64 q0, .int .i64 q1, .int .i64 q2] 47)).alloc (.cells #[.int .i64 z0, .int .i64 z1] 73)).cell? ⟨W.heap.size + 1, 0, none⟩ = some (.int .i64 z0) := by
    exact two_at W _ 0 _ _
  have D1 : ((W.alloc (.cells #[.int .i64 q0, .int .i64 q1, .int .i64 q2] 47)).alloc (.cells #[.int .i64 z0, .int .i64 z1] 73)).cell? ⟨W.heap.size + 1, 1, none⟩ = some (.int .i64 z1) := by
    exact two_at W _ 1 _ _
  have G0 := Lib.hid (gr_al (o := .cells #[.int .i64 z0, .int .i64 z1] 73) (gr_al (o := .cells #[.int .i64 q0, .int .i64 q1, .int .i64 q2] 47) (gr_rfl W)))
  go_enter Tryz.func13, Tryz.ntmps13
  go_wp2_with fail
  refine (HS0.out _ (tab_gr HT.out G0.out)).mono ?_
  rintro e w1 ⟨rfl, g1⟩
  have A1 := A0.kept g1
  have D0 := g1.cell D0 (by simp)
  have D1 := g1.cell D1 (by simp)
  have G1 := Lib.hid (gr_then G0.out g1)
  have c0 := A1.c0
  have c1 := A1.c1
  have c2 := A1.c2
  clear g1 A0 G0
  generalize W.heap.size + 1 = bD at *
  go_wp2_with fail
  refine (MP.out _).mono ?_
  rintro e w2 ⟨rfl, g1⟩
  have KP := Three.new w2 (.bool pa) (.string px) (.string py) 49
  have D0 := (gr_al (o := .cells #[.bool pa, .string px, .string py] 49) g1).cell D0 (by simp)
  have D1 := (gr_al (o := .cells #[.bool pa, .string px, .string py] 49) g1).cell D1 (by simp)
  have G2 := Lib.hid (gr_al (o := .cells #[.bool pa, .string px, .string py] 49) (gr_then G1.out g1))
  clear g1 A1 c0 c1 c2 G1
  have p0 := KP.c0
  have p1 := KP.c1
  have p2 := KP.c2
  go_wp2_with fail
  refine (HTX.out _ (tab_gr HT.out G2.out)).mono ?_
  rintro e w3 ⟨rfl, g1⟩
  have KP3 := KP.kept g1
  have D0 := g1.cell D0 (by simp)
  have D1 := g1.cell D1 (by simp)
  have G3 := Lib.hid (gr_then G2.out g1)
  clear g1 KP G2 p0 p1 p2
  generalize w2.heap.size = bP at *
  have p0 := KP3.c0
  have p1 := KP3.c1
  have p2 := KP3.c2
  have hlen : ((T.size : Int) == 0) = false := by rw [beq_eq_false_iff_ne]; omega
  go_wp2_with fail
  refine (HRX.out _).mono ?_
  rintro e w4 ⟨rfl, g1⟩
  have KP4 := KP3.kept g1
  have D0 := g1.cell D0 (by simp)
  have D1 := g1.cell D1 (by simp)
  have G4 := Lib.hid (gr_then G3.out g1)
  clear g1 KP3 G3 p0 p1 p2
  have hTne : ¬ T.toList = [] := by
    rw [ByteArray.toList_eq]
    intro h
    have : T.data.toList.length = 0 := by rw [h]; rfl
    rw [ba_len] at this
    omega
  have hTem : T.toList.isEmpty = false := by
    cases hTl : T.toList with
    | nil => exact absurd hTl hTne
    | cons _ _ => rfl
  go_wp2_with fail
  refine (HPB.out _).mono ?_
  rintro e w5 ⟨rfl, g1⟩
  have KB5 := Three.new w5 (.bool pa) (.string px) (.string py) 49
  have KP5 := (KP4.kept g1).alloc (.cells #[.bool pa, .string px, .string py] 49)
  have D0 := (gr_al (o := .cells #[.bool pa, .string px, .string py] 49) g1).cell D0 (by simp)
  have D1 := (gr_al (o := .cells #[.bool pa, .string px, .string py] 49) g1).cell D1 (by simp)
  have G5 := Lib.hid (gr_al (o := .cells #[.bool pa, .string px, .string py] 49) (gr_then G4.out g1))
  clear g1 KP4 G4
  go_wp2_with fail
  refine (HMD.out _).mono ?_
  rintro e w7 ⟨rfl, rfl⟩
  clear hlen hTne hTem
  have hki : ((k : Nat) : Int) < (T.size : Int) := by omega
  have hk1 : IntKind.i64.wrap ((k : Int) + 1) = (k : Int) + 1 := IntWalk.i64_in _ (by omega)
  have hm1 : (min (raw.size : Int) 40) = ((min raw.size 40 : Nat) : Int) := by omega
  obtain ⟨m, hm⟩ : ∃ m : Nat, min raw.size 40 = m := ⟨_, rfl⟩
  rw [hm] at hm1
  have hm2 : m ≤ raw.size := by omega
  have hm3 : m ≤ 40 := by omega
  obtain ⟨c1s, hc1s⟩ : ∃ t : ByteArray, strOfNums [(c : Int)] = t := ⟨_, rfl⟩
  have zc : c1s.size = 1 := by rw [← hc1s]; rfl
  go_wp2_with fail
  go_cut [13] from 43 to 64 (fun u wx => ∃ a : Nat, u = .pointer (some ⟨a, 0, none⟩) ∧ Strs a wx ∧ Three wx bP (.bool pa) (.string px) (.string py) 49 ∧ Three wx w5.heap.size (.bool pa) (.string px) (.string py) 49 ∧ W.grownBy wx none)
  case first =>
    have e1 := one_byte (w5.heap.size + 1) c ((w5.alloc (.cells #[.bool pa, .string px, .string py] 49)).alloc (.cells #[.int .u8 (c : Int)] 5)).drew (by simp)
    have e2 := one_byte (w5.heap.size + 1) c (((w5.alloc (.cells #[.bool pa, .string px, .string py] 49)).alloc (.cells #[.int .u8 (c : Int)] 5)).alloc (.cells #[.string ⟨#[]⟩, .string ⟨#[]⟩, .string ⟨#[]⟩] 76)).drew (by
      have := (gr_alloc ((w5.alloc (.cells #[.bool pa, .string px, .string py] 49)).alloc (.cells #[.int .u8 (c : Int)] 5)) (.cells #[.string ⟨#[]⟩, .string ⟨#[]⟩, .string ⟨#[]⟩] 76) none).cell (cell_of_row ((w5.alloc (.cells #[.bool pa, .string px, .string py] 49)).alloc (.cells #[.int .u8 (c : Int)] 5)) _ 0 _ 5 (0, 0) (heap_alloc_new (w5.alloc (.cells #[.bool pa, .string px, .string py] 49)) _)) (by simp)
      simpa using this)
    have e3 := one_byte (w5.heap.size + 1 + 1) c (((w5.alloc (.cells #[.bool pa, .string px, .string py] 49)).alloc (.cells #[.string ⟨#[]⟩, .string ⟨#[]⟩, .string ⟨#[]⟩] 76)).alloc (.cells #[.int .u8 (c : Int)] 5)).drew (by
      have := cell_of_row (((w5.alloc (.cells #[.bool pa, .string px, .string py] 49)).alloc (.cells #[.string ⟨#[]⟩, .string ⟨#[]⟩, .string ⟨#[]⟩] 76)).alloc (.cells #[.int .u8 (c : Int)] 5)) _ 0 _ 5 (0, 0) (heap_alloc_new ((w5.alloc (.cells #[.bool pa, .string px, .string py] 49)).alloc (.cells #[.string ⟨#[]⟩, .string ⟨#[]⟩, .string ⟨#[]⟩] 76)) _)
      simpa using this)
    have D2 := (gr_alloc (w5.alloc (.cells #[.bool pa, .string px, .string py] 49)) (.cells #[.string ⟨#[]⟩, .string ⟨#[]⟩, .string ⟨#[]⟩] 76) none).cell D1 (by simp)
    have D3 : (w5.alloc (.cells #[.bool pa, .string px, .string py] 49)).drew.cell? ⟨bD, 1, none⟩ = some (.int .i64 z1) := D1
    have D4 : ((w5.alloc (.cells #[.bool pa, .string px, .string py] 49)).alloc (.cells #[.string ⟨#[]⟩, .string ⟨#[]⟩, .string ⟨#[]⟩] 76)).drew.cell? ⟨bD, 1, none⟩ = some (.int .i64 z1) := D2
    rw [hc1s] at e1 e2 e3
    obtain ⟨ta, hta⟩ : ∃ t, T.extract 0 k = t := ⟨_, rfl⟩
    obtain ⟨tb, htb⟩ : ∃ t, T.extract (k + 1) T.size = t := ⟨_, rfl⟩
    obtain ⟨R, hR⟩ : ∃ t, raw.extract 0 m = t := ⟨_, rfl⟩
    obtain ⟨tc, htc⟩ : ∃ t, ta ++ c1s = t := ⟨_, rfl⟩
    have za : ta.size ≤ k := by rw [← hta, ByteArray.size_extract]; omega
    have zb : tb.size + (k + 1) ≤ T.size := by rw [← htb, ByteArray.size_extract]; omega
    have zr : R.size ≤ 40 := by rw [← hR, ByteArray.size_extract]; omega
    have ztc : tc.size ≤ k + 1 := by rw [← htc, ByteArray.size_append]; omega
    have b1 : ¬ 9223372036854775807 < ta.size + c1s.size := by omega
    have b2 : ¬ 9223372036854775807 < tc.size + tb.size := by omega
    have b3 : ¬ 9223372036854775807 < 1 + T.size := by omega
    have b4 : (k : Int) ≤ (T.size : Int) := by omega
    have b5 : (k : Int) + 1 ≤ (T.size : Int) := by omega
    have b6 : (0 : Int) ≤ (k : Int) := by omega
    have b7 : (0 : Int) ≤ (k : Int) + 1 := by omega
    have b8 : ((k : Int) + 1).toNat = k + 1 := by omega
    have b9 : (m : Int) ≤ (raw.size : Int) := by omega
    have b10 : (0 : Int) ≤ (m : Int) := by omega
    have ks := strs_of ((w5.alloc (.cells #[.bool pa, .string px, .string py] 49)).alloc (.cells #[.int .u8 (c : Int)] 5)) R (tc ++ tb) (⟨#[48]⟩ ++ T) 76 (by omega) (by rw [ByteArray.size_append]; omega) (by rw [ByteArray.size_append]; show 1 + T.size ≤ _; omega)
    rw [show ((w5.alloc (.cells #[.bool pa, .string px, .string py] 49)).alloc (.cells #[.int .u8 (c : Int)] 5)).heap.size = w5.heap.size + 1 + 1 from by simp] at ks
    have kt := (strs_of (w5.alloc (.cells #[.bool pa, .string px, .string py] 49)) R (tc ++ tb) (⟨#[48]⟩ ++ T) 76 (by omega) (by rw [ByteArray.size_append]; omega) (by rw [ByteArray.size_append]; show 1 + T.size ≤ _; omega)).kept (gr_alloc _ (.cells #[.int .u8 (c : Int)] 5) none)
    rw [show (w5.alloc (.cells #[.bool pa, .string px, .string py] 49)).heap.size = w5.heap.size + 1 from by simp] at kt
    have KS := Lib.hid ks.drew
    have KT := Lib.hid kt.drew
    clear ks kt
    clear D0 hkl hki zT1 hm hc2 hm2 hm3 zc hc1s
    go_region
    all_goals
      go_wp2_with fail
      go_meet
      refine ⟨_, rfl, ?_, ?_, ?_, ?_⟩
      · first | exact KS.out | exact KT.out
      · exact ((KP5.alloc _).alloc _).drew
      · exact ((KB5.alloc _).alloc _).drew
      · exact gr_dr (gr_al (gr_al G5.out))
  case rest =>
    obtain ⟨ar, rfl, HSA, KP6, KB6, G6⟩ := hcut
    clear D0 D1 KP5 KB5 G5 hkl hki zT1 hm hc2 hm2 hm3 zc hc1s hc1 hc3 hk1 hm1
    generalize w5.heap.size = bB at *
    go_wp2_with fail
    go_loopw [14] (fun u wx => ∃ j : Nat, j ≤ 3 ∧ u = .int .i64 (j : Int) ∧ Strs ar wx ∧ Three wx bP (.bool pa) (.string px) (.string py) 49 ∧ Three wx bB (.bool pa) (.string px) (.string py) 49 ∧ W.grownBy wx none) (fun u _ => 3 - (RowKit.intOf u).toNat)
    case atStart => exact ⟨0, by omega, rfl, HSA, KP6, KB6, G6⟩
    case round =>
      clear HSA KP6 KB6 G6
      obtain ⟨j, hj, rfl, HSJ, KPJ, KBJ, GJ⟩ := hrel
      by_cases hlt : j < 3
      · obtain ⟨t, ct, zt⟩ := HSJ j hlt
        obtain ⟨ra, rb, rc, ro, hb1, hb2, _⟩ := both_parse t zt
        have HB1 := Lib.hid hb1
        have HB2 := Lib.hid hb2
        have HG := Lib.hid GJ
        have HS := Lib.hid HSJ
        clear hb1 hb2 GJ HSJ
        go_wp2_with fail
        refine (HB1.out _).mono ?_
        rintro e v1 ⟨rfl, g1⟩
        have ct := (gr_al (o := .cells #[.bool ra, .string rb, .string rc] 49) g1).cell ct (by simp)
        have T1 := Three.new v1 (.bool ra) (.string rb) (.string rc) 49
        go_wp2_with fail
        refine (HB2.out _).mono ?_
        rintro e v2 ⟨rfl, g2⟩
        have T1 := (T1.kept g2).alloc (.cells #[.bool ra, .string rb, .string rc] 49)
        have T2 := Three.new v2 (.bool ra) (.string rb) (.string rc) 49
        have gg := Lib.hid (gr_al (o := .cells #[.bool ra, .string rb, .string rc] 49) (gr_then (gr_al (o := .cells #[.bool ra, .string rb, .string rc] 49) g1) g2))
        clear ct g1 g2
        have x0 := T1.c0
        have x1 := T1.c1
        have x2 := T1.c2
        have y0 := T2.c0
        have y1 := T2.c1
        have y2 := T2.c2
        go_wp2
        exact ⟨⟨j + 1, by omega, by first | rfl | go_num, HS.out.kept gg.out, KPJ.kept gg.out, KBJ.kept gg.out, gr_then HG.out gg.out⟩, by simp [RowKit.intOf]; omega⟩
      · obtain rfl : j = 3 := by omega
        have x0 := KPJ.c0
        have x1 := KPJ.c1
        have x2 := KPJ.c2
        have y0 := KBJ.c0
        have y1 := KBJ.c1
        have y2 := KBJ.c2
        clear HSJ
        go_wp2
        go_ret
        exact ⟨rfl, GJ⟩
end Go.Proofs.YteajpefbmiiioaaGreatDoor
namespace Go.Proofs.YteajpefbmiiioaaGreatDoor
open Go.ChangeShapes Go.WideShapes Go.ChangeAt Go.RowKit Mth

set_option maxRecDepth 1000000 in
theorem textsq_laid (os : Os) (args : Array Value) : laidMet Tryz.prog Rows.ratioTextsRow.laid ((laidWorld os).forCall (fun _ _ => 0) ⟨#[], args, []⟩).memory :=
  have h : LaidIn Tryz.prog ((laidWorld os).forCall (fun _ _ => 0) ⟨#[], args, []⟩).memory Rows.ratioTextsRow.laid [4, 5, 2] :=
    LaidIn.of_run [4, 5, 2] 8 (by kernel_rfl) (by kernel_rfl) (by kernel_rfl) (by kernel_rfl)
  h.met
theorem textsq_tab {w : World} (h : laidMet Tryz.prog Rows.ratioTextsRow.laid w) : Tab w :=
  Lib.tabIs_of_head (g := 2) (t := 178) (e := 96) (n := 20) (by kernel_rfl) (by kernel_rfl) (by kernel_rfl) (by kernel_rfl) (by kernel_rfl) (by kernel_rfl) (show laidMet Tryz.prog [("internal/strconv.uint64pow10", Lib.tabData .u64 Lib.pow10Tab)] w from h.tail.tail)

set_option maxRecDepth 1000000 in
set_option maxHeartbeats 4000000 in
theorem textsq_lifted (os : Os) (started : os.Started) (H : Type) (enc : TypeId × Value → H) :
    ReturnsInHanded {} Tryz.checked os 13 .any (fun w args => (Rows.ratioTextsSpec.pre enc Tryz.prog Tryz.f13 Rows.ratioTextsRow.domain false w args ∧ laidMet Tryz.prog Rows.ratioTextsRow.laid w) ∧ sizedMet enc Tryz.prog Tryz.f13 (OpenSpec.ofChange Rows.ratioTextsSpec) false w args)
      (Rows.ratioTextsSpec.post enc Tryz.prog Tryz.f13 false true false false) := by
  refine returnsInHanded_of_change_and (C := Tryz.checked) (X := fun w _ => laidMet Tryz.prog Rows.ratioTextsRow.laid w) (fun _ _ _ hh h => h.of_heap hh) own0 started (by kernel_rfl) Tryz.func13
    (ChangeSpec.witness_at (enc := enc) (C := Tryz.checked) (os := os) (X := fun w _ => laidMet Tryz.prog Rows.ratioTextsRow.laid w) false (laidWorld os) #[.agg #[.int .i64 0, .int .i64 0, .int .i64 0], .string ⟨#[]⟩, .agg #[.int .i64 0, .int .i64 0]] 8 rfl (by kernel_rfl) (by kernel_rfl) (by kernel_rfl) (by kernel_rfl) (by kernel_rfl) (textsq_laid os _)) ?_
  intro W base args ds gs before hval0 hW hcnd0 _ hL _
  have hval : ∀ (j : Nat) t v, Tryz.f13.params[j]? = some t → args[j]? = some v → Value.okWide Tryz.prog W .any base t v := hval0
  have hW' := hW
  obtain ⟨p, q, hA0, hV, rfl, hfz, hnd⟩ := hW
  have hA : DataW.TrodAll enc Tryz.prog W 0 (fun _ => true) true Tryz.f13.params.toList args.toList ds p := hA0
  rw [Tryz.params13] at hA hval
  obtain ⟨v0, v1, v2, d0, d1, d2, p0, p1, p2, rfl, rfl, rfl, h0, h1, h2⟩ := trodAll_three hA
  obtain ⟨rfl, rfl⟩ := trodVars_none hV
  clear hA0 hval0 hA
  simp only [List.append_nil] at hW'
  have k0 := hval 0 47 v0 rfl rfl
  have k1 := hval 1 9 v1 rfl rfl
  have k2 := hval 2 73 v2 rfl rfl
  obtain ⟨n0_0, n0_1, n0_2, rfl, w0_0, w0_1, w0_2⟩ := arr3_arg Tryz.underlying47 Tryz.underlying3 (by kernel_rfl) (by kernel_rfl) k0 h0
  obtain ⟨t1, rfl, w1⟩ := str_arg k1 h1
  obtain ⟨n2_0, n2_1, rfl, w2_0, w2_1⟩ := arr2_arg Tryz.underlying73 Tryz.underlying3 (by kernel_rfl) (by kernel_rfl) k2 h2
  refine (textsq_true n0_0 n0_1 n0_2 t1 n2_0 n2_1 W (textsq_tab hL) (wf_i64 w0_0) (wf_i64 w0_1) (wf_i64 w0_2) w1 (wf_i64 w2_0) (wf_i64 w2_1)).mono fun e W' ⟨he, hg⟩ => ?_
  subst he
  have hb : Below W.heap.size W W' := gr_low hg (Nat.le_refl _)
  have hlt : ∀ x ∈ p0 ++ p1 ++ p2, x.block < W.heap.size := fun x hx => by simpa using hW'.lt x hx
  have hl0 : ∀ x ∈ p0, x.block < W.heap.size := fun x hx => hlt x (by simp [hx])
  have hl1 : ∀ x ∈ p1, x.block < W.heap.size := fun x hx => hlt x (by simp [hx])
  have hl2 : ∀ x ∈ p2, x.block < W.heap.size := fun x hx => hlt x (by simp [hx])
  refine ⟨_, rfl, _, _, _, [], p0 ++ p1 ++ p2, [], hW', ?_, ?_, rfl, hb.frame _, fun h => by cases h⟩
  · exact trodAll_mk1 (shut_bool Tryz.underlying4 true)
  · have h3 := trodAll_mk3 (Below.trod laidOut0 (by kernel_rfl) (of_decide_eq_true (by kernel_rfl)) h0 hb hl0) (Below.trod laidOut0 (by kernel_rfl) (of_decide_eq_true (by kernel_rfl)) h1 hb hl1) (Below.trod laidOut0 (by kernel_rfl) (of_decide_eq_true (by kernel_rfl)) h2 hb hl2)
    rw [← List.append_assoc] at h3
    exact h3

theorem textsq_row : Rows.RatioTextsSaid :=
  OpenClaim.holds_of_wide 13 Tryz.f13 rfl rfl rfl rfl rfl rfl rfl ⟨rfl, rfl, rfl, rfl, rfl⟩ rfl rfl rfl rfl rfl (by kernel_rfl) Tryz.func13 (by kernel_rfl)
    (of_decide_eq_true (by kernel_rfl)) (by unfold Func.isWrapper; first | (rw [if_pos (by decide +kernel)]; kernel_rfl) | (rw [if_neg (by decide +kernel)]; exact ⟨rfl, rfl⟩))
    (fun os started H enc _ => textsq_lifted os started H enc)
end Go.Proofs.YteajpefbmiiioaaGreatDoor
