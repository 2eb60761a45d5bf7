/- The law of the claim at the level of the call, and its row: Nf, Ng, SpansL, SpansLRow. -/
import Derived.Test.YtgkegbcdiadkdaaDoorBSmp0
namespace Go.Proofs.YtgkegbcdiadkdaaDoor
namespace Pt

theorem findsP_in (g : Nat → Int) : ∀ (f b pl : Nat) (x : Nat × Nat), x ∈ findsP g f b pl → b ≤ x.1 ∧ pl ≤ x.1 ∧ x.1 < x.2 ∧ g x.1 = (x.2 : Int) ∧ x.1 < b + f
  | 0, b, pl, x, h => by simp [findsP] at h
  | f + 1, b, pl, x, h => by
    by_cases hc : (b : Int) < pl ∨ g b ≤ b
    · rw [findsP, if_pos hc] at h
      have := findsP_in g f (b + 1) pl x h
      omega
    · rw [findsP, if_neg hc] at h
      rcases List.mem_cons.1 h with rfl | h
      · refine ⟨Nat.le_refl _, ?_, ?_, ?_, ?_⟩ <;> dsimp only <;> omega
      · have := findsP_in g f (b + 1) (g b).toNat x h
        omega
theorem findsP_apart (g : Nat → Int) : ∀ (f b pl : Nat), (findsP g f b pl).Pairwise (fun x y => x.2 ≤ y.1)
  | 0, b, pl => List.Pairwise.nil
  | f + 1, b, pl => by
    by_cases hc : (b : Int) < pl ∨ g b ≤ b
    · rw [findsP, if_pos hc]; exact findsP_apart g f (b + 1) pl
    · rw [findsP, if_neg hc]
      refine List.Pairwise.cons (fun y hy => ?_) (findsP_apart g f (b + 1) _)
      exact (findsP_in g f (b + 1) _ y hy).2.1
/-- A place that no find covers begins nothing. -/
theorem findsP_none (g : Nat → Int) : ∀ (f b pl i : Nat), b ≤ i → pl ≤ i → i < b + f → (∀ x ∈ findsP g f b pl, i < x.1 ∨ x.2 ≤ i) → g i ≤ i
  | 0, b, pl, i, h1, _, h3, _ => by omega
  | f + 1, b, pl, i, h1, h2, h3, h => by
    by_cases hc : (b : Int) < pl ∨ g b ≤ b
    · rw [findsP, if_pos hc] at h
      rcases Nat.lt_or_ge b i with hb | hb
      · exact findsP_none g f (b + 1) pl i hb h2 (by omega) h
      · obtain rfl : b = i := by omega
        omega
    · rw [findsP, if_neg hc] at h
      have h0 := h _ (List.mem_cons_self)
      dsimp only at h0
      have hbi : b < i := by omega
      exact findsP_none g f (b + 1) _ i hbi (by omega) (by omega) (fun x hx => h x (List.mem_cons_of_mem _ hx))
end Pt
end Go.Proofs.YtgkegbcdiadkdaaDoor
namespace Go.Proofs.YtgkegbcdiadkdaaDoor
namespace Pt

theorem prt_prt {s : List UInt8} {i j a b : Nat} (hb : b ≤ j - i) : prt (prt s i j) a b = prt s (i + a) (i + b) := by
  unfold prt
  rw [List.drop_take, List.drop_drop, List.take_take, show i + b - (i + a) = b - a from by omega, show min (b - a) (j - i - a) = b - a from by omega]
theorem stp_prt {p : Pc} {s : List UInt8} {i j a b : Nat} (hij : i ≤ j) (hj : j ≤ s.length) (hb : b ≤ j - i) : stp p (prt s i j) a b = stp p s (i + a) (i + b) := by
  rw [Bool.eq_iff_iff, stp_iff, stp_iff, prt_prt hb, prt_len hj, show i + b - (i + a) = b - a from by omega]
  constructor
  · rintro ⟨h1, h2, h3⟩; exact ⟨by omega, by omega, h3⟩
  · rintro ⟨h1, h2, h3⟩; exact ⟨by omega, by omega, h3⟩
theorem rch_prt : ∀ {ps : List Pc} {s : List UInt8} {i j a b : Nat}, i ≤ j → j ≤ s.length → b ≤ j - i → (rch ps (prt s i j) a b = true ↔ rch ps s (i + a) (i + b) = true)
  | [], s, i, j, a, b, hij, hj, hb => by
    rw [rch_nil, rch_nil, prt_len hj]
    omega
  | p :: ps, s, i, j, a, b, hij, hj, hb => by
    rw [rch_cons, rch_cons]
    constructor
    · rintro ⟨m, h1, h2⟩
      have hm := (rch_le h2).1
      rw [stp_prt hij hj (by omega)] at h1
      exact ⟨i + m, h1, (rch_prt hij hj hb).1 h2⟩
    · rintro ⟨m, h1, h2⟩
      have h3 := (stp_le h1).1
      have h4 := (rch_le h2).1
      obtain ⟨m', rfl⟩ : ∃ m', m = i + m' := ⟨m - i, by omega⟩
      exact ⟨m', by rw [stp_prt hij hj (by omega)]; exact h1, (rch_prt hij hj hb).2 h2⟩
theorem text_iff {l : List UInt8} : isTextD l = true ↔ l.length ≤ 200 ∧ allD l 7 = true := by
  unfold isTextD
  rw [Bool.and_eq_true, decide_eq_true_eq]
theorem text_prt {s : List UInt8} {i j : Nat} (h : isTextD s = true) : isTextD (prt s i j) = true := by
  obtain ⟨h1, h2⟩ := text_iff.1 h
  rw [text_iff]
  refine ⟨?_, ?_⟩
  · unfold prt
    rw [List.length_take, List.length_drop]; omega
  · unfold prt
    refine allD_sub ?_
    unfold allD at *
    rw [List.all_eq_true] at *
    exact fun x hx => h2 x (List.mem_of_mem_drop hx)
/-- A part of a text is matched as the text is between the places. -/
theorem match_prt {ps : List Pc} {s : List UInt8} {i j : Nat} (hr : rightL ps = true) (ht : isTextD s = true) (hij : i ≤ j) (hj : j ≤ s.length) : matchL ps (prt s i j) = rch ps s i j := by
  unfold matchL
  rw [hr, text_prt ht, Bool.true_and, Bool.true_and, Bool.eq_iff_iff, prt_len hj, rch_prt hij hj (Nat.le_refl _), show i + (j - i) = j from by omega, Nat.add_zero]
/-- The end of the find before, and the find number k (the end of the text, if there is none). -/
def lstE (fs : List (Nat × Nat)) : Nat → Nat | 0 => 0 | k + 1 => (fs[k]?.getD (0, 0)).2
def atE (fs : List (Nat × Nat)) (L k : Nat) : Nat × Nat := fs[k]?.getD (L, L)
theorem atE_lt {fs : List (Nat × Nat)} {L k : Nat} (h : k < fs.length) : atE fs L k = fs[k] := by
  unfold atE; rw [List.getElem?_eq_getElem h]; rfl
theorem atE_ge {fs : List (Nat × Nat)} {L k : Nat} (h : fs.length ≤ k) : atE fs L k = (L, L) := by
  unfold atE; rw [List.getElem?_eq_none h]; rfl
theorem lstE_succ {fs : List (Nat × Nat)} {L k : Nat} (h : k < fs.length) : lstE fs (k + 1) = (atE fs L k).2 := by
  rw [atE_lt h]; show (fs[k]?.getD (0, 0)).2 = _; rw [List.getElem?_eq_getElem h]; rfl
theorem lstE_last {fs : List (Nat × Nat)} {k : Nat} (h : k < fs.length) : lstE fs (k + 1) = fs[k].2 := by
  show (fs[k]?.getD (0, 0)).2 = _
  rw [List.getElem?_eq_getElem h]; rfl
theorem findL_at {fs : List (Nat × Nat)} {L k : Nat} (h : k < fs.length) : findL fs ((k : Int) + 1) = ((atE fs L k).1, (atE fs L k).2, true) := by
  rw [atE_lt h]
  unfold findL
  rw [if_pos (by omega), show ((k : Int) + 1).toNat - 1 = k from by omega, List.getElem?_eq_getElem h]
theorem findL_end {fs : List (Nat × Nat)} {k : Nat} (h : fs.length ≤ k) : findL fs ((k : Int) + 1) = (0, 0, false) :=
  find_no fun m hm => by omega
section
variable {ps : List Pc} {s : List UInt8}
theorem findsL_right {x : Nat × Nat} (h : x ∈ findsL ps s) : rightL ps = true ∧ isTextD s = true := by
  unfold findsL at h
  cases h1 : rightL ps <;> cases h2 : isTextD s <;> rw [h1, h2] at h <;> first | exact ⟨rfl, rfl⟩ | simp at h
theorem findsL_eq (h1 : rightL ps = true) (h2 : isTextD s = true) : findsL ps s = findsP (gr ps s) (s.length + 1) 0 0 := by
  unfold findsL; rw [h1, h2]; rfl
theorem find_le {x : Nat × Nat} (h : x ∈ findsL ps s) : x.1 < x.2 ∧ x.2 ≤ s.length ∧ gr ps s x.1 = (x.2 : Int) := by
  obtain ⟨h1, h2⟩ := findsL_right h
  rw [findsL_eq h1 h2] at h
  obtain ⟨_, _, h3, h4, h5⟩ := findsP_in _ _ _ _ _ h
  have h6 := gr_ge (ps := ps) (s := s) (i := x.1) (by omega)
  exact ⟨h3, by omega, h4⟩
theorem find_is {x : Nat × Nat} (h : x ∈ findsL ps s) : rch ps s x.1 x.2 = true ∧ ∀ j, rch ps s x.1 j = true → j ≤ x.2 := by
  obtain ⟨h1, h2, h3⟩ := find_le h
  rcases gr_spec ps s x.1 (by omega) with ⟨h4, _⟩ | ⟨j, h4, h5, h6⟩
  · omega
  · obtain rfl : j = x.2 := by omega
    exact ⟨h5, h6⟩
theorem finds_apart : (findsL ps s).Pairwise (fun x y => x.2 ≤ y.1) := by
  unfold findsL
  cases rightL ps && isTextD s
  · exact List.Pairwise.nil
  · exact findsP_apart _ _ _ _
theorem finds_get {a b : Nat} (hb : b < (findsL ps s).length) (hab : a < b) : ((findsL ps s)[a]'(by omega)).2 ≤ (findsL ps s)[b].1 :=
  List.pairwise_iff_getElem.1 finds_apart a b (by omega) hb hab
theorem finds_grow (ps : List Pc) (s : List UInt8) : ∀ (k : Nat) (hk : k < (findsL ps s).length), k + 1 ≤ (findsL ps s)[k].2
  | 0, hk => by have := (find_le (List.getElem_mem hk)).1; omega
  | k + 1, hk => by
    have h1 := finds_grow ps s k (by omega)
    have h2 := finds_get hk (Nat.lt_succ_self k)
    have h3 := (find_le (List.getElem_mem hk)).1
    omega
/-- There are no more finds than characters. -/
theorem finds_few : (findsL ps s).length ≤ s.length := by
  rcases Nat.eq_zero_or_pos (findsL ps s).length with h | h
  · omega
  · have h1 := finds_grow ps s ((findsL ps s).length - 1) (by omega)
    have h2 := (find_le (List.getElem_mem (show (findsL ps s).length - 1 < (findsL ps s).length by omega))).2.1
    omega
theorem lst_le {k : Nat} (hk : k ≤ (findsL ps s).length) : lstE (findsL ps s) k ≤ (atE (findsL ps s) s.length k).1 ∧ (atE (findsL ps s) s.length k).1 ≤ (atE (findsL ps s) s.length k).2 ∧ (atE (findsL ps s) s.length k).2 ≤ s.length := by
  rcases Nat.lt_or_ge k (findsL ps s).length with h | h
  · rw [atE_lt h]
    have h1 := find_le (List.getElem_mem h)
    refine ⟨?_, by omega, by omega⟩
    cases k with
    | zero => exact Nat.zero_le _
    | succ k => rw [lstE_last (by omega)]; exact finds_get h (Nat.lt_succ_self k)
  · rw [atE_ge h]
    refine ⟨?_, Nat.le_refl _, Nat.le_refl _⟩
    cases k with
    | zero => exact Nat.zero_le _
    | succ k => rw [lstE_last (by omega)]; exact (find_le (List.getElem_mem _)).2.1
/-- Between the find before and the find nothing is matched. -/
theorem between {k i j : Nat} (hk : k ≤ (findsL ps s).length) (h1 : lstE (findsL ps s) k ≤ i) (h2 : i < (atE (findsL ps s) s.length k).1) (h3 : i < j) (h4 : j ≤ s.length) (ht : isTextD s = true) : matchL ps (prt s i j) = false := by
  cases hr : rightL ps with
  | false => unfold matchL; rw [hr]; rfl
  | true =>
    rw [match_prt hr ht (by omega) h4, Bool.eq_false_iff]
    intro h
    have hg : gr ps s i ≤ i := by
      have hn := findsP_none (gr ps s) (s.length + 1) 0 0 i (Nat.zero_le _) (Nat.zero_le _) (by omega)
      rw [← findsL_eq hr ht] at hn
      refine hn fun x hx => ?_
      obtain ⟨m, hm, rfl⟩ := List.getElem_of_mem hx
      rcases Nat.lt_or_ge m k with h5 | h5
      · refine .inr ?_
        obtain ⟨k', rfl⟩ : ∃ k', k = k' + 1 := ⟨k - 1, by omega⟩
        rw [lstE_last (by omega)] at h1
        rcases Nat.lt_or_ge m k' with h6 | h6
        · have h7 := finds_get (ps := ps) (s := s) (b := k') (by omega) h6
          have h8 := (find_le (List.getElem_mem (show k' < (findsL ps s).length by omega))).1
          omega
        · obtain rfl : m = k' := by omega
          exact h1
      · refine .inl ?_
        rw [atE_lt (by omega)] at h2
        rcases Nat.lt_or_ge k m with h6 | h6
        · have h7 := finds_get (ps := ps) (s := s) hm h6
          have h8 := (find_le (List.getElem_mem (show k < (findsL ps s).length by omega))).1
          omega
        · obtain rfl : m = k := by omega
          exact h2
    rcases gr_spec ps s i (by omega) with ⟨_, h5⟩ | ⟨e, h5, _, h6⟩
    · rw [h5] at h; cases h
    · have := h6 _ h
      omega
/-- A find is matched, and nothing longer. -/
theorem find_full {k : Nat} (hk : k < (findsL ps s).length) : (atE (findsL ps s) s.length k).1 < (atE (findsL ps s) s.length k).2 ∧ matchL ps (prt s (atE (findsL ps s) s.length k).1 (atE (findsL ps s) s.length k).2) = true ∧ ∀ j, (atE (findsL ps s) s.length k).2 < j → j ≤ s.length → matchL ps (prt s (atE (findsL ps s) s.length k).1 j) = false := by
  rw [atE_lt hk]
  have hm := List.getElem_mem hk
  obtain ⟨h1, h2⟩ := findsL_right hm
  obtain ⟨h3, h4, _⟩ := find_le hm
  obtain ⟨h5, h6⟩ := find_is hm
  refine ⟨h3, by rw [match_prt h1 h2 (by omega) h4]; exact h5, fun j hj hjl => ?_⟩
  rw [match_prt h1 h2 (by omega) hjl, Bool.eq_false_iff]
  intro h
  have := h6 _ h
  omega
end
end Pt
open Go.RowKit Pt
theorem ext_prt (s : ByteArray) (i j : Nat) : (s.extract i j).data.toList = prt s.data.toList i j := by
  rw [ByteArray.data_extract]
  simp only [Array.toList_extract, List.extract]
/-- What the finds of a pattern in a text are: places, and what is matched between them. -/
theorem spans_facts (ps : List Pc) (s : ByteArray) : ∃ (n : Nat) (X A B : Nat → Nat) (M : Nat → Nat → Bool), (findsL ps s.data.toList).length = n ∧ n ≤ s.size ∧ X 0 = 0 ∧ (∀ K, K < n → X (K + 1) = B K) ∧ (∀ K, K ≤ n → X K ≤ A K ∧ A K ≤ B K ∧ B K ≤ s.size) ∧ (∀ K, K < n → A K < B K ∧ M (A K) (B K) = true ∧ ∀ j, B K < j → j ≤ s.size → M (A K) j = false) ∧ (A n = s.size ∧ B n = s.size) ∧ (∀ K, K ≤ n → ∀ i j, X K ≤ i → i < A K → i < j → j ≤ s.size → isTextD s.data.toList = true → M i j = false) ∧ (∀ i j, matchL ps (s.extract i j).data.toList = M i j) ∧ (∀ K, K < n → findV (findsL ps s.data.toList) ((K : Int) + 1) = .tuple #[.int .i64 (A K : Int), .int .i64 (B K : Int), .bool true]) ∧ findV (findsL ps s.data.toList) ((n : Int) + 1) = .tuple #[.int .i64 0, .int .i64 0, .bool false] := by
  refine ⟨(findsL ps s.data.toList).length, lstE (findsL ps s.data.toList), fun K => (atE (findsL ps s.data.toList) s.data.toList.length K).1, fun K => (atE (findsL ps s.data.toList) s.data.toList.length K).2, fun i j => matchL ps (prt s.data.toList i j), rfl, finds_few, rfl, fun K hK => lstE_succ hK, fun K hK => lst_le hK, fun K hK => find_full hK, ?_, fun K hK i j h1 h2 h3 h4 h5 => between hK h1 h2 h3 h4 h5, fun i j => by rw [ext_prt], fun K hK => ?_, ?_⟩
  · dsimp only; rw [atE_ge (Nat.le_refl _)]; exact ⟨rfl, rfl⟩
  · unfold findV; rw [findL_at hK]
  · unfold findV; rw [findL_end (Nat.le_refl _)]; rfl
end Go.Proofs.YtgkegbcdiadkdaaDoor
namespace Go.Proofs.YtgkegbcdiadkdaaDoor
open Go.RowKit Pt

set_option maxRecDepth 100000 in
set_option maxHeartbeats 8000000 in
theorem spans_true (l : Value) (s0 : ByteArray) (w : World) (ht : TabP w) (hl : IntsA w l) (hs0 : s0.size ≤ maxLen) : Calls Tryd.prog 7 #[l, .string s0] w fun e w' => e = .returned (.bool true) ∧ w.grownBy w' none := by
  have HS := Lib.hid (sanity_any w ht)
  have HT := Lib.hid ht
  have HM := Lib.hid (fun (w1 : World) (g : w.grownBy w1 none) => made_any w1 l (hl.kept g))
  obtain ⟨s, hs, HC⟩ : ∃ s : ByteArray, s.size ≤ 30 ∧ Hid (∀ w0, Calls Tryd.prog 15 #[.string s0, .int .i64 30] w0 fun e w' => e = .returned (.string s) ∧ w0.grownBy w' none) :=
    ⟨_, cut_le s0 30, Lib.hid (fun w0 => cut_any s0 30 w0 hs0)⟩
  clear ht hl hs0
  go_enter Tryd.func7, Tryd.ntmps7
  go_wp2_with fail
  refine HS.out.mono ?_
  rintro e w1 ⟨rfl, g1⟩
  have G1 := Lib.hid g1
  clear g1 HS
  go_wp2_with fail
  refine (HM.out w1 G1.out).mono ?_
  rintro e w2 ⟨v, ps, rfl, hv, hlen, hgood, g2⟩
  have G2 := Lib.hid (gr_then G1.out g2)
  have hsz : ∀ p ∈ ps, p.t.size ≤ 1000 := fun p hp => by have := (hgood p hp).t; omega
  have HSZ := Lib.hid (And.intro (show ps.length ≤ 1000000 by omega) hsz)
  have HV := Lib.hid (fun (w3 : World) (g : w2.grownBy w3 none) => hv.kept g)
  clear g2 G1 hv hgood hlen hsz HM
  go_wp2_with fail
  refine (HC.out w2).mono ?_
  rintro e w3 ⟨rfl, g3⟩
  have G3 := Lib.hid (gr_then G2.out g3)
  have G23 := Lib.hid g3
  have HCN := Lib.hid (pcnt_any v ps s w3 (tabis_grown HT.out G3.out) (HV.out w3 g3) HSZ.out.1 (by omega) HSZ.out.2)
  obtain ⟨n, X, A, B, M, hn, hnL, hX0, hX1, hAB, hFF, hEnd, hBt, hM, hFV, hFE⟩ := spans_facts ps s
  have HAB := Lib.hid hAB
  have HX1 := Lib.hid hX1
  have HFF := Lib.hid hFF
  have HEnd := Lib.hid hEnd
  have HBt := Lib.hid hBt
  have HTX := Lib.hid (fun (w0 : World) => rtext_any s w0 (by omega))
  rw [hn] at HCN
  have HFD := Lib.hid (fun (K : Nat) (h : K < n) (w0 : World) (g : w3.grownBy w0 none) => (hFV K h) ▸ pfind_any v ps s ((K : Int) + 1) w0 (tabis_grown HT.out (gr_then G3.out g)) (HV.out w0 (gr_then G23.out g)) HSZ.out.1 (by omega) HSZ.out.2)
  have HFZ := Lib.hid (fun (w0 : World) (g : w3.grownBy w0 none) => hFE ▸ pfind_any v ps s ((n : Int) + 1) w0 (tabis_grown HT.out (gr_then G3.out g)) (HV.out w0 (gr_then G23.out g)) HSZ.out.1 (by omega) HSZ.out.2)
  have HMT := Lib.hid (fun (i j : Nat) (w0 : World) (g : w3.grownBy w0 none) => (hM i j) ▸ pmatches_any v ps (s.extract i j) w0 (tabis_grown HT.out (gr_then G3.out g)) (HV.out w0 (gr_then G23.out g)) HSZ.out.1 (by rw [ByteArray.size_extract]; omega) HSZ.out.2)
  generalize isTextD s.data.toList = tx at *
  have HX := Lib.hid HTX.out
  have hnL1 : (n : Int) ≤ (s.size : Int) := by omega
  have hn0 : decide ((n : Int) < 0) = false := decide_eq_false (by omega)
  have hn1 : decide (s.size < n) = false := decide_eq_false (by omega)
  have hn2 : decide ((s.size : Int) < (n : Int)) = false := decide_eq_false (by omega)
  have HX0 := Lib.hid hX0
  clear g3 hn hX0 hX1 hAB hFF hEnd hBt hM hFV hFE HTX HC
  go_wp2_with fail
  refine HCN.out.mono ?_
  rintro e w4 ⟨rfl, g4⟩
  have G34 := Lib.hid g4
  have G4 := Lib.hid (gr_then G3.out g4)
  clear g4 HCN
  have HMT := Lib.hid (fun (i j : Nat) (w0 : World) (g : w4.grownBy w0 none) => HMT.out i j w0 (gr_then G34.out g))
  go_wp2_with fail
  go_loopw [7, 9] (fun lst k wr => ∃ (K x : Nat), K ≤ n + 1 ∧ k = .int .i64 ((K : Int) + 1) ∧ lst = .int .i64 (x : Int) ∧ Hid (K ≤ n → x = X K) ∧ Hid (w4.grownBy wr none)) (fun _ k _ => n + 3 - (intOf k).toNat)
  case atStart => exact ⟨0, 0, by omega, rfl, rfl, Lib.hid (fun _ => HX0.out.symm), Lib.hid (gr_rfl w4)⟩
  case round =>
    obtain ⟨K, x, hK, rfl, rfl, HXK, GW⟩ := hrel
    by_cases hKn : K ≤ n
    rotate_left
    · have hKi : ¬ (K : Int) + 1 ≤ (n : Int) + 1 := by omega
      go_wp2
      go_ret
      exact ⟨rfl, gr_then G4.out GW.out⟩
    have hKi : (K : Int) + 1 ≤ (n : Int) + 1 := by omega
    have hab := HAB.out K hKn
    have HB := Lib.hid (HBt.out K hKn)
    rw [← HXK.out hKn] at hab HB
    obtain ⟨hxa, hab, hbL⟩ := hab
    have hai : decide ((A K : Int) < (x : Int)) = false := decide_eq_false (by omega)
    have hbi : decide ((B K : Int) < (A K : Int)) = false := decide_eq_false (by omega)
    have hLi : decide ((s.size : Int) < (B K : Int)) = false := decide_eq_false (by omega)
    have hai2 : decide (A K < x) = false := decide_eq_false (by omega)
    have hbi2 : decide (B K < A K) = false := decide_eq_false (by omega)
    have hLi2 : decide (s.size < B K) = false := decide_eq_false (by omega)
    by_cases hlt : K < n
    · have hlti : (K : Int) + 1 ≤ (n : Int) := by omega
      obtain ⟨hab1, hmt, hno⟩ := HFF.out K hlt
      have HNO := Lib.hid hno
      have HFK := Lib.hid (HFD.out K hlt wr (gr_then G34.out GW.out))
      have HMA := Lib.hid (fun (w0 : World) (g : w4.grownBy w0 none) => hmt ▸ HMT.out (A K) (B K) w0 g)
      have HXN := Lib.hid (fun (_ : K + 1 ≤ n) => (HX1.out K hlt).symm)
      generalize A K = a at *
      generalize B K = b at *
      have hab2 : ((a : Int) == (b : Int)) = false := by rw [beq_eq_false_iff_ne]; omega
      have habi : (a : Int) ≤ (b : Int) := by omega
      have hbs : (b : Int) ≤ (s.size : Int) := by omega
      have hbsn : b ≤ s.size := by omega
      clear hno hmt
      go_wp2_with fail
      refine HFK.out.mono ?_
      rintro e w5 ⟨rfl, g5⟩
      have GW5 := Lib.hid (gr_then GW.out g5)
      clear g5 HFK
      go_wp2_with fail
      refine (HMA.out w5 GW5.out).mono ?_
      rintro e w6 ⟨rfl, g6⟩
      have GW6 := Lib.hid (gr_then GW5.out g6)
      clear g6 HMA
      go_wp2_with fail
      go_loopw [13] (fun i wr => ∃ I : Nat, i = .int .i64 (I : Int) ∧ x ≤ I ∧ I ≤ a ∧ Hid (w4.grownBy wr none)) (fun i _ => a - (intOf i).toNat)
      case atStart => exact ⟨x, rfl, Nat.le_refl _, hxa, Lib.hid GW6.out⟩
      case round =>
        obtain ⟨I, rfl, hI1, hI2, GI⟩ := hrel
        by_cases hIa : I < a
        · have hIi : (I : Int) < (a : Int) := by omega
          have HIa := Lib.hid hIa
          go_wp2_with fail
          go_loopw [14] (fun j wx => ∃ J : Nat, j = .int .i64 (J : Int) ∧ I + 1 ≤ J ∧ J ≤ s.size + 1 ∧ Hid (w4.grownBy wx none)) (fun j _ => s.size + 1 - (intOf j).toNat)
          case atStart => exact ⟨I + 1, rfl, Nat.le_refl _, by omega, GI⟩
          case round =>
            obtain ⟨J, rfl, hJ1, hJ2, GJ⟩ := hrel
            by_cases hJL : J ≤ s.size
            · have hJi : (J : Int) ≤ (s.size : Int) := by omega
              have hIJ : (I : Int) ≤ (J : Int) := by omega
              have hIJn : I ≤ J := by omega
              have hJn : J ≤ s.size := by exact hJL
              have hJs : (J : Int) ≤ (s.size : Int) := by omega
              go_wp2_with fail
              refine (HX.out _).mono ?_
              rintro e wy ⟨rfl, rfl⟩
              cases tx
              · go_wp2
                exact ⟨⟨I + 1, by simp, by omega, by omega, GJ⟩, by simp only [intOf]; omega⟩
              · have HMI := Lib.hid (HB.out I J hI1 HIa.out (by omega) hJL (by first | rfl | trivial))
                have HQ := Lib.hid (HMT.out I J _ GJ.out)
                rw [HMI.out] at HQ
                go_wp2_with fail
                refine HQ.out.mono ?_
                rintro e wz ⟨rfl, gz⟩
                go_wp2
                exact ⟨⟨J + 1, by simp, by omega, by omega, Lib.hid (gr_then GJ.out gz)⟩, by simp only [intOf]; omega⟩
            · have hJi : ¬ (J : Int) ≤ (s.size : Int) := by omega
              go_wp2
              exact ⟨⟨I + 1, by simp, by omega, by omega, GJ⟩, by simp only [intOf]; omega⟩
        · have hIi : ¬ (I : Int) < (a : Int) := by omega
          clear hIa
          go_wp2_with fail
          go_loopw [15] (fun j wx => ∃ J : Nat, j = .int .i64 (J : Int) ∧ b + 1 ≤ J ∧ J ≤ s.size + 1 ∧ Hid (w4.grownBy wx none)) (fun j _ => s.size + 1 - (intOf j).toNat)
          case atStart => exact ⟨b + 1, rfl, Nat.le_refl _, by omega, GI⟩
          case round =>
            obtain ⟨J, rfl, hJ1, hJ2, GJ⟩ := hrel
            by_cases hJL : J ≤ s.size
            · have hJi : (J : Int) ≤ (s.size : Int) := by omega
              have haJ : (a : Int) ≤ (J : Int) := by omega
              have haJn : a ≤ J := by omega
              have hJs : (J : Int) ≤ (s.size : Int) := by omega
              have hJn : J ≤ s.size := by omega
              have HMI := Lib.hid (HNO.out J (by omega) hJL)
              have HQ := Lib.hid (HMT.out a J _ GJ.out)
              rw [HMI.out] at HQ
              go_wp2_with fail
              refine HQ.out.mono ?_
              rintro e wz ⟨rfl, gz⟩
              go_wp2
              exact ⟨⟨J + 1, by simp, by omega, by omega, Lib.hid (gr_then GJ.out gz)⟩, by simp only [intOf]; omega⟩
            · have hJi : ¬ (J : Int) ≤ (s.size : Int) := by omega
              go_wp2
              exact ⟨⟨K + 1, b, by omega, by simp, rfl, HXN, GJ⟩, by simp only [intOf]; omega⟩
    · obtain rfl : K = n := by omega
      have hlti : ¬ (K : Int) + 1 ≤ (K : Int) := by omega
      obtain ⟨ha, hb⟩ := HEnd.out
      rw [ha] at hxa hab hai hbi hai2 hbi2 HB
      rw [hb] at hab hbL hbi hLi hbi2 hLi2
      have HFK := Lib.hid (HFZ.out wr (gr_then G34.out GW.out))
      have HXN := Lib.hid (fun (h : K + 1 ≤ K) => show s.size = X (K + 1) from absurd h (by omega))
      have hLL : ¬ (s.size : Int) + 1 ≤ (s.size : Int) := by omega
      go_wp2_with fail
      refine HFK.out.mono ?_
      rintro e w5 ⟨rfl, g5⟩
      have GW5 := Lib.hid (gr_then GW.out g5)
      clear g5 HFK
      go_wp2_with fail
      go_loopw [13] (fun i wr => ∃ I : Nat, i = .int .i64 (I : Int) ∧ x ≤ I ∧ I ≤ s.size ∧ Hid (w4.grownBy wr none)) (fun i _ => s.size - (intOf i).toNat)
      case atStart => exact ⟨x, rfl, Nat.le_refl _, hxa, Lib.hid GW5.out⟩
      case round =>
        obtain ⟨I, rfl, hI1, hI2, GI⟩ := hrel
        by_cases hIa : I < s.size
        · have hIi : (I : Int) < (s.size : Int) := by omega
          have HIa := Lib.hid hIa
          go_wp2_with fail
          go_loopw [14] (fun j wx => ∃ J : Nat, j = .int .i64 (J : Int) ∧ I + 1 ≤ J ∧ J ≤ s.size + 1 ∧ Hid (w4.grownBy wx none)) (fun j _ => s.size + 1 - (intOf j).toNat)
          case atStart => exact ⟨I + 1, rfl, Nat.le_refl _, by omega, GI⟩
          case round =>
            obtain ⟨J, rfl, hJ1, hJ2, GJ⟩ := hrel
            by_cases hJL : J ≤ s.size
            · have hJi : (J : Int) ≤ (s.size : Int) := by omega
              have hIJ : (I : Int) ≤ (J : Int) := by omega
              have hIJn : I ≤ J := by omega
              have hJn : J ≤ s.size := by exact hJL
              have hJs : (J : Int) ≤ (s.size : Int) := by omega
              go_wp2_with fail
              refine (HX.out _).mono ?_
              rintro e wy ⟨rfl, rfl⟩
              cases tx
              · go_wp2
                exact ⟨⟨I + 1, by simp, by omega, by omega, GJ⟩, by simp only [intOf]; omega⟩
              · have HMI := Lib.hid (HB.out I J hI1 HIa.out (by omega) hJL (by first | rfl | trivial))
                have HQ := Lib.hid (HMT.out I J _ GJ.out)
                rw [HMI.out] at HQ
                go_wp2_with fail
                refine HQ.out.mono ?_
                rintro e wz ⟨rfl, gz⟩
                go_wp2
                exact ⟨⟨J + 1, by simp, by omega, by omega, Lib.hid (gr_then GJ.out gz)⟩, by simp only [intOf]; omega⟩
            · have hJi : ¬ (J : Int) ≤ (s.size : Int) := by omega
              go_wp2
              exact ⟨⟨I + 1, by simp, by omega, by omega, GJ⟩, by simp only [intOf]; omega⟩
        · have hIi : ¬ (I : Int) < (s.size : Int) := by omega
          clear hIa
          go_wp2_with fail
          go_loopw [15] (fun j wx => ∃ J : Nat, j = .int .i64 (J : Int) ∧ s.size + 1 ≤ J ∧ J ≤ s.size + 1 ∧ Hid (w4.grownBy wx none)) (fun j _ => s.size + 1 - (intOf j).toNat)
          case atStart => exact ⟨s.size + 1, rfl, Nat.le_refl _, by omega, GI⟩
          case round =>
            obtain ⟨J, rfl, hJ1, hJ2, GJ⟩ := hrel
            have hJi : ¬ (J : Int) ≤ (s.size : Int) := by omega
            go_wp2
            exact ⟨⟨K + 1, s.size, by omega, by simp, rfl, HXN, GJ⟩, by simp only [intOf]; omega⟩
end Go.Proofs.YtgkegbcdiadkdaaDoor
namespace Go.Proofs.YtgkegbcdiadkdaaDoor
open Go.ChangeShapes Go.WideShapes Go.ChangeAt Go.RowKit Pt

set_option maxRecDepth 1000000 in
set_option maxHeartbeats 4000000 in
theorem spans_lifted (os : Os) (started : os.Started) (H : Type) (enc : TypeId × Value → H) :
    ReturnsInHanded {} Tryd.checked os 7 .any (fun w args => (Rows.patternSpansSpec.pre enc Tryd.prog Tryd.f7 Rows.patternSpansRow.domain false w args ∧ laidMet Tryd.prog Rows.patternSpansRow.laid w) ∧ sizedMet enc Tryd.prog Tryd.f7 (OpenSpec.ofChange Rows.patternSpansSpec) false w args)
      (Rows.patternSpansSpec.post enc Tryd.prog Tryd.f7 false true false false) := by
  refine returnsInHanded_of_change_and (C := Tryd.checked) (X := fun w _ => laidMet Tryd.prog Rows.patternSpansRow.laid w) (fun _ _ _ hh h => h.of_heap hh) own0 started (by kernel_rfl) Tryd.func7
    (ChangeSpec.witness_at (enc := enc) (C := Tryd.checked) (os := os) (X := fun w _ => laidMet Tryd.prog Rows.patternSpansRow.laid w) false (laidWorld os) #[.slice none 0 0, .string ⟨#[]⟩] 8 rfl (by kernel_rfl) (by kernel_rfl) (by kernel_rfl) (by kernel_rfl) (by kernel_rfl) (laid_at os _)) ?_
  intro W base args ds gs before hval0 hW hcnd0 _ hL _
  have hval : ∀ (j : Nat) t v, Tryd.f7.params[j]? = some t → args[j]? = some v → Value.okWide Tryd.prog W .any base t v := hval0
  have hW' := hW
  obtain ⟨p, q, hA0, hV, rfl, hfz, hnd⟩ := hW
  have hA : DataW.TrodAll enc Tryd.prog W 0 (fun _ => true) true Tryd.f7.params.toList args.toList ds p := hA0
  rw [Tryd.params7] at hA hval
  obtain ⟨v0, v1, d0, d1, p0, p1, rfl, rfl, rfl, h0, h1⟩ := trodAll_two hA
  obtain ⟨rfl, rfl⟩ := trodVars_none hV
  clear hA0 hval0 hA
  simp only [List.append_nil] at hW'
  have k0 := hval 0 22 v0 rfl rfl
  have k1 := hval 1 9 v1 rfl rfl
  have w0 := ints_arg k0 h0
  obtain ⟨n1, rfl, w1⟩ := str_arg k1 h1
  refine (spans_true v0 n1 W (tab_of hL) w0 w1).mono fun e W' ⟨he, hg⟩ => ?_
  subst he
  have hb : Below W.heap.size W W' := gr_low hg
  have hlt : ∀ x ∈ p0 ++ p1, x.block < W.heap.size := fun x hx => by simpa using hW'.lt x hx
  have hl0 : ∀ x ∈ p0, x.block < W.heap.size := fun x hx => hlt x (by simp [hx])
  have hl1 : ∀ x ∈ p1, x.block < W.heap.size := fun x hx => hlt x (by simp [hx])
  refine ⟨_, rfl, _, _, _, [], p0 ++ p1, [], hW', ?_, ?_, rfl, hb.frame _, fun h => by cases h⟩
  · exact trodAll_mk1 (shut_bool Tryd.underlying4 true)
  · have h3 := trodAll_mk2 (Below.trod laidOut0 (by kernel_rfl) (of_decide_eq_true (by kernel_rfl)) h0 hb hl0) (Below.trod laidOut0 (by kernel_rfl) (of_decide_eq_true (by kernel_rfl)) h1 hb hl1)
    exact h3

theorem spans_row : Rows.PatternSpansSaid :=
  OpenClaim.holds_of_wide 7 Tryd.f7 rfl rfl rfl rfl rfl rfl rfl ⟨rfl, rfl, rfl, rfl, rfl⟩ rfl rfl rfl rfl rfl (by kernel_rfl) Tryd.func7 (by kernel_rfl)
    (of_decide_eq_true (by kernel_rfl)) (by unfold Func.isWrapper; first | (rw [if_pos (by decide +kernel)]; kernel_rfl) | (rw [if_neg (by decide +kernel)]; exact ⟨rfl, rfl⟩))
    (fun os started H enc _ => spans_lifted os started H enc)
end Go.Proofs.YtgkegbcdiadkdaaDoor
