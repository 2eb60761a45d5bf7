/- The law of the claim at the level of the call, and its row: Nf, Ng, Ni, Nh, Nj. -/
import Derived.Test.YtgkegbcdiadkdaaDoorBSmp0
import Derived.BigQuiet
import Derived.OwnWalk
namespace Go.Proofs.YtgkegbcdiadkdaaDoor
namespace Pt

theorem findsP_in (g : Nat → Int) : ∀ (f b pl : Nat) (x : Nat × Nat), x ∈ findsP g f b pl → b ≤ x.1 ∧ pl ≤ x.1 ∧ x.1 < x.2 ∧ g x.1 = (x.2 : Int) ∧ x.1 < b + f
  | 0, b, pl, x, h => by simp [findsP] at h
  | f + 1, b, pl, x, h => by
    by_cases hc : (b : Int) < pl ∨ g b ≤ b
    · rw [findsP, if_pos hc] at h
      have := findsP_in g f (b + 1) pl x h
      omega
    · rw [findsP, if_neg hc] at h
      rcases List.mem_cons.1 h with rfl | h
      · refine ⟨Nat.le_refl _, ?_, ?_, ?_, ?_⟩ <;> dsimp only <;> omega
      · have := findsP_in g f (b + 1) (g b).toNat x h
        omega
theorem findsP_apart (g : Nat → Int) : ∀ (f b pl : Nat), (findsP g f b pl).Pairwise (fun x y => x.2 ≤ y.1)
  | 0, b, pl => List.Pairwise.nil
  | f + 1, b, pl => by
    by_cases hc : (b : Int) < pl ∨ g b ≤ b
    · rw [findsP, if_pos hc]; exact findsP_apart g f (b + 1) pl
    · rw [findsP, if_neg hc]
      refine List.Pairwise.cons (fun y hy => ?_) (findsP_apart g f (b + 1) _)
      exact (findsP_in g f (b + 1) _ y hy).2.1
/-- A place that no find covers begins nothing. -/
theorem findsP_none (g : Nat → Int) : ∀ (f b pl i : Nat), b ≤ i → pl ≤ i → i < b + f → (∀ x ∈ findsP g f b pl, i < x.1 ∨ x.2 ≤ i) → g i ≤ i
  | 0, b, pl, i, h1, _, h3, _ => by omega
  | f + 1, b, pl, i, h1, h2, h3, h => by
    by_cases hc : (b : Int) < pl ∨ g b ≤ b
    · rw [findsP, if_pos hc] at h
      rcases Nat.lt_or_ge b i with hb | hb
      · exact findsP_none g f (b + 1) pl i hb h2 (by omega) h
      · obtain rfl : b = i := by omega
        omega
    · rw [findsP, if_neg hc] at h
      have h0 := h _ (List.mem_cons_self)
      dsimp only at h0
      have hbi : b < i := by omega
      exact findsP_none g f (b + 1) _ i hbi (by omega) (by omega) (fun x hx => h x (List.mem_cons_of_mem _ hx))
end Pt
end Go.Proofs.YtgkegbcdiadkdaaDoor
namespace Go.Proofs.YtgkegbcdiadkdaaDoor
namespace Pt

theorem prt_prt {s : List UInt8} {i j a b : Nat} (hb : b ≤ j - i) : prt (prt s i j) a b = prt s (i + a) (i + b) := by
  unfold prt
  rw [List.drop_take, List.drop_drop, List.take_take, show i + b - (i + a) = b - a from by omega, show min (b - a) (j - i - a) = b - a from by omega]
theorem stp_prt {p : Pc} {s : List UInt8} {i j a b : Nat} (hij : i ≤ j) (hj : j ≤ s.length) (hb : b ≤ j - i) : stp p (prt s i j) a b = stp p s (i + a) (i + b) := by
  rw [Bool.eq_iff_iff, stp_iff, stp_iff, prt_prt hb, prt_len hj, show i + b - (i + a) = b - a from by omega]
  constructor
  · rintro ⟨h1, h2, h3⟩; exact ⟨by omega, by omega, h3⟩
  · rintro ⟨h1, h2, h3⟩; exact ⟨by omega, by omega, h3⟩
theorem rch_prt : ∀ {ps : List Pc} {s : List UInt8} {i j a b : Nat}, i ≤ j → j ≤ s.length → b ≤ j - i → (rch ps (prt s i j) a b = true ↔ rch ps s (i + a) (i + b) = true)
  | [], s, i, j, a, b, hij, hj, hb => by
    rw [rch_nil, rch_nil, prt_len hj]
    omega
  | p :: ps, s, i, j, a, b, hij, hj, hb => by
    rw [rch_cons, rch_cons]
    constructor
    · rintro ⟨m, h1, h2⟩
      have hm := (rch_le h2).1
      rw [stp_prt hij hj (by omega)] at h1
      exact ⟨i + m, h1, (rch_prt hij hj hb).1 h2⟩
    · rintro ⟨m, h1, h2⟩
      have h3 := (stp_le h1).1
      have h4 := (rch_le h2).1
      obtain ⟨m', rfl⟩ : ∃ m', m = i + m' := ⟨m - i, by omega⟩
      exact ⟨m', by rw [stp_prt hij hj (by omega)]; exact h1, (rch_prt hij hj hb).2 h2⟩
theorem text_iff {l : List UInt8} : isTextD l = true ↔ l.length ≤ 200 ∧ allD l 7 = true := by
  unfold isTextD
  rw [Bool.and_eq_true, decide_eq_true_eq]
theorem text_prt {s : List UInt8} {i j : Nat} (h : isTextD s = true) : isTextD (prt s i j) = true := by
  obtain ⟨h1, h2⟩ := text_iff.1 h
  rw [text_iff]
  refine ⟨?_, ?_⟩
  · unfold prt
    rw [List.length_take, List.length_drop]; omega
  · unfold prt
    refine allD_sub ?_
    unfold allD at *
    rw [List.all_eq_true] at *
    exact fun x hx => h2 x (List.mem_of_mem_drop hx)
/-- A part of a text is matched as the text is between the places. -/
theorem match_prt {ps : List Pc} {s : List UInt8} {i j : Nat} (hr : rightL ps = true) (ht : isTextD s = true) (hij : i ≤ j) (hj : j ≤ s.length) : matchL ps (prt s i j) = rch ps s i j := by
  unfold matchL
  rw [hr, text_prt ht, Bool.true_and, Bool.true_and, Bool.eq_iff_iff, prt_len hj, rch_prt hij hj (Nat.le_refl _), show i + (j - i) = j from by omega, Nat.add_zero]
/-- The end of the find before, and the find number k (the end of the text, if there is none). -/
def lstE (fs : List (Nat × Nat)) : Nat → Nat | 0 => 0 | k + 1 => (fs[k]?.getD (0, 0)).2
def atE (fs : List (Nat × Nat)) (L k : Nat) : Nat × Nat := fs[k]?.getD (L, L)
theorem atE_lt {fs : List (Nat × Nat)} {L k : Nat} (h : k < fs.length) : atE fs L k = fs[k] := by
  unfold atE; rw [List.getElem?_eq_getElem h]; rfl
theorem atE_ge {fs : List (Nat × Nat)} {L k : Nat} (h : fs.length ≤ k) : atE fs L k = (L, L) := by
  unfold atE; rw [List.getElem?_eq_none h]; rfl
theorem lstE_succ {fs : List (Nat × Nat)} {L k : Nat} (h : k < fs.length) : lstE fs (k + 1) = (atE fs L k).2 := by
  rw [atE_lt h]; show (fs[k]?.getD (0, 0)).2 = _; rw [List.getElem?_eq_getElem h]; rfl
theorem lstE_last {fs : List (Nat × Nat)} {k : Nat} (h : k < fs.length) : lstE fs (k + 1) = fs[k].2 := by
  show (fs[k]?.getD (0, 0)).2 = _
  rw [List.getElem?_eq_getElem h]; rfl
theorem findL_at {fs : List (Nat × Nat)} {L k : Nat} (h : k < fs.length) : findL fs ((k : Int) + 1) = ((atE fs L k).1, (atE fs L k).2, true) := by
  rw [atE_lt h]
  unfold findL
  rw [if_pos (by omega), show ((k : Int) + 1).toNat - 1 = k from by omega, List.getElem?_eq_getElem h]
theorem findL_end {fs : List (Nat × Nat)} {k : Nat} (h : fs.length ≤ k) : findL fs ((k : Int) + 1) = (0, 0, false) :=
  find_no fun m hm => by omega
section
variable {ps : List Pc} {s : List UInt8}
theorem findsL_right {x : Nat × Nat} (h : x ∈ findsL ps s) : rightL ps = true ∧ isTextD s = true := by
  unfold findsL at h
  cases h1 : rightL ps <;> cases h2 : isTextD s <;> rw [h1, h2] at h <;> first | exact ⟨rfl, rfl⟩ | simp at h
theorem findsL_eq (h1 : rightL ps = true) (h2 : isTextD s = true) : findsL ps s = findsP (gr ps s) (s.length + 1) 0 0 := by
  unfold findsL; rw [h1, h2]; rfl
theorem find_le {x : Nat × Nat} (h : x ∈ findsL ps s) : x.1 < x.2 ∧ x.2 ≤ s.length ∧ gr ps s x.1 = (x.2 : Int) := by
  obtain ⟨h1, h2⟩ := findsL_right h
  rw [findsL_eq h1 h2] at h
  obtain ⟨_, _, h3, h4, h5⟩ := findsP_in _ _ _ _ _ h
  have h6 := gr_ge (ps := ps) (s := s) (i := x.1) (by omega)
  exact ⟨h3, by omega, h4⟩
theorem find_is {x : Nat × Nat} (h : x ∈ findsL ps s) : rch ps s x.1 x.2 = true ∧ ∀ j, rch ps s x.1 j = true → j ≤ x.2 := by
  obtain ⟨h1, h2, h3⟩ := find_le h
  rcases gr_spec ps s x.1 (by omega) with ⟨h4, _⟩ | ⟨j, h4, h5, h6⟩
  · omega
  · obtain rfl : j = x.2 := by omega
    exact ⟨h5, h6⟩
theorem finds_apart : (findsL ps s).Pairwise (fun x y => x.2 ≤ y.1) := by
  unfold findsL
  cases rightL ps && isTextD s
  · exact List.Pairwise.nil
  · exact findsP_apart _ _ _ _
theorem finds_get {a b : Nat} (hb : b < (findsL ps s).length) (hab : a < b) : ((findsL ps s)[a]'(by omega)).2 ≤ (findsL ps s)[b].1 :=
  List.pairwise_iff_getElem.1 finds_apart a b (by omega) hb hab
theorem finds_grow (ps : List Pc) (s : List UInt8) : ∀ (k : Nat) (hk : k < (findsL ps s).length), k + 1 ≤ (findsL ps s)[k].2
  | 0, hk => by have := (find_le (List.getElem_mem hk)).1; omega
  | k + 1, hk => by
    have h1 := finds_grow ps s k (by omega)
    have h2 := finds_get hk (Nat.lt_succ_self k)
    have h3 := (find_le (List.getElem_mem hk)).1
    omega
/-- There are no more finds than characters. -/
theorem finds_few : (findsL ps s).length ≤ s.length := by
  rcases Nat.eq_zero_or_pos (findsL ps s).length with h | h
  · omega
  · have h1 := finds_grow ps s ((findsL ps s).length - 1) (by omega)
    have h2 := (find_le (List.getElem_mem (show (findsL ps s).length - 1 < (findsL ps s).length by omega))).2.1
    omega
theorem lst_le {k : Nat} (hk : k ≤ (findsL ps s).length) : lstE (findsL ps s) k ≤ (atE (findsL ps s) s.length k).1 ∧ (atE (findsL ps s) s.length k).1 ≤ (atE (findsL ps s) s.length k).2 ∧ (atE (findsL ps s) s.length k).2 ≤ s.length := by
  rcases Nat.lt_or_ge k (findsL ps s).length with h | h
  · rw [atE_lt h]
    have h1 := find_le (List.getElem_mem h)
    refine ⟨?_, by omega, by omega⟩
    cases k with
    | zero => exact Nat.zero_le _
    | succ k => rw [lstE_last (by omega)]; exact finds_get h (Nat.lt_succ_self k)
  · rw [atE_ge h]
    refine ⟨?_, Nat.le_refl _, Nat.le_refl _⟩
    cases k with
    | zero => exact Nat.zero_le _
    | succ k => rw [lstE_last (by omega)]; exact (find_le (List.getElem_mem _)).2.1
/-- Between the find before and the find nothing is matched. -/
theorem between {k i j : Nat} (hk : k ≤ (findsL ps s).length) (h1 : lstE (findsL ps s) k ≤ i) (h2 : i < (atE (findsL ps s) s.length k).1) (h3 : i < j) (h4 : j ≤ s.length) (ht : isTextD s = true) : matchL ps (prt s i j) = false := by
  cases hr : rightL ps with
  | false => unfold matchL; rw [hr]; rfl
  | true =>
    rw [match_prt hr ht (by omega) h4, Bool.eq_false_iff]
    intro h
    have hg : gr ps s i ≤ i := by
      have hn := findsP_none (gr ps s) (s.length + 1) 0 0 i (Nat.zero_le _) (Nat.zero_le _) (by omega)
      rw [← findsL_eq hr ht] at hn
      refine hn fun x hx => ?_
      obtain ⟨m, hm, rfl⟩ := List.getElem_of_mem hx
      rcases Nat.lt_or_ge m k with h5 | h5
      · refine .inr ?_
        obtain ⟨k', rfl⟩ : ∃ k', k = k' + 1 := ⟨k - 1, by omega⟩
        rw [lstE_last (by omega)] at h1
        rcases Nat.lt_or_ge m k' with h6 | h6
        · have h7 := finds_get (ps := ps) (s := s) (b := k') (by omega) h6
          have h8 := (find_le (List.getElem_mem (show k' < (findsL ps s).length by omega))).1
          omega
        · obtain rfl : m = k' := by omega
          exact h1
      · refine .inl ?_
        rw [atE_lt (by omega)] at h2
        rcases Nat.lt_or_ge k m with h6 | h6
        · have h7 := finds_get (ps := ps) (s := s) hm h6
          have h8 := (find_le (List.getElem_mem (show k < (findsL ps s).length by omega))).1
          omega
        · obtain rfl : m = k := by omega
          exact h2
    rcases gr_spec ps s i (by omega) with ⟨_, h5⟩ | ⟨e, h5, _, h6⟩
    · rw [h5] at h; cases h
    · have := h6 _ h
      omega
/-- A find is matched, and nothing longer. -/
theorem find_full {k : Nat} (hk : k < (findsL ps s).length) : (atE (findsL ps s) s.length k).1 < (atE (findsL ps s) s.length k).2 ∧ matchL ps (prt s (atE (findsL ps s) s.length k).1 (atE (findsL ps s) s.length k).2) = true ∧ ∀ j, (atE (findsL ps s) s.length k).2 < j → j ≤ s.length → matchL ps (prt s (atE (findsL ps s) s.length k).1 j) = false := by
  rw [atE_lt hk]
  have hm := List.getElem_mem hk
  obtain ⟨h1, h2⟩ := findsL_right hm
  obtain ⟨h3, h4, _⟩ := find_le hm
  obtain ⟨h5, h6⟩ := find_is hm
  refine ⟨h3, by rw [match_prt h1 h2 (by omega) h4]; exact h5, fun j hj hjl => ?_⟩
  rw [match_prt h1 h2 (by omega) hjl, Bool.eq_false_iff]
  intro h
  have := h6 _ h
  omega
end
end Pt
open Go.RowKit Pt
theorem ext_prt (s : ByteArray) (i j : Nat) : (s.extract i j).data.toList = prt s.data.toList i j := by
  rw [ByteArray.data_extract]
  simp only [Array.toList_extract, List.extract]
/-- What the finds of a pattern in a text are: places, and what is matched between them. -/
theorem spans_facts (ps : List Pc) (s : ByteArray) : ∃ (n : Nat) (X A B : Nat → Nat) (M : Nat → Nat → Bool), (findsL ps s.data.toList).length = n ∧ n ≤ s.size ∧ X 0 = 0 ∧ (∀ K, K < n → X (K + 1) = B K) ∧ (∀ K, K ≤ n → X K ≤ A K ∧ A K ≤ B K ∧ B K ≤ s.size) ∧ (∀ K, K < n → A K < B K ∧ M (A K) (B K) = true ∧ ∀ j, B K < j → j ≤ s.size → M (A K) j = false) ∧ (A n = s.size ∧ B n = s.size) ∧ (∀ K, K ≤ n → ∀ i j, X K ≤ i → i < A K → i < j → j ≤ s.size → isTextD s.data.toList = true → M i j = false) ∧ (∀ i j, matchL ps (s.extract i j).data.toList = M i j) ∧ (∀ K, K < n → findV (findsL ps s.data.toList) ((K : Int) + 1) = .tuple #[.int .i64 (A K : Int), .int .i64 (B K : Int), .bool true]) ∧ findV (findsL ps s.data.toList) ((n : Int) + 1) = .tuple #[.int .i64 0, .int .i64 0, .bool false] := by
  refine ⟨(findsL ps s.data.toList).length, lstE (findsL ps s.data.toList), fun K => (atE (findsL ps s.data.toList) s.data.toList.length K).1, fun K => (atE (findsL ps s.data.toList) s.data.toList.length K).2, fun i j => matchL ps (prt s.data.toList i j), rfl, finds_few, rfl, fun K hK => lstE_succ hK, fun K hK => lst_le hK, fun K hK => find_full hK, ?_, fun K hK i j h1 h2 h3 h4 h5 => between hK h1 h2 h3 h4 h5, fun i j => by rw [ext_prt], fun K hK => ?_, ?_⟩
  · dsimp only; rw [atE_ge (Nat.le_refl _)]; exact ⟨rfl, rfl⟩
  · unfold findV; rw [findL_at hK]
  · unfold findV; rw [findL_end (Nat.le_refl _)]; rfl
end Go.Proofs.YtgkegbcdiadkdaaDoor
namespace Go.Proofs.YtgkegbcdiadkdaaDoor
open Go.RowKit Go.Shelf Pt

namespace Pt
/-- Ends behind one more piece, from the places before k. -/
def stepF (p : Pc) (s : List UInt8) (F : Nat → Bool) (k m : Nat) : Bool := (List.range k).any fun k' => F k' && stp p s k' m
theorem stepF_zero {p : Pc} {s : List UInt8} {F : Nat → Bool} {m : Nat} : stepF p s F 0 m = false := rfl
theorem stepF_succ {p : Pc} {s : List UInt8} {F : Nat → Bool} {k m : Nat} : stepF p s F (k + 1) m = (stepF p s F k m || (F k && stp p s k m)) := by
  unfold stepF
  rw [List.range_succ, List.any_append, List.any_cons, List.any_nil, Bool.or_false]
theorem stepF_no {p : Pc} {s : List UInt8} {F : Nat → Bool} {k m : Nat} (h : F k = false) : stepF p s F (k + 1) m = stepF p s F k m := by
  rw [stepF_succ, h, Bool.false_and, Bool.or_false]
theorem stepF_yes {p : Pc} {s : List UInt8} {F : Nat → Bool} {k m : Nat} (h : F k = true) : stepF p s F (k + 1) m = (stepF p s F k m || stp p s k m) := by
  rw [stepF_succ, h, Bool.true_and]
/-- All places: what the pieces reach with one more. -/
theorem stepF_all {ps : List Pc} {p : Pc} {s : List UInt8} {a m : Nat} : stepF p s (fun j => rch ps s a j) (s.length + 1) m = rch (ps ++ [p]) s a m := by
  rw [Bool.eq_iff_iff, rch_snoc]
  unfold stepF
  rw [List.any_eq_true]
  constructor
  · rintro ⟨k, _, h⟩
    rw [Bool.and_eq_true] at h
    exact ⟨k, h⟩
  · rintro ⟨k, h1, h2⟩
    refine ⟨k, ?_, by rw [Bool.and_eq_true]; exact ⟨h1, h2⟩⟩
    rw [List.mem_range]
    have := (rch_le h1).2
    omega
theorem stepF_congr {p : Pc} {s : List UInt8} {F G : Nat → Bool} {k m : Nat} (h : ∀ j, j < k → F j = G j) : stepF p s F k m = stepF p s G k m := by
  unfold stepF
  rw [Bool.eq_iff_iff, List.any_eq_true, List.any_eq_true]
  constructor
  · rintro ⟨j, hj, h1⟩; exact ⟨j, hj, by rw [← h j (List.mem_range.1 hj)]; exact h1⟩
  · rintro ⟨j, hj, h1⟩; exact ⟨j, hj, by rw [h j (List.mem_range.1 hj)]; exact h1⟩
/-- The ends of a run from place k that lie before place e. -/
def runF (p : Pc) (s : List UInt8) (F : Nat → Bool) (k e m : Nat) : Bool := stepF p s F k m || (decide (m < e) && stp p s k m)
theorem runF_zero {p : Pc} {s : List UInt8} {F : Nat → Bool} {k m : Nat} : runF p s F k k m = stepF p s F k m := by
  unfold runF
  cases h : decide (m < k)
  · simp
  · have : stp p s k m = false := by
      rw [Bool.eq_false_iff]
      intro h1
      have := (stp_le h1).1
      simp at h
      omega
    rw [this]; simp
theorem runF_yes {p : Pc} {s : List UInt8} {F : Nat → Bool} {k e m : Nat} (h : stp p s k e = true) : (if m = e then true else runF p s F k e m) = runF p s F k (e + 1) m := by
  unfold runF
  by_cases h1 : m = e
  · subst h1
    rw [if_pos rfl, h, decide_eq_true (Nat.lt_succ_self m)]
    simp
  · rw [if_neg h1, show decide (m < e + 1) = decide (m < e) from decide_eq_decide.2 (by omega)]
theorem runF_no {p : Pc} {s : List UInt8} {F : Nat → Bool} {k e m : Nat} (h : stp p s k e = false) : runF p s F k e m = runF p s F k (e + 1) m := by
  unfold runF
  by_cases h1 : m = e
  · subst h1
    rw [h]; simp
  · rw [show decide (m < e + 1) = decide (m < e) from decide_eq_decide.2 (by omega)]
theorem runF_done {p : Pc} {s : List UInt8} {F : Nat → Bool} {k e m : Nat} (hF : F k = true) (h : ∀ j, e ≤ j → stp p s k j = false) : runF p s F k e m = stepF p s F (k + 1) m := by
  rw [stepF_yes hF]
  unfold runF
  by_cases h1 : m < e
  · rw [decide_eq_true h1, Bool.true_and]
  · rw [decide_eq_false h1, h m (by omega)]; simp
/-- A literal: it stands at the place or not. -/
theorem stp_lit {p : Pc} {s : List UInt8} {k m : Nat} (hk : p.k = 0) : stp p s k m = true ↔ m = k + p.t.size ∧ m ≤ s.length ∧ prt s k m = p.t.data.toList := by
  have hl : p.t.data.toList.length = p.t.size := rfl
  rw [stp_iff, if_pos hk]
  constructor
  · rintro ⟨h1, h2, h3⟩
    have h4 := prt_len (s := s) (i := k) (j := m) h2
    rw [h3, hl] at h4
    exact ⟨by omega, h2, h3⟩
  · rintro ⟨h1, h2, h3⟩
    exact ⟨by omega, h2, h3⟩
theorem litF_yes {p : Pc} {s : List UInt8} {F : Nat → Bool} {k m : Nat} (hk : p.k = 0) (hF : F k = true) (hl : k + p.t.size ≤ s.length) (h : prt s k (k + p.t.size) = p.t.data.toList) : (if m = k + p.t.size then true else stepF p s F k m) = stepF p s F (k + 1) m := by
  rw [stepF_yes hF]
  by_cases h1 : m = k + p.t.size
  · subst h1
    rw [if_pos rfl, (stp_lit hk).2 ⟨rfl, hl, h⟩, Bool.or_true]
  · rw [if_neg h1, show stp p s k m = false from by
      rw [Bool.eq_false_iff]; intro h2; exact h1 ((stp_lit hk).1 h2).1, Bool.or_false]
theorem litF_no {p : Pc} {s : List UInt8} {F : Nat → Bool} {k m : Nat} (hk : p.k = 0) (h : ¬ (k + p.t.size ≤ s.length ∧ prt s k (k + p.t.size) = p.t.data.toList)) : stepF p s F k m = stepF p s F (k + 1) m := by
  rw [stepF_succ, show stp p s k m = false from by
    rw [Bool.eq_false_iff]
    intro h2
    obtain ⟨rfl, h3, h4⟩ := (stp_lit hk).1 h2
    exact h ⟨h3, h4⟩]
  simp
end Pt

/-- A table of truth values, one for each place. -/
def tabB (f : Nat → Bool) (L : Nat) : List Value := (List.range (L + 1)).map fun j => Value.bool (f j)
theorem tabB_len {f : Nat → Bool} {L : Nat} : (tabB f L).length = L + 1 := by simp [tabB]
theorem tabB_get {f : Nat → Bool} {L j : Nat} (h : j ≤ L) : (tabB f L)[j]? = some (.bool (f j)) := by
  simp [tabB, List.getElem?_map, List.getElem?_range (show j < L + 1 by omega)]
theorem tabB_congr {f g : Nat → Bool} {L : Nat} (h : ∀ j, j ≤ L → f j = g j) : tabB f L = tabB g L := by
  unfold tabB
  refine List.map_congr_left fun j hj => ?_
  rw [List.mem_range] at hj
  rw [h j (by omega)]
theorem tabB_set {f : Nat → Bool} {L e : Nat} {z : Bool} : (tabB f L).set e (.bool z) = tabB (fun j => if j = e then z else f j) L := by
  apply List.ext_getElem?
  intro j
  rw [List.getElem?_set]
  rcases Nat.lt_or_ge L j with h | h
  · rw [show (tabB (fun j => if j = e then z else f j) L)[j]? = none from List.getElem?_eq_none (by rw [tabB_len]; omega), show (tabB f L)[j]? = none from List.getElem?_eq_none (by rw [tabB_len]; omega)]
    split
    · rw [if_neg (by rw [tabB_len]; omega)]
    · rfl
  · rw [tabB_get h, tabB_get h]
    split
    · next h1 => subst h1; rw [if_pos (by rw [tabB_len]; omega), if_pos rfl]
    · next h1 => rw [if_neg (fun h2 => h1 h2.symm)]
theorem tabB_zero (L : Nat) : (madeCells (Value.bool false).cells ((L + 1) * 1)).toList = tabB (fun _ => false) L := by
  simp only [madeCells, Value.cells, tabB, Nat.mul_one]
  apply List.ext_getElem
  · simp
  · intro i h1 h2
    simp [Nat.mod_one]
/-- What 'make' of n truth values leaves. -/
theorem tabB_made {e : TypeId} {w' : World} {base g L : Nat} (h : w'.ownsRow base e 1 (.slice (some ⟨g, 0, none⟩) (L + 1) (L + 1)) (L + 1) (madeCells (Value.bool false).cells ((L + 1) * 1)).toList) : Row w' g (tabB (fun _ => false) L) e := by
  obtain ⟨_, h2⟩ := h
  rcases h2 with ⟨h2, _⟩ | ⟨g', cap, cur, hv, _, hg, _, _, hsz, htk⟩
  · simp at h2
  · simp only [Value.slice.injEq, Option.some.injEq, Addr.mk.injEq, and_true, true_and] at hv
    obtain ⟨rfl, rfl⟩ := hv
    have hc : cur = (tabB (fun _ => false) L).toArray := by
      rw [← tabB_zero, ← htk, Nat.mul_one, List.take_of_length_le (by simp [hsz])]
    subst hc
    exact hg
end Go.Proofs.YtgkegbcdiadkdaaDoor
namespace Go.Proofs.YtgkegbcdiadkdaaDoor
open Go.RowKit Go.Shelf Pt

theorem pcs_sl {w : World} {v : Value} {ps : List Pc} (h : Pcs w v ps) : ∃ a c, v = .slice a ps.length c ∧ (ps.length = 0 ∨ ∃ g o, a = some ⟨g, o, none⟩ ∧ g < w.heap.size ∧ PcsAt w g o ps) := by
  rcases h with ⟨rfl, rfl⟩ | ⟨g, o, c, rfl, hb, hp⟩
  · exact ⟨none, 0, rfl, .inl rfl⟩
  · exact ⟨_, c, rfl, .inr ⟨g, o, rfl, hb, hp⟩⟩
theorem Row.drn {w : World} {b n : Nat} {cs : List Value} {t : TypeId} (h : Row w b cs t) : Row (w.drewN n) b cs t := h
theorem gr_drn {W w : World} {n : Nat} (h : W.grownBy w none) : W.grownBy (w.drewN n) none := gr_then h (gr_drewN w n none)
theorem infoB : (Tryd.prog.info? 4).map (fun i => (i.zero, i.size, i.bytes)) = some (some (.bool false), 1, 1) := by kernel_rfl
theorem ext_dec {s t : ByteArray} {i j : Nat} : (s.extract i j = t) ↔ prt s.data.toList i j = t.data.toList := by
  rw [← ext_prt]
  constructor
  · intro h; rw [h]
  · intro h
    have := toArray_eq t h
    rw [← this]
set_option maxRecDepth 100000 in
set_option maxHeartbeats 8000000 in
theorem ends_any (v : Value) (ps : List Pc) (s : ByteArray) (a : Nat) (w : World) (hp : Pcs w v ps) (hn : ps.length ≤ 1000000) (hs : s.size ≤ 1000) (ha : a ≤ s.size) (hr : ∀ q ∈ ps, rightP q.k q.a q.b q.t = true) (hsz : ∀ q ∈ ps, q.t.size ≤ 1000) :
    Calls Tryd.prog 42 #[v, .string s, .int .i64 (a : Int)] w fun e w' => ∃ G, e = .returned (.slice (some ⟨G, 0, none⟩) (s.size + 1) (s.size + 1)) ∧ Row w' G (tabB (fun m => rch ps s.data.toList a m) s.size) 4 ∧ w.grownBy w' none := by
  obtain ⟨i0, hi, hz0, hz1, hz2⟩ := info_parts infoB
  obtain ⟨va, vc, rfl, hpf⟩ := pcs_sl hp
  obtain ⟨n, hnn⟩ : ∃ n, ps.length = n := ⟨_, rfl⟩
  have HL := Lib.hid (show s.size = s.size from rfl)
  have HN := Lib.hid hnn
  rw [hnn] at hpf
  have HP := Lib.hid hpf
  have HR := Lib.hid hr
  have HS := Lib.hid hsz
  rw [hnn] at hn ⊢
  have HMK := Lib.hid (fun (w0 : World) => run_make_full (P := Tryd.prog) w0 0 70 4 i0 (.bool false) 1 Tryd.underlying70 hi hz0 hz1 .i64 .i64 (s.size + 1) (by rw [hz2]; omega) (by unfold maxLen; omega) (Nat.zero_le _))
  clear hp hnn hpf hr hsz hi hz0 hz1 hz2
  obtain ⟨w1, hmk, hown, hg1⟩ := HMK.out w
  rw [show ((s.size + 1 : Nat) : Int) = (s.size : Int) + 1 from rfl] at hmk
  have HT := Lib.hid (tabB_made hown)
  have HG1 := Lib.hid hg1
  obtain ⟨G, hG⟩ : ∃ G, w.heap.size = G := ⟨_, rfl⟩
  rw [hG] at hmk HT
  have HGG := Lib.hid hG
  have fr := HT.out.fr a
  have c0 := HT.out.cell a _ (tabB_get ha)
  have hai : (a : Int) < (s.size : Int) + 1 := by omega
  clear hown hg1 hG
  go_enter Tryd.func42, Tryd.ntmps42
  go_wp2_with fail
  have hI0 : Row (w1.setCell ⟨G, a, none⟩ (.bool true)) G (tabB (fun m => rch [] s.data.toList a m) s.size) 4 := by
    have h := HT.out.set a (.bool true)
    rw [tabB_set] at h
    rwa [tabB_congr (g := fun m => rch [] s.data.toList a m) (fun j hj => ?_)] at h
    rw [Bool.eq_iff_iff, rch_nil, len_toList]
    by_cases h1 : j = a
    · rw [if_pos h1]; exact ⟨fun _ => ⟨h1.symm, hj⟩, fun _ => rfl⟩
    · rw [if_neg h1]; exact ⟨fun h => (by cases h), fun h => absurd h.1.symm h1⟩
  have hG0 : w.grownBy (w1.setCell ⟨G, a, none⟩ (.bool true)) none := gr_setn HG1.out (by rw [HGG.out]; exact Nat.le_refl _)
  obtain ⟨W0, hW0⟩ : ∃ W0, w1.setCell ⟨G, a, none⟩ (.bool true) = W0 := ⟨_, rfl⟩
  rw [hW0] at hI0 hG0 ⊢
  have HI0 := Lib.hid hI0
  have HG0 := Lib.hid hG0
  clear hI0 hG0 hW0 fr c0 hmk HT HG1 hai
  go_loopw [7, 8] (fun now i wr => ∃ j g : Nat, j ≤ n ∧ i = .int .i64 (j : Int) ∧ now = .slice (some ⟨g, 0, none⟩) (s.size + 1) (s.size + 1) ∧ Hid (Row wr g (tabB (fun m => rch (ps.take j) s.data.toList a m) s.size) 4) ∧ Hid (w.grownBy wr none)) (fun _ i _ => n - (intOf i).toNat)
  case atStart => exact ⟨0, G, Nat.zero_le _, rfl, rfl, HI0, HG0⟩
  case round =>
    obtain ⟨j, g, hj, rfl, rfl, HI, GI⟩ := hrel
    by_cases hlt : j < n
    · have hlti : (j : Int) < (n : Int) := by omega
      have hjl : j < ps.length := by rw [HN.out]; exact hlt
      obtain ⟨pg, po, rfl, hpb, hpa⟩ := HP.out.resolve_left (by omega)
      have HPC := Lib.hid (fun (w0 : World) (g0 : w.grownBy w0 none) => cells4 hpb g0 (hpa j hjl))
      have HTK := Lib.hid (show ps.take (j + 1) = ps.take j ++ [ps[j]] from by rw [List.take_succ_eq_append_getElem hjl])
      have HRQ := Lib.hid (HR.out ps[j] (List.getElem_mem hjl))
      have HSQ := Lib.hid (HS.out ps[j] (List.getElem_mem hjl))
      obtain ⟨w2, hmk, hown, hg2⟩ := HMK.out wr
      rw [show ((s.size + 1 : Nat) : Int) = (s.size : Int) + 1 from rfl] at hmk
      have HT2 := Lib.hid (tabB_made hown)
      obtain ⟨G2, hG2⟩ : ∃ G2, wr.heap.size = G2 := ⟨_, rfl⟩
      rw [hG2] at hmk HT2
      have hgG : g < G2 := by rw [← hG2]; exact HI.out.lt
      have hwG : w.heap.size ≤ G2 := by rw [← hG2]; exact GI.out.size
      have HI2 := Lib.hid (HI.out.kept hg2)
      have GI2 := Lib.hid (gr_then GI.out hg2)
      generalize ps[j] = q at *
      obtain ⟨q0, q1, q2, q3⟩ := q
      simp only at HPC HRQ HSQ
      obtain ⟨F, hF⟩ : ∃ F : Nat → Bool, (fun m => rch (ps.take j) s.data.toList a m) = F := ⟨_, rfl⟩
      rw [hF] at HI2
      have HFF := Lib.hid (show ∀ m, stepF ⟨q0, q1, q2, q3⟩ s.data.toList F (s.size + 1) m = rch (ps.take (j + 1)) s.data.toList a m from fun m => by rw [HTK.out, ← hF]; exact stepF_all)
      have hqs := HSQ.out
      have hqt : (q3.size : Int) ≤ 1000 := by omega
      clear hown hg2 hF hG2 hpa HI GI HTK
      go_wp2_with fail
      clear hmk
      go_loopw [10] (fun k wx => ∃ K : Nat, K ≤ s.size + 1 ∧ k = .int .i64 (K : Int) ∧ Hid (Row wx g (tabB F s.size) 4) ∧ Hid (Row wx G2 (tabB (stepF ⟨q0, q1, q2, q3⟩ s.data.toList F K) s.size) 4) ∧ Hid (w.grownBy wx none)) (fun k _ => s.size + 1 - (intOf k).toNat)
      case atStart => exact ⟨0, Nat.zero_le _, rfl, HI2, HT2, GI2⟩
      case round =>
        clear HT2 HI2 GI2
        obtain ⟨K, hK, rfl, H1, H2, GK⟩ := hrel
        by_cases hKL : K ≤ s.size
        · have hKi : (K : Int) ≤ (s.size : Int) := by omega
          have hKi1 : (K : Int) < (s.size : Int) + 1 := by omega
          have c1 := H1.out.cell K _ (tabB_get hKL)
          have HFK := Lib.hid (show ∃ b, F K = b from ⟨_, rfl⟩)
          obtain ⟨b, hb⟩ := HFK.out
          rw [hb] at c1
          have HB := Lib.hid hb
          clear hb HFK
          cases b
          · have HN2 := Lib.hid (show Row wr G2 (tabB (stepF ⟨q0, q1, q2, q3⟩ s.data.toList F (K + 1)) s.size) 4 from by rw [← tabB_congr (fun m _ => (stepF_no HB.out).symm)]; exact H2.out)
            go_wp2
            exact ⟨⟨K + 1, by omega, by simp, H1, HN2, GK⟩, by simp only [intOf]; omega⟩
          · obtain ⟨d0, d1, d2, d3⟩ := HPC.out _ GK.out
            by_cases hk : q0 = 0
            · subst hk
              by_cases he : K + q3.size ≤ s.size
              · have hei : (K : Int) + (q3.size : Int) ≤ (s.size : Int) := by omega
                have hes : (K : Int) + (q3.size : Int) ≤ (s.size : Int) := by exact hei
                have hKE : (K : Int) ≤ (K : Int) + (q3.size : Int) := by omega
                obtain ⟨b, hb⟩ : ∃ b, ((s.extract K (K + q3.size)).toList == q3.toList) = b := ⟨_, rfl⟩
                have HEQ := Lib.hid (show (s.extract K (K + q3.size)).toList = q3.toList ↔ prt s.data.toList K (K + q3.size) = q3.data.toList from by rw [ByteArray.toList_eq, ByteArray.toList_eq, ext_prt])
                have c2 := H2.out.fr (K + q3.size)
                have c3 := H2.out.cell (K + q3.size) _ (tabB_get he)
                have hed : decide ((K : Int) + (q3.size : Int) ≤ (s.size : Int)) = true := decide_eq_true hei
                have hee : (K : Int) + (q3.size : Int) < (s.size : Int) + 1 := by omega
                cases b
                · have HN2 := Lib.hid (show Row wr G2 (tabB (stepF ⟨0, q1, q2, q3⟩ s.data.toList F (K + 1)) s.size) 4 from by
                    rw [← tabB_congr (fun m _ => litF_no rfl (by
                      rintro ⟨_, h⟩
                      rw [beq_eq_false_iff_ne] at hb
                      exact hb (HEQ.out.2 h)))]
                    exact H2.out)
                  go_wp2_with fail
                  go_quiet (fail)
                  go_wp2
                  exact ⟨⟨K + 1, by omega, by simp, Lib.hid H1.out.drn, Lib.hid HN2.out.drn, Lib.hid (gr_drn GK.out)⟩, by simp only [intOf]; omega⟩
                · have HN2 := Lib.hid (fun nq => show Row ((wr.drewN nq).setCell ⟨G2, K + q3.size, none⟩ (.bool true)) G2 (tabB (stepF ⟨0, q1, q2, q3⟩ s.data.toList F (K + 1)) s.size) 4 from by
                    have h := (Row.drn (n := nq) H2.out).set (K + q3.size) (.bool true)
                    rw [tabB_set] at h
                    rwa [tabB_congr (g := stepF ⟨0, q1, q2, q3⟩ s.data.toList F (K + 1)) (fun m _ => litF_yes (p := ⟨0, q1, q2, q3⟩) rfl HB.out (by rw [len_toList]; exact he) (HEQ.out.1 (beq_iff_eq.1 hb)))] at h)
                  go_wp2_with fail
                  go_quiet (fail)
                  go_wp2
                  exact ⟨⟨K + 1, by omega, by simp, Lib.hid (H1.out.drn.other (by omega)), Lib.hid (HN2.out _), Lib.hid (gr_setn (gr_drn GK.out) hwG)⟩, by simp only [intOf]; omega⟩
              · have hei : ¬ (K : Int) + (q3.size : Int) ≤ (s.size : Int) := by omega
                have hed : decide ((K : Int) + (q3.size : Int) ≤ (s.size : Int)) = false := decide_eq_false hei
                have hee : decide (K + q3.size ≤ s.size) = false := decide_eq_false he
                have HN2 := Lib.hid (show Row wr G2 (tabB (stepF ⟨0, q1, q2, q3⟩ s.data.toList F (K + 1)) s.size) 4 from by
                    rw [← tabB_congr (fun m _ => litF_no rfl (by
                      rintro ⟨h, _⟩
                      rw [len_toList] at h
                      exact he h))]
                    exact H2.out)
                clear hei
                go_wp2_with fail
                go_quiet (fail)
                go_wp2
                exact ⟨⟨K + 1, by omega, by simp, Lib.hid H1.out.drn, Lib.hid HN2.out.drn, Lib.hid (gr_drn GK.out)⟩, by simp only [intOf]; omega⟩
            · have hkb : (q0 == 0) = false := by rw [beq_eq_false_iff_ne]; exact hk
              have HK := Lib.hid hk
              have hab := right_ab HRQ.out
              clear hk
              go_wp2_with fail
              go_loopw [12] (fun m wy => ∃ N : Nat, K + N ≤ s.size + 1 ∧ m = .int .i64 (N : Int) ∧ Hid (Row wy g (tabB F s.size) 4) ∧ Hid (Row wy G2 (tabB (runF ⟨q0, q1, q2, q3⟩ s.data.toList F K (K + N)) s.size) 4) ∧ Hid (allD (prt s.data.toList K (K + N - 1)) q0 = true) ∧ Hid (w.grownBy wy none)) (fun m _ => s.size + 2 - (intOf m).toNat)
              case atStart => exact ⟨0, by omega, rfl, H1, Lib.hid (by rw [Nat.add_zero, tabB_congr (fun m _ => runF_zero)]; exact H2.out), Lib.hid (by unfold prt; rw [show K + 0 - 1 - K = 0 from by omega, List.take_zero]; rfl), GK⟩
              case round =>
                clear c1 d0 d1 d2 d3 H1 H2 GK
                obtain ⟨N, hN, rfl, HX1, HX2, HA, GX⟩ := hrel
                obtain ⟨d0, d1, d2, d3⟩ := HPC.out _ GX.out
                have HDN := Lib.hid (fun (h : ∀ e, K + N ≤ e → stp ⟨q0, q1, q2, q3⟩ s.data.toList K e = false) => show Row wr G2 (tabB (stepF ⟨q0, q1, q2, q3⟩ s.data.toList F (K + 1)) s.size) 4 from by rw [← tabB_congr (fun m _ => runF_done HB.out h)]; exact HX2.out)
                by_cases h1 : (N : Int) ≤ q2
                · by_cases h2 : K + N ≤ s.size
                  · have h2i : (K : Int) + (N : Int) ≤ (s.size : Int) := by omega
                    have h2j : (K : Int) + (N : Int) < (s.size : Int) + 1 := by omega
                    by_cases hN0 : N = 0
                    · have hN1 : decide ((0 : Int) < (N : Int)) = false := by rw [hN0]; rfl
                      have hN2 : decide (0 < N) = false := by rw [hN0]; rfl
                      have HAN := Lib.hid (show allD (prt s.data.toList K (K + (N + 1) - 1)) q0 = true from by rw [hN0]; unfold prt; rw [show K + (0 + 1) - 1 - K = 0 from by omega, List.take_zero]; rfl)
                      have HST := Lib.hid (stp_run (p := ⟨q0, q1, q2, q3⟩) (s := s.data.toList) (i := K) (e := K + N) HK.out (by omega) (by rw [len_toList]; exact h2) HAN.out (by simp only; omega))
                      clear hN0
                      go_wp2_with fail
                      go_quiet (fail)
                      by_cases h3 : q1 ≤ (N : Int)
                      · have hst : stp ⟨q0, q1, q2, q3⟩ s.data.toList K (K + N) = true := by rw [HST.out]; exact decide_eq_true (by omega)
                        have HN2 := Lib.hid (fun nq => show Row ((wr.drewN nq).setCell ⟨G2, K + N, none⟩ (.bool true)) G2 (tabB (runF ⟨q0, q1, q2, q3⟩ s.data.toList F K (K + (N + 1))) s.size) 4 from by
                          have h := (Row.drn (n := nq) HX2.out).set (K + N) (.bool true)
                          rw [tabB_set] at h
                          rwa [tabB_congr (g := runF ⟨q0, q1, q2, q3⟩ s.data.toList F K (K + N + 1)) (fun m _ => runF_yes (e := K + N) hst)] at h)
                        have c2 := HX2.out.fr (K + N)
                        have c3 := HX2.out.cell (K + N) _ (tabB_get h2)
                        clear hst
                        go_wp2
                        exact ⟨⟨N + 1, by omega, by simp, Lib.hid (HX1.out.drn.other (by omega)), Lib.hid (HN2.out _), HAN, Lib.hid (gr_setn (gr_drn GX.out) hwG)⟩, by simp only [intOf]; omega⟩
                      · have h3d : decide (q1 ≤ (N : Int)) = false := decide_eq_false h3
                        have hst : stp ⟨q0, q1, q2, q3⟩ s.data.toList K (K + N) = false := by rw [HST.out]; exact decide_eq_false (by omega)
                        have HN2 := Lib.hid (show Row wr G2 (tabB (runF ⟨q0, q1, q2, q3⟩ s.data.toList F K (K + N + 1)) s.size) 4 from by
                          rw [← tabB_congr (f := runF ⟨q0, q1, q2, q3⟩ s.data.toList F K (K + N)) (fun m _ => runF_no (e := K + N) hst)]; exact HX2.out)
                        clear h3 hst
                        go_wp2
                        exact ⟨⟨N + 1, by omega, by simp, Lib.hid HX1.out.drn, Lib.hid HN2.out.drn, HAN, Lib.hid (gr_drn GX.out)⟩, by simp only [intOf]; omega⟩
                    · obtain ⟨M, hM⟩ : ∃ M, K + N = M + 1 := ⟨K + N - 1, by omega⟩
                      have hMi : (K : Int) + (N : Int) - 1 = (M : Int) := by omega
                      have hw1 : IntKind.i64.wrap ((K : Int) + (N : Int)) = (K : Int) + (N : Int) := IntWalk.i64_in _ (by omega)
                      have hw2 : IntKind.i64.wrap (M : Int) = (M : Int) := IntWalk.i64_in _ (by omega)
                      have hM1 : (M : Int) < (s.size : Int) := by omega
                      have hM2 : M < s.size := by omega
                      have hM4 : (M : Int) < (s.size : Int) := by omega
                      have hM5 : M < s.size := by omega
                      have hM3 : M < s.data.toList.length := hM2
                      have hKM : K ≤ M := by omega
                      have hN0 : (0 : Int) < (N : Int) := by omega
                      have hN1 : decide ((0 : Int) < (N : Int)) = true := decide_eq_true hN0
                      have hN2 : decide (0 < N) = true := decide_eq_true (by omega)
                      have HMM := Lib.hid hM
                      rw [show K + N - 1 = M from by omega] at HA
                      obtain ⟨b, hb⟩ : ∃ b, belD s[M].toNat q0 = b := ⟨_, rfl⟩
                      have HC := Lib.hid (fun w0 => hb ▸ rbel_any s[M].toNat q0 w0 (by have := s[M].toNat_lt; omega))
                      have HB2 := Lib.hid (show belD (s.data.toList[M]'hM3).toNat q0 = b from hb)
                      clear hb hM
                      cases b
                      · have HN2 := Lib.hid (HDN.out (fun e he => stp_stop (p := ⟨q0, q1, q2, q3⟩) (s := s.data.toList) HK.out hKM hM3 HB2.out e (by have := HMM.out; omega)))
                        clear h2
                        go_wp2_with fail
                        go_quiet ((go_at_call 59; exact Calls.quiet_of_same ((HC.out _).mono fun _ _ h => ⟨h.1, h.2.symm⟩)))
                        go_wp2
                        exact ⟨⟨K + 1, by omega, by simp, Lib.hid HX1.out.drn, Lib.hid HN2.out.drn, Lib.hid (gr_drn GX.out)⟩, by simp only [intOf]; omega⟩
                      · have HAN := Lib.hid (show allD (prt s.data.toList K (K + (N + 1) - 1)) q0 = true from by
                          rw [show K + (N + 1) - 1 = M + 1 from by have := HMM.out; omega, prt_next hKM hM3, allD_snoc, HA.out, HB2.out]; rfl)
                        have HST := Lib.hid (stp_run (p := ⟨q0, q1, q2, q3⟩) (s := s.data.toList) (i := K) (e := K + N) HK.out (by omega) (by rw [len_toList]; exact h2) HAN.out (by simp only; omega))
                        go_wp2_with fail
                        go_quiet ((go_at_call 59; exact Calls.quiet_of_same ((HC.out _).mono fun _ _ h => ⟨h.1, h.2.symm⟩)))
                        by_cases h3 : q1 ≤ (N : Int)
                        · have hst : stp ⟨q0, q1, q2, q3⟩ s.data.toList K (K + N) = true := by rw [HST.out]; exact decide_eq_true (by omega)
                          have HN2 := Lib.hid (fun nq => show Row ((wr.drewN nq).setCell ⟨G2, K + N, none⟩ (.bool true)) G2 (tabB (runF ⟨q0, q1, q2, q3⟩ s.data.toList F K (K + (N + 1))) s.size) 4 from by
                            have h := (Row.drn (n := nq) HX2.out).set (K + N) (.bool true)
                            rw [tabB_set] at h
                            rwa [tabB_congr (g := runF ⟨q0, q1, q2, q3⟩ s.data.toList F K (K + N + 1)) (fun m _ => runF_yes (e := K + N) hst)] at h)
                          have c2 := HX2.out.fr (K + N)
                          have c3 := HX2.out.cell (K + N) _ (tabB_get h2)
                          clear hst
                          go_wp2
                          exact ⟨⟨N + 1, by omega, by simp, Lib.hid (HX1.out.drn.other (by omega)), Lib.hid (HN2.out _), HAN, Lib.hid (gr_setn (gr_drn GX.out) hwG)⟩, by simp only [intOf]; omega⟩
                        · have h3d : decide (q1 ≤ (N : Int)) = false := decide_eq_false h3
                          have hst : stp ⟨q0, q1, q2, q3⟩ s.data.toList K (K + N) = false := by rw [HST.out]; exact decide_eq_false (by omega)
                          have HN2 := Lib.hid (show Row wr G2 (tabB (runF ⟨q0, q1, q2, q3⟩ s.data.toList F K (K + N + 1)) s.size) 4 from by
                            rw [← tabB_congr (f := runF ⟨q0, q1, q2, q3⟩ s.data.toList F K (K + N)) (fun m _ => runF_no (e := K + N) hst)]; exact HX2.out)
                          clear h3 hst
                          go_wp2
                          exact ⟨⟨N + 1, by omega, by simp, Lib.hid HX1.out.drn, Lib.hid HN2.out.drn, HAN, Lib.hid (gr_drn GX.out)⟩, by simp only [intOf]; omega⟩
                  · have h2i : ¬ (K : Int) + (N : Int) ≤ (s.size : Int) := by omega
                    have HN2 := Lib.hid (HDN.out (fun e he => stp_over (by rw [len_toList]; omega)))
                    go_wp2
                    exact ⟨⟨K + 1, by omega, by simp, HX1, HN2, GX⟩, by simp only [intOf]; omega⟩
                · have h1d : decide ((N : Int) ≤ q2) = false := decide_eq_false h1
                  have HN2 := Lib.hid (HDN.out (fun e he => stp_past HK.out (by simp only; omega)))
                  go_wp2
                  exact ⟨⟨K + 1, by omega, by simp, HX1, HN2, GX⟩, by simp only [intOf]; omega⟩
        · have hKi : ¬ (K : Int) ≤ (s.size : Int) := by omega
          obtain rfl : K = s.size + 1 := by omega
          have HN2 := Lib.hid (show Row wr G2 (tabB (fun m => rch (ps.take (j + 1)) s.data.toList a m) s.size) 4 from by
            rw [← tabB_congr (fun m _ => HFF.out m)]; exact H2.out)
          go_wp2
          exact ⟨⟨j + 1, G2, by omega, by simp, rfl, HN2, GK⟩, by simp only [intOf]; omega⟩
    · obtain rfl : j = n := by omega
      have hlti : ¬ (j : Int) < (j : Int) := by omega
      have HZ := Lib.hid (show Row wr g (tabB (fun m => rch ps s.data.toList a m) s.size) 4 from by
        have h := HI.out
        rwa [List.take_of_length_le (by rw [HN.out]; exact Nat.le_refl _)] at h)
      go_wp2
      go_ret
      exact ⟨g, rfl, HZ.out, GI.out⟩
end Go.Proofs.YtgkegbcdiadkdaaDoor
namespace Go.Proofs.YtgkegbcdiadkdaaDoor
open Go.RowKit Go.Shelf Pt

set_option maxRecDepth 100000 in
set_option maxHeartbeats 2000000 in
theorem rmatches_any (v : Value) (ps : List Pc) (s : ByteArray) (w : World) (hp : Pcs w v ps) (hn : ps.length ≤ 1000000) (hs : s.size ≤ 1000000000000) (hsz : ∀ q ∈ ps, q.t.size ≤ 1000) :
    Calls Tryd.prog 22 #[v, .string s] w fun e w' => e = .returned (.bool (matchL ps s.data.toList)) ∧ w.grownBy w' none := by
  have H1 := Lib.hid (rright_any v ps w hp hn hsz)
  have H2 := Lib.hid (fun w1 => rtext_any s w1 hs)
  have HGE := Lib.hid (fun (w1 : World) (g : w.grownBy w1 none) (h1 : rightL ps = true) (h2 : isTextD s.data.toList = true) => ends_any v ps s 0 w1 (hp.kept g) hn (by have := text_size h2; omega) (Nat.zero_le _) (right_all h1) hsz)
  clear hp hn hs hsz
  cases h1 : rightL ps
  case false =>
    have HM := Lib.hid (show matchL ps s.data.toList = false from by unfold matchL; rw [h1]; rfl)
    rw [h1] at H1
    clear h1
    go_enter Tryd.func22, Tryd.ntmps22
    go_wp2_with fail
    refine H1.out.mono ?_
    rintro e w1 ⟨rfl, g1⟩
    go_wp2
    go_ret
    exact ⟨by rw [HM.out]; rfl, g1⟩
  case true =>
    have HR := Lib.hid h1
    rw [h1] at H1
    cases h2 : isTextD s.data.toList
    case false =>
      have HM := Lib.hid (show matchL ps s.data.toList = false from by unfold matchL; rw [h2]; simp)
      rw [h2] at H2
      clear h1 h2
      go_enter Tryd.func22, Tryd.ntmps22
      go_wp2_with fail
      refine H1.out.mono ?_
      rintro e w1 ⟨rfl, g1⟩
      go_wp2_with fail
      refine (H2.out w1).mono ?_
      rintro e w2 ⟨rfl, rfl⟩
      go_wp2
      go_ret
      exact ⟨by rw [HM.out]; rfl, g1⟩
    case true =>
      have HM := Lib.hid (show matchL ps s.data.toList = rch ps s.data.toList 0 s.size from by
        unfold matchL; rw [h1, h2]; rfl)
      have HT := Lib.hid h2
      rw [h2] at H2
      clear h1 h2
      go_enter Tryd.func22, Tryd.ntmps22
      go_wp2_with fail
      refine H1.out.mono ?_
      rintro e w1 ⟨rfl, g1⟩
      go_wp2_with fail
      refine (H2.out w1).mono ?_
      rintro e w2 ⟨rfl, rfl⟩
      have HK := Lib.hid (HGE.out w1 g1 HR.out HT.out)
      rw [show (((0 : Nat)) : Int) = 0 from rfl] at HK
      go_wp2_with fail
      refine HK.out.mono ?_
      rintro e w2 ⟨G, rfl, hr, g2⟩
      have c1 := hr.cell s.size _ (tabB_get (Nat.le_refl _))
      have hlt : (s.size : Int) < (s.size : Int) + 1 := by omega
      clear hr HK
      go_wp2
      go_ret
      exact ⟨by rw [HM.out]; rfl, gr_then g1 g2⟩

/-- Places, one behind the other. -/
def pairC (fs : List (Nat × Nat)) : List Value := fs.flatMap fun x => [Value.int .i64 (x.1 : Int), .int .i64 (x.2 : Int)]
theorem pairC_len : ∀ fs : List (Nat × Nat), (pairC fs).length = fs.length * 2
  | [] => rfl
  | x :: fs => by
    have ih := pairC_len fs
    unfold pairC at *
    rw [List.flatMap_cons, List.length_append, ih]
    simp
    omega
theorem pairC_get : ∀ (fs : List (Nat × Nat)) (i : Nat) (hi : i < fs.length), (pairC fs)[i * 2]? = some (.int .i64 (fs[i].1 : Int)) ∧ (pairC fs)[i * 2 + 1]? = some (.int .i64 (fs[i].2 : Int))
  | x :: fs, 0, _ => ⟨rfl, rfl⟩
  | x :: fs, i + 1, hi => by
    have ih := pairC_get fs i (by simpa using hi)
    have e : pairC (x :: fs) = [Value.int .i64 (x.1 : Int), .int .i64 (x.2 : Int)] ++ pairC fs := rfl
    have g : ∀ j, (pairC (x :: fs))[(i + 1) * 2 + j]? = (pairC fs)[i * 2 + j]? := fun j => by
      rw [e, List.getElem?_append_right (by simp; omega)]
      congr 1
      simp; omega
    have g0 := g 0
    rw [Nat.add_zero, Nat.add_zero] at g0
    rw [g0, g 1]
    exact ih
theorem pairC_app (fs : List (Nat × Nat)) (x : Nat × Nat) : pairC (fs ++ [x]) = pairC fs ++ [.int .i64 (x.1 : Int), .int .i64 (x.2 : Int)] := by
  unfold pairC; rw [List.flatMap_append]; rfl
/-- A slice of places that the call owns. -/
def FF (w : World) (base : Nat) (v : Value) (fs : List (Nat × Nat)) : Prop := w.ownsRow base 3 1 v (fs.length * 2) (pairC fs)
theorem FF.kept {w w1 : World} {base : Nat} {v : Value} {l : List (Nat × Nat)} (h : FF w base v l) (hg : w.grownBy w1 none) : FF w1 base v l := World.ownsRow.kept h hg (by cases Value.ownBlock v <;> simp)
theorem FF.shape {w : World} {base : Nat} {v : Value} {l : List (Nat × Nat)} (h : FF w base v l) : ∃ a c, v = .slice a (l.length * 2) c ∧ (l.length = 0 ∨ ∃ g, a = some ⟨g, 0, none⟩ ∧ ∀ i (hi : i < l.length), w.cell? ⟨g, i * 2, none⟩ = some (.int .i64 (l[i].1 : Int)) ∧ w.cell? ⟨g, i * 2 + 1, none⟩ = some (.int .i64 (l[i].2 : Int))) := by
  rcases h.2 with ⟨rfl, h0⟩ | ⟨g, cap, cur, rfl, _, hg, hle, _, hs, hx⟩
  · have h0' : l.length = 0 := by omega
    exact ⟨none, 0, by rw [h0'], .inl h0'⟩
  · refine ⟨_, cap, rfl, .inr ⟨g, rfl, fun i hi => ?_⟩⟩
    have key : ∀ j v, j < l.length * 2 → (pairC l)[j]? = some v → w.cell? ⟨g, j, none⟩ = some v := fun j v hj hv => by
      rw [cell_of_row w g j _ _ (0, 0) hg]
      rw [← hx, List.getElem?_take_of_lt (by omega), Array.getElem?_toList] at hv
      exact hv
    obtain ⟨a0, a1⟩ := pairC_get l i hi
    exact ⟨key _ _ (by omega) a0, key _ _ (by omega) a1⟩
theorem app_f (w0 wr : World) (v : Value) (l : List (Nat × Nat)) (x y : Nat) (hf : FF wr w0.heap.size v l) (hn : l.length ≤ 90000) (hg : w0.grownBy wr none) :
    ∃ v' w', (Builtin.append_ #[22, 22] 22 #[v, .slice (some ⟨wr.heap.size, 0, none⟩) 2 2]).run Tryd.prog (wr.alloc (.cells #[.int .i64 (x : Int), .int .i64 (y : Int)] 3)) = .ok v' w' ∧ FF w' w0.heap.size v' (l ++ [(x, y)]) ∧ w0.grownBy w' none := by
  obtain ⟨i0, hi, hz0, hz1, hz2⟩ := info_parts infoI
  obtain ⟨v', w', h1, h2, h3, _⟩ := run_append_own_at (P := Tryd.prog) (wr.alloc (.cells #[.int .i64 (x : Int), .int .i64 (y : Int)] 3)) w0.heap.size 22 22 3 i0 (.int .i64 0) 1 8 Tryd.underlying22 hi hz0 hz1 hz2 rfl (by decide) v (l.length * 2) (pairC l) (World.ownsRow.alloc hf _) ⟨wr.heap.size, 0, none⟩ 2 2 (pairC [(x, y)]) (by rfl) (fun j u hj => by
    rw [addr_add, Nat.zero_add, cell_of_row _ _ j _ 3 (0, 0) (heap_alloc_new wr (.cells #[.int .i64 (x : Int), .int .i64 (y : Int)] 3))]
    simpa [pairC] using hj) (by
    intro u hu
    have : u = .int .i64 (x : Int) ∨ u = .int .i64 (y : Int) := by simpa [pairC] using hu
    rcases this with rfl | rfl <;> rfl) (by unfold maxLen; omega) (by omega) (by have := hg.size; simp; omega)
  refine ⟨v', w', h1, ?_, gr_trans (gr_then hg (gr_alloc wr (.cells #[.int .i64 (x : Int), .int .i64 (y : Int)] 3) none)) h3 (.inl rfl) (.inr (.inr (own_base hf)))⟩
  unfold FF
  rw [pairC_app, List.length_append, Nat.add_mul]
  exact h2
namespace Pt
theorem findsR_end {g : Nat → Int} {n a f : Nat} (h : n ≤ a) : findsR g n (f + 1) a = [] := if_pos h
theorem findsR_no {g : Nat → Int} {n a : Nat} (h : a < n) (hg : g a ≤ a) : findsR g n (n - a + 1) a = findsR g n (n - (a + 1) + 1) (a + 1) := by
  have e : findsR g n (n - a + 1) a = findsR g n (n - a) (a + 1) := by
    show (if n ≤ a then [] else if (a : Int) < g a then _ else findsR g n (n - a) (a + 1)) = _
    rw [if_neg (by omega), if_neg (by omega)]
  rw [e, show n - a = n - (a + 1) + 1 from by omega]
theorem findsR_yes {g : Nat → Int} {n a e : Nat} (hgn : ∀ i, i ≤ n → g i ≤ n) (h : a < n) (hg : g a = (e : Int)) (he : a < e) : findsR g n (n - a + 1) a = (a, e) :: findsR g n (n - e + 1) e := by
  have hen := hgn a (by omega)
  have h1 : findsR g n (n - a + 1) a = (a, (g a).toNat) :: findsR g n (n - a) (g a).toNat := by
    show (if n ≤ a then [] else if (a : Int) < g a then (a, (g a).toNat) :: findsR g n (n - a) (g a).toNat else _) = _
    rw [if_neg (by omega), if_pos (by omega)]
  rw [h1, hg, Int.toNat_natCast, show n - a = (n - a - 1) + 1 from by omega, findsR_fuel g n hgn (n - e) (n - a - 1) (n - e) e (Nat.le_refl _) (by omega) (Nat.le_refl _)]
/-- The greatest end, found from the end of the text on. -/
theorem gr_down {ps : List Pc} {s : List UInt8} {a e : Nat} (ha : a ≤ s.length) (h : rch ps s a e = true) (hno : ∀ j, e < j → j ≤ s.length → rch ps s a j = false) : gr ps s a = (e : Int) := by
  rcases gr_spec ps s a ha with ⟨_, h1⟩ | ⟨j, h1, h2, h3⟩
  · rw [h1] at h; cases h
  · have h4 := h3 _ h
    rcases Nat.lt_or_ge e j with h5 | h5
    · rw [hno j h5 (rch_le h2).2] at h2; cases h2
    · rw [h1, show j = e from by omega]
theorem gr_none {ps : List Pc} {s : List UInt8} {a : Nat} (ha : a ≤ s.length) (hno : ∀ j, a < j → j ≤ s.length → rch ps s a j = false) : gr ps s a ≤ (a : Int) := by
  rcases gr_spec ps s a ha with ⟨h, _⟩ | ⟨j, h1, h2, h3⟩
  · omega
  · rcases Nat.lt_or_ge a j with h5 | h5
    · rw [hno j h5 (rch_le h2).2] at h2; cases h2
    · omega
end Pt
set_option maxRecDepth 100000 in
set_option maxHeartbeats 4000000 in
theorem rfinds_any (v : Value) (ps : List Pc) (s : ByteArray) (w : World) (hp : Pcs w v ps) (hn : ps.length ≤ 1000000) (hs : s.size ≤ 1000000000000) (hsz : ∀ q ∈ ps, q.t.size ≤ 1000) :
    Calls Tryd.prog 44 #[v, .string s] w fun e w' => ∃ u base, e = .returned u ∧ FF w' base u (findsL ps s.data.toList) ∧ w.grownBy w' none := by
  have H1 := Lib.hid (rright_any v ps w hp hn hsz)
  have H2 := Lib.hid (fun w1 => rtext_any s w1 hs)
  have HGE := Lib.hid (fun (a : Nat) (ha : a ≤ s.size) (w1 : World) (g : w.grownBy w1 none) (h1 : rightL ps = true) (h2 : isTextD s.data.toList = true) => ends_any v ps s a w1 (hp.kept g) hn (by have := text_size h2; omega) ha (right_all h1) hsz)
  have HNIL := Lib.hid (show ∀ w1, FF w1 0 (.slice none 0 0) [] from fun w1 => World.ownsRow_nil _ _ _ _)
  clear hp hn hs hsz
  cases h1 : rightL ps
  case false =>
    have HM := Lib.hid (show findsL ps s.data.toList = [] from by unfold findsL; rw [h1]; rfl)
    rw [h1] at H1
    clear h1
    go_enter Tryd.func44, Tryd.ntmps44
    go_wp2_with fail
    refine H1.out.mono ?_
    rintro e w1 ⟨rfl, g1⟩
    go_wp2
    go_ret
    exact ⟨_, 0, rfl, by rw [HM.out]; exact HNIL.out _, g1⟩
  case true =>
    have HR := Lib.hid h1
    rw [h1] at H1
    cases h2 : isTextD s.data.toList
    case false =>
      have HM := Lib.hid (show findsL ps s.data.toList = [] from by unfold findsL; rw [h2]; simp)
      rw [h2] at H2
      clear h1 h2
      go_enter Tryd.func44, Tryd.ntmps44
      go_wp2_with fail
      refine H1.out.mono ?_
      rintro e w1 ⟨rfl, g1⟩
      go_wp2_with fail
      refine (H2.out w1).mono ?_
      rintro e w2 ⟨rfl, rfl⟩
      go_wp2
      go_ret
      exact ⟨_, 0, rfl, by rw [HM.out]; exact HNIL.out _, g1⟩
    case true =>
      have HGN := Lib.hid (fun i (hi : i ≤ s.size) => (gr_ge (ps := ps) (s := s.data.toList) (i := i) hi).2)
      have HM := Lib.hid (show findsR (gr ps s.data.toList) s.size (s.size - 0 + 1) 0 = findsL ps s.data.toList from by
        rw [findsL_eq h1 h2]
        exact (finds_same (gr ps s.data.toList) s.size (fun i hi => (gr_ge (ps := ps) (s := s.data.toList) (i := i) hi).2) s.size 0 (by omega)).symm)
      have HT := Lib.hid h2
      have hs2 := text_size h2
      rw [h2] at H2
      obtain ⟨fl, hfl⟩ : ∃ fl, findsL ps s.data.toList = fl := ⟨_, rfl⟩
      rw [hfl] at HM ⊢
      clear h1 h2 hfl
      go_enter Tryd.func44, Tryd.ntmps44
      go_wp2_with fail
      refine H1.out.mono ?_
      rintro e w1 ⟨rfl, g1⟩
      go_wp2_with fail
      refine (H2.out w1).mono ?_
      rintro e w2 ⟨rfl, rfl⟩
      have G1 := Lib.hid g1
      clear g1
      go_wp2_with fail
      go_loopw [5, 6] (fun out at_ wr => ∃ (a : Nat) (acc : List (Nat × Nat)), a ≤ s.size ∧ at_ = .int .i64 (a : Int) ∧ acc.length ≤ a ∧ Hid (FF wr w.heap.size out acc) ∧ Hid (acc ++ findsR (gr ps s.data.toList) s.size (s.size - a + 1) a = fl) ∧ Hid (w.grownBy wr none)) (fun _ a _ => s.size - (intOf a).toNat)
      case atStart => exact ⟨0, [], Nat.zero_le _, rfl, Nat.zero_le _, Lib.hid (World.ownsRow_nil _ _ _ _), HM, G1⟩
      case round =>
        obtain ⟨a, acc, ha, rfl, hacc, HF, HL, GR⟩ := hrel
        by_cases hlt : a < s.size
        · have hlti : (a : Int) < (s.size : Int) := by omega
          have HE := Lib.hid (HGE.out a ha wr GR.out HR.out HT.out)
          obtain ⟨oa, oc, rfl, _⟩ := FF.shape HF.out
          go_wp2_with fail
          refine HE.out.mono ?_
          rintro e w3 ⟨G, rfl, hr, g3⟩
          have HRR := Lib.hid hr
          have G3 := Lib.hid (gr_then GR.out g3)
          have HF3 := Lib.hid (HF.out.kept g3)
          clear hr g3 HE
          go_wp2_with fail
          go_loopw [8] (fun en wx => w3 = wx ∧ ∃ E : Nat, a ≤ E ∧ E ≤ s.size ∧ en = .int .i64 (E : Int) ∧ Hid (∀ j, E < j → j ≤ s.size → rch ps s.data.toList a j = false)) (fun en _ => (intOf en).toNat)
          case atStart => exact ⟨rfl, s.size, by omega, Nat.le_refl _, rfl, Lib.hid (fun j h1 h2 => by omega)⟩
          case round =>
            obtain ⟨rfl, E, hE1, hE2, rfl, HNO⟩ := hrel
            have hEi : (E : Int) < (s.size : Int) + 1 := by omega
            have c1 := HRR.out.cell E _ (tabB_get hE2)
            obtain ⟨b, hb⟩ : ∃ b, rch ps s.data.toList a E = b := ⟨_, rfl⟩
            have HB := Lib.hid hb
            rw [hb] at c1
            clear hb
            by_cases haE : a < E
            · have haEi : (a : Int) < (E : Int) := by omega
              cases b
              · have hE0 : (E : Int) - 1 = ((E - 1 : Nat) : Int) := by omega
                have HN2 := Lib.hid (show ∀ j, E - 1 < j → j ≤ s.size → rch ps s.data.toList a j = false from fun j h1 h2 => by
                  rcases Nat.lt_or_ge E j with h | h
                  · exact HNO.out j h h2
                  · rw [show j = E from by omega]; exact HB.out)
                go_wp2
                exact ⟨⟨by first | rfl | trivial, E - 1, by omega, by omega, by first | rfl | (congr 1), HN2⟩, by simp only [intOf]; omega⟩
              · have hgr := gr_down (ps := ps) (s := s.data.toList) (a := a) (e := E) ha HB.out HNO.out
                have HL2 := Lib.hid (show (acc ++ [(a, E)]) ++ findsR (gr ps s.data.toList) s.size (s.size - E + 1) E = fl from by
                  rw [← HL.out, findsR_yes HGN.out hlt hgr haE, List.append_assoc]; rfl)
                obtain ⟨v', w', r5, f5, g5⟩ := app_f w _ _ acc a E HF3.out (by omega) G3.out
                have F5 := Lib.hid f5
                have G5 := Lib.hid g5
                clear f5 g5 hgr
                go_wp2_with (at_builtin; refine wpList_call_append rfl (.tmp 42) (.tmp 45) 22 rfl _ _ rfl rfl _ _ r5 ?_)
                exact ⟨⟨E, acc ++ [(a, E)], hE2, rfl, by rw [List.length_append, List.length_singleton]; omega, F5, HL2, G5⟩, by simp only [intOf]; omega⟩
            · have haEi : ¬ (a : Int) < (E : Int) := by omega
              obtain rfl : a = E := by omega
              have hgr := gr_none (ps := ps) (s := s.data.toList) (a := a) ha HNO.out
              have HL2 := Lib.hid (show acc ++ findsR (gr ps s.data.toList) s.size (s.size - (a + 1) + 1) (a + 1) = fl from by
                rw [← HL.out, findsR_no hlt hgr])
              clear hgr
              go_wp2
              exact ⟨⟨a + 1, acc, by omega, by simp, by omega, HF3, HL2, G3⟩, by simp only [intOf]; omega⟩
        · have hlti : ¬ (a : Int) < (s.size : Int) := by omega
          have HL2 := Lib.hid (show acc = fl from by
            have h := HL.out
            rwa [findsR_end (by omega), List.append_nil] at h)
          go_wp2
          go_ret
          have HF2 := HF.out
          rw [HL2.out] at HF2
          first | exact ⟨_, _, rfl, HF2, GR.out⟩ | exact ⟨_, rfl, ⟨_, HF2⟩, GR.out⟩

set_option maxRecDepth 100000 in
set_option maxHeartbeats 4000000 in
theorem rcount_any (v : Value) (ps : List Pc) (s : ByteArray) (w : World) (hp : Pcs w v ps) (hn : ps.length ≤ 1000000) (hs : s.size ≤ 1000000000000) (hsz : ∀ q ∈ ps, q.t.size ≤ 1000) :
    Calls Tryd.prog 26 #[v, .string s] w fun e w' => e = .returned (.int .i64 ((findsL ps s.data.toList).length : Int)) ∧ w.grownBy w' none := by
  have H1 := Lib.hid (rfinds_any v ps s w hp hn hs hsz)
  have hle : (findsL ps s.data.toList).length ≤ 1000000000000 := by have := finds_few (ps := ps) (s := s.data.toList); rw [len_toList] at this; omega
  clear hp hn hs hsz
  go_enter Tryd.func26, Tryd.ntmps26
  go_wp2_with fail
  refine H1.out.mono ?_
  rintro e w1 ⟨u, base, rfl, hf, g1⟩
  obtain ⟨a, c, rfl, _⟩ := hf.shape
  obtain ⟨m, hm⟩ : ∃ m, (findsL ps s.data.toList).length = m := ⟨_, rfl⟩
  have HM := Lib.hid hm
  rw [hm] at hle ⊢
  clear hf H1 hm
  obtain ⟨k, hk⟩ : ∃ k, m * 2 = k := ⟨_, rfl⟩
  have hd : Int.tdiv (k : Int) 2 = (m : Int) := by rw [← hk, Int.tdiv_eq_ediv_of_nonneg (by omega)]; omega
  rw [hk]
  have hkl : k ≤ 4000000000000 := by omega
  clear hk
  go_wp2
  go_ret
  exact ⟨by rw [HM.out]; rfl, g1⟩
set_option maxRecDepth 100000 in
set_option maxHeartbeats 4000000 in
theorem rfind_any (v : Value) (ps : List Pc) (s : ByteArray) (nth : Int) (w : World) (hp : Pcs w v ps) (hn : ps.length ≤ 1000000) (hs : s.size ≤ 1000000000000) (hsz : ∀ q ∈ ps, q.t.size ≤ 1000) (hb : -9 ≤ nth ∧ nth ≤ 9) :
    Calls Tryd.prog 24 #[v, .string s, .int .i64 nth] w fun e w' => e = .returned (findV (findsL ps s.data.toList) nth) ∧ w.grownBy w' none := by
  have H1 := Lib.hid (rfinds_any v ps s w hp hn hs hsz)
  have hle : (findsL ps s.data.toList).length ≤ 1000000000000 := by have := finds_few (ps := ps) (s := s.data.toList); rw [len_toList] at this; omega
  obtain ⟨fs, hfs⟩ : ∃ fs, findsL ps s.data.toList = fs := ⟨_, rfl⟩
  rw [hfs] at H1 hle ⊢
  clear hp hn hs hsz hfs
  go_enter Tryd.func24, Tryd.ntmps24
  go_wp2_with fail
  refine H1.out.mono ?_
  rintro e w1 ⟨u, base, rfl, hf, g1⟩
  obtain ⟨a, c, rfl, hcs⟩ := hf.shape
  have G1 := Lib.hid g1
  have HCS := Lib.hid hcs
  have HNO := Lib.hid (fun (h : ∀ k, k < fs.length → (k : Int) + 1 ≠ nth) => show findV fs nth = .tuple #[.int .i64 0, .int .i64 0, .bool false] from by unfold findV; rw [find_no h]; rfl)
  have HYES := Lib.hid (fun (k : Nat) (h : k < fs.length) => show findV fs ((k : Int) + 1) = .tuple #[.int .i64 (fs[k].1 : Int), .int .i64 (fs[k].2 : Int), .bool true] from by unfold findV; rw [findL_at (L := 0) h, atE_lt h])
  obtain ⟨m, hm⟩ : ∃ m, fs.length = m := ⟨_, rfl⟩
  have HM := Lib.hid hm
  rw [hm] at hle ⊢
  clear hf H1 hm g1 hcs
  obtain ⟨k, hk⟩ : ∃ k, m * 2 = k := ⟨_, rfl⟩
  have hd : Int.tdiv (k : Int) 2 = (m : Int) := by rw [← hk, Int.tdiv_eq_ediv_of_nonneg (by omega)]; omega
  have HK := Lib.hid hk
  rw [hk]
  have hkl : k ≤ 4000000000000 := by omega
  clear hk
  by_cases h1 : nth < 1
  · have hv := HNO.out (fun k _ => by omega)
    have HV := Lib.hid hv
    clear hv
    go_wp2
    go_ret3
    exact ⟨by rw [HV.out]; rfl, G1.out⟩
  · have h1d : decide (nth < 1) = false := decide_eq_false h1
    by_cases h2 : (m : Int) < nth
    · have h2d : decide ((m : Int) < nth) = true := decide_eq_true h2
      have hv := HNO.out (fun k h => by have := HM.out; omega)
      have HV := Lib.hid hv
      clear hv
      go_wp2
      go_ret3
      exact ⟨by rw [HV.out]; rfl, G1.out⟩
    · have h2d : decide ((m : Int) < nth) = false := decide_eq_false h2
      obtain ⟨i, rfl⟩ : ∃ i : Nat, nth = (i : Int) + 1 := ⟨(nth - 1).toNat, by omega⟩
      have hil : i < fs.length := by rw [HM.out]; omega
      have HV := Lib.hid (HYES.out i hil)
      obtain ⟨g, rfl, hc⟩ := HCS.out.resolve_left (by omega)
      obtain ⟨c0, c1⟩ := hc i hil
      generalize fs[i].1 = x at *
      generalize fs[i].2 = y at *
      have hil2 : i * 2 < k := by have := HK.out; omega
      have hil3 : i * 2 + 1 < k := by have := HK.out; omega
      have hil4 : ((i * 2 : Nat) : Int) < (k : Int) := by omega
      have hil5 : ((i * 2 + 1 : Nat) : Int) < (k : Int) := by omega
      clear hc
      have e1 : 2 * ((i : Int) + 1) = ((i * 2 + 2 : Nat) : Int) := by omega
      have e2 : ((i * 2 + 2 : Nat) : Int) - 2 = ((i * 2 : Nat) : Int) := by omega
      have e3 : ((i * 2 + 2 : Nat) : Int) - 1 = ((i * 2 + 1 : Nat) : Int) := by omega
      have w1 : IntKind.i64.wrap ((i * 2 + 2 : Nat) : Int) = ((i * 2 + 2 : Nat) : Int) := IntWalk.i64_in _ (by omega)
      have w2 : IntKind.i64.wrap ((i * 2 : Nat) : Int) = ((i * 2 : Nat) : Int) := IntWalk.i64_in _ (by omega)
      have w3 : IntKind.i64.wrap ((i * 2 + 1 : Nat) : Int) = ((i * 2 + 1 : Nat) : Int) := IntWalk.i64_in _ (by omega)
      go_wp2_with fail
      go_quiet (fail)
      go_wp2
      go_ret3
      exact ⟨by rw [HV.out]; rfl, gr_drn G1.out⟩
end Go.Proofs.YtgkegbcdiadkdaaDoor
