/- The law of the claim at the level of the call, and its row: Tm, Tx, Tq, Texts, TextsRow. -/
import Derived.Test.YtmlmjhlakpgagaaDoorBRing9
import Derived.Lib.AtoiTie
namespace Go.Proofs.YtmlmjhlakpgagaaDoor
namespace Dm
open Go.Lib Mth

theorem isDg_iff {c : UInt8} : isDg c = true ↔ 48 ≤ c.toNat ∧ c.toNat ≤ 57 := by unfold isDg; simp
theorem dg_of (c : Nat) (hc : c < 10) : (UInt8.ofNat (48 + c)).toNat = 48 + c := by rw [UInt8.toNat_ofNat']; exact Nat.mod_eq_of_lt (by omega)
/-- The number that digits make behind a. -/
def dv (a : Nat) (l : List UInt8) : Nat := l.foldl (fun a c => a * 10 + (c.toNat - 48)) a
theorem dv_cons (a : Nat) (c : UInt8) (l : List UInt8) : dv a (c :: l) = dv (a * 10 + (c.toNat - 48)) l := by unfold dv; rw [List.foldl_cons]
theorem dv_append (a : Nat) (l r : List UInt8) : dv a (l ++ r) = dv (dv a l) r := by unfold dv; rw [List.foldl_append]
theorem dv_snoc (a : Nat) (l : List UInt8) (c : UInt8) : dv a (l ++ [c]) = dv a l * 10 + (c.toNat - 48) := by rw [dv_append, dv_cons]; unfold dv; rfl
theorem dv_dec (n : Nat) : dv 0 (decDigits n) = n := by
  induction n using Nat.strongRecOn with
  | ind n ih =>
    by_cases h : n < 10
    · rw [decDigits_one h, dv_cons, dg_of n h]; show 0 * 10 + (48 + n - 48) = n; omega
    · rw [dec_big (by omega), dv_snoc, ih (n / 10) (by omega), dg_of _ (by omega)]; omega
theorem dv_pad (a s n : Nat) : dv a (padN s n) = a * 10 ^ s + n % 10 ^ s := by
  induction s generalizing n with
  | zero => rw [padN]; show a = _; rw [Nat.pow_zero, Nat.mod_one]; omega
  | succ s ih =>
    rw [padN, dv_snoc, ih, dg_of _ (by omega)]
    have h : n % 10 ^ (s + 1) = 10 * (n / 10 % 10 ^ s) + n % 10 := by
      rw [Nat.pow_succ, Nat.mul_comm, Nat.mod_mul]; omega
    rw [h, Nat.pow_succ, ← Nat.mul_assoc]
    omega
theorem pad_all (s n : Nat) : (padN s n).all isDg = true := by
  induction s generalizing n with
  | zero => rfl
  | succ s ih =>
    rw [padN, List.all_append, ih, Bool.true_and, List.all_cons, List.all_nil, Bool.and_true, isDg_iff, dg_of _ (by omega)]
    omega
/-- The digits of a decimal. -/
def digs (N s : Nat) : List UInt8 := decDigits (N / 10 ^ s) ++ padN s N
theorem digs_all (N s : Nat) : (digs N s).all isDg = true := by unfold digs; rw [List.all_append, dec_all, pad_all]; rfl
theorem digs_dv (N s : Nat) : dv 0 (digs N s) = N := by
  unfold digs; rw [dv_append, dv_dec, dv_pad]
  have := Nat.div_add_mod N (10 ^ s)
  rw [Nat.mul_comm] at this; exact this
theorem digs_pos (N s : Nat) : digs N s ≠ [] := by
  unfold digs
  intro h
  have := dec_pos (N / 10 ^ s)
  have h2 := (List.append_eq_nil_iff.1 h).1
  rw [h2] at this; simp at this
theorem digs_len {N s : Nat} (h : N ≤ 1000000000000000) (hs : s ≤ 6) : (digs N s).length ≤ 16 := by
  unfold digs
  rw [List.length_append, padN_len]
  rcases Nat.lt_or_ge N (10 ^ s) with h1 | h1
  · rw [Nat.div_eq_of_lt h1, decDigits_one (i := 0) (by omega)]; simp; omega
  · have h2 := dec_len17 h
    rw [dec_split h1, List.length_append, padN_len] at h2
    exact h2
theorem textD_digs (n : Int) (s : Nat) : textD (n, s) = (if n < 0 then [45] else []) ++ (decDigits (n.natAbs / 10 ^ s) ++ (if s = 0 then [] else 46 :: padN s n.natAbs)) := rfl

/-! decimal.Parse -/
theorem from_all (l : List UInt8) (acc : Nat) (h : l.all isDg = true) : decFrom acc l = some (dv acc l) := by
  induction l generalizing acc with
  | nil => rfl
  | cons c l ih =>
    rw [List.all_cons, Bool.and_eq_true] at h
    simp only [decFrom]
    have hd : digitVal c = some (c.toNat - 48) := by unfold digitVal; rw [if_pos (isDg_iff.1 h.1)]
    rw [hd]
    exact ih _ h.2
theorem sp_app (l r : List UInt8) (h : ∀ c ∈ l, c ≠ 46) : sp (l ++ r) = (l ++ (sp r).1, (sp r).2) := by
  induction l with
  | nil => rfl
  | cons c l ih =>
    rw [List.cons_append]
    simp only [sp]
    rw [if_neg (h c (by simp)), ih (fun c hc => h c (by simp [hc]))]; rfl
theorem dig_ne {l : List UInt8} (h : l.all isDg = true) {c : UInt8} (hc : c ∈ l) : c ≠ 46 ∧ c ≠ 45 ∧ c ≠ 43 := by
  have := isDg_iff.1 (List.all_eq_true.1 h c hc)
  refine ⟨?_, ?_, ?_⟩ <;> (rintro rfl; revert this; decide)
theorem sp_text (n : Int) (s : Nat) : (sp (textD (n, s))).1 = (if n < 0 then [45] else []) ++ decDigits (n.natAbs / 10 ^ s) ∧ (sp (textD (n, s))).2 = padN s n.natAbs := by
  have hq := dec_all (n.natAbs / 10 ^ s)
  rw [textD_digs, ← List.append_assoc, sp_app]
  · by_cases hs : s = 0
    · subst hs; simp [sp, padN]
    · rw [if_neg hs]; simp [sp]
  · intro c hc
    rw [List.mem_append] at hc
    rcases hc with hc | hc
    · split at hc
      · rw [List.mem_singleton] at hc; subst hc; decide
      · simp at hc
    · exact (dig_ne hq hc).1
theorem atoi_digs {n : Int} {s : Nat} (h1 : -1000000000000000 ≤ n) (h2 : n ≤ 1000000000000000) (hs : s ≤ 6) : atoiAll ((sp (textD (n, s))).1 ++ (sp (textD (n, s))).2) = .ok n := by
  obtain ⟨e1, e2⟩ := sp_text n s
  rw [e1, e2, List.append_assoc, show decDigits (n.natAbs / 10 ^ s) ++ padN s n.natAbs = digs n.natAbs s from rfl]
  have hl := digs_len (N := n.natAbs) (s := s) (by omega) hs
  have ha := digs_all n.natAbs s
  have hp := digs_pos n.natAbs s
  have hv := digs_dv n.natAbs s
  generalize digs n.natAbs s = D at *
  have hn : decNat D = some n.natAbs := by
    unfold decNat
    rw [if_neg (by simpa using hp), from_all _ _ ha, hv]
  by_cases hneg : n < 0
  · rw [if_pos hneg]
    show atoiAll (45 :: D) = _
    rw [atoiAll_short _ (by simp; omega)]
    simp only [atoi]
    rw [if_pos (by decide), hn]
    show NumEnd.ok (-((n.natAbs : Nat) : Int)) = _
    congr 1; omega
  · rw [if_neg hneg, List.nil_append, atoiAll_short _ (by omega)]
    cases hD : D with
    | nil => exact absurd hD hp
    | cons a l =>
      have ham := dig_ne ha (c := a) (by rw [hD]; simp)
      simp only [atoi]
      rw [if_neg (by simpa using ham.2.1), if_neg (by simpa using ham.2.2), ← hD, hn]
      show NumEnd.ok ((n.natAbs : Nat) : Int) = _
      congr 1; omega
/-- What decimal.Parse gives of the text of a right decimal. -/
theorem parseD_text {a : Int × Nat} (h : Rt a) : parseD (textD a) = (a.1, a.2, true) := by
  obtain ⟨n, s⟩ := a
  rw [parse_ok (atoi_digs h.lo h.hi h.sc)]
  obtain ⟨e1, e2⟩ := sp_text n s
  rw [e2, padN_len, if_pos ⟨h.right, rfl⟩]
theorem parseD_none {l : List UInt8} (h : ∀ a, Rt a → textD a ≠ l) : parseD l = (0, 0, false) := by
  cases hA : atoiAll ((sp l).1 ++ (sp l).2) with
  | ok n =>
    rw [parse_ok hA, if_neg]
    rintro ⟨hr, ht⟩
    refine h (n, (sp l).2.length) ?_ ht
    rw [rightD_iff] at hr
    exact ⟨hr.2.2.1, hr.2.2.2.1, by show (sp l).2.length ≤ 6; omega, by rcases hr.2.2.2.2 with h | h; exact .inl (by show (sp l).2.length = 0; omega); exact .inr h⟩
  | _ => exact parse_bad (fun n hn => by rw [hA] at hn; cases hn)

/-! The reference's Parse -/
structure St where
  neg : Bool
  seen : Bool
  ds : List UInt8
  sc : Nat
def stp (k : Nat) (c : UInt8) (t : St) : Option St :=
  if k = 0 ∧ c = 45 then some { t with neg := true }
  else if c = 46 ∧ t.seen = false then some { t with seen := true }
  else if isDg c = true then some { t with ds := t.ds ++ [c], sc := t.sc + (if t.seen then 1 else 0) }
  else none
def scn : Nat → List UInt8 → St → Option St
  | _, [], t => some t
  | k, c :: l, t => match stp k c t with
    | some t' => scn (k + 1) l t'
    | none => none
def t0 : St := ⟨false, false, [], 0⟩
theorem scn_snoc (k : Nat) (l : List UInt8) (c : UInt8) (t : St) : scn k (l ++ [c]) t = (scn k l t).bind (stp (k + l.length) c) := by
  induction l generalizing k t with
  | nil => simp only [List.nil_append, scn, List.length_nil, Nat.add_zero, Option.bind_some]; cases stp k c t <;> rfl
  | cons b l ih =>
    simp only [List.cons_append, scn]
    cases stp k b t with
    | none => rfl
    | some t' => simp only; rw [ih, List.length_cons, show k + 1 + l.length = k + (l.length + 1) from by omega]
theorem scn_app (k : Nat) (l r : List UInt8) (t : St) : scn k (l ++ r) t = (scn k l t).bind (scn (k + l.length) r) := by
  induction l generalizing k t with
  | nil => rfl
  | cons b l ih =>
    simp only [List.cons_append, scn]
    cases stp k b t with
    | none => rfl
    | some t' => simp only; rw [ih, List.length_cons, show k + 1 + l.length = k + (l.length + 1) from by omega]
theorem scn_digs (k : Nat) (l : List UInt8) (t : St) (h : l.all isDg = true) : scn k l t = some { t with ds := t.ds ++ l, sc := t.sc + (if t.seen then l.length else 0) } := by
  induction l generalizing k t with
  | nil => simp [scn]
  | cons c l ih =>
    have hc := dig_ne h (c := c) (by simp)
    rw [List.all_cons, Bool.and_eq_true] at h
    simp only [scn]
    have hs : stp k c t = some { t with ds := t.ds ++ [c], sc := t.sc + (if t.seen then 1 else 0) } := by
      unfold stp
      rw [if_neg (fun e => hc.2.1 e.2), if_neg (fun e => hc.1 e.1), if_pos h.1]
    rw [hs]
    simp only
    rw [ih _ _ h.2]
    cases ht : t.seen <;> simp [ht]
    omega
/-- What is read of a text. -/
def refP (l : List UInt8) : Int × Nat × Bool :=
  match scn 0 l t0 with
  | none => (0, 0, false)
  | some t => if (fitD (rep t.neg (dv 0 t.ds)) t.sc).2.2 = true ∧ textD ((fitD (rep t.neg (dv 0 t.ds)) t.sc).1, (fitD (rep t.neg (dv 0 t.ds)) t.sc).2.1) = l then ((fitD (rep t.neg (dv 0 t.ds)) t.sc).1, (fitD (rep t.neg (dv 0 t.ds)) t.sc).2.1, true) else (0, 0, false)
theorem scn_text (n : Int) (s : Nat) : ∃ sn, scn 0 (textD (n, s)) t0 = some ⟨decide (n < 0), sn, digs n.natAbs s, s⟩ := by
  have hq := dec_all (n.natAbs / 10 ^ s)
  have hp := pad_all s n.natAbs
  have key : ∀ (k : Nat) (ng : Bool), ∃ sn, scn k (decDigits (n.natAbs / 10 ^ s) ++ (if s = 0 then [] else 46 :: padN s n.natAbs)) ⟨ng, false, [], 0⟩ = some ⟨ng, sn, digs n.natAbs s, s⟩ := by
    intro k ng
    rw [scn_app, scn_digs _ _ _ hq]
    by_cases hs : s = 0
    · subst hs
      exact ⟨false, by simp [scn, digs, padN]⟩
    · rw [if_neg hs]
      refine ⟨true, ?_⟩
      simp only [Option.bind_some, scn]
      have h1 : ∀ k t, t.seen = false → stp k 46 t = some { t with seen := true } := fun k t ht => by
        unfold stp
        rw [if_neg (by rintro ⟨_, h⟩; revert h; decide), if_pos ⟨rfl, ht⟩]
      rw [h1 _ _ rfl]
      simp only
      rw [scn_digs _ _ _ hp]
      simp [digs, padN_len]
  rw [textD_digs]
  by_cases hn : n < 0
  · rw [if_pos hn]
    show ∃ sn, scn 0 (45 :: _) t0 = _
    simp only [scn]
    have h2 : stp 0 45 t0 = some ⟨true, false, [], 0⟩ := by rfl
    rw [h2]
    obtain ⟨sn, h⟩ := key 1 true
    exact ⟨sn, by simpa [hn] using h⟩
  · rw [if_neg hn, List.nil_append]
    obtain ⟨sn, h⟩ := key 0 false
    exact ⟨sn, by simpa [hn, t0] using h⟩
theorem rep_abs (n : Int) : rep (decide (n < 0)) n.natAbs = n := by
  unfold rep
  by_cases h : n < 0
  · simp [h]; omega
  · simp [h]; omega
theorem refP_text {a : Int × Nat} (h : Rt a) : refP (textD a) = (a.1, a.2, true) := by
  obtain ⟨n, s⟩ := a
  obtain ⟨sn, hs⟩ := scn_text n s
  unfold refP
  rw [hs]
  simp only
  rw [digs_dv, rep_abs, h.fit]
  simp
theorem refP_none {l : List UInt8} (h : ∀ a, Rt a → textD a ≠ l) : refP l = (0, 0, false) := by
  unfold refP
  cases scn 0 l t0 with
  | none => rfl
  | some t =>
    simp only
    rw [if_neg]
    rintro ⟨_, ht⟩
    exact h _ (rt_fit _ _) ht
/-- Both give the same. -/
theorem parse_same (l : List UInt8) : refP l = parseD l := by
  by_cases h : ∃ a, Rt a ∧ textD a = l
  · obtain ⟨a, h1, rfl⟩ := h
    rw [refP_text h1, parseD_text h1]
  · have h2 : ∀ a, Rt a → textD a ≠ l := fun a h1 h3 => h ⟨a, h1, h3⟩
    rw [refP_none h2, parseD_none h2]
end Dm
end Go.Proofs.YtmlmjhlakpgagaaDoor
namespace Go.Proofs.YtmlmjhlakpgagaaDoor
open Go.RowKit Mth Dm

theorem ba_list {a : ByteArray} {l : List UInt8} (h : a.data.toList = l) : a = ⟨l.toArray⟩ := ba_eq (by rw [h])
set_option maxHeartbeats 4000000 in
set_option maxRecDepth 100000 in
theorem qtext_any (n s : Int) (w : World) : Gives 31 #[.agg #[.int .i64 n, .int .i64 s]] w (.string ⟨(textD (valD n s)).toArray⟩) := by
  obtain ⟨nx, X, sa, hA, hx, hsa, hX, ha6, hneg⟩ := big_case n s
  have ht : textD (valD n s) = (if nx = true then [45] else []) ++ (Lib.decDigits (X / P10 sa) ++ (if sa = 0 then [] else 46 :: padN sa X)) := by
    unfold textD P10
    rw [← hx, ← hsa]
    cases nx
    · have h1 : rep false X = (X : Int) := rfl
      rw [h1, Int.natAbs_natCast, if_neg (by omega)]; rfl
    · have h1 : rep true X = -(X : Int) := rfl
      have h2 := hneg rfl
      rw [h1, Int.natAbs_neg, Int.natAbs_natCast, if_pos (by omega)]; rfl
  rw [ht]
  clear ht hx hsa hneg
  have HA := Lib.hid hA
  have hp1 : 0 < P10 sa := P10_pos sa
  have hp2 : P10 sa ≤ 1000000 := P10_le (i := sa) (k := 6) ha6
  have hq := Nat.div_le_self X (P10 sa)
  have hr := Nat.mod_lt X hp1
  have hrt := rest_text sa X
  rw [show (10 : Nat) ^ sa = P10 sa from rfl] at hrt
  have hql : (Lib.decDigits (X / P10 sa)).length ≤ 16 := dec_len17 (by omega)
  have hpl := padN_len sa X
  have HPW := Lib.hid (fun w => power_any sa w (by omega))
  have HQ := Lib.hid (fun w => s_rquo (S X) (S (P10 sa)) X (P10 sa) w (s_num _) (s_num _) hp1 (sz63 (by omega)) (sz63 (by omega)))
  have HT1 := Lib.hid (fun w => s_rtext (S (X / P10 sa)) (X / P10 sa) w (s_num _) (sz63 (by omega)) (lt200 (by omega)) (by omega))
  have HAD := Lib.hid (fun w => s_radd (S (P10 sa)) (S (X % P10 sa)) (P10 sa) (X % P10 sa) w (s_num _) (s_num _) (sz63 (by omega)) (sz63 (by omega)))
  have HT2 := Lib.hid (fun w => s_rtext (S (P10 sa + X % P10 sa)) (P10 sa + X % P10 sa) w (s_num _) (sz63 (by omega)) (lt200 (by omega)) (by rw [hrt, List.length_cons, hpl]; omega))
  rw [hrt] at HT2
  generalize X / P10 sa = q at *
  generalize X % P10 sa = r at *
  generalize P10 sa = p at *
  generalize padN sa X = pd at *
  generalize Lib.decDigits q = dq at *
  clear hA hrt hr hq
  go_enter Tryd.func31, Tryd.ntmps31
  go_wp2_with fail
  refine (HA.out _).mono ?_
  rintro e w1 ⟨rfl, g1⟩
  have T3 := Three.new w1 (.bool nx) (.string (S X)) (.int .i64 (sa : Int)) 59
  have G1 := gr_then (gr_then (gr_alloc w (.cells #[.int .i64 n, .int .i64 s] 23) none) g1) (gr_alloc w1 (.cells #[.bool nx, .string (S X), .int .i64 (sa : Int)] 59) none)
  clear g1
  have c2 := T3.c2
  go_wp2_with fail
  refine (HPW.out _).mono ?_
  rintro e w2 ⟨rfl, g2⟩
  have T4 := T3.kept g2
  have G2 := gr_then G1 g2
  clear g2 c2
  have c1 := T4.c1
  go_wp2_with fail
  refine (HQ.out _).mono ?_
  rintro e w3 ⟨rfl, g3⟩
  have T5 := T4.kept g3
  have G3 := gr_then G2 g3
  clear g3 c1
  go_wp2_with fail
  refine (HT1.out _).mono ?_
  rintro e w4 ⟨rfl, g4⟩
  have T6 := T5.kept g4
  have G4 := gr_then G3 g4
  clear g4
  have c0 := T6.c0
  have c2 := T6.c2
  have G := Lib.hid G4
  clear T3 T4 T5 T6 G1 G2 G3 G4
  obtain ⟨D, hD⟩ : ∃ D : ByteArray, D = ⟨dq.toArray⟩ := ⟨_, rfl⟩
  obtain ⟨R, hR⟩ : ∃ R : ByteArray, R = ⟨(49 :: pd).toArray⟩ := ⟨_, rfl⟩
  have tD : D.data.toList = dq := by rw [hD]
  have tR : R.data.toList = 49 :: pd := by rw [hR]
  have zD : D.size = dq.length := by rw [← tD]; rfl
  have zR : R.size = pd.length + 1 := by have h : R.data.toList.length = R.size := rfl; rw [tR] at h; rw [← h]; rfl
  rw [← hD]
  rw [← hR] at HT2
  have HTD := Lib.hid tD
  have HTR := Lib.hid tR
  have b1 : D.size ≤ 16 := by omega
  have b2 : R.size ≤ 7 := by omega
  have b3 : 1 ≤ R.size := by omega
  clear hD hR tD tR zD
  have hx0 : R.extract 1 R.size = ⟨pd.toArray⟩ := ba_list (by simp [ByteArray.data_extract, List.extract, HTR.out]; rw [zR]; simp)
  have HX0 := Lib.hid hx0
  clear hx0 zR
  have e1 : ¬ 9223372036854775807 < 1 + D.size := by omega
  have e2 : ¬ 9223372036854775807 < D.size + 1 := by omega
  have e3 : ¬ 9223372036854775807 < 1 + D.size + 1 := by omega
  have e4 : ¬ 9223372036854775807 < D.size + 1 + (R.size - 1) := by omega
  have e5 : ¬ 9223372036854775807 < 1 + D.size + 1 + (R.size - 1) := by omega
  rcases Nat.eq_zero_or_pos sa with h0 | h0
  · cases nx
    · go_wp2_with fail
      go_ret
      exact ⟨by rw [ba_list HTD.out]; simp [h0], G.out⟩
    · go_wp2_with fail
      go_ret
      refine ⟨?_, G.out⟩
      refine congrArg (fun x => Ending.returned (.string x)) (ba_list ?_)
      rw [ByteArray.data_append, Array.toList_append, HTD.out]
      simp [h0]
  · cases nx
    all_goals
      go_wp2_with fail
      refine (HAD.out _).mono ?_
      rintro e w5 ⟨rfl, g5⟩
      have G5 := gr_then G.out g5
      clear g5
      go_wp2_with fail
      refine (HT2.out _).mono ?_
      rintro e w6 ⟨rfl, g6⟩
      have G6 := gr_then G5 g6
      clear g6 G5
      go_wp2_with fail
      go_ret
      refine ⟨congrArg (fun x => Ending.returned (.string x)) (ba_list ?_), G6⟩
      rw [HX0.out]
      simp only [ByteArray.data_append, Array.toList_append, HTD.out]
      simp
end Go.Proofs.YtmlmjhlakpgagaaDoor
namespace Go.Proofs.YtmlmjhlakpgagaaDoor
open Go.RowKit Mth Dm

theorem take_next (s : ByteArray) (k : Nat) (h : k < s.size) : s.data.toList.take (k + 1) = s.data.toList.take k ++ [s[k]] := by
  rw [List.take_succ_eq_append_getElem (by simpa using h)]; rfl
theorem scn_next {s : ByteArray} {k : Nat} {t : St} (h : k < s.size) (hk : scn 0 (s.data.toList.take k) t0 = some t) : scn 0 (s.data.toList.take (k + 1)) t0 = stp k s[k] t := by
  rw [take_next s k h, scn_snoc, hk, Option.bind_some]
  have hl : (s.data.toList.take k).length = k := by rw [List.length_take]; have h2 : s.data.toList.length = s.size := rfl; omega
  rw [hl, Nat.zero_add]
theorem refP_stop {s : ByteArray} {k : Nat} (h : scn 0 (s.data.toList.take k) t0 = none) : refP s.data.toList = (0, 0, false) := by
  have h2 : scn 0 s.data.toList t0 = none := by
    rw [← List.take_append_drop k s.data.toList, scn_app, h]; rfl
  unfold refP; rw [h2]
theorem dv_lt (l : List UInt8) (h : l.all isDg = true) (a : Nat) : dv a l < (a + 1) * 10 ^ l.length := by
  induction l generalizing a with
  | nil => show a < _; simp
  | cons c l ih =>
    rw [List.all_cons, Bool.and_eq_true] at h
    have hc := isDg_iff.1 h.1
    have h1 := ih h.2 (a * 10 + (c.toNat - 48))
    rw [dv_cons, List.length_cons, Nat.pow_succ]
    have h2 : (a * 10 + (c.toNat - 48) + 1) * 10 ^ l.length ≤ (a + 1) * 10 * 10 ^ l.length := Nat.mul_le_mul_right _ (by omega)
    have h3 : (a + 1) * 10 * 10 ^ l.length = (a + 1) * (10 ^ l.length * 10) := by rw [Nat.mul_assoc, Nat.mul_comm 10]
    omega
theorem pow_small {m : Nat} (h : m ≤ 200) : 10 ^ m < 256 ^ 200 :=
  Nat.lt_of_le_of_lt (Nat.pow_le_pow_right (by decide) h) (Nat.pow_lt_pow_left (by decide) (by decide))
theorem dv_small {l : List UInt8} (h : l.all isDg = true) (hl : l.length ≤ 200) : dv 0 l < 256 ^ 200 := by
  have h1 := dv_lt l h 0
  have h2 := pow_small hl
  omega
theorem stp_neg {c : UInt8} (h : c.toNat = 45) (t : St) : stp 0 c t = some { t with neg := true } := by
  have hc : c = 45 := UInt8.toNat_inj.1 (by rw [h]; rfl)
  subst hc; unfold stp; rw [if_pos ⟨rfl, rfl⟩]
theorem stp_dot {c : UInt8} (h : c.toNat = 46) (k : Nat) (t : St) (ht : t.seen = false) : stp k c t = some { t with seen := true } := by
  have hc : c = 46 := UInt8.toNat_inj.1 (by rw [h]; rfl)
  subst hc; unfold stp; rw [if_neg (fun e => absurd e.2 (by decide)), if_pos ⟨rfl, ht⟩]
theorem stp_dig {c : UInt8} (h1 : 48 ≤ c.toNat) (h2 : c.toNat ≤ 57) (k : Nat) (t : St) : stp k c t = some { t with ds := t.ds ++ [c], sc := t.sc + (if t.seen then 1 else 0) } := by
  unfold stp
  rw [if_neg, if_neg, if_pos (isDg_iff.2 ⟨h1, h2⟩)]
  · rintro ⟨rfl, _⟩; revert h1; decide
  · rintro ⟨_, rfl⟩; revert h1; decide
theorem stp_none {c : UInt8} {k : Nat} {t : St} (h1 : ¬ (k = 0 ∧ c.toNat = 45)) (h2 : ¬ (c.toNat = 46 ∧ t.seen = false)) (h3 : ¬ (48 ≤ c.toNat ∧ c.toNat ≤ 57)) : stp k c t = none := by
  unfold stp
  rw [if_neg, if_neg, if_neg (fun e => h3 (isDg_iff.1 e))]
  · rintro ⟨rfl, e⟩; exact h2 ⟨rfl, e⟩
  · rintro ⟨e, rfl⟩; exact h1 ⟨e, rfl⟩
theorem ext_one {s D : ByteArray} {k : Nat} {ds : List UInt8} {c : UInt8} (hk : k < s.size) (hc : c = s[k]) (hD : D = ⟨ds.toArray⟩) : D ++ s.extract k (k + 1) = ⟨(ds ++ [c]).toArray⟩ := by
  refine ba_list ?_
  rw [ByteArray.data_append, Array.toList_append, hD, hc]
  have h2 : s.data.toList.length = s.size := rfl
  have h3 : (s.extract k (k + 1)).data.toList = [s[k]] := by
    rw [ByteArray.data_extract, Array.toList_extract]
    show List.extract s.data.toList k (k + 1) = _
    unfold List.extract
    rw [show k + 1 - k = 1 from by omega, List.drop_eq_getElem_cons (by omega), List.take_succ_cons, List.take_zero]; rfl
  rw [h3]
def RelP (s : ByteArray) (w : World) (b0 b1 : Nat) (d sn i : Value) (wr : World) : Prop :=
  ∃ (k : Nat) (ng se : Bool) (ds : List UInt8) (sc : Nat), k ≤ s.size ∧ i = .int .i64 k ∧ d = .string ⟨ds.toArray⟩ ∧ sn = .bool se ∧ Hid (scn 0 (s.data.toList.take k) t0 = some ⟨ng, se, ds, sc⟩) ∧ ds.all isDg = true ∧ ds.length ≤ k ∧ sc ≤ k ∧ Three wr b1 (.bool ng) (.string ⟨#[]⟩) (.int .i64 (sc : Int)) 59 ∧ Two wr b0 (.int .i64 0) (.int .i64 0) 23 ∧ w.grownBy wr none
def RelQ (ds : List UInt8) (w : World) (b0 b1 : Nat) (ng : Bool) (sc : Nat) (i : Value) (wr : World) : Prop :=
  ∃ k : Nat, k ≤ ds.length ∧ i = .int .i64 k ∧ Three wr b1 (.bool ng) (.string (S (dv 0 (ds.take k)))) (.int .i64 (sc : Int)) 59 ∧ Two wr b0 (.int .i64 0) (.int .i64 0) 23 ∧ w.grownBy wr none
set_option maxHeartbeats 16000000 in
set_option maxRecDepth 1000000 in
theorem qparse_any (s : ByteArray) (w : World) (hs : s.size ≤ 200) : Gives 33 #[.string s] w (dres (refP s.data.toList)) := by
  go_enter Tryd.func33, Tryd.ntmps33
  go_wp2_with fail
  have T0 := (Two.new w (.int .i64 0) (.int .i64 0) 23).alloc (.cells #[.bool false, .string ⟨#[]⟩, .int .i64 0] 59)
  have T1 := Three.new1 w (.cells #[.int .i64 0, .int .i64 0] 23) (.bool false) (.string ⟨#[]⟩) (.int .i64 0) 59
  have G := gr_then (gr_alloc w (.cells #[.int .i64 0, .int .i64 0] 23) none) (gr_alloc _ (.cells #[.bool false, .string ⟨#[]⟩, .int .i64 0] 59) none)
  go_loopw [5, 6, 7] (fun d sn i wr => RelP s w w.heap.size (w.heap.size + 1) d sn i wr) (fun _ _ i _ => s.size - (intOf i).toNat)
  case atStart => exact ⟨0, false, false, [], 0, by omega, rfl, rfl, rfl, Lib.hid rfl, rfl, by simp, by omega, T1, T0, G⟩
  case round =>
    clear T0 T1 G
    obtain ⟨k, ng, se, ds, sc, hk, rfl, rfl, rfl, HS, hall, hdl, hscl, T1, T0, hg⟩ := hrel
    by_cases hlt : k < s.size
    · obtain ⟨c, hc⟩ : ∃ c : UInt8, c = s[k] := ⟨_, rfl⟩
      have hnx := scn_next hlt HS.out
      rw [← hc] at hnx
      have HC := Lib.hid hc
      have hcn : s[k].toNat = c.toNat := by rw [← hc]
      obtain ⟨n, hn⟩ : ∃ n : Nat, n = c.toNat := ⟨_, rfl⟩
      rw [← hn] at hcn
      have HN := Lib.hid hn
      have HNX := Lib.hid hnx
      clear hc hn hnx
      obtain ⟨D, hD⟩ : ∃ D : ByteArray, D = ⟨ds.toArray⟩ := ⟨_, rfl⟩
      have zD : D.size = ds.length := by rw [hD]; show ds.toArray.size = _; simp
      rw [← hD]
      have HDD := Lib.hid hD
      clear hD
      have z1 : D.size ≤ 200 := by omega
      have k1 : (k : Int) + 1 ≤ 9223372036854775807 := by omega
      have a0 := T1.c0
      have a2 := T1.c2
      have f0 := T1.fr 0
      have f2 := T1.fr 2
      have d0 := T0.c0
      have d1 := T0.c1
      have h0 := T0.fr 0
      have h1 := T0.fr 1
      have hz : k = 0 ∨ ((k : Int) == 0) = false := by rcases Nat.eq_zero_or_pos k with h | h; exact .inl h; exact .inr (by rw [beq_eq_false_iff_ne]; omega)
      have hcase : n = 45 ∨ n = 46 ∨ (((n : Int) == 45) = false ∧ ((n : Int) == 46) = false ∧ ((decide (48 ≤ (n : Int)) = true ∧ decide ((n : Int) ≤ 57) = true) ∨ decide (48 ≤ (n : Int)) = false ∨ (decide (48 ≤ (n : Int)) = true ∧ decide ((n : Int) ≤ 57) = false))) := by
        rw [beq_eq_false_iff_ne, beq_eq_false_iff_ne]
        simp only [decide_eq_true_eq, decide_eq_false_iff_not]
        omega
      cases se
      · rcases hz with rfl | hz
        · rcases hcase with hq | hq | ⟨hp1, hp2, ⟨hq1, hq2⟩ | hq1 | ⟨hq1, hq2⟩⟩
          · subst hq
            go_wp2_with fail
            have hn := HN.out
            have hnx := HNX.out
            rw [stp_neg (by omega)] at hnx
            exact ⟨⟨0 + 1, true, false, ds, sc, by omega, by first | rfl | go_num, by rw [HDD.out], rfl, Lib.hid hnx, hall, by omega, by omega, T1.s0 (.bool true), T0.other (by omega), gr_setn hg (by omega)⟩, by simp [intOf]; omega⟩
          · subst hq
            go_wp2_with fail
            have hn := HN.out
            have hnx := HNX.out
            rw [stp_dot (by omega) _ _ rfl] at hnx
            exact ⟨⟨0 + 1, ng, true, ds, sc, by omega, by first | rfl | go_num, by rw [HDD.out], rfl, Lib.hid hnx, hall, by omega, by omega, T1, T0, hg⟩, by simp [intOf]; omega⟩
          · go_wp2_with fail
            have hn := HN.out
            have hnx := HNX.out
            simp only [decide_eq_true_eq, decide_eq_false_iff_not, beq_eq_false_iff_ne] at hp1 hp2 hq1 hq2
            rw [stp_dig (by omega) (by omega)] at hnx
            have hall2 : (ds ++ [c]).all isDg = true := by rw [List.all_append, hall, Bool.true_and, List.all_cons, List.all_nil, Bool.and_true, isDg_iff]; omega
            exact ⟨⟨0 + 1, ng, false, ds ++ [c], sc, by omega, by first | rfl | go_num, congrArg Value.string (ext_one hlt HC.out HDD.out), rfl, Lib.hid hnx, hall2, by (rw [List.length_append, List.length_singleton]; omega), by omega, T1, T0, hg⟩, by simp [intOf]; omega⟩
          · go_wp2_with fail
            have hn := HN.out
            have hnx := HNX.out
            simp only [decide_eq_true_eq, decide_eq_false_iff_not, beq_eq_false_iff_ne] at hp1 hp2 hq1
            rw [stp_none (by omega) (by omega) (by omega)] at hnx
            exact bodyPost_ret (v := .tuple #[.agg #[.int .i64 0, .int .i64 0], .bool false]) (by simp [results, Tryd.results33, go_sem, d0, d1]) rfl ⟨by rw [refP_stop hnx]; rfl, gr_setn (gr_setn hg (by omega)) (by omega)⟩
          · go_wp2_with fail
            have hn := HN.out
            have hnx := HNX.out
            simp only [decide_eq_true_eq, decide_eq_false_iff_not, beq_eq_false_iff_ne] at hp1 hp2 hq1 hq2
            rw [stp_none (by omega) (by omega) (by omega)] at hnx
            exact bodyPost_ret (v := .tuple #[.agg #[.int .i64 0, .int .i64 0], .bool false]) (by simp [results, Tryd.results33, go_sem, d0, d1]) rfl ⟨by rw [refP_stop hnx]; rfl, gr_setn (gr_setn hg (by omega)) (by omega)⟩
        · rcases hcase with hq | hq | ⟨hp1, hp2, ⟨hq1, hq2⟩ | hq1 | ⟨hq1, hq2⟩⟩
          · subst hq
            go_wp2_with fail
            have hn := HN.out
            have hnx := HNX.out
            rw [beq_eq_false_iff_ne] at hz
            rw [stp_none (by omega) (by omega) (by omega)] at hnx
            exact bodyPost_ret (v := .tuple #[.agg #[.int .i64 0, .int .i64 0], .bool false]) (by simp [results, Tryd.results33, go_sem, d0, d1]) rfl ⟨by rw [refP_stop hnx]; rfl, gr_setn (gr_setn hg (by omega)) (by omega)⟩
          · subst hq
            go_wp2_with fail
            have hn := HN.out
            have hnx := HNX.out
            rw [beq_eq_false_iff_ne] at hz
            rw [stp_dot (by omega) _ _ rfl] at hnx
            exact ⟨⟨k + 1, ng, true, ds, sc, by omega, by first | rfl | go_num, by rw [HDD.out], rfl, Lib.hid hnx, hall, by omega, by omega, T1, T0, hg⟩, by simp [intOf]; omega⟩
          · go_wp2_with fail
            have hn := HN.out
            have hnx := HNX.out
            simp only [decide_eq_true_eq, decide_eq_false_iff_not, beq_eq_false_iff_ne] at hp1 hp2 hq1 hq2
            rw [beq_eq_false_iff_ne] at hz
            rw [stp_dig (by omega) (by omega)] at hnx
            have hall2 : (ds ++ [c]).all isDg = true := by rw [List.all_append, hall, Bool.true_and, List.all_cons, List.all_nil, Bool.and_true, isDg_iff]; omega
            exact ⟨⟨k + 1, ng, false, ds ++ [c], sc, by omega, by first | rfl | go_num, congrArg Value.string (ext_one hlt HC.out HDD.out), rfl, Lib.hid hnx, hall2, by (rw [List.length_append, List.length_singleton]; omega), by omega, T1, T0, hg⟩, by simp [intOf]; omega⟩
          · go_wp2_with fail
            have hn := HN.out
            have hnx := HNX.out
            simp only [decide_eq_true_eq, decide_eq_false_iff_not, beq_eq_false_iff_ne] at hp1 hp2 hq1
            rw [beq_eq_false_iff_ne] at hz
            rw [stp_none (by omega) (by omega) (by omega)] at hnx
            exact bodyPost_ret (v := .tuple #[.agg #[.int .i64 0, .int .i64 0], .bool false]) (by simp [results, Tryd.results33, go_sem, d0, d1]) rfl ⟨by rw [refP_stop hnx]; rfl, gr_setn (gr_setn hg (by omega)) (by omega)⟩
          · go_wp2_with fail
            have hn := HN.out
            have hnx := HNX.out
            simp only [decide_eq_true_eq, decide_eq_false_iff_not, beq_eq_false_iff_ne] at hp1 hp2 hq1 hq2
            rw [beq_eq_false_iff_ne] at hz
            rw [stp_none (by omega) (by omega) (by omega)] at hnx
            exact bodyPost_ret (v := .tuple #[.agg #[.int .i64 0, .int .i64 0], .bool false]) (by simp [results, Tryd.results33, go_sem, d0, d1]) rfl ⟨by rw [refP_stop hnx]; rfl, gr_setn (gr_setn hg (by omega)) (by omega)⟩
      · rcases hz with rfl | hz
        · rcases hcase with hq | hq | ⟨hp1, hp2, ⟨hq1, hq2⟩ | hq1 | ⟨hq1, hq2⟩⟩
          · subst hq
            go_wp2_with fail
            have hn := HN.out
            have hnx := HNX.out
            rw [stp_neg (by omega)] at hnx
            exact ⟨⟨0 + 1, true, true, ds, sc, by omega, by first | rfl | go_num, by rw [HDD.out], rfl, Lib.hid hnx, hall, by omega, by omega, T1.s0 (.bool true), T0.other (by omega), gr_setn hg (by omega)⟩, by simp [intOf]; omega⟩
          · subst hq
            go_wp2_with fail
            have hn := HN.out
            have hnx := HNX.out
            rw [stp_none (by omega) (by (rintro ⟨_, h⟩; cases h)) (by omega)] at hnx
            exact bodyPost_ret (v := .tuple #[.agg #[.int .i64 0, .int .i64 0], .bool false]) (by simp [results, Tryd.results33, go_sem, d0, d1]) rfl ⟨by rw [refP_stop hnx]; rfl, gr_setn (gr_setn hg (by omega)) (by omega)⟩
          · go_wp2_with fail
            have hn := HN.out
            have hnx := HNX.out
            simp only [decide_eq_true_eq, decide_eq_false_iff_not, beq_eq_false_iff_ne] at hp1 hp2 hq1 hq2
            rw [stp_dig (by omega) (by omega)] at hnx
            have hall2 : (ds ++ [c]).all isDg = true := by rw [List.all_append, hall, Bool.true_and, List.all_cons, List.all_nil, Bool.and_true, isDg_iff]; omega
            exact ⟨⟨0 + 1, ng, true, ds ++ [c], sc + 1, by omega, by first | rfl | go_num, congrArg Value.string (ext_one hlt HC.out HDD.out), rfl, Lib.hid hnx, hall2, by (rw [List.length_append, List.length_singleton]; omega), by omega, T1.s2 (.int .i64 ((sc : Int) + 1)), T0.other (by omega), gr_setn hg (by omega)⟩, by simp [intOf]; omega⟩
          · go_wp2_with fail
            have hn := HN.out
            have hnx := HNX.out
            simp only [decide_eq_true_eq, decide_eq_false_iff_not, beq_eq_false_iff_ne] at hp1 hp2 hq1
            rw [stp_none (by omega) (by (rintro ⟨_, h⟩; cases h)) (by omega)] at hnx
            exact bodyPost_ret (v := .tuple #[.agg #[.int .i64 0, .int .i64 0], .bool false]) (by simp [results, Tryd.results33, go_sem, d0, d1]) rfl ⟨by rw [refP_stop hnx]; rfl, gr_setn (gr_setn hg (by omega)) (by omega)⟩
          · go_wp2_with fail
            have hn := HN.out
            have hnx := HNX.out
            simp only [decide_eq_true_eq, decide_eq_false_iff_not, beq_eq_false_iff_ne] at hp1 hp2 hq1 hq2
            rw [stp_none (by omega) (by (rintro ⟨_, h⟩; cases h)) (by omega)] at hnx
            exact bodyPost_ret (v := .tuple #[.agg #[.int .i64 0, .int .i64 0], .bool false]) (by simp [results, Tryd.results33, go_sem, d0, d1]) rfl ⟨by rw [refP_stop hnx]; rfl, gr_setn (gr_setn hg (by omega)) (by omega)⟩
        · rcases hcase with hq | hq | ⟨hp1, hp2, ⟨hq1, hq2⟩ | hq1 | ⟨hq1, hq2⟩⟩
          · subst hq
            go_wp2_with fail
            have hn := HN.out
            have hnx := HNX.out
            rw [beq_eq_false_iff_ne] at hz
            rw [stp_none (by omega) (by (rintro ⟨_, h⟩; cases h)) (by omega)] at hnx
            exact bodyPost_ret (v := .tuple #[.agg #[.int .i64 0, .int .i64 0], .bool false]) (by simp [results, Tryd.results33, go_sem, d0, d1]) rfl ⟨by rw [refP_stop hnx]; rfl, gr_setn (gr_setn hg (by omega)) (by omega)⟩
          · subst hq
            go_wp2_with fail
            have hn := HN.out
            have hnx := HNX.out
            rw [beq_eq_false_iff_ne] at hz
            rw [stp_none (by omega) (by (rintro ⟨_, h⟩; cases h)) (by omega)] at hnx
            exact bodyPost_ret (v := .tuple #[.agg #[.int .i64 0, .int .i64 0], .bool false]) (by simp [results, Tryd.results33, go_sem, d0, d1]) rfl ⟨by rw [refP_stop hnx]; rfl, gr_setn (gr_setn hg (by omega)) (by omega)⟩
          · go_wp2_with fail
            have hn := HN.out
            have hnx := HNX.out
            simp only [decide_eq_true_eq, decide_eq_false_iff_not, beq_eq_false_iff_ne] at hp1 hp2 hq1 hq2
            rw [beq_eq_false_iff_ne] at hz
            rw [stp_dig (by omega) (by omega)] at hnx
            have hall2 : (ds ++ [c]).all isDg = true := by rw [List.all_append, hall, Bool.true_and, List.all_cons, List.all_nil, Bool.and_true, isDg_iff]; omega
            exact ⟨⟨k + 1, ng, true, ds ++ [c], sc + 1, by omega, by first | rfl | go_num, congrArg Value.string (ext_one hlt HC.out HDD.out), rfl, Lib.hid hnx, hall2, by (rw [List.length_append, List.length_singleton]; omega), by omega, T1.s2 (.int .i64 ((sc : Int) + 1)), T0.other (by omega), gr_setn hg (by omega)⟩, by simp [intOf]; omega⟩
          · go_wp2_with fail
            have hn := HN.out
            have hnx := HNX.out
            simp only [decide_eq_true_eq, decide_eq_false_iff_not, beq_eq_false_iff_ne] at hp1 hp2 hq1
            rw [beq_eq_false_iff_ne] at hz
            rw [stp_none (by omega) (by (rintro ⟨_, h⟩; cases h)) (by omega)] at hnx
            exact bodyPost_ret (v := .tuple #[.agg #[.int .i64 0, .int .i64 0], .bool false]) (by simp [results, Tryd.results33, go_sem, d0, d1]) rfl ⟨by rw [refP_stop hnx]; rfl, gr_setn (gr_setn hg (by omega)) (by omega)⟩
          · go_wp2_with fail
            have hn := HN.out
            have hnx := HNX.out
            simp only [decide_eq_true_eq, decide_eq_false_iff_not, beq_eq_false_iff_ne] at hp1 hp2 hq1 hq2
            rw [beq_eq_false_iff_ne] at hz
            rw [stp_none (by omega) (by (rintro ⟨_, h⟩; cases h)) (by omega)] at hnx
            exact bodyPost_ret (v := .tuple #[.agg #[.int .i64 0, .int .i64 0], .bool false]) (by simp [results, Tryd.results33, go_sem, d0, d1]) rfl ⟨by rw [refP_stop hnx]; rfl, gr_setn (gr_setn hg (by omega)) (by omega)⟩
    · obtain rfl : k = s.size := by omega
      have hfull := HS.out
      rw [show s.data.toList.take s.size = s.data.toList from List.take_of_length_le (by have h2 : s.data.toList.length = s.size := rfl; omega)] at hfull
      obtain ⟨D, hD⟩ : ∃ D : ByteArray, D = ⟨ds.toArray⟩ := ⟨_, rfl⟩
      have zD : D.size = ds.length := by rw [hD]; show ds.toArray.size = _; simp
      have tD : D.data.toList = ds := by rw [hD]
      rw [← hD]
      have hdall := List.all_eq_true.1 hall
      have HALL := Lib.hid hdall
      have HALB := Lib.hid hall
      have HFULL := Lib.hid hfull
      have TD := Lib.hid tD
      have z1 : D.size ≤ 200 := by omega
      have hdl2 : ds.length ≤ 200 := by omega
      have hsc2 : sc ≤ 200 := by omega
      clear hD hfull hall hdall HS hlt tD
      go_wp2_with fail
      go_loopw [8] (fun i wr => RelQ ds w w.heap.size (w.heap.size + 1) ng sc i wr) (fun i _ => D.size - (intOf i).toNat)
      case atStart => exact ⟨0, by omega, rfl, by rw [List.take_zero, show dv 0 [] = 0 from rfl, s_zero]; exact T1, T0, hg⟩
      case round =>
        clear T1 T0 hg
        obtain ⟨k, hk, rfl, T1, T0, hg⟩ := hrel
        by_cases hlt : k < D.size
        · have hN := dv_small (l := ds.take k) (by rw [List.all_eq_true]; exact fun c hc => HALL.out c (List.mem_of_mem_take hc)) (by rw [List.length_take]; omega)
          obtain ⟨c, hc⟩ : ∃ c : UInt8, c = D[k] := ⟨_, rfl⟩
          have htk : ds.take (k + 1) = ds.take k ++ [c] := by rw [← TD.out, hc]; exact take_next D k hlt
          have hcd := isDg_iff.1 (HALL.out c (by
            have h3 : c ∈ ds.take (k + 1) := by rw [htk]; simp
            exact List.mem_of_mem_take h3))
          obtain ⟨d, hd⟩ : ∃ d : Nat, c.toNat = 48 + d := ⟨c.toNat - 48, by omega⟩
          have hd9 : d ≤ 9 := by omega
          have hcn : D[k].toNat = 48 + d := by rw [← hc]; exact hd
          have hdv : dv 0 (ds.take (k + 1)) = dv 0 (ds.take k) * 10 + d := by rw [htk, dv_snoc, hd]; omega
          have hN10 : dv 0 (ds.take k) * 10 < 256 ^ 200 := by
            have h4 := dv_lt (ds.take k) (by rw [List.all_eq_true]; exact fun c hc => HALL.out c (List.mem_of_mem_take hc)) 0
            have h5 : (ds.take k).length = k := by rw [List.length_take]; omega
            rw [h5] at h4
            have h6 := pow_small (m := k + 1) (by omega)
            rw [Nat.pow_succ] at h6
            omega
          generalize dv 0 (ds.take k) = N at T1 hN hdv hN10
          have HN10 := Lib.hid hN10
          clear hN10
          have HDV := Lib.hid hdv
          have HNB := Lib.hid hN
          clear hdv htk hc hcd hd hN
          have hof10 : ∀ w, Gives 52 #[.int .i64 10] w (.string (S 10)) := fun w => rof_any 10 w (by omega)
          have hofd : ∀ w, Gives 52 #[.int .i64 (d : Int)] w (.string (S d)) := fun w => rof_any d w (by omega)
          have hmu := fun w => s_rmul (S N) (S 10) N 10 w (s_num _) (s_num _) (by have := s_size9 HNB.out; omega) (by have := s_size9 (n := 10) (by decide +kernel); omega)
          have had := fun w => s_radd (S (N * 10)) (S d) (N * 10) d w (s_num _) (s_num _) (s_size9 HN10.out) (sz63 (by omega))
          have H10 := Lib.hid hof10
          have HOD := Lib.hid hofd
          have HMU := Lib.hid hmu
          have HAD := Lib.hid had
          clear hof10 hofd hmu had
          have hw1 : IntKind.u8.wrap (d : Int) = (d : Int) := IntWalk.u8_in _ (by omega)
          have hw3 : IntKind.u8.wrap (((48 + d : Nat) : Int) - 48) = (d : Int) := by rw [show (((48 + d : Nat) : Int) - 48) = (d : Int) by omega]; exact hw1
          have hw4 : IntKind.u8.wrap (48 + (d : Int) - 48) = (d : Int) := by rw [show (48 + (d : Int) - 48) = (d : Int) by omega]; exact hw1
          have hw5 : (48 + (d : Int) - 48) = (d : Int) := by omega
          have hw6 : (((48 + d : Nat) : Int) - 48) = (d : Int) := by omega
          have hw2 : IntKind.i64.wrap (d : Int) = (d : Int) := IntWalk.i64_in _ (by omega)
          have a1 := T1.c1
          have HT1 := Lib.hid T1
          have HT0 := Lib.hid T0
          have HG := Lib.hid hg
          clear T1 T0 hg
          go_wp2_with fail
          go_region_with (first
            | (go_at_call_of 52 (Value.int .i64 10); (with_reducible refine (H10.out _).mono ?_); rintro e wa ⟨rfl, ga⟩; have ha1 := (HT1.out.kept (gr_then (gr_drew wr none) ga)).c1)
            | (go_at_call 48; (with_reducible refine (HMU.out _).mono ?_); rintro e wb ⟨rfl, gb⟩)
            | (go_at_call 52; (with_reducible refine (HOD.out _).mono ?_); rintro e we ⟨rfl, gc⟩)
            | (go_at_call 51; (with_reducible refine (HAD.out _).mono ?_); rintro e wf ⟨rfl, gd⟩; have hst := (HT1.out.kept (gr_then (gr_then (gr_then (gr_then (gr_drew wr none) ga) gb) gc) gd)).c1; have hsf := (HT1.out.kept (gr_then (gr_then (gr_then (gr_then (gr_drew wr none) ga) gb) gc) gd)).fr 1))
          all_goals
            have hgg : wr.grownBy wf none := gr_then (gr_then (gr_then (gr_then (gr_drew wr none) ga) gb) gc) gd
            go_wp2_with fail
            exact ⟨⟨k + 1, by omega, by go_num, by rw [HDV.out]; exact (HT1.out.kept hgg).s1 _, (HT0.out.kept hgg).other (by omega), gr_setn (gr_then HG.out hgg) (by omega)⟩, by simp [intOf]; omega⟩
        · obtain rfl : k = D.size := by omega
          rw [List.take_of_length_le (by omega)] at T1
          have hN := dv_small HALB.out hdl2
          have hfit : ∀ w, Gives 37 #[.agg #[.bool ng, .string (S (dv 0 ds)), .int .i64 (sc : Int)]] w (dres (fitD (rep ng (dv 0 ds)) sc)) := fun w => fit_any ng (dv 0 ds) sc w hN (by omega)
          have hr := rt_fit (rep ng (dv 0 ds)) sc
          have hres : refP s.data.toList = if (fitD (rep ng (dv 0 ds)) sc).2.2 = true ∧ textD ((fitD (rep ng (dv 0 ds)) sc).1, (fitD (rep ng (dv 0 ds)) sc).2.1) = s.data.toList then ((fitD (rep ng (dv 0 ds)) sc).1, (fitD (rep ng (dv 0 ds)) sc).2.1, true) else (0, 0, false) := by unfold refP; rw [HFULL.out]
          generalize fitD (rep ng (dv 0 ds)) sc = r at hfit hr hres
          obtain ⟨rn, rs, rb⟩ := r
          dsimp only at hr hres
          have htx := fun w => qtext_any rn (rs : Int) w
          rw [show valD rn (rs : Int) = (rn, rs) from hr.val] at htx
          obtain ⟨X, hX⟩ : ∃ X : ByteArray, X = ⟨(textD (rn, rs)).toArray⟩ := ⟨_, rfl⟩
          have tX : X.data.toList = textD (rn, rs) := by rw [hX]
          rw [← hX] at htx
          rw [← tX] at hres
          have HFIT := Lib.hid hfit
          have HTX := Lib.hid htx
          have HRES := Lib.hid hres
          have a0 := T1.c0
          have a1 := T1.c1
          have a2 := T1.c2
          clear hfit htx hres hX tX hr hN
          go_wp2_with fail
          refine (HFIT.out _).mono ?_
          rintro e v1 ⟨rfl, g1⟩
          have T0 := (T0.kept g1).alloc (.cells #[.int .i64 rn, .int .i64 (rs : Int)] 23)
          have T9 := Two.new v1 (.int .i64 rn) (.int .i64 (rs : Int)) 23
          have hg := gr_then (gr_then hg g1) (gr_alloc v1 (.cells #[.int .i64 rn, .int .i64 (rs : Int)] 23) none)
          clear g1 a0 a1 a2 T1
          have d0 := T0.c0
          have d1 := T0.c1
          have h0 := T0.fr 0
          have h1 := T0.fr 1
          unfold dres
          dsimp only
          cases rb
          · go_wp2_with fail
            exact bodyPost_ret (v := .tuple #[.agg #[.int .i64 0, .int .i64 0], .bool false]) (by simp [results, Tryd.results33, go_sem, d0, d1]) rfl ⟨by rw [HRES.out]; simp [dres], gr_setn (gr_setn hg (by omega)) (by omega)⟩
          · have e0 := T9.c0
            have e1 := T9.c1
            go_wp2_with fail
            refine (HTX.out _).mono ?_
            rintro e v2 ⟨rfl, g2⟩
            clear d0 d1 h0 h1 e0 e1
            have T0 := T0.kept g2
            have T9 := T9.kept g2
            have hg := gr_then hg g2
            have d0 := T0.c0
            have d1 := T0.c1
            have h0 := T0.fr 0
            have h1 := T0.fr 1
            have e0 := T9.c0
            have e1 := T9.c1
            by_cases hE : X = s
            · subst hE
              go_wp2_with fail
              exact bodyPost_ret (v := .tuple #[.agg #[.int .i64 rn, .int .i64 (rs : Int)], .bool true]) (by simp [results, Tryd.results33, go_sem, d0, d1]) rfl ⟨by rw [HRES.out]; simp [dres], gr_setn (gr_setn hg (by omega)) (by omega)⟩
            · have hne : ¬ X.data.toList = s.data.toList := fun e => hE (ba_eq e)
              have hneb : (X.toList == s.toList) = false := by rw [beq_eq_false_iff_ne, ByteArray.toList_eq, ByteArray.toList_eq]; exact hne
              have HNE := Lib.hid hne
              clear hE hne
              go_wp2_with fail
              exact bodyPost_ret (v := .tuple #[.agg #[.int .i64 0, .int .i64 0], .bool false]) (by simp [results, Tryd.results33, go_sem, d0, d1]) rfl ⟨by rw [HRES.out]; simp [dres, HNE.out], gr_setn (gr_setn hg (by omega)) (by omega)⟩
end Go.Proofs.YtmlmjhlakpgagaaDoor
namespace Go.Proofs.YtmlmjhlakpgagaaDoor
open Go.RowKit Mth Dm

/-- Decimals in a block. -/
def DecCells (B N : Nat) (w : World) : Prop := ∀ i, i < N → ∃ n s : Int, w.cell? ⟨B, i * 2, none⟩ = some (.int .i64 n) ∧ w.cell? ⟨B, i * 2 + 1, none⟩ = some (.int .i64 s)
theorem DecCells.kept {B N : Nat} {w w1 : World} (h : DecCells B N w) (hg : w.grownBy w1 none) : DecCells B N w1 := fun i hi => by
  obtain ⟨n, s, c0, c1⟩ := h i hi
  exact ⟨n, s, hg.cell c0 (by simp), hg.cell c1 (by simp)⟩
/-- Short texts in a block. -/
def StrCells (B N : Nat) (w : World) : Prop := ∀ i, i < N → ∃ t : ByteArray, w.cell? ⟨B, i, none⟩ = some (.string t) ∧ t.size ≤ 200
theorem StrCells.kept {B N : Nat} {w w1 : World} (h : StrCells B N w) (hg : w.grownBy w1 none) : StrCells B N w1 := fun i hi => by
  obtain ⟨t, h1, h2⟩ := h i hi
  exact ⟨t, hg.cell h1 (by simp), h2⟩
theorem text_pos {a : Int × Nat} : 0 < (textD a).length := by
  unfold textD
  have := dec_pos (a.1.natAbs / 10 ^ a.2)
  simp only [List.length_append]; omega
set_option maxHeartbeats 16000000 in
set_option maxRecDepth 100000 in
theorem texts_true (an sa q0 q1 : Int) (raw : ByteArray) (W : World) (hd : EV W) (_h1 : -9223372036854775808 ≤ an ∧ an ≤ 9223372036854775807) (_h2 : -9223372036854775808 ≤ sa ∧ sa ≤ 9223372036854775807) (_h3 : -9223372036854775808 ≤ q0 ∧ q0 ≤ 9223372036854775807) (_h4 : -9223372036854775808 ≤ q1 ∧ q1 ≤ 9223372036854775807) (hraw0 : raw.size ≤ maxLen) :
    Gives 7 #[.agg #[.int .i64 an, .int .i64 sa], .agg #[.int .i64 q0, .int .i64 q1], .string raw] W (.bool true) := by
  have hraw : raw.size ≤ 9223372036854775807 := hraw0
  clear hraw0
  obtain ⟨m, hm⟩ : ∃ m : Nat, m = min raw.size 40 := ⟨_, rfl⟩
  have m1 : m ≤ 40 := by omega
  have m2 : m ≤ raw.size := by omega
  have e1 : min (raw.size : Int) 40 = (m : Int) := by omega
  have e2 : (if (raw.size : Int) < 40 then (raw.size : Int) else 40) = (m : Int) := by split <;> omega
  have e3 : (if (40 : Int) < (raw.size : Int) then (40 : Int) else (raw.size : Int)) = (m : Int) := by split <;> omega
  have hX := fun w => made_any q0 q1 w
  generalize madeD q0 q1 = x at hX
  obtain ⟨xn, xs⟩ := x
  have HX := Lib.hid hX
  have HD := Lib.hid hd
  clear hd hX hm
  go_enter Tryd.func7, Tryd.ntmps7
  go_wp2_with fail
  have g0 := gr_then (gr_alloc W (.cells #[.int .i64 an, .int .i64 sa] 23) none) (gr_alloc _ (.cells #[.int .i64 q0, .int .i64 q1] 39) none)
  refine (sanity_any _ (HD.out.grown g0)).mono ?_
  rintro e w1 ⟨rfl, g1⟩
  have TA := ((Two.new W (.int .i64 an) (.int .i64 sa) 23).alloc (.cells #[.int .i64 q0, .int .i64 q1] 39)).kept g1
  have TQ := (Two.new1 W (.cells #[.int .i64 an, .int .i64 sa] 23) (.int .i64 q0) (.int .i64 q1) 39).kept g1
  have G := gr_then g0 g1
  clear g0 g1
  go_wp2_with fail
  have hK : ∀ w', w1.grownBy w' none → (w'.cell? ⟨W.heap.size, 0, none⟩ = some (.int .i64 an) ∧ w'.cell? ⟨W.heap.size, 1, none⟩ = some (.int .i64 sa) ∧ w'.cell? ⟨W.heap.size + 1, 0, none⟩ = some (.int .i64 q0) ∧ w'.cell? ⟨W.heap.size + 1, 1, none⟩ = some (.int .i64 q1)) := fun w' h => ⟨(TA.kept h).c0, (TA.kept h).c1, (TQ.kept h).c0, (TQ.kept h).c1⟩
  have HK := Lib.hid hK
  have HG := Lib.hid G
  clear hK G TA TQ
  go_region_held3 (fun w' => w'.cell? ⟨W.heap.size, 0, none⟩ = some (.int .i64 an) ∧ w'.cell? ⟨W.heap.size, 1, none⟩ = some (.int .i64 sa) ∧ w'.cell? ⟨W.heap.size + 1, 0, none⟩ = some (.int .i64 q0) ∧ w'.cell? ⟨W.heap.size + 1, 1, none⟩ = some (.int .i64 q1))
    ((refine HK.out _ ?_; repeat (first | (with_reducible exact gr_rfl _) | (with_reducible refine gr_al ?_) | (with_reducible refine gr_dr ?_) | (with_reducible refine gr_then ?_ ga))))
    (first | (go_at_call 19; (with_reducible refine (HX.out _).mono ?_); rintro e wa ⟨rfl, ga⟩))
  all_goals
    have G := gr_then (gr_dr HG.out) ga
    go_wp2
    have HC : DecCells wa.heap.size 2 (wa.alloc (.cells #[.int .i64 an, .int .i64 sa, .int .i64 xn, .int .i64 (xs : Int)] 23)) := by
      intro i hi
      rw [cell_of_row _ _ (i * 2) _ _ (0, 0) (heap_alloc_new wa _), cell_of_row _ _ (i * 2 + 1) _ _ (0, 0) (heap_alloc_new wa _)]
      rcases (show i = 0 ∨ i = 1 by omega) with rfl | rfl
      · exact ⟨an, sa, rfl, rfl⟩
      · exact ⟨xn, (xs : Int), rfl, rfl⟩
    have G1 := gr_then G (gr_alloc wa (.cells #[.int .i64 an, .int .i64 sa, .int .i64 xn, .int .i64 (xs : Int)] 23) none)
    clear G ga
    have hRz : (raw.extract 0 m).size ≤ 40 := by rw [ByteArray.size_extract]; omega
    generalize raw.extract 0 m = R at hRz ⊢
    generalize wa.heap.size = bs at HC ⊢
    go_loopw [33] (fun u wr => ∃ i : Nat, i ≤ 2 ∧ u = .int .i64 i ∧ DecCells bs 2 wr ∧ W.grownBy wr none) (fun u _ => 2 - (intOf u).toNat)
    case atStart => exact ⟨0, by omega, rfl, HC, G1⟩
    case round =>
      obtain ⟨i, hi, rfl, HCI, hg⟩ := hrel
      clear HC G1
      by_cases hlt : i < 2
      · obtain ⟨n, s, c0, c1⟩ := HCI i hlt
        have hdb : decide ((i : Int) < 2) = true := by rw [decide_eq_true_eq]; omega
        have hv := rt_val n s
        have htx := fun w ht => text_any n s w ht
        have hqx := fun w => qtext_any n s w
        have hcm := fun w => cmp_any (valD n s).1 ((valD n s).2 : Nat) n s w
        rw [show valD (valD n s).1 ((valD n s).2 : Nat) = valD n s from hv.val, show cmpD (valD n s) (valD n s) = 0 from (cmpI_eq _ _).2 rfl] at hcm
        have hri := fun w => right_any (valD n s).1 ((valD n s).2 : Nat) w
        rw [hv.right] at hri
        have hpd := parseD_text hv
        have hlen := text_len hv
        have hpos := text_pos (a := valD n s)
        generalize valD n s = v at htx hqx hcm hri hpd hlen hpos
        obtain ⟨vn, vs⟩ := v
        dsimp only at hcm hri hpd
        obtain ⟨T, hT⟩ : ∃ T : ByteArray, T = ⟨(textD (vn, vs)).toArray⟩ := ⟨_, rfl⟩
        have tT : T.data.toList = textD (vn, vs) := by rw [hT]
        have zT : T.size = (textD (vn, vs)).length := by rw [← tT]; rfl
        rw [← hT] at htx hqx
        have hpa := fun w hd => parse_any T w (by omega) hd
        rw [tT, hpd] at hpa
        have l1 : T.size ≤ 25 := by omega
        have l2 : 1 ≤ T.size := by omega
        have hne : ¬ T.toList = [] := by
          rw [ByteArray.toList_eq, tT]
          intro h
          rw [h] at hpos; simp at hpos
        have hem : T.toList.isEmpty = false := by
          cases hTl : T.toList with
          | nil => exact absurd hTl hne
          | cons _ _ => rfl
        have HTX := Lib.hid htx
        have HQX := Lib.hid hqx
        have HCM := Lib.hid hcm
        have HRI := Lib.hid hri
        have HPA := Lib.hid hpa
        clear htx hqx hcm hri hpa hpd hlen hpos hT tT zT hv
        have T9 := Two.new wr (.int .i64 n) (.int .i64 s) 23
        have hg := gr_then hg (gr_alloc wr (.cells #[.int .i64 n, .int .i64 s] 23) none)
        have HCI := Lib.hid (HCI.kept (gr_alloc wr (.cells #[.int .i64 n, .int .i64 s] 23) none))
        have x0 := T9.c0
        have x1 := T9.c1
        go_wp2_with fail
        refine (HTX.out _ (HD.out.grown hg).t).mono ?_
        rintro e v1 ⟨rfl, g1⟩
        clear x0 x1 c0 c1
        have T9 := T9.kept g1
        have hg := gr_then hg g1
        have HCI := Lib.hid (HCI.out.kept g1)
        have x0 := T9.c0
        have x1 := T9.c1
        go_wp2_with fail
        refine (HQX.out _).mono ?_
        rintro e v2 ⟨rfl, g2⟩
        clear x0 x1 g1
        have T9 := T9.kept g2
        have hg := gr_then hg g2
        have HCI := Lib.hid (HCI.out.kept g2)
        go_wp2_with fail
        refine (HPA.out _ (HD.out.grown hg)).mono ?_
        rintro e v3 ⟨rfl, g3⟩
        have T9 := (T9.kept g3).alloc (.cells #[.int .i64 vn, .int .i64 (vs : Int)] 23)
        have T11 := Two.new v3 (.int .i64 vn) (.int .i64 (vs : Int)) 23
        have hg := gr_then (gr_then hg g3) (gr_alloc v3 (.cells #[.int .i64 vn, .int .i64 (vs : Int)] 23) none)
        have HCI := Lib.hid ((HCI.out.kept g3).kept (gr_alloc v3 (.cells #[.int .i64 vn, .int .i64 (vs : Int)] 23) none))
        clear g2 g3
        have x0 := T9.c0
        have x1 := T9.c1
        have y0 := T11.c0
        have y1 := T11.c1
        unfold dres
        dsimp only
        go_wp2_with fail
        refine (HCM.out _).mono ?_
        rintro e v4 ⟨rfl, g4⟩
        clear x0 x1 y0 y1
        have T11 := T11.kept g4
        have hg := gr_then hg g4
        have HCI := Lib.hid (HCI.out.kept g4)
        have y0 := T11.c0
        have y1 := T11.c1
        go_wp2_with fail
        refine (HRI.out _).mono ?_
        rintro e v5 ⟨rfl, g5⟩
        have hg := gr_then hg g5
        have HCI := Lib.hid (HCI.out.kept g5)
        clear y0 y1 T11 T9 g4 g5 HTX HQX HPA HCM HRI
        have f1 : ¬ 9223372036854775807 < T.size + R.size := by omega
        have f2 : ¬ 9223372036854775807 < T.size + 1 := by omega
        have f3 : ¬ 9223372036854775807 < 1 + T.size := by omega
        have HI : StrCells v5.heap.size 8 (v5.alloc (.cells #[.string R, .string (T ++ R), .string (T ++ ⟨#[48]⟩), .string (⟨#[48]⟩ ++ T), .string (T.extract 1 T.size), .string (T ++ ⟨#[46]⟩), .string (⟨#[45]⟩ ++ T), .string (⟨#[43]⟩ ++ T)] 9)) := by
          have key : ∀ (ys : Array Value) (j : Nat), (v5.alloc (.cells ys 9)).cell? ⟨v5.heap.size, j, none⟩ = ys[j]? := fun ys j => cell_of_row (v5.alloc (.cells ys 9)) v5.heap.size j ys 9 (0, 0) (heap_alloc_new v5 _)
          intro j hj
          rcases (show j = 0 ∨ j = 1 ∨ j = 2 ∨ j = 3 ∨ j = 4 ∨ j = 5 ∨ j = 6 ∨ j = 7 by omega) with rfl | rfl | rfl | rfl | rfl | rfl | rfl | rfl
          · exact ⟨_, by rw [key]; rfl, by omega⟩
          · exact ⟨_, by rw [key]; rfl, by rw [ByteArray.size_append]; omega⟩
          · exact ⟨_, by rw [key]; rfl, by rw [ByteArray.size_append]; show T.size + 1 ≤ _; omega⟩
          · exact ⟨_, by rw [key]; rfl, by rw [ByteArray.size_append]; show 1 + T.size ≤ _; omega⟩
          · exact ⟨_, by rw [key]; rfl, by rw [ByteArray.size_extract]; omega⟩
          · exact ⟨_, by rw [key]; rfl, by rw [ByteArray.size_append]; show T.size + 1 ≤ _; omega⟩
          · exact ⟨_, by rw [key]; rfl, by rw [ByteArray.size_append]; show 1 + T.size ≤ _; omega⟩
          · exact ⟨_, by rw [key]; rfl, by rw [ByteArray.size_append]; show 1 + T.size ≤ _; omega⟩
        have hgI := gr_then hg (gr_alloc v5 (.cells #[.string R, .string (T ++ R), .string (T ++ ⟨#[48]⟩), .string (⟨#[48]⟩ ++ T), .string (T.extract 1 T.size), .string (T ++ ⟨#[46]⟩), .string (⟨#[45]⟩ ++ T), .string (⟨#[43]⟩ ++ T)] 9) none)
        have HCJ := HCI.out.kept (gr_alloc v5 (.cells #[.string R, .string (T ++ R), .string (T ++ ⟨#[48]⟩), .string (⟨#[48]⟩ ++ T), .string (T.extract 1 T.size), .string (T ++ ⟨#[46]⟩), .string (⟨#[45]⟩ ++ T), .string (⟨#[43]⟩ ++ T)] 9) none)
        clear hg HCI
        go_wp2
        generalize v5.heap.size = b8 at HI ⊢
        go_loopw [83] (fun u wq => ∃ j : Nat, j ≤ 8 ∧ u = .int .i64 j ∧ StrCells b8 8 wq ∧ DecCells bs 2 wq ∧ W.grownBy wq none) (fun u _ => 8 - (intOf u).toNat)
        case atStart => exact ⟨0, by omega, rfl, HI, HCJ, hgI⟩
        case round =>
          clear HI HCJ hgI
          obtain ⟨j, hj, rfl, HI, HCJ, hgI⟩ := hrel
          by_cases hlj : j < 8
          · obtain ⟨x, cx, hx⟩ := HI j hlj
            have p1 := fun w hd => parse_any x w (by omega) hd
            have p2 := fun w => qparse_any x w hx
            rw [parse_same] at p2
            generalize parseD x.data.toList = z at p1 p2
            obtain ⟨zn, zs, zb⟩ := z
            have P1 := Lib.hid p1
            have P2 := Lib.hid p2
            clear p1 p2
            have HCK := Lib.hid HCJ
            have HIK := Lib.hid HI
            clear HCJ HI
            go_wp2_with fail
            refine (P1.out _ (HD.out.grown hgI)).mono ?_
            rintro e w9 ⟨rfl, h9⟩
            have T15 := Two.new w9 (.int .i64 zn) (.int .i64 (zs : Int)) 23
            unfold dres
            dsimp only
            go_wp2_with fail
            refine (P2.out _).mono ?_
            rintro e w10 ⟨rfl, h10⟩
            have T15 := (T15.kept h10).alloc (.cells #[.int .i64 zn, .int .i64 (zs : Int)] 23)
            have T17 := Two.new w10 (.int .i64 zn) (.int .i64 (zs : Int)) 23
            have hh := gr_then (gr_then (gr_then h9 (gr_alloc w9 (.cells #[.int .i64 zn, .int .i64 (zs : Int)] 23) none)) h10) (gr_alloc w10 (.cells #[.int .i64 zn, .int .i64 (zs : Int)] 23) none)
            have k0 := T15.c0
            have k1 := T15.c1
            have k2 := T17.c0
            have k3 := T17.c1
            unfold dres
            dsimp only
            go_wp2
            exact ⟨⟨j + 1, by omega, by go_num, HIK.out.kept hh, HCK.out.kept hh, gr_then hgI hh⟩, by simp [intOf]; omega⟩
          · have hge : ¬ j < 8 := hlj
            go_wp2
            exact ⟨⟨i + 1, by omega, by go_num, HCJ, hgI⟩, by simp [intOf]; omega⟩
      · have hge : ¬ i < 2 := hlt
        go_wp2
        go_ret
        exact ⟨rfl, hg⟩
end Go.Proofs.YtmlmjhlakpgagaaDoor
namespace Go.Proofs.YtmlmjhlakpgagaaDoor
open Go.ChangeShapes Go.WideShapes Go.ChangeAt Go.RowKit Mth

set_option maxRecDepth 1000000 in
set_option maxHeartbeats 4000000 in
theorem texts_lifted (os : Os) (started : os.Started) (H : Type) (enc : TypeId × Value → H) :
    ReturnsInHanded {} Tryd.checked os 7 .any (fun w args => (Rows.decimalTextsSpec.pre enc Tryd.prog Tryd.f7 Rows.decimalTextsRow.domain false w args ∧ laidMet Tryd.prog Rows.decimalTextsRow.laid w) ∧ sizedMet enc Tryd.prog Tryd.f7 (OpenSpec.ofChange Rows.decimalTextsSpec) false w args)
      (Rows.decimalTextsSpec.post enc Tryd.prog Tryd.f7 false true false false) := by
  refine returnsInHanded_of_change_and (C := Tryd.checked) (X := fun w _ => laidMet Tryd.prog Rows.decimalTextsRow.laid w) (fun _ _ _ hh h => h.of_heap hh) own0 started (by kernel_rfl) Tryd.func7
    (ChangeSpec.witness_at (enc := enc) (C := Tryd.checked) (os := os) (X := fun w _ => laidMet Tryd.prog Rows.decimalTextsRow.laid w) false (laidWorld os) #[.agg #[.int .i64 0, .int .i64 0], .agg #[.int .i64 0, .int .i64 0], .string ⟨#[]⟩] 8 rfl (by kernel_rfl) (by kernel_rfl) (by kernel_rfl) (by kernel_rfl) (by kernel_rfl) (laid_at os _)) ?_
  intro W base args ds gs before hval0 hW hcnd0 _ hL _
  have hval : ∀ (j : Nat) t v, Tryd.f7.params[j]? = some t → args[j]? = some v → Value.okWide Tryd.prog W .any base t v := hval0
  have hW' := hW
  obtain ⟨p, q, hA0, hV, rfl, hfz, hnd⟩ := hW
  have hA : DataW.TrodAll enc Tryd.prog W 0 (fun _ => true) true Tryd.f7.params.toList args.toList ds p := hA0
  rw [Tryd.params7] at hA hval
  obtain ⟨v0, v1, v2, d0, d1, d2, p0, p1, p2, rfl, rfl, rfl, h0, h1, h2⟩ := trodAll_three hA
  obtain ⟨rfl, rfl⟩ := trodVars_none hV
  clear hA0 hval0 hA
  simp only [List.append_nil] at hW'
  have k0 := hval 0 23 v0 rfl rfl
  have k1 := hval 1 39 v1 rfl rfl
  have k2 := hval 2 9 v2 rfl rfl
  obtain ⟨n0, s0, rfl, w0, x0⟩ := dec_arg k0 h0
  obtain ⟨n1_0, n1_1, rfl, w1_0, w1_1⟩ := arr2_arg Tryd.underlying39 Tryd.underlying3 (by kernel_rfl) (by kernel_rfl) k1 h1
  obtain ⟨n2, rfl, w2⟩ := str_arg k2 h2
  refine (texts_true n0 s0 n1_0 n1_1 n2 W (ev_of hL) (wf_i64 w0) (wf_i64 x0) (wf_i64 w1_0) (wf_i64 w1_1) w2).mono fun e W' ⟨he, hg⟩ => ?_
  subst he
  have hb : Below W.heap.size W W' := gr_low hg
  have hlt : ∀ x ∈ p0 ++ p1 ++ p2, x.block < W.heap.size := fun x hx => by simpa using hW'.lt x hx
  have hl0 : ∀ x ∈ p0, x.block < W.heap.size := fun x hx => hlt x (by simp [hx])
  have hl1 : ∀ x ∈ p1, x.block < W.heap.size := fun x hx => hlt x (by simp [hx])
  have hl2 : ∀ x ∈ p2, x.block < W.heap.size := fun x hx => hlt x (by simp [hx])
  refine ⟨_, rfl, _, _, _, [], p0 ++ p1 ++ p2, [], hW', ?_, ?_, rfl, hb.frame _, fun h => by cases h⟩
  · exact trodAll_mk1 (shut_bool Tryd.underlying4 true)
  · have h3 := trodAll_mk3 (Below.trod laidOut0 (by kernel_rfl) (of_decide_eq_true (by kernel_rfl)) h0 hb hl0) (Below.trod laidOut0 (by kernel_rfl) (of_decide_eq_true (by kernel_rfl)) h1 hb hl1) (Below.trod laidOut0 (by kernel_rfl) (of_decide_eq_true (by kernel_rfl)) h2 hb hl2)
    rw [← List.append_assoc] at h3
    exact h3

theorem texts_row : Rows.DecimalTextsSaid :=
  OpenClaim.holds_of_wide 7 Tryd.f7 rfl rfl rfl rfl rfl rfl rfl ⟨rfl, rfl, rfl, rfl, rfl⟩ rfl rfl rfl rfl rfl (by kernel_rfl) Tryd.func7 (by kernel_rfl)
    (of_decide_eq_true (by kernel_rfl)) (by unfold Func.isWrapper; first | (rw [if_pos (by decide +kernel)]; kernel_rfl) | (rw [if_neg (by decide +kernel)]; exact ⟨rfl, rfl⟩))
    (fun os started H enc _ => texts_lifted os started H enc)
end Go.Proofs.YtmlmjhlakpgagaaDoor
