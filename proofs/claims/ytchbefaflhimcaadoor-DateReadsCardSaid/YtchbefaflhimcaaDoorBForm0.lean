/- Contracts of the program and of the reference, part 0: Cal. -/
import Derived.Lib.ItoaNum
namespace Go.Proofs.YtchbefaflhimcaaDoor
namespace Mth
open Go.Lib

def isDg (c : UInt8) : Bool := decide (48 ≤ c.toNat) && decide (c.toNat ≤ 57)
/-- The digits of n, at least k. -/
def padD (n k : Nat) : List UInt8 :=
  if _h : n = 0 ∧ k = 0 then [] else padD (n / 10) (k - 1) ++ [UInt8.ofNat (48 + n % 10)]
termination_by n + k
decreasing_by omega
theorem padD_zero : padD 0 0 = [] := by rw [padD, dif_pos ⟨rfl, rfl⟩]
theorem padD_step {n k : Nat} (h : ¬ (n = 0 ∧ k = 0)) : padD n k = padD (n / 10) (k - 1) ++ [UInt8.ofNat (48 + n % 10)] := by rw [padD, dif_neg h]
theorem padD_ind {P : Nat → Nat → Prop} (h0 : P 0 0) (hs : ∀ n k, ¬ (n = 0 ∧ k = 0) → P (n / 10) (k - 1) → P n k) (n k : Nat) : P n k := by
  induction hx : n + k using Nat.strongRecOn generalizing n k with
  | _ x ih =>
    by_cases h : n = 0 ∧ k = 0
    · obtain ⟨rfl, rfl⟩ := h; exact h0
    · exact hs n k h (ih (n / 10 + (k - 1)) (by omega) _ _ rfl)
theorem dg_val (n : Nat) : (UInt8.ofNat (48 + n % 10)).toNat = 48 + n % 10 := by
  rw [UInt8.toNat_ofNat']; omega
theorem padD_len {n k w : Nat} (h : n < 10 ^ w) (hk : k ≤ w) : k ≤ (padD n k).length ∧ (padD n k).length ≤ w := by
  refine padD_ind (P := fun n k => ∀ w, n < 10 ^ w → k ≤ w → k ≤ (padD n k).length ∧ (padD n k).length ≤ w) ?_ ?_ n k w h hk
  · intro w _ _; rw [padD_zero]; simp
  · intro n k h0 ih w h hk
    rw [padD_step h0, List.length_append, List.length_singleton]
    cases w with
    | zero => simp at h; omega
    | succ w =>
      rw [Nat.pow_succ] at h
      have := ih w (by omega) (by omega)
      omega
theorem padD_pos {n k : Nat} (h : ¬ (n = 0 ∧ k = 0)) : 0 < (padD n k).length := by rw [padD_step h]; simp
theorem padD_dig (n k : Nat) : ∀ c ∈ padD n k, isDg c = true := by
  refine padD_ind (P := fun n k => ∀ c ∈ padD n k, isDg c = true) ?_ ?_ n k
  · rw [padD_zero]; simp
  · intro n k h0 ih c hc
    rw [padD_step h0, List.mem_append] at hc
    rcases hc with hc | hc
    · exact ih c hc
    · simp only [List.mem_singleton] at hc
      subst hc
      unfold isDg
      rw [dg_val]
      simp only [Bool.and_eq_true, decide_eq_true_eq]
      omega
/-- The number that digits behind the number a make. -/
def dval (a : Nat) (l : List UInt8) : Nat := l.foldl (fun a c => 10 * a + (c.toNat - 48)) a
theorem dval_nil (a : Nat) : dval a [] = a := rfl
theorem dval_cons (a : Nat) (c : UInt8) (l : List UInt8) : dval a (c :: l) = dval (10 * a + (c.toNat - 48)) l := by unfold dval; rw [List.foldl_cons]
theorem dval_snoc (a : Nat) (l : List UInt8) (c : UInt8) : dval a (l ++ [c]) = 10 * dval a l + (c.toNat - 48) := by simp [dval]
theorem dval_padD (n k : Nat) : dval 0 (padD n k) = n := by
  refine padD_ind (P := fun n k => dval 0 (padD n k) = n) ?_ ?_ n k
  · show dval 0 (padD 0 0) = 0
    rw [padD_zero, dval_nil]
  · intro n k h0 ih
    show dval 0 (padD n k) = n
    rw [padD_step h0, dval_snoc, dg_val, show dval 0 (padD (n / 10) (k - 1)) = n / 10 from ih]
    clear ih
    omega
theorem rev_ind {P : List UInt8 → Prop} (h0 : P []) (hs : ∀ l c, P l → P (l ++ [c])) (l : List UInt8) : P l := by
  rw [← List.reverse_reverse l]
  induction l.reverse with
  | nil => exact h0
  | cons c l ih => rw [List.reverse_cons]; exact hs _ _ ih
theorem dval_lt (l : List UInt8) : (∀ c ∈ l, isDg c = true) → dval 0 l < 10 ^ l.length := by
  refine rev_ind (P := fun l => (∀ c ∈ l, isDg c = true) → dval 0 l < 10 ^ l.length) (by intro _; decide) ?_ l
  intro l c ih h
  have h1 := ih (fun c hc => h c (by simp [hc]))
  have h2 := h c (by simp)
  unfold isDg at h2
  simp only [Bool.and_eq_true, decide_eq_true_eq] at h2
  rw [dval_snoc, List.length_append, List.length_singleton, Nat.pow_succ]
  generalize 10 ^ l.length = z at *
  omega
theorem padD_dval (l : List UInt8) : (∀ c ∈ l, isDg c = true) → padD (dval 0 l) l.length = l := by
  refine rev_ind (P := fun l => (∀ c ∈ l, isDg c = true) → padD (dval 0 l) l.length = l) (by intro; simp [dval, padD_zero]) ?_ l
  intro l c ih h
  have h1 := ih (fun c hc => h c (by simp [hc]))
  have h2 := h c (by simp)
  unfold isDg at h2
  simp only [Bool.and_eq_true, decide_eq_true_eq] at h2
  rw [padD_step (by simp), dval_snoc, List.length_append, List.length_singleton, Nat.add_sub_cancel, show (10 * dval 0 l + (c.toNat - 48)) / 10 = dval 0 l from by omega, h1]
  congr 2
  rw [show 48 + (10 * dval 0 l + (c.toNat - 48)) % 10 = c.toNat from by omega]
  simp
theorem padD_eq (n k : Nat) (hk : 1 ≤ k) : padD n k = List.replicate (k - nDigits n) 48 ++ decDigits n := by
  induction n using Nat.strongRecOn generalizing k with
  | _ n ih =>
    rw [padD_step (by omega)]
    by_cases h : n < 10
    · rw [nDigits_small h, decDigits_one h, Nat.mod_eq_of_lt h, Nat.div_eq_of_lt h]
      congr 1
      clear ih hk h
      induction k with
      | zero => simp [padD_zero]
      | succ k ih2 =>
        rcases k with _ | k
        · simp [padD_zero]
        · simp only [Nat.add_sub_cancel] at ih2 ⊢
          rw [padD_step (by omega)]
          simp only [Nat.zero_div, Nat.add_sub_cancel, Nat.zero_mod, Nat.add_zero]
          rw [ih2, List.replicate_succ']
          rfl
    · rw [nDigits_big h]
      have e : decDigits n = decDigits (n / 10) ++ [UInt8.ofNat (48 + n % 10)] := by rw [decDigits, dif_neg h]
      rw [e, ← List.append_assoc]
      congr 1
      rcases Nat.lt_or_ge 1 k with h1 | h1
      · rw [ih (n / 10) (by omega) (k - 1) (by omega)]
        congr 2
        have := nDigits_pos (n / 10)
        omega
      · obtain rfl : k = 1 := by omega
        have := nDigits_pos (n / 10)
        rw [show 1 - (nDigits (n / 10) + 1) = 0 from by omega]
        rw [Nat.sub_self, List.replicate_zero, List.nil_append]
        have h10 := ih (n / 10) (by omega) 1 (Nat.le_refl _)
        rw [show 1 - nDigits (n / 10) = 0 from by omega, List.replicate_zero, List.nil_append] at h10
        rw [← h10, padD_step (n := n / 10) (k := 0) (by omega), padD_step (n := n / 10) (k := 1) (by omega)]

/-- At most f digits of s are read. -/
def lead : Nat → Nat → List UInt8 → Nat × List UInt8
  | 0, a, s => (a, s)
  | _ + 1, a, [] => (a, [])
  | f + 1, a, c :: s => if isDg c then lead f (10 * a + (c.toNat - 48)) s else (a, c :: s)
def noDig (t : List UInt8) : Prop := t = [] ∨ ∃ c t', t = c :: t' ∧ isDg c = false
theorem lead_digits (p t : List UInt8) (f a : Nat) (hd : ∀ c ∈ p, isDg c = true) (hl : p.length ≤ f) (ht : p.length = f ∨ noDig t) : lead f a (p ++ t) = (dval a p, t) := by
  induction p generalizing f a with
  | nil =>
    rw [List.nil_append, dval_nil]
    cases f with
    | zero => rfl
    | succ f =>
      rcases ht with ht | ht | ⟨c, t', rfl, hc⟩
      · simp at ht
      · subst ht; rfl
      · simp [lead, hc]
  | cons c p ih =>
    cases f with
    | zero => simp at hl
    | succ f =>
      rw [List.cons_append, lead, if_pos (hd c (by simp)), dval_cons]
      exact ih f _ (fun c hc => hd c (by simp [hc])) (by simpa using hl) (by simpa using ht)
/-- What lead leaves is what it has not read. -/
theorem lead_parts (f a : Nat) (s : List UInt8) : ∃ p, s = p ++ (lead f a s).2 ∧ (∀ c ∈ p, isDg c = true) ∧ p.length ≤ f ∧ (lead f a s).1 = dval a p := by
  induction f generalizing a s with
  | zero => exact ⟨[], rfl, by simp, by simp, rfl⟩
  | succ f ih =>
    cases s with
    | nil => exact ⟨[], rfl, by simp, by simp, rfl⟩
    | cons c s =>
      unfold lead
      split
      · rename_i hc
        obtain ⟨p, h1, h2, h3, h4⟩ := ih (10 * a + (c.toNat - 48)) s
        exact ⟨c :: p, by rw [List.cons_append, ← h1], by simp [hc]; exact h2, by simpa using h3, by rw [h4, dval_cons]⟩
      · exact ⟨[], rfl, by simp, by simp, rfl⟩

inductive Tok
  | y4 | m2 | m1 | d2 | d1
  | ch (c : UInt8)
  deriving DecidableEq
def Tok.txt : Tok → List UInt8
  | .y4 => [89, 89, 89, 89]
  | .m2 => [77, 77]
  | .m1 => [77]
  | .d2 => [68, 68]
  | .d1 => [68]
  | .ch c => [c]
def tokOf (l : List UInt8) : Tok :=
  if l.take 4 = [89, 89, 89, 89] then .y4 else if l.take 2 = [77, 77] then .m2 else if l.take 1 = [77] then .m1 else if l.take 2 = [68, 68] then .d2 else if l.take 1 = [68] then .d1 else .ch (l.headD 0)
theorem Tok.txt_pos (t : Tok) : 0 < t.txt.length := by cases t <;> simp [Tok.txt]
theorem Tok.txt_le (t : Tok) : t.txt.length ≤ 4 := by cases t <;> simp [Tok.txt]
theorem tokOf_take {l : List UInt8} (h : l ≠ []) : l.take (tokOf l).txt.length = (tokOf l).txt := by
  unfold tokOf
  repeat' split
  all_goals (try assumption)
  cases l with
  | nil => exact absurd rfl h
  | cons c l => simp [Tok.txt]
theorem tokOf_len {l : List UInt8} (h : l ≠ []) : (tokOf l).txt.length ≤ l.length := by
  have := congrArg List.length (tokOf_take h)
  rw [List.length_take] at this
  omega
def toks (l : List UInt8) : List Tok :=
  if _h : l = [] then [] else tokOf l :: toks (l.drop (tokOf l).txt.length)
termination_by l.length
decreasing_by
  have := (tokOf l).txt_pos
  have := List.length_pos_iff.2 _h
  rw [List.length_drop]
  omega
theorem toks_nil : toks [] = [] := by rw [toks, dif_pos rfl]
theorem toks_cons {l : List UInt8} (h : l ≠ []) : toks l = tokOf l :: toks (l.drop (tokOf l).txt.length) := by rw [toks, dif_neg h]
theorem toks_length (l : List UInt8) : (toks l).length ≤ l.length := by
  induction hx : l.length using Nat.strongRecOn generalizing l with
  | _ x ih =>
    by_cases h : l = []
    · subst h; rw [toks_nil]; simp
    · rw [toks_cons h, List.length_cons]
      have h1 := (tokOf l).txt_pos
      have h2 := List.length_pos_iff.2 h
      have := ih (l.drop (tokOf l).txt.length).length (by rw [List.length_drop]; omega) _ rfl
      rw [List.length_drop] at this
      omega

/-- A byte that belongs to no field, in a right layout. -/
def okCh (c : UInt8) : Bool := decide (32 ≤ c.toNat) && decide (c.toNat ≤ 126) && !isDg c && decide (c.toNat ≠ 89)
/-- The bytes between are right, and no field is directly after M or D. -/
def good : Bool → List Tok → Bool
  | _, [] => true
  | _, .ch c :: r => okCh c && good false r
  | a, .y4 :: r => !a && good false r
  | a, .m2 :: r => !a && good false r
  | a, .m1 :: r => !a && good true r
  | a, .d2 :: r => !a && good false r
  | a, .d1 :: r => !a && good true r
def Tok.isY : Tok → Bool | .y4 => true | _ => false
def Tok.isM : Tok → Bool | .m2 => true | .m1 => true | _ => false
def Tok.isD : Tok → Bool | .d2 => true | .d1 => true | _ => false
def isRightL (l : List UInt8) : Bool := decide (l.length ≤ 40) && good false (toks l) && decide ((toks l).countP Tok.isY = 1) && decide ((toks l).countP Tok.isM = 1) && decide ((toks l).countP Tok.isD = 1)

/-- What stands for a part. -/
def wrt (c : Nat × Nat × Nat) : Tok → List UInt8
  | .y4 => padD c.1 4
  | .m2 => padD c.2.1 2
  | .m1 => padD c.2.1 1
  | .d2 => padD c.2.2 2
  | .d1 => padD c.2.2 1
  | .ch b => [b]
def fmt (c : Nat × Nat × Nat) (ts : List Tok) : List UInt8 := (ts.map (wrt c)).flatten
theorem fmt_nil (c : Nat × Nat × Nat) : fmt c [] = [] := rfl
theorem fmt_cons (c : Nat × Nat × Nat) (t : Tok) (ts : List Tok) : fmt c (t :: ts) = wrt c t ++ fmt c ts := by simp [fmt]
theorem fmt_snoc (c : Nat × Nat × Nat) (t : Tok) (ts : List Tok) : fmt c (ts ++ [t]) = fmt c ts ++ wrt c t := by simp [fmt]

/-- What the date reads. -/
def rd : List Tok → List UInt8 → Nat × Nat × Nat → Nat × Nat × Nat
  | [], _, v => v
  | .y4 :: ts, s, v => rd ts (lead 4 0 s).2 ((lead 4 0 s).1, v.2)
  | .m2 :: ts, s, v => rd ts (lead 2 0 s).2 (v.1, (lead 2 0 s).1, v.2.2)
  | .m1 :: ts, s, v => rd ts (lead 2 0 s).2 (v.1, (lead 2 0 s).1, v.2.2)
  | .d2 :: ts, s, v => rd ts (lead 2 0 s).2 (v.1, v.2.1, (lead 2 0 s).1)
  | .d1 :: ts, s, v => rd ts (lead 2 0 s).2 (v.1, v.2.1, (lead 2 0 s).1)
  | .ch _ :: ts, s, v => rd ts (s.drop 1) v
def small (c : Nat × Nat × Nat) : Prop := c.1 < 10 ^ 4 ∧ c.2.1 < 10 ^ 2 ∧ c.2.2 < 10 ^ 2
def upd (ts : List Tok) (c v : Nat × Nat × Nat) : Nat × Nat × Nat := (if ts.any Tok.isY then c.1 else v.1, if ts.any Tok.isM then c.2.1 else v.2.1, if ts.any Tok.isD then c.2.2 else v.2.2)

theorem noDig_of_good {c : Nat × Nat × Nat} {ts : List Tok} (h : good true ts = true) : noDig (fmt c ts) := by
  cases ts with
  | nil => exact .inl rfl
  | cons t ts =>
    cases t <;> simp [good] at h
    rename_i b
    refine .inr ⟨b, fmt c ts, by rw [fmt_cons]; rfl, ?_⟩
    have := h.1
    unfold okCh at this
    simp only [Bool.and_eq_true, Bool.not_eq_true'] at this
    exact this.1.2
theorem lead_field {n k f : Nat} {t : List UInt8} (hn : n < 10 ^ f) (hk : k ≤ f) (ht : k = f ∨ noDig t) : lead f 0 (padD n k ++ t) = (n, t) := by
  have hl := padD_len hn hk
  rw [lead_digits _ _ _ _ (padD_dig n k) hl.2 (by rcases ht with rfl | h; exact .inl (by omega); exact .inr h), dval_padD]
theorem good_any {a : Bool} {ts : List Tok} (h : good true ts = true) : good a ts = true := by
  cases ts with
  | nil => rfl
  | cons t ts => cases t <;> simp_all [good]
theorem rd_fmt (c v : Nat × Nat × Nat) (a : Bool) (ts : List Tok) (hc : small c) (h : good a ts = true) : rd ts (fmt c ts) v = upd ts c v := by
  obtain ⟨h1, h2, h3⟩ := hc
  induction ts generalizing a v with
  | nil => simp [rd, upd]
  | cons t ts ih =>
    rw [fmt_cons]
    cases t
    case y4 =>
      simp only [good, Bool.and_eq_true] at h
      simp only [rd, wrt]
      rw [lead_field h1 (by omega) (.inl rfl), ih _ false h.2]
      simp [upd, Tok.isY, Tok.isM, Tok.isD]
    case m2 =>
      simp only [good, Bool.and_eq_true] at h
      simp only [rd, wrt]
      rw [lead_field h2 (by omega) (.inl rfl), ih _ false h.2]
      simp [upd, Tok.isY, Tok.isM, Tok.isD]
    case m1 =>
      simp only [good, Bool.and_eq_true] at h
      simp only [rd, wrt]
      rw [lead_field h2 (by omega) (.inr (noDig_of_good h.2)), ih _ true h.2]
      simp [upd, Tok.isY, Tok.isM, Tok.isD]
    case d2 =>
      simp only [good, Bool.and_eq_true] at h
      simp only [rd, wrt]
      rw [lead_field h3 (by omega) (.inl rfl), ih _ false h.2]
      simp [upd, Tok.isY, Tok.isM, Tok.isD]
    case d1 =>
      simp only [good, Bool.and_eq_true] at h
      simp only [rd, wrt]
      rw [lead_field h3 (by omega) (.inr (noDig_of_good h.2)), ih _ true h.2]
      simp [upd, Tok.isY, Tok.isM, Tok.isD]
    case ch b =>
      simp only [good, Bool.and_eq_true] at h
      simp only [rd, wrt, List.singleton_append, List.drop_succ_cons, List.drop_zero]
      rw [ih _ false h.2]
      simp [upd, Tok.isY, Tok.isM, Tok.isD]

/-- What the reference reads; at: where it stands. -/
def rdR (L : List UInt8) : List Tok → Nat → Nat × Nat × Nat → Option (Nat × Nat × Nat)
  | [], _, v => some v
  | .y4 :: ts, at', v => if L.length < at' then none else rdR L ts (L.length - (lead 4 0 (L.drop at')).2.length) ((lead 4 0 (L.drop at')).1, v.2)
  | .m2 :: ts, at', v => if L.length < at' then none else rdR L ts (L.length - (lead 2 0 (L.drop at')).2.length) (v.1, (lead 2 0 (L.drop at')).1, v.2.2)
  | .m1 :: ts, at', v => if L.length < at' then none else rdR L ts (L.length - (lead 2 0 (L.drop at')).2.length) (v.1, (lead 2 0 (L.drop at')).1, v.2.2)
  | .d2 :: ts, at', v => if L.length < at' then none else rdR L ts (L.length - (lead 2 0 (L.drop at')).2.length) (v.1, v.2.1, (lead 2 0 (L.drop at')).1)
  | .d1 :: ts, at', v => if L.length < at' then none else rdR L ts (L.length - (lead 2 0 (L.drop at')).2.length) (v.1, v.2.1, (lead 2 0 (L.drop at')).1)
  | .ch _ :: ts, at', v => rdR L ts (at' + 1) v
theorem rdR_fmt (c v : Nat × Nat × Nat) (a : Bool) (ts : List Tok) (pre : List UInt8) (hc : small c) (h : good a ts = true) : rdR (pre ++ fmt c ts) ts pre.length v = some (upd ts c v) := by
  obtain ⟨h1, h2, h3⟩ := hc
  induction ts generalizing a v pre with
  | nil => simp [rdR, upd]
  | cons t ts ih =>
    rw [fmt_cons]
    have key : ∀ (v' : Nat × Nat × Nat) (b : Bool), good b ts = true → rdR (pre ++ (wrt c t ++ fmt c ts)) ts ((pre ++ (wrt c t ++ fmt c ts)).length - (fmt c ts).length) v' = some (upd ts c v') := by
      intro v' b hb
      have := ih v' b (pre ++ wrt c t) hb
      rw [← List.append_assoc]
      rw [show (pre ++ wrt c t ++ fmt c ts).length - (fmt c ts).length = (pre ++ wrt c t).length from by simp; omega]
      exact this
    have hnl : ∀ x : List UInt8, ¬ (pre ++ x).length < pre.length := fun x => by simp
    cases t
    case y4 =>
      simp only [good, Bool.and_eq_true] at h
      simp only [rdR, List.drop_left, wrt] at key ⊢
      rw [if_neg (hnl _)]
      rw [lead_field h1 (by omega) (.inl rfl), key _ false h.2]
      simp [upd, Tok.isY, Tok.isM, Tok.isD]
    case m2 =>
      simp only [good, Bool.and_eq_true] at h
      simp only [rdR, List.drop_left, wrt] at key ⊢
      rw [if_neg (hnl _)]
      rw [lead_field h2 (by omega) (.inl rfl), key _ false h.2]
      simp [upd, Tok.isY, Tok.isM, Tok.isD]
    case m1 =>
      simp only [good, Bool.and_eq_true] at h
      simp only [rdR, List.drop_left, wrt] at key ⊢
      rw [if_neg (hnl _)]
      rw [lead_field h2 (by omega) (.inr (noDig_of_good h.2)), key _ true h.2]
      simp [upd, Tok.isY, Tok.isM, Tok.isD]
    case d2 =>
      simp only [good, Bool.and_eq_true] at h
      simp only [rdR, List.drop_left, wrt] at key ⊢
      rw [if_neg (hnl _)]
      rw [lead_field h3 (by omega) (.inl rfl), key _ false h.2]
      simp [upd, Tok.isY, Tok.isM, Tok.isD]
    case d1 =>
      simp only [good, Bool.and_eq_true] at h
      simp only [rdR, List.drop_left, wrt] at key ⊢
      rw [if_neg (hnl _)]
      rw [lead_field h3 (by omega) (.inr (noDig_of_good h.2)), key _ true h.2]
      simp [upd, Tok.isY, Tok.isM, Tok.isD]
    case ch b =>
      simp only [good, Bool.and_eq_true] at h
      simp only [rdR, wrt, List.singleton_append] at key ⊢
      have := key v false h.2
      rw [show (pre ++ b :: fmt c ts).length - (fmt c ts).length = pre.length + 1 from by simp; omega] at this
      rw [this]
      simp [upd, Tok.isY, Tok.isM, Tok.isD]


def leap (y : Nat) : Bool := y % 4 == 0 && (y % 100 != 0 || y % 400 == 0)
def dim (y m : Nat) : Nat := if m = 2 then (if leap y then 29 else 28) else if m = 4 ∨ m = 6 ∨ m = 9 ∨ m = 11 then 30 else 31
/-- How many days are before the year t + 1. -/
def bef (t : Nat) : Nat := 365 * t + t / 4 - t / 100 + t / 400
/-- How many days the first m months of a year have. -/
def cum (y : Nat) : Nat → Nat
  | 0 => 0
  | m + 1 => cum y m + dim y (m + 1)
def valid (y m d : Nat) : Prop := 1 ≤ y ∧ y ≤ 9999 ∧ 1 ≤ m ∧ m ≤ 12 ∧ 1 ≤ d ∧ d ≤ dim y m
instance (y m d : Nat) : Decidable (valid y m d) := by unfold valid; infer_instance
def numOf (y m d : Nat) : Nat := bef (y - 1) + cum y (m - 1) + d - 1
def maxDay : Nat := 3652058

theorem bef_next (t : Nat) : bef (t + 1) = bef t + (if leap (t + 1) then 366 else 365) := by
  unfold bef leap
  by_cases h4 : (t + 1) % 4 = 0 <;> by_cases h100 : (t + 1) % 100 = 0 <;> by_cases h400 : (t + 1) % 400 = 0 <;> simp [h4, h100, h400] <;> omega
theorem bef_lt {a b : Nat} (h : a < b) : bef a + 365 ≤ bef b := by
  induction b with
  | zero => omega
  | succ b ih =>
    have hn := bef_next b
    have : bef b + 365 ≤ bef (b + 1) := by rw [hn]; split <;> omega
    rcases Nat.lt_or_ge a b with h1 | h1
    · have := ih h1; omega
    · obtain rfl : a = b := by omega
      omega
theorem bef_le {a b : Nat} (h : a ≤ b) : bef a ≤ bef b := by
  rcases Nat.lt_or_ge a b with h1 | h1
  · have := bef_lt h1; omega
  · obtain rfl : a = b := by omega
    omega
theorem bef_400 (t : Nat) : bef (t + 400) = bef t + 146097 := by unfold bef; omega
theorem leap_400 (y : Nat) : leap (y + 400) = leap y := by
  unfold leap
  rw [show (y + 400) % 4 = y % 4 from by omega, show (y + 400) % 100 = y % 100 from by omega, show (y + 400) % 400 = y % 400 from by omega]
theorem dim_400 (y m : Nat) : dim (y + 400) m = dim y m := by unfold dim; rw [leap_400]
theorem cum_400 (y m : Nat) : cum (y + 400) m = cum y m := by
  induction m with
  | zero => rfl
  | succ m ih => simp [cum, ih, dim_400]
theorem dim_pos (y m : Nat) : 28 ≤ dim y m := by unfold dim; split <;> (try split) <;> omega
theorem dim_le (y m : Nat) : dim y m ≤ 31 := by unfold dim; split <;> (try split) <;> omega
theorem cum_lt (y : Nat) {a b : Nat} (h : a < b) : cum y a + 28 ≤ cum y b := by
  induction b with
  | zero => omega
  | succ b ih =>
    have := dim_pos y (b + 1)
    simp only [cum]
    rcases Nat.lt_or_ge a b with h1 | h1
    · have := ih h1; omega
    · obtain rfl : a = b := by omega
      omega
theorem cum_le (y : Nat) {a b : Nat} (h : a ≤ b) : cum y a ≤ cum y b := by
  rcases Nat.lt_or_ge a b with h1 | h1
  · have := cum_lt y h1; omega
  · obtain rfl : a = b := by omega
    omega
theorem cum_12 (y : Nat) : cum y 12 = if leap y then 366 else 365 := by
  simp only [cum, dim]
  by_cases h : leap y = true <;> simp [h]

/-- The year that the mean gives. -/
def yr (n : Nat) : Nat := 400 * n / 146097 + (if bef (400 * n / 146097 + 1) ≤ n then 1 else 0)
theorem yr_spec (n : Nat) : bef (yr n) ≤ n ∧ n < bef (yr n + 1) := by
  unfold yr
  split
  · rename_i h
    unfold bef at *
    omega
  · rename_i h
    rw [Nat.add_zero]
    unfold bef at *
    omega
theorem yr_uniq {n t : Nat} (h1 : bef t ≤ n) (h2 : n < bef (t + 1)) : yr n = t := by
  have := yr_spec n
  rcases Nat.lt_trichotomy (yr n) t with h | h | h
  · have := bef_le (show yr n + 1 ≤ t from h); omega
  · exact h
  · have := bef_le (show t + 1 ≤ yr n from h); omega
theorem yr_le {n : Nat} (h : n ≤ maxDay) : yr n ≤ 9998 := by
  have := yr_spec n
  rcases Nat.lt_or_ge 9998 (yr n) with h1 | h1
  · have := bef_le (show 9999 ≤ yr n from h1)
    rw [show bef 9999 = 3652059 from by decide] at this
    unfold maxDay at h
    omega
  · exact h1

structure Civ (n y m d : Nat) : Prop where
  ok : valid y m d
  num : numOf y m d = n
theorem Civ.parts {n y m d : Nat} (h : Civ n y m d) : bef (y - 1) ≤ n ∧ n < bef y ∧ cum y (m - 1) ≤ n - bef (y - 1) ∧ n - bef (y - 1) < cum y m ∧ d = n - bef (y - 1) - cum y (m - 1) + 1 := by
  obtain ⟨⟨h1, h2, h3, h4, h5, h6⟩, hn⟩ := h
  obtain ⟨t, rfl⟩ : ∃ t, y = t + 1 := ⟨y - 1, by omega⟩
  obtain ⟨k, rfl⟩ : ∃ k, m = k + 1 := ⟨m - 1, by omega⟩
  have hb := bef_next t
  have hc := cum_le (t + 1) h4
  rw [cum_12, ← show bef (t + 1) - bef t = (if leap (t + 1) then 366 else 365) from by omega] at hc
  have hle := bef_le (show t ≤ t + 1 from by omega)
  unfold numOf at hn
  simp only [Nat.add_sub_cancel, cum] at hn hc ⊢
  omega
theorem Civ.uniq {n y m d y' m' d' : Nat} (h : Civ n y m d) (h' : Civ n y' m' d') : y = y' ∧ m = m' ∧ d = d' := by
  have a := h.parts
  have b := h'.parts
  have hy := h.ok.1
  have hy' := h'.ok.1
  have e : y = y' := by
    have e1 := yr_uniq (t := y - 1) a.1 (by rw [show y - 1 + 1 = y from by omega]; exact a.2.1)
    have e2 := yr_uniq (t := y' - 1) b.1 (by rw [show y' - 1 + 1 = y' from by omega]; exact b.2.1)
    omega
  subst e
  have hm := h.ok.2.2.1
  have hm' := h'.ok.2.2.1
  have e : m = m' := by
    rcases Nat.lt_trichotomy m m' with hh | hh | hh
    · have := cum_le y (show m ≤ m' - 1 from by omega); omega
    · exact hh
    · have := cum_le y (show m' ≤ m - 1 from by omega); omega
  subst e
  exact ⟨rfl, rfl, by omega⟩
theorem numOf_le {y m d : Nat} (h : valid y m d) : numOf y m d ≤ maxDay := by
  have := (Civ.mk h rfl : Civ _ y m d).parts
  have h1 := bef_le h.2.1
  rw [show bef 9999 = 3652059 from by decide] at h1
  unfold maxDay
  omega

/-- The month and the day of a day of a year. -/
def moda (y r : Nat) : Nat → Nat → Nat × Nat
  | 0, m => (m, r + 1)
  | f + 1, m => if r < dim y m then (m, r + 1) else moda y (r - dim y m) f (m + 1)
def civ (n : Nat) : Nat × Nat × Nat := (yr n + 1, moda (yr n + 1) (n - bef (yr n)) 12 1)
theorem moda_spec (y r f m : Nat) (hf : f + m = 13) (hm : 1 ≤ m) (h : cum y (m - 1) + r < cum y 12) : 1 ≤ (moda y r f m).1 ∧ (moda y r f m).1 ≤ 12 ∧ 1 ≤ (moda y r f m).2 ∧ (moda y r f m).2 ≤ dim y (moda y r f m).1 ∧ cum y ((moda y r f m).1 - 1) + (moda y r f m).2 = cum y (m - 1) + r + 1 := by
  induction f generalizing r m with
  | zero =>
    obtain rfl : m = 13 := by omega
    simp only [Nat.reduceSub] at h
    omega
  | succ f ih =>
    simp only [moda]
    split
    · rename_i hr
      refine ⟨hm, by simp only []; omega, by simp, by simp only []; omega, by simp only []; omega⟩
    · rename_i hr
      obtain ⟨k, rfl⟩ : ∃ k, m = k + 1 := ⟨m - 1, by omega⟩
      have hc : cum y (k + 1) = cum y k + dim y (k + 1) := rfl
      simp only [Nat.add_sub_cancel] at h ⊢
      have := ih (r - dim y (k + 1)) (k + 1 + 1) (by omega) (by omega) (by simp only [Nat.add_sub_cancel]; omega)
      simp only [Nat.add_sub_cancel] at this
      obtain ⟨h1, h2, h3, h4, h5⟩ := this
      exact ⟨h1, h2, h3, h4, by omega⟩
theorem civ_spec {n : Nat} (h : n ≤ maxDay) : Civ n (civ n).1 (civ n).2.1 (civ n).2.2 := by
  have hy := yr_spec n
  have hl := yr_le h
  have hb := bef_next (yr n)
  have := moda_spec (yr n + 1) (n - bef (yr n)) 12 1 (by omega) (by omega) (by rw [cum_12]; simp only [Nat.sub_self, cum]; omega)
  simp only [Nat.sub_self, cum] at this
  obtain ⟨h1, h2, h3, h4, h5⟩ := this
  refine ⟨⟨by simp [civ], by simp only [civ]; omega, h1, h2, h3, h4⟩, ?_⟩
  simp only [civ, numOf, Nat.add_sub_cancel]
  omega
theorem Civ.eq {n y m d : Nat} (h : Civ n y m d) (hn : n ≤ maxDay) : civ n = (y, m, d) := by
  have := (civ_spec hn).uniq h
  rw [← this.1, ← this.2.1, ← this.2.2]
theorem Civ.le {n y m d : Nat} (h : Civ n y m d) : n ≤ maxDay := h.num ▸ numOf_le h.ok
theorem Civ.of {y m d : Nat} (h : valid y m d) : Civ (numOf y m d) y m d := ⟨h, rfl⟩

/-- The day after a date. -/
theorem Civ.next {n y m d a b c : Nat} (h : Civ n y m d) (h' : Civ (n + 1) a b c) : (d < dim y m ∧ a = y ∧ b = m ∧ c = d + 1) ∨ (d = dim y m ∧ c = 1 ∧ (m < 12 ∧ a = y ∧ b = m + 1 ∨ m = 12 ∧ a = y + 1 ∧ b = 1)) := by
  have hn := h.num
  have hm := h'.le
  obtain ⟨h1, h2, h3, h4, h5, h6⟩ := h.ok
  rcases Nat.lt_or_ge d (dim y m) with hd | hd
  · left
    have hc : Civ (n + 1) y m (d + 1) := ⟨⟨h1, h2, h3, h4, by omega, hd⟩, by unfold numOf at *; omega⟩
    have := h'.uniq hc
    exact ⟨hd, this⟩
  · right
    have hd : d = dim y m := by omega
    refine ⟨hd, ?_⟩
    obtain ⟨k, rfl⟩ : ∃ k, m = k + 1 := ⟨m - 1, by omega⟩
    rcases Nat.lt_or_ge (k + 1) 12 with hk | hk
    · have hc : Civ (n + 1) y (k + 1 + 1) 1 := ⟨⟨h1, h2, by omega, hk, by omega, by have := dim_pos y (k + 1 + 1); omega⟩, by
        unfold numOf at *
        simp only [Nat.add_sub_cancel, cum] at *
        omega⟩
      have := h'.uniq hc
      exact ⟨this.2.2, .inl ⟨hk, this.1, this.2.1⟩⟩
    · obtain rfl : k = 11 := by omega
      have hb := bef_next (y - 1)
      rw [show y - 1 + 1 = y from by omega] at hb
      have h12 := cum_12 y
      have hnum : n + 1 = bef y := by
        unfold numOf at hn
        simp only [Nat.add_sub_cancel] at hn
        have : cum y 12 = cum y 11 + dim y 12 := rfl
        have := bef_le (show y - 1 ≤ y from by omega)
        simp only [Nat.reduceAdd] at hd
        omega
      have hy : y + 1 ≤ 9999 := by
        rcases Nat.lt_or_ge y 9999 with hy | hy
        · exact hy
        · obtain rfl : y = 9999 := by omega
          rw [show bef 9999 = 3652059 from by decide] at hnum
          unfold maxDay at hm
          omega
      have hc : Civ (n + 1) (y + 1) 1 1 := ⟨⟨by omega, hy, by omega, by omega, by omega, by have := dim_pos (y + 1) 1; omega⟩, by
        unfold numOf
        simp only [Nat.add_sub_cancel, Nat.sub_self, cum]
        omega⟩
      have := h'.uniq hc
      exact ⟨this.2.2, .inr ⟨rfl, this.1, this.2.1⟩⟩

/-- The reference's walk over the parts. -/
def refGood : Bool → List Tok → Bool
  | _, [] => true
  | _, .ch c :: r => decide (c.toNat ≠ 89) && refGood false r
  | a, .y4 :: r => !a && refGood false r
  | a, .m2 :: r => !a && refGood false r
  | a, .m1 :: r => !a && refGood true r
  | a, .d2 :: r => !a && refGood false r
  | a, .d1 :: r => !a && refGood true r
def okB (c : UInt8) : Bool := decide (32 ≤ c.toNat) && decide (c.toNat ≤ 126) && !isDg c
def Tok.okT : Tok → Bool | .ch c => okB c | _ => true
theorem good_ref (a : Bool) (ts : List Tok) : good a ts = (ts.all Tok.okT && refGood a ts) := by
  induction ts generalizing a with
  | nil => rfl
  | cons t ts ih =>
    cases t <;> simp only [good, refGood, List.all_cons, Tok.okT, Bool.true_and, ih]
    case ch c =>
      show (okCh c && _) = _
      unfold okCh okB
      ac_rfl
    all_goals ac_rfl
theorem all_okB (l : List UInt8) : l.all okB = (toks l).all Tok.okT := by
  induction hx : l.length using Nat.strongRecOn generalizing l with
  | _ x ih =>
    by_cases h : l = []
    · subst h; rw [toks_nil]; rfl
    · rw [toks_cons h, List.all_cons, ← ih (l.drop (tokOf l).txt.length).length (by
        have h1 := (tokOf l).txt_pos
        have h2 := List.length_pos_iff.2 h
        rw [List.length_drop]; omega) _ rfl]
      conv => lhs; rw [← List.take_append_drop (tokOf l).txt.length l, List.all_append, tokOf_take h]
      congr 1
      cases tokOf l <;> simp [Tok.txt, Tok.okT, okB, isDg]
theorem right_ref (l : List UInt8) : isRightL l = (decide (l.length ≤ 40) && l.all okB && refGood false (toks l) && decide ((toks l).countP Tok.isY = 1) && decide ((toks l).countP Tok.isM = 1) && decide ((toks l).countP Tok.isD = 1)) := by
  unfold isRightL
  rw [good_ref, all_okB, ← Bool.and_assoc (decide (l.length ≤ 40))]
def validC (c : Nat × Nat × Nat) : Prop := valid c.1 c.2.1 c.2.2
instance (c : Nat × Nat × Nat) : Decidable (validC c) := by unfold validC; infer_instance
theorem validC.small {c : Nat × Nat × Nat} (h : validC c) : small c := by
  obtain ⟨h1, h2, h3, h4, h5, h6⟩ := h
  have := dim_le c.1 c.2.1
  refine ⟨?_, ?_, ?_⟩ <;> simp <;> omega
def numC (c : Nat × Nat × Nat) : Nat := numOf c.1 c.2.1 c.2.2
theorem any_of_count {p : Tok → Bool} {ts : List Tok} (h : ts.countP p = 1) : ts.any p = true := by
  rw [List.any_eq_true]
  exact List.countP_pos_iff.1 (by omega)
structure Full (ts : List Tok) : Prop where
  ok : good false ts = true
  y : ts.countP Tok.isY = 1
  m : ts.countP Tok.isM = 1
  d : ts.countP Tok.isD = 1
theorem full_of {l : List UInt8} (h : isRightL l = true) : Full (toks l) := by
  unfold isRightL at h
  simp only [Bool.and_eq_true, decide_eq_true_eq] at h
  exact ⟨h.1.1.1.2, h.1.1.2, h.1.2, h.2⟩
theorem Full.upd {ts : List Tok} (h : Full ts) (c v : Nat × Nat × Nat) : Mth.upd ts c v = c := by
  unfold Mth.upd
  rw [any_of_count h.y, any_of_count h.m, any_of_count h.d]
  rfl
theorem Full.rd {ts : List Tok} (h : Full ts) (c v : Nat × Nat × Nat) (hc : validC c) : Mth.rd ts (fmt c ts) v = c := by
  rw [rd_fmt c v false ts hc.small h.ok, h.upd]
theorem Full.rdR {ts : List Tok} (h : Full ts) (c v : Nat × Nat × Nat) (hc : validC c) : Mth.rdR (fmt c ts) ts 0 v = some c := by
  have := rdR_fmt c v false ts [] hc.small h.ok
  rw [h.upd] at this
  simpa using this
theorem Full.inj {ts : List Tok} (h : Full ts) {c c' : Nat × Nat × Nat} (hc : validC c) (hc' : validC c') (he : fmt c ts = fmt c' ts) : c = c' := by
  rw [← h.rd c (0, 0, 0) hc, he, h.rd c' (0, 0, 0) hc']
def ans (v : Nat × Nat × Nat) (ts : List Tok) (s : List UInt8) : Nat × Bool := if validC v ∧ fmt v ts = s then (numC v, true) else (0, false)
def readD (ts : List Tok) (s : List UInt8) : Nat × Bool := ans (rd ts s (0, 0, 0)) ts s
def readR (ts : List Tok) (s : List UInt8) : Nat × Bool := match rdR s ts 0 (0, 0, 0) with | none => (0, false) | some v => ans v ts s
theorem read_same {ts : List Tok} (h : Full ts) (s : List UInt8) : readR ts s = readD ts s := by
  unfold readR readD
  by_cases hr : validC (rd ts s (0, 0, 0)) ∧ fmt (rd ts s (0, 0, 0)) ts = s
  · have := h.rdR _ (0, 0, 0) hr.1
    rw [hr.2] at this
    rw [this]
  · have e : ans (rd ts s (0, 0, 0)) ts s = (0, false) := by unfold ans; rw [if_neg hr]
    rw [e]
    cases hR : rdR s ts 0 (0, 0, 0) with
    | none => rfl
    | some v =>
      show ans v ts s = _
      unfold ans
      rw [if_neg]
      intro hv
      have := h.rd v (0, 0, 0) hv.1
      rw [hv.2] at this
      rw [this] at hr
      exact hr hv
theorem readD_fmt {ts : List Tok} (h : Full ts) {c : Nat × Nat × Nat} (hc : validC c) : readD ts (fmt c ts) = (numC c, true) := by
  unfold readD ans
  rw [h.rd c _ hc, if_pos ⟨hc, rfl⟩]

/-! The reference's Parse -/
def numR (s : List UInt8) : Nat × Bool := if s.all isDg then (dval 0 s, decide (0 < s.length) && decide (s.length < 5)) else (0, false)
def iso : List Tok := [.y4, .ch 45, .m2, .ch 45, .d2]
def parts10 (s : List UInt8) : Nat × Nat × Nat := ((numR (s.take 4)).1, (numR ((s.drop 5).take 2)).1, (numR (s.drop 8)).1)
def parseR (s : List UInt8) : Nat × Bool :=
  if s.length = 10 ∧ s[4]? = some 45 ∧ s[7]? = some 45 ∧ (numR (s.take 4)).2 = true ∧ (numR ((s.drop 5).take 2)).2 = true ∧ (numR (s.drop 8)).2 = true ∧ validC (parts10 s) then (numC (parts10 s), true) else (0, false)
theorem padD_full {n k : Nat} (h : n < 10 ^ k) : (padD n k).length = k := by
  have := padD_len h (Nat.le_refl k); omega
theorem numR_pad {n k : Nat} (h : n < 10 ^ k) (h0 : 0 < k) (h5 : k < 5) : numR (padD n k) = (n, true) := by
  unfold numR
  rw [if_pos (List.all_eq_true.2 (padD_dig n k)), dval_padD, padD_full h]
  simp [h0, h5]
theorem numR_back {s : List UInt8} (h : (numR s).2 = true) : padD (numR s).1 s.length = s := by
  unfold numR at *
  split at h
  · rename_i ha
    rw [if_pos ha]
    exact padD_dval s (List.all_eq_true.1 ha)
  · cases h
theorem full_iso : Full iso := ⟨by decide, by decide, by decide, by decide⟩
theorem parts_of {a b c : List UInt8} (h1 : a.length = 4) (h2 : b.length = 2) : (a ++ 45 :: (b ++ 45 :: c)).take 4 = a ∧ ((a ++ 45 :: (b ++ 45 :: c)).drop 5).take 2 = b ∧ (a ++ 45 :: (b ++ 45 :: c)).drop 8 = c ∧ (a ++ 45 :: (b ++ 45 :: c))[4]? = some 45 ∧ (a ++ 45 :: (b ++ 45 :: c))[7]? = some 45 := by
  obtain ⟨a0, a1, a2, a3, rfl⟩ : ∃ a0 a1 a2 a3, a = [a0, a1, a2, a3] := by
    match a, h1 with
    | [a0, a1, a2, a3], _ => exact ⟨a0, a1, a2, a3, rfl⟩
  obtain ⟨b0, b1, rfl⟩ : ∃ b0 b1, b = [b0, b1] := by
    match b, h2 with
    | [b0, b1], _ => exact ⟨b0, b1, rfl⟩
  exact ⟨rfl, rfl, rfl, rfl, rfl⟩
theorem fmt_iso (c : Nat × Nat × Nat) : fmt c iso = padD c.1 4 ++ 45 :: (padD c.2.1 2 ++ 45 :: padD c.2.2 2) := by simp [fmt, iso, wrt]
theorem parse_fmt {c : Nat × Nat × Nat} (hc : validC c) : parseR (fmt c iso) = (numC c, true) := by
  obtain ⟨h1, h2, h3⟩ := hc.small
  have l1 := padD_full h1
  have l2 := padD_full h2
  have l3 := padD_full h3
  obtain ⟨e1, e2, e3, e4, e5⟩ := parts_of (c := padD c.2.2 2) l1 l2
  rw [← fmt_iso] at e1 e2 e3 e4 e5
  unfold parseR parts10
  rw [e1, e2, e3, e4, e5, numR_pad h1 (by decide) (by decide), numR_pad h2 (by decide) (by decide), numR_pad h3 (by decide) (by decide), if_pos]
  refine ⟨?_, rfl, rfl, rfl, rfl, rfl, hc⟩
  rw [fmt_iso]
  simp [l1, l2, l3]
theorem parse_back {s : List UInt8} (h : s.length = 10 ∧ s[4]? = some 45 ∧ s[7]? = some 45 ∧ (numR (s.take 4)).2 = true ∧ (numR ((s.drop 5).take 2)).2 = true ∧ (numR (s.drop 8)).2 = true ∧ validC (parts10 s)) : fmt (parts10 s) iso = s := by
  obtain ⟨hl, h4, h7, hy, hm, hd, _⟩ := h
  have e1 := numR_back hy
  have e2 := numR_back hm
  have e3 := numR_back hd
  rw [List.length_take, Nat.min_eq_left (by omega)] at e1
  rw [List.length_take, List.length_drop, hl, show min 2 (10 - 5) = 2 from rfl] at e2
  rw [List.length_drop, hl] at e3
  rw [fmt_iso]
  unfold parts10
  simp only []
  rw [e1, e2, e3]
  match s, hl with
  | [a0, a1, a2, a3, a4, a5, a6, a7, a8, a9], _ =>
    simp at h4 h7
    subst h4 h7
    rfl
theorem parse_same (s : List UInt8) : parseR s = readD iso s := by
  by_cases h : s.length = 10 ∧ s[4]? = some 45 ∧ s[7]? = some 45 ∧ (numR (s.take 4)).2 = true ∧ (numR ((s.drop 5).take 2)).2 = true ∧ (numR (s.drop 8)).2 = true ∧ validC (parts10 s)
  · have hb := parse_back h
    have := readD_fmt full_iso h.2.2.2.2.2.2
    rw [hb] at this
    rw [this]
    unfold parseR
    rw [if_pos h]
  · have e : parseR s = (0, false) := by unfold parseR; rw [if_neg h]
    rw [e]
    unfold readD ans
    rw [if_neg]
    rintro ⟨hv, he⟩
    have := parse_fmt hv
    rw [he, e] at this
    exact absurd (congrArg Prod.snd this) (by simp)

/-! To reckon with -/
def padF : Nat → Nat → Nat → List UInt8
  | 0, _, _ => []
  | f + 1, n, k => if n = 0 ∧ k = 0 then [] else padF f (n / 10) (k - 1) ++ [UInt8.ofNat (48 + n % 10)]
theorem padF_eq (f n k : Nat) (h : n + k ≤ f) : padF f n k = padD n k := by
  induction f generalizing n k with
  | zero =>
    obtain ⟨rfl, rfl⟩ : n = 0 ∧ k = 0 := by omega
    rw [padD_zero]; rfl
  | succ f ih =>
    unfold padF
    split
    · rename_i h0
      obtain ⟨rfl, rfl⟩ := h0
      rw [padD_zero]
    · rename_i h0
      rw [padD_step h0, ih _ _ (by omega)]
def toksF : Nat → List UInt8 → List Tok
  | 0, _ => []
  | f + 1, l => if l = [] then [] else tokOf l :: toksF f (l.drop (tokOf l).txt.length)
theorem toksF_eq (f : Nat) (l : List UInt8) (h : l.length ≤ f) : toksF f l = toks l := by
  induction f generalizing l with
  | zero =>
    obtain rfl : l = [] := List.length_eq_zero_iff.1 (by omega)
    rw [toks_nil]; rfl
  | succ f ih =>
    unfold toksF
    split
    · rename_i h0
      subst h0
      rw [toks_nil]
    · rename_i h0
      have h1 := (tokOf l).txt_pos
      have h2 := List.length_pos_iff.2 h0
      rw [toks_cons h0, ih _ (by rw [List.length_drop]; omega)]
end Mth
end Go.Proofs.YtchbefaflhimcaaDoor
