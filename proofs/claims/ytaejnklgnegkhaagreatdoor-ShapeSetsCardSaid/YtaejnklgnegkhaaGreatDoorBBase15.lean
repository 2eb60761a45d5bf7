/- Contracts of the program and of the reference, part 15: Mc, Md, Na, RowM, RowO, RowC, Sma. -/
import Derived.Test.YtaejnklgnegkhaaGreatDoorBBase14
import Derived.Deep.CutBlock
namespace Go.Proofs.YtaejnklgnegkhaaGreatDoor
open Go.RowKit Pt

theorem u8_nat {n : Nat} (h : n < 256) : (UInt8.ofNat n).toNat = n := UInt8.toNat_ofNat_of_lt' (show n < UInt8.size from h)
/-- The digits of a number below 1000. -/
def dg (n : Nat) : List UInt8 := if n < 10 then [UInt8.ofNat (48 + n)] else if n < 100 then [UInt8.ofNat (48 + n / 10), UInt8.ofNat (48 + n % 10)] else [UInt8.ofNat (48 + n / 10 / 10), UInt8.ofNat (48 + n / 10 % 10), UInt8.ofNat (48 + n % 10)]
theorem dec_dg {n : Nat} (h : n < 1000) : Lib.decDigits n = dg n := by
  unfold dg
  by_cases h1 : n < 10
  · rw [if_pos h1, dec_one h1]
  · rw [if_neg h1, dec_big (by omega)]
    by_cases h2 : n < 100
    · rw [if_pos h2, dec_one (by omega)]; rfl
    · rw [if_neg h2, dec_big (by omega), dec_one (by omega)]; rfl
theorem digs_dig {d n : Nat} (h : d < 10) (l : List UInt8) : digs n (UInt8.ofNat (48 + d) :: l) = digs (min (10 * n + d) 201) l := by
  have hu := u8_nat (n := 48 + d) (by omega)
  rw [digs_yes (show clsD (nx (UInt8.ofNat (48 + d) :: l)) = 1 from one_cls (by show 48 ≤ (UInt8.ofNat (48 + d)).toNat ∧ _; rw [hu]; show 48 ≤ 48 + d ∧ (UInt8.ofNat (48 + d)).toNat ≤ 57; rw [hu]; omega))]
  show digs (min (10 * n + ((UInt8.ofNat (48 + d)).toNat - 48)) 201) l = _
  rw [hu, show 48 + d - 48 = d from by omega]
theorem num_dg {n : Nat} (h : n ≤ 200) {l : List UInt8} (hl : clsD (nx l) ≠ 1) : numL (dg n ++ l) = .ok n l := by
  have key : ∀ (d : Nat) (r : List UInt8), d < 10 → numL (UInt8.ofNat (48 + d) :: r) = if d = 0 then .ok 0 r else .ok (digs d r).1 (digs d r).2 := by
    intro d r hd
    have hu := u8_nat (n := 48 + d) (by omega)
    have hn : nx (UInt8.ofNat (48 + d) :: r) = 48 + d := hu
    unfold numL
    rw [hn, if_neg (by rw [one_cls (by omega)]; simp)]
    by_cases h0 : d = 0
    · rw [if_pos (by omega), if_pos h0]; rfl
    · rw [if_neg (by omega), if_neg h0, show 48 + d - 48 = d from by omega]; rfl
  unfold dg
  by_cases h1 : n < 10
  · rw [if_pos h1, List.singleton_append, key n _ h1]
    by_cases h0 : n = 0
    · rw [if_pos h0, h0]
    · rw [if_neg h0, digs_no hl]
  · rw [if_neg h1]
    by_cases h2 : n < 100
    · rw [if_pos h2]
      show numL (UInt8.ofNat (48 + n / 10) :: UInt8.ofNat (48 + n % 10) :: l) = _
      rw [key _ _ (by omega), if_neg (by omega), digs_dig (by omega), digs_no hl, show min (10 * (n / 10) + n % 10) 201 = n from by omega]
    · rw [if_neg h2]
      show numL (UInt8.ofNat (48 + n / 10 / 10) :: UInt8.ofNat (48 + n / 10 % 10) :: UInt8.ofNat (48 + n % 10) :: l) = _
      rw [key _ _ (by omega), if_neg (by omega), digs_dig (by omega), digs_dig (by omega), digs_no hl, show min (10 * min (10 * (n / 10 / 10) + n / 10 % 10) 201 + n % 10) 201 = n from by omega]
/-- A count is read again. -/
theorem cnum_cnt {a b : Nat} {l : List UInt8} (hab : a ≤ b) (hb : b ≤ 200) (hb1 : 1 ≤ b) (h1 : nx l ≠ 43) (h2 : nx l ≠ 42) (h3 : nx l ≠ 123) : cnumL (cntL a b ++ l) = .ok (a, b) l := by
  unfold cntL
  by_cases c1 : a = 1 ∧ b = 1
  · rw [if_pos c1, List.nil_append, c1.1, c1.2]
    unfold cnumL
    rw [if_neg h1, if_neg h2, if_pos h3]
  rw [if_neg c1]
  by_cases c2 : a = 1 ∧ b = 200
  · rw [if_pos c2, c2.1, c2.2]; rfl
  rw [if_neg c2]
  by_cases c3 : a = 0 ∧ b = 200
  · rw [if_pos c3, c3.1, c3.2]; rfl
  rw [if_neg c3]
  have hbr : ∀ r : List UInt8, cnumL (123 :: r) = match numL r with
      | .bad r k => .bad r k
      | .ok a l1 => match sndL a l1 with
        | .bad r k => .bad r k
        | .ok b l2 => if nx l2 ≠ 125 then .bad l2.length 12 else if b < a ∨ b = 0 ∨ 200 < b then .bad (r.length + 1) 3 else .ok (a, b) l2.tail := fun r => rfl
  by_cases c4 : a = b
  · rw [if_pos c4, dec_dg (by omega)]
    show cnumL (123 :: ((dg a ++ [125]) ++ l)) = _
    rw [hbr, List.append_assoc, num_dg (by omega) (l := [125] ++ l) (by show clsD 125 ≠ 1; decide)]
    show (if (125 : Nat) ≠ 125 then _ else if a < a ∨ a = 0 ∨ 200 < a then _ else PR.ok (a, a) l) = _
    rw [if_neg (by simp), if_neg (by omega), c4]
  · rw [if_neg c4, dec_dg (by omega), dec_dg (by omega)]
    show cnumL (123 :: ((dg a ++ 44 :: (dg b ++ [125])) ++ l)) = _
    rw [hbr, List.append_assoc, num_dg (by omega) (l := (44 :: (dg b ++ [125])) ++ l) (by show clsD 44 ≠ 1; decide)]
    have hs : sndL a ((44 :: (dg b ++ [125])) ++ l) = .ok b ([125] ++ l) := by
      show numL ((dg b ++ [125]) ++ l) = _
      rw [List.append_assoc, num_dg hb (l := [125] ++ l) (by show clsD 125 ≠ 1; decide)]
    show (match sndL a ((44 :: (dg b ++ [125])) ++ l) with | .bad r k => PR.bad r k | .ok b l2 => _) = _
    rw [hs]
    show (if (125 : Nat) ≠ 125 then _ else if b < a ∨ b = 0 ∨ 200 < b then _ else PR.ok (a, b) l) = _
    rw [if_neg (by simp), if_neg (by omega)]
end Go.Proofs.YtaejnklgnegkhaaGreatDoor
namespace Go.Proofs.YtaejnklgnegkhaaGreatDoor
open Go.RowKit Pt

theorem nx_cons (c : UInt8) (l : List UInt8) : nx (c :: l) = c.toNat := rfl
theorem u8_back (c : UInt8) : UInt8.ofNat c.toNat = c := UInt8.ofNat_toNat
theorem spec_cls {c : Nat} (h : specD c = true) : clsD c ≠ 0 ∧ letD c = 0 := by
  unfold specD at h
  have h5 : c = 92 ∨ c = 123 ∨ c = 125 ∨ c = 43 ∨ c = 42 := by
    simp only [Bool.or_eq_true, beq_iff_eq] at h
    omega
  rcases h5 with rfl | rfl | rfl | rfl | rfl <;> decide
theorem bel7 {c : Nat} (h : belD c 7 = true) : clsD c ≠ 0 := by
  unfold belD at h
  rw [Bool.and_eq_true, decide_eq_true_eq] at h
  exact h.1
/-- A character of a literal is read. -/
theorem chr_esc {c : UInt8} (h : belD c.toNat 7 = true) (l : List UInt8) : 0 < ((if specD c.toNat then [92, c] else [c]) ++ l).length ∧ corL ((if specD c.toNat then [92, c] else [c]) ++ l) = 0 ∧ chrL ((if specD c.toNat then [92, c] else [c]) ++ l) = .ok c.toNat l := by
  cases hs : specD c.toNat with
  | true =>
    have hc := spec_cls hs
    show 0 < (92 :: c :: l).length ∧ corL (92 :: c :: l) = 0 ∧ chrL (92 :: c :: l) = .ok c.toNat l
    refine ⟨by simp, ?_, ?_⟩
    · unfold corL
      split
      · exact hc.2
      · rfl
    · unfold chrL
      show (if clsD (nx (if decide (nx (92 :: c :: l) = 92) = true then (c :: l) else 92 :: c :: l)) = 0 ∨ specD (nx (if decide (nx (92 :: c :: l) = 92) = true then (c :: l) else 92 :: c :: l)) ≠ decide (nx (92 :: c :: l) = 92) then _ else _) = _
      have h92 : decide (nx (92 :: c :: l) = 92) = true := rfl
      rw [h92, if_pos rfl, if_neg (by rw [nx_cons]; rintro (h1 | h1); exact hc.1 h1; exact h1 hs)]
      simp only [if_true]
      rfl
  | false =>
    have hn : c.toNat ≠ 92 := fun e => by rw [e] at hs; exact absurd hs (by decide)
    show 0 < (c :: l).length ∧ corL (c :: l) = 0 ∧ chrL (c :: l) = .ok c.toNat l
    refine ⟨by simp, ?_, ?_⟩
    · unfold corL
      rw [if_neg (fun hh => hn hh.2)]
    · unfold chrL
      have h92 : decide (nx (c :: l) = 92) = false := decide_eq_false hn
      simp only [h92]
      rw [if_neg (by simp only [Bool.false_eq_true, if_false]; rw [nx_cons, hs]; rintro (h1 | h1); exact bel7 h h1; exact h1 rfl)]
      rfl
/-- A literal is read up to what does not belong to it. -/
theorem lit_esc : ∀ (t : List UInt8) (l : List UInt8), allD t 7 = true → lit l = .ok [] l → lit (escL t ++ l) = .ok t l
  | [], l, _, h => h
  | c :: t, l, ht, h => by
    have hc : belD c.toNat 7 = true ∧ allD t 7 = true := by
      unfold allD at ht ⊢
      rw [List.all_cons, Bool.and_eq_true] at ht
      exact ht
    have e : escL (c :: t) ++ l = (if specD c.toNat then [92, c] else [c]) ++ (escL t ++ l) := by
      show ((if specD c.toNat then [92, c] else [c]) ++ escL t) ++ l = _
      rw [List.append_assoc]
    obtain ⟨h0, h1, h2⟩ := chr_esc hc.1 (escL t ++ l)
    rw [e, lit_ok h0 h1 h2, lit_esc t l hc.2 h, u8_back]
    rfl
theorem let_letC {k : Nat} (h1 : 1 ≤ k) (h7 : k ≤ 7) : letD (letC k).toNat = k := by
  have h : ∀ d : Fin 7, letD (letC (d.1 + 1)).toNat = d.1 + 1 := by decide
  have := h ⟨k - 1, by omega⟩
  rwa [show k - 1 + 1 = k from by omega] at this
/-- What the written form of pieces begins with. -/
theorem wr_head {ps : List Pc} (hr : ∀ p ∈ ps, rightP p.k p.a p.b p.t = true) : nx (wrL ps) ≠ 43 ∧ nx (wrL ps) ≠ 42 ∧ nx (wrL ps) ≠ 123 := by
  cases ps with
  | nil => decide
  | cons p ps =>
    have hp := hr p (by simp)
    show nx (wrP p ++ wrL ps) ≠ 43 ∧ nx (wrP p ++ wrL ps) ≠ 42 ∧ nx (wrP p ++ wrL ps) ≠ 123
    unfold wrP
    by_cases hk : p.k = 0
    · rw [if_pos hk]
      unfold rightP at hp
      rw [if_pos hk] at hp
      simp only [Bool.and_eq_true, decide_eq_true_eq] at hp
      cases ht : p.t.data.toList with
      | nil => have := len_toList p.t; rw [ht] at this; simp at this; omega
      | cons c t =>
        have e : escL (c :: t) = (if specD c.toNat then [92, c] else [c]) ++ escL t := rfl
        rw [e]
        cases hs : specD c.toNat with
        | true => show nx (92 :: _) ≠ 43 ∧ _; refine ⟨?_, ?_, ?_⟩ <;> (show (92 : Nat) ≠ _; decide)
        | false =>
          show c.toNat ≠ 43 ∧ c.toNat ≠ 42 ∧ c.toNat ≠ 123
          refine ⟨?_, ?_, ?_⟩ <;> (intro e; rw [e] at hs; exact absurd hs (by decide))
    · rw [if_neg hk]
      refine ⟨?_, ?_, ?_⟩ <;> (show (92 : Nat) ≠ _; decide)
/-- A run is read. -/
theorem piece_run {p : Pc} {l : List UInt8} (hk : p.k ≠ 0) (hr : rightP p.k p.a p.b p.t = true) (h1 : nx l ≠ 43) (h2 : nx l ≠ 42) (h3 : nx l ≠ 123) : pieceL (wrP p ++ l) = .ok p l := by
  unfold rightP at hr
  rw [if_neg hk] at hr
  simp only [Bool.and_eq_true, decide_eq_true_eq] at hr
  obtain ⟨⟨k1, k7, a0, ab, b1, b2⟩, ht⟩ := hr
  have e : wrP p ++ l = 92 :: letC p.k.toNat :: (cntL p.a.toNat p.b.toNat ++ l) := by unfold wrP; rw [if_neg hk]; rfl
  have hc : corL (wrP p ++ l) = p.k.toNat := by
    rw [e]
    unfold corL
    rw [if_pos ⟨by simp, rfl⟩]
    exact let_letC (by omega) (by omega)
  unfold pieceL
  rw [hc, if_neg (by omega), e]
  show (match cnumL (cntL p.a.toNat p.b.toNat ++ l) with | .bad r k => PR.bad r k | .ok x l' => PR.ok (⟨(p.k.toNat : Int), (x.1 : Int), (x.2 : Int), ⟨#[]⟩⟩ : Pc) l') = _
  rw [cnum_cnt (by omega) (by omega) (by omega) h1 h2 h3]
  show PR.ok (⟨(p.k.toNat : Int), (p.a.toNat : Int), (p.b.toNat : Int), ⟨#[]⟩⟩ : Pc) l = _
  rw [Int.toNat_of_nonneg (by omega), Int.toNat_of_nonneg a0, Int.toNat_of_nonneg (by omega)]
  have : p.t = ⟨#[]⟩ := by
    obtain ⟨k, a, b, ⟨⟨t⟩⟩⟩ := p
    have h0 : t.length = 0 := ht
    rw [List.eq_nil_of_length_eq_zero h0]
  rw [← this]
theorem piece_lit {p : Pc} {l : List UInt8} (hk : p.k = 0) (hr : rightP p.k p.a p.b p.t = true) (hl : lit l = .ok [] l) : pieceL (wrP p ++ l) = .ok p l := by
  unfold rightP at hr
  rw [if_pos hk] at hr
  simp only [Bool.and_eq_true, decide_eq_true_eq] at hr
  obtain ⟨⟨⟨a0, b0⟩, t0⟩, ht⟩ := hr
  have e : wrP p ++ l = escL p.t.data.toList ++ l := by unfold wrP; rw [if_pos hk]
  have hcor : corL (escL p.t.data.toList ++ l) = 0 := by
    cases h : p.t.data.toList with
    | nil => have := len_toList p.t; rw [h] at this; simp at this; omega
    | cons c t =>
      rw [h] at ht
      have hc : belD c.toNat 7 = true := by unfold allD at ht; rw [List.all_cons, Bool.and_eq_true] at ht; exact ht.1
      have := (chr_esc hc (escL t ++ l)).2.1
      rw [← List.append_assoc] at this
      exact this
  rw [e]
  unfold pieceL
  rw [if_pos hcor, show litL (escL p.t.data.toList ++ l).length (escL p.t.data.toList ++ l) = lit (escL p.t.data.toList ++ l) from rfl, lit_esc _ _ ht hl]
  show PR.ok (⟨0, 0, 0, ⟨p.t.data.toList.toArray⟩⟩ : Pc) l = PR.ok p l
  rw [toArray_eq p.t rfl, ← hk]
  congr 1
  obtain ⟨k, a, b, t⟩ := p
  simp only at hk a0 b0 ⊢
  rw [hk, a0, b0]
/-- No two literals stand side by side. -/
def apartL : List Pc → Bool
  | [] => true
  | [_] => true
  | p :: q :: ps => !(decide (p.k = 0) && decide (q.k = 0)) && apartL (q :: ps)
theorem apart_of : ∀ (ps : List Pc), (∀ i, i < ps.length → twoLit ps i = false) → apartL ps = true
  | [], _ => rfl
  | [_], _ => rfl
  | p :: q :: ps, h => by
    have h1 := h 1 (by simp)
    rw [two_succ (by simp)] at h1
    have h2 := apart_of (q :: ps) fun i hi => by
      cases i with
      | zero => exact two_zero _
      | succ m =>
        have := h (m + 2) (by simpa using hi)
        rw [two_succ (by simpa using hi)] at this
        rw [two_succ (by simpa using hi)]
        simpa using this
    show (!(decide (p.k = 0) && decide (q.k = 0)) && apartL (q :: ps)) = true
    rw [h2]
    have h1' : (decide (q.k = 0) && decide (p.k = 0)) = false := h1
    rw [Bool.and_comm] at h1'
    rw [h1']; rfl
theorem lit_wr {q : Pc} {ps : List Pc} (hk : q.k ≠ 0) (hr : rightP q.k q.a q.b q.t = true) : lit (wrL (q :: ps)) = .ok [] (wrL (q :: ps)) := by
  refine lit_end fun hh => ?_
  have h2 := hh.2
  unfold rightP at hr
  rw [if_neg hk] at hr
  simp only [Bool.and_eq_true, decide_eq_true_eq] at hr
  have e : wrL (q :: ps) = 92 :: letC q.k.toNat :: (cntL q.a.toNat q.b.toNat ++ wrL ps) := by
    show wrP q ++ wrL ps = _
    unfold wrP; rw [if_neg hk]; rfl
  rw [e] at h2
  unfold corL at h2
  rw [if_pos ⟨by simp, rfl⟩] at h2
  have h3 : letD (letC q.k.toNat).toNat = 0 := h2
  rw [let_letC (by omega) (by omega)] at h3
  omega
theorem pcs_wr : ∀ (ps : List Pc), (∀ p ∈ ps, rightP p.k p.a p.b p.t = true) → apartL ps = true → pcsR (wrL ps) = .ok ps []
  | [], _, _ => rfl
  | p :: ps, hr, hap => by
    have hp := hr p (by simp)
    have hps := fun q hq => hr q (List.mem_cons_of_mem p hq)
    have hap2 : apartL ps = true := by
      cases ps with
      | nil => rfl
      | cons q ps => have h : (!(decide (p.k = 0) && decide (q.k = 0)) && apartL (q :: ps)) = true := hap; rw [Bool.and_eq_true] at h; exact h.2
    have ih := pcs_wr ps hps hap2
    have e : wrL (p :: ps) = wrP p ++ wrL ps := rfl
    have hpc : pieceL (wrP p ++ wrL ps) = .ok p (wrL ps) := by
      by_cases hk : p.k = 0
      · refine piece_lit hk hp ?_
        cases ps with
        | nil => rfl
        | cons q ps =>
          have h : (!(decide (p.k = 0) && decide (q.k = 0)) && apartL (q :: ps)) = true := hap
          rw [Bool.and_eq_true, decide_eq_true hk] at h
          exact lit_wr (by simpa using h.1) (hps q (by simp))
      · obtain ⟨h1, h2, h3⟩ := wr_head hps
        exact piece_run hk hp h1 h2 h3
    have h0 : 0 < (wrP p ++ wrL ps).length := by
      rw [List.length_append]
      have : 0 < (wrP p).length := by
        unfold wrP
        by_cases hk : p.k = 0
        · rw [if_pos hk]
          unfold rightP at hp
          rw [if_pos hk] at hp
          simp only [Bool.and_eq_true, decide_eq_true_eq] at hp
          have h1 := esc_ge p.t.data.toList
          have h2 := len_toList p.t
          omega
        · rw [if_neg hk]; simp
      omega
    rw [e, pcsR_ok h0 hpc, ih]
    rfl
/-- What is printed is parsed again. -/
theorem parse_print {ps : List Pc} (h : rightL ps = true) : parseL (wrL ps) = (ps, 0, 0) := by
  have hr := right_all h
  unfold rightL at h
  rw [Bool.and_eq_true, Bool.and_eq_true, List.all_eq_true, decide_eq_true_eq, decide_eq_true_eq] at h
  have hap := apart_of ps fun i hi => by
    have := h.1.1 i (List.mem_range.2 hi)
    rw [good_some hi, Bool.and_eq_true] at this
    simpa using this.2
  unfold parseL
  rw [if_neg (by omega), show piecesL (wrL ps).length (wrL ps) = pcsR (wrL ps) from rfl, pcs_wr ps hr hap]
end Go.Proofs.YtaejnklgnegkhaaGreatDoor
namespace Go.Proofs.YtaejnklgnegkhaaGreatDoor
open Go.RowKit Pt

theorem cut_le (s : ByteArray) (n : Nat) : (s.extract 0 (min s.size n)).size ≤ n := by
  rw [ByteArray.size_extract]; omega
/-- A slice of pieces that came in. -/
def RawA (w : World) (v : Value) : Prop := ∃ a n c, v = .slice a n c ∧ (n = 0 ∨ ∃ (g o : Nat) (F : Nat → Pc), a = some ⟨g, o, none⟩ ∧ g < w.heap.size ∧ n ≤ 9223372036854775807 ∧ ∀ i, i < n → w.cell? ⟨g, o + i * 4, none⟩ = some (.int .i64 (F i).k) ∧ w.cell? ⟨g, o + i * 4 + 1, none⟩ = some (.int .i64 (F i).a) ∧ w.cell? ⟨g, o + i * 4 + 2, none⟩ = some (.int .i64 (F i).b) ∧ w.cell? ⟨g, o + i * 4 + 3, none⟩ = some (.string (F i).t) ∧ (F i).t.size ≤ maxLen)
end Go.Proofs.YtaejnklgnegkhaaGreatDoor
namespace Go.Proofs.YtaejnklgnegkhaaGreatDoor
open Go.ChangeShapes Go.WideShapes Go.ChangeAt Go.RowKit Pt

theorem spot_none {w : World} {a : Addr} {v : Value} (h : w.cell? a = some v) : a.spot = none := by
  unfold World.cell? at h
  split at h
  · split at h
    · cases h
    · rename_i hs; simpa using hs
  · cases h
theorem add_add (b o i : Nat) : ((⟨b, o, none⟩ : Addr).add i) = ⟨b, o + i, none⟩ := by
  unfold Addr.add
  split
  · rename_i h; subst h; rfl
  · rfl
theorem cell_lt {w : World} {g o : Nat} {v : Value} (h : w.cell? ⟨g, o, none⟩ = some v) : g < w.heap.size := by
  unfold World.cell? at h
  split at h
  · rename_i hh
    exact (Array.getElem?_eq_some_iff.1 hh).1
  · cases h
set_option maxRecDepth 100000 in
theorem ints_arg {H : Type} {enc : TypeId × Value → H} {W : World} {base : Nat} {v : Value} {d : DataW H} {p : List MemPlace} (hok : Value.okWide Tryz.prog W .any base 22 v) (h : DataW.Trod enc Tryz.prog W 0 (fun _ => true) true 22 v d p) : IntsA W v := by
  have hce : Tryz.prog.cellsOf 3 = 1 := by kernel_rfl
  obtain ⟨a0, len, cap, rfl⟩ := okWide_slice Tryz.underlying22 hok
  obtain ⟨fuel, hf⟩ := h
  rcases DataW.trod_slice Tryz.underlying22 hf with ⟨hcs, _⟩ | ⟨a, len', cap', elems, rest, n, _, hcs, _, _, hl, hm, hlen, hel, _, _⟩
  · simp [Value.cells] at hcs
    obtain ⟨rfl, rfl, rfl⟩ := hcs
    exact ⟨none, 0, 0, rfl, .inl rfl⟩
  · simp [Value.cells] at hcs
    obtain ⟨rfl, rfl, rfl⟩ := hcs
    refine ⟨some a, len, cap, rfl, ?_⟩
    by_cases h0 : len = 0
    · exact .inl h0
    right
    have each : ∀ i, i < len → ∃ z0 : Int, W.cell? (a.add i) = some (.int .i64 z0) ∧ I64 z0 := by
      intro i hi
      have hb := hel i hi
      rw [hce, List.getElem?_eq_getElem (by omega), Option.bind_eq_some_iff] at hb
      obtain ⟨cs, hcs, hy⟩ := hb
      obtain ⟨_, hcl, hcell⟩ := World.cells?_some hcs
      match cs, hcl with
      | [x0], _ =>
        obtain ⟨z0, e0, _, w0⟩ := DataW.trod_int Tryz.underlying3 hy
        simp at e0
        subst e0
        have c0 := hcell 0 (by decide)
        refine ⟨z0, ?_, wf_i64 w0⟩
        have e : (a.add (i * 1)).add 0 = a.add i := by simp [Addr.add]
        rw [e] at c0
        exact c0
    have hsp : a.spot = none := by
      obtain ⟨z0, h1, _⟩ := each 0 (by omega)
      have : a.add 0 = a := by simp [Addr.add]
      rw [this] at h1
      exact spot_none h1
    obtain ⟨b, o, s⟩ := a
    dsimp only at hsp
    subst hsp
    have hx : ∀ i, ∃ f : Int, i < len → W.cell? ⟨b, o + i, none⟩ = some (.int .i64 f) ∧ I64 f := by
      intro i
      by_cases hi : i < len
      · obtain ⟨z0, h1, h2⟩ := each i hi
        rw [add_add] at h1
        exact ⟨z0, fun _ => ⟨h1, h2⟩⟩
      · exact ⟨0, fun h => absurd h hi⟩
    refine ⟨b, o, fun i => Classical.choose (hx i), rfl, ?_, by unfold maxLen at hm; omega, fun i hi => Classical.choose_spec (hx i) hi⟩
    obtain ⟨z0, h1, _⟩ := each 0 (by omega)
    rw [add_add] at h1
    exact cell_lt h1
set_option maxRecDepth 100000 in
theorem pcs_arg {H : Type} {enc : TypeId × Value → H} {W : World} {base : Nat} {v : Value} {d : DataW H} {p : List MemPlace} (hok : Value.okWide Tryz.prog W .any base 47 v) (h : DataW.Trod enc Tryz.prog W 0 (fun _ => true) true 47 v d p) : RawA W v := by
  have hce : Tryz.prog.cellsOf 52 = 4 := by kernel_rfl
  have hci : Tryz.prog.cellsOf 3 = 1 := by kernel_rfl
  have hcs1 : Tryz.prog.cellsOf 9 = 1 := by kernel_rfl
  obtain ⟨a0, len, cap, rfl⟩ := okWide_slice Tryz.underlying47 hok
  obtain ⟨fuel, hf⟩ := h
  rcases DataW.trod_slice Tryz.underlying47 hf with ⟨hcs, _⟩ | ⟨a, len', cap', elems, rest, n, _, hcs, _, _, hl, hm, hlen, hel, _, _⟩
  · simp [Value.cells] at hcs
    obtain ⟨rfl, rfl, rfl⟩ := hcs
    exact ⟨none, 0, 0, rfl, .inl rfl⟩
  · simp [Value.cells] at hcs
    obtain ⟨rfl, rfl, rfl⟩ := hcs
    refine ⟨some a, len, cap, rfl, ?_⟩
    by_cases h0 : len = 0
    · exact .inl h0
    right
    have each : ∀ i, i < len → ∃ q : Pc, W.cell? (a.add (i * 4)) = some (.int .i64 q.k) ∧ W.cell? ((a.add (i * 4)).add 1) = some (.int .i64 q.a) ∧ W.cell? ((a.add (i * 4)).add 2) = some (.int .i64 q.b) ∧ W.cell? ((a.add (i * 4)).add 3) = some (.string q.t) ∧ q.t.size ≤ maxLen := by
      intro i hi
      have hb := hel i hi
      rw [hce, List.getElem?_eq_getElem (by omega), Option.bind_eq_some_iff] at hb
      obtain ⟨cs, hcs, hy⟩ := hb
      obtain ⟨_, hcl, hcell⟩ := World.cells?_some hcs
      obtain ⟨xs, m, _, _, _, hxl, hf2⟩ := DataW.trod_struct Tryz.underlying52 hy
      match cs, hcl with
      | [x0, x1, x2, x3], _ =>
        have h0 : DataW.trod enc Tryz.prog W 0 (fun _ => true) true m 3 (List.take (Tryz.prog.cellsOf 3) (List.drop 0 [x0, x1, x2, x3])) = xs[0]? := hf2 0 _ rfl
        have h1 : DataW.trod enc Tryz.prog W 0 (fun _ => true) true m 3 (List.take (Tryz.prog.cellsOf 3) (List.drop 1 [x0, x1, x2, x3])) = xs[1]? := hf2 1 _ rfl
        have h2 : DataW.trod enc Tryz.prog W 0 (fun _ => true) true m 3 (List.take (Tryz.prog.cellsOf 3) (List.drop 2 [x0, x1, x2, x3])) = xs[2]? := hf2 2 _ rfl
        have h3 : DataW.trod enc Tryz.prog W 0 (fun _ => true) true m 9 (List.take (Tryz.prog.cellsOf 9) (List.drop 3 [x0, x1, x2, x3])) = xs[3]? := hf2 3 _ rfl
        rw [hci] at h0 h1 h2
        rw [hcs1] at h3
        match xs, hxl with
        | [y0, y1, y2, y3], _ =>
          obtain ⟨z0, e0, _, _⟩ := DataW.trod_int Tryz.underlying3 (x := y0) (by simpa using h0)
          obtain ⟨z1, e1, _, _⟩ := DataW.trod_int Tryz.underlying3 (x := y1) (by simpa using h1)
          obtain ⟨z2, e2, _, _⟩ := DataW.trod_int Tryz.underlying3 (x := y2) (by simpa using h2)
          obtain ⟨z3, e3, _, w3⟩ := DataW.trod_string Tryz.underlying9 (x := y3) (by simpa using h3)
          simp at e0 e1 e2 e3
          subst e0 e1 e2 e3
          have c0 := hcell 0 (by decide)
          have c1 := hcell 1 (by decide)
          have c2 := hcell 2 (by decide)
          have c3 := hcell 3 (by decide)
          refine ⟨⟨z0, z1, z2, z3⟩, ?_, c1, c2, c3, w3⟩
          have e : (a.add (i * 4)).add 0 = a.add (i * 4) := by simp [Addr.add]
          rw [e] at c0
          exact c0
    have hsp : a.spot = none := by
      obtain ⟨z0, h1, _⟩ := each 0 (by omega)
      have : a.add (0 * 4) = a := by simp [Addr.add]
      rw [this] at h1
      exact spot_none h1
    obtain ⟨b, o, s⟩ := a
    dsimp only at hsp
    subst hsp
    have hx : ∀ i, ∃ q : Pc, i < len → W.cell? ⟨b, o + i * 4, none⟩ = some (.int .i64 q.k) ∧ W.cell? ⟨b, o + i * 4 + 1, none⟩ = some (.int .i64 q.a) ∧ W.cell? ⟨b, o + i * 4 + 2, none⟩ = some (.int .i64 q.b) ∧ W.cell? ⟨b, o + i * 4 + 3, none⟩ = some (.string q.t) ∧ q.t.size ≤ maxLen := by
      intro i
      by_cases hi : i < len
      · obtain ⟨q, h1, h2, h3, h4, h5⟩ := each i hi
        rw [add_add] at h1 h2 h3 h4
        rw [add_add] at h2 h3 h4
        exact ⟨q, fun _ => ⟨h1, h2, h3, h4, h5⟩⟩
      · exact ⟨⟨0, 0, 0, ⟨#[]⟩⟩, fun h => absurd h hi⟩
    refine ⟨b, o, fun i => Classical.choose (hx i), rfl, ?_, by unfold maxLen at hm; omega, fun i hi => Classical.choose_spec (hx i) hi⟩
    obtain ⟨q, h1, _⟩ := each 0 (by omega)
    rw [add_add] at h1
    exact cell_lt h1
end Go.Proofs.YtaejnklgnegkhaaGreatDoor
namespace Go.Proofs.YtaejnklgnegkhaaGreatDoor
open Go.ChangeShapes Go.WideShapes Go.ChangeAt Go.RowKit Pt

set_option maxRecDepth 100000 in
theorem ints_trod {H : Type} {enc : TypeId × Value → H} {W : World} {fuel : Nat} {cs : List Value} {x : DataW H × List MemPlace} (hf : DataW.trod enc Tryz.prog W 0 (fun _ => true) true fuel 22 cs = some x) : ∃ v, cs = [v] ∧ IntsA W v := by
  have hce : Tryz.prog.cellsOf 3 = 1 := by kernel_rfl
  rcases DataW.trod_slice Tryz.underlying22 hf with ⟨hcs, _⟩ | ⟨a, len, cap, elems, rest, n, _, hcs, _, _, hl, hm, hlen, hel, _, _⟩
  · exact ⟨_, hcs, none, 0, 0, rfl, .inl rfl⟩
  · refine ⟨_, hcs, some a, len, cap, rfl, ?_⟩
    by_cases h0 : len = 0
    · exact .inl h0
    right
    have each : ∀ i, i < len → ∃ z0 : Int, W.cell? (a.add i) = some (.int .i64 z0) ∧ I64 z0 := by
      intro i hi
      have hb := hel i hi
      rw [hce, List.getElem?_eq_getElem (by omega), Option.bind_eq_some_iff] at hb
      obtain ⟨cs, hcs, hy⟩ := hb
      obtain ⟨_, hcl, hcell⟩ := World.cells?_some hcs
      match cs, hcl with
      | [x0], _ =>
        obtain ⟨z0, e0, _, w0⟩ := DataW.trod_int Tryz.underlying3 hy
        simp at e0
        subst e0
        have c0 := hcell 0 (by decide)
        refine ⟨z0, ?_, wf_i64 w0⟩
        have e : (a.add (i * 1)).add 0 = a.add i := by simp [Addr.add]
        rw [e] at c0
        exact c0
    have hsp : a.spot = none := by
      obtain ⟨z0, h1, _⟩ := each 0 (by omega)
      have : a.add 0 = a := by simp [Addr.add]
      rw [this] at h1
      exact spot_none h1
    obtain ⟨b, o, s⟩ := a
    dsimp only at hsp
    subst hsp
    have hx : ∀ i, ∃ f : Int, i < len → W.cell? ⟨b, o + i, none⟩ = some (.int .i64 f) ∧ I64 f := by
      intro i
      by_cases hi : i < len
      · obtain ⟨z0, h1, h2⟩ := each i hi
        rw [add_add] at h1
        exact ⟨z0, fun _ => ⟨h1, h2⟩⟩
      · exact ⟨0, fun h => absurd h hi⟩
    refine ⟨b, o, fun i => Classical.choose (hx i), rfl, ?_, by unfold maxLen at hm; omega, fun i hi => Classical.choose_spec (hx i) hi⟩
    obtain ⟨z0, h1, _⟩ := each 0 (by omega)
    rw [add_add] at h1
    exact cell_lt h1
/-- A slice of bytes that came in. -/
def BytesA (w : World) (v : Value) : Prop := ∃ a n c, v = .slice a n c ∧ (n = 0 ∨ ∃ (g o : Nat) (F : Nat → Nat), a = some ⟨g, o, none⟩ ∧ g < w.heap.size ∧ n ≤ 9223372036854775807 ∧ ∀ i, i < n → w.cell? ⟨g, o + i, none⟩ = some (.int .u8 (F i : Nat)) ∧ F i ≤ 255)
set_option maxRecDepth 100000 in
theorem u8s_trod {H : Type} {enc : TypeId × Value → H} {W : World} {fuel : Nat} {cs : List Value} {x : DataW H × List MemPlace} (hf : DataW.trod enc Tryz.prog W 0 (fun _ => true) true fuel 70 cs = some x) : ∃ v, cs = [v] ∧ BytesA W v := by
  have hce : Tryz.prog.cellsOf 5 = 1 := by kernel_rfl
  rcases DataW.trod_slice Tryz.underlying70 hf with ⟨hcs, _⟩ | ⟨a, len, cap, elems, rest, n, _, hcs, _, _, hl, hm, hlen, hel, _, _⟩
  · exact ⟨_, hcs, none, 0, 0, rfl, .inl rfl⟩
  · refine ⟨_, hcs, some a, len, cap, rfl, ?_⟩
    by_cases h0 : len = 0
    · exact .inl h0
    right
    have each : ∀ i, i < len → ∃ z0 : Nat, W.cell? (a.add i) = some (.int .u8 (z0 : Int)) ∧ z0 ≤ 255 := by
      intro i hi
      have hb := hel i hi
      rw [hce, List.getElem?_eq_getElem (by omega), Option.bind_eq_some_iff] at hb
      obtain ⟨cs, hcs, hy⟩ := hb
      obtain ⟨_, hcl, hcell⟩ := World.cells?_some hcs
      match cs, hcl with
      | [x0], _ =>
        obtain ⟨z0, e0, _, w0⟩ := DataW.trod_int Tryz.underlying5 hy
        simp at e0
        subst e0
        have c0 := hcell 0 (by decide)
        obtain ⟨m0, rfl, hm0⟩ := wf_u8 w0
        refine ⟨m0, ?_, hm0⟩
        have e : (a.add (i * 1)).add 0 = a.add i := by simp [Addr.add]
        rw [e] at c0
        exact c0
    have hsp : a.spot = none := by
      obtain ⟨z0, h1, _⟩ := each 0 (by omega)
      have : a.add 0 = a := by simp [Addr.add]
      rw [this] at h1
      exact spot_none h1
    obtain ⟨b, o, s⟩ := a
    dsimp only at hsp
    subst hsp
    have hx : ∀ i, ∃ f : Nat, i < len → W.cell? ⟨b, o + i, none⟩ = some (.int .u8 (f : Int)) ∧ f ≤ 255 := by
      intro i
      by_cases hi : i < len
      · obtain ⟨z0, h1, h2⟩ := each i hi
        rw [add_add] at h1
        exact ⟨z0, fun _ => ⟨h1, h2⟩⟩
      · exact ⟨0, fun h => absurd h hi⟩
    refine ⟨b, o, fun i => Classical.choose (hx i), rfl, ?_, by unfold maxLen at hm; omega, fun i hi => Classical.choose_spec (hx i) hi⟩
    obtain ⟨z0, h1, _⟩ := each 0 (by omega)
    rw [add_add] at h1
    exact cell_lt h1
set_option maxRecDepth 100000 in
theorem u8s_arg {H : Type} {enc : TypeId × Value → H} {W : World} {base : Nat} {v : Value} {d : DataW H} {p : List MemPlace} (hok : Value.okWide Tryz.prog W .any base 70 v) (h : DataW.Trod enc Tryz.prog W 0 (fun _ => true) true 70 v d p) : BytesA W v := by
  obtain ⟨a0, len, cap, rfl⟩ := okWide_slice Tryz.underlying70 hok
  obtain ⟨fuel, hf⟩ := h
  obtain ⟨v, e, hv⟩ := u8s_trod hf
  simp [Value.cells] at e
  rw [e]
  exact hv
end Go.Proofs.YtaejnklgnegkhaaGreatDoor
namespace Go.Proofs.YtaejnklgnegkhaaGreatDoor
open Go.ChangeShapes Go.WideShapes Go.ChangeAt Go.RowKit Pt Sh

/-- A case as a value. -/
abbrev vCase (va vb : Value) (a : S5) (s : ByteArray) : Value := .agg #[va, vb, .int .i64 a.l, .int .i64 a.m, .int .i64 a.c, .string a.b, .string a.e, .string s]
/-- A case that came in. -/
def CaseA (w : World) (va vb : Value) (a : S5) (s : ByteArray) : Prop := IntsA w va ∧ IntsA w vb ∧ I64 a.l ∧ I64 a.m ∧ I64 a.c ∧ a.b.size ≤ maxLen ∧ a.e.size ≤ maxLen ∧ s.size ≤ maxLen
set_option maxRecDepth 100000 in
theorem case_arg {H : Type} {enc : TypeId × Value → H} {W : World} {base : Nat} {v : Value} {d : DataW H} {p : List MemPlace} (hok : Value.okWide Tryz.prog W .any base 26 v) (h : DataW.Trod enc Tryz.prog W 0 (fun _ => true) true 26 v d p) : ∃ va vb a s, v = vCase va vb a s ∧ CaseA W va vb a s := by
  have hc : Tryz.prog.cellsOf 26 = 8 := by kernel_rfl
  have hc0 : Tryz.prog.cellsOf 22 = 1 := by kernel_rfl
  have hc1 : Tryz.prog.cellsOf 24 = 5 := by kernel_rfl
  have hc2 : Tryz.prog.cellsOf 9 = 1 := by kernel_rfl
  have hc3 : Tryz.prog.cellsOf 3 = 1 := by kernel_rfl
  simp only [Value.okWide, Tryz.underlying26] at hok
  obtain ⟨cs, rfl, hsz, _⟩ := hok
  obtain ⟨fuel, hf⟩ := h
  rw [hc] at hsz
  obtain ⟨x0, x1, x2, x3, x4, x5, x6, x7, rfl⟩ : ∃ x0 x1 x2 x3 x4 x5 x6 x7, cs = #[x0, x1, x2, x3, x4, x5, x6, x7] := by
    rcases cs with ⟨l⟩
    match l, hsz with
    | [x0, x1, x2, x3, x4, x5, x6, x7], _ => exact ⟨x0, x1, x2, x3, x4, x5, x6, x7, rfl⟩
  obtain ⟨xs, m, _, _, _, hlen, hf2⟩ := DataW.trod_struct Tryz.underlying26 hf
  have h0 : DataW.trod enc Tryz.prog W 0 (fun _ => true) true m 22 (List.take (Tryz.prog.cellsOf 22) (List.drop 0 (Value.agg #[x0, x1, x2, x3, x4, x5, x6, x7]).cells.toList)) = xs[0]? := hf2 0 _ rfl
  have h1 : DataW.trod enc Tryz.prog W 0 (fun _ => true) true m 22 (List.take (Tryz.prog.cellsOf 22) (List.drop 1 (Value.agg #[x0, x1, x2, x3, x4, x5, x6, x7]).cells.toList)) = xs[1]? := hf2 1 _ rfl
  have h2 : DataW.trod enc Tryz.prog W 0 (fun _ => true) true m 24 (List.take (Tryz.prog.cellsOf 24) (List.drop 2 (Value.agg #[x0, x1, x2, x3, x4, x5, x6, x7]).cells.toList)) = xs[2]? := hf2 2 _ rfl
  have h3 : DataW.trod enc Tryz.prog W 0 (fun _ => true) true m 9 (List.take (Tryz.prog.cellsOf 9) (List.drop 7 (Value.agg #[x0, x1, x2, x3, x4, x5, x6, x7]).cells.toList)) = xs[3]? := hf2 3 _ rfl
  have hcl : (Value.agg #[x0, x1, x2, x3, x4, x5, x6, x7]).cells.toList = [x0, x1, x2, x3, x4, x5, x6, x7] := by simp [Value.cells]
  rw [hcl] at h0 h1 h2 h3
  rw [hc0] at h0 h1
  rw [hc1] at h2
  rw [hc2] at h3
  match xs, hlen with
  | [y0, y1, y2, y3], _ =>
    obtain ⟨va, e0, i0⟩ := ints_trod (x := y0) (by simpa using h0)
    obtain ⟨vb, e1, i1⟩ := ints_trod (x := y1) (by simpa using h1)
    obtain ⟨t, e3, _, w3⟩ := DataW.trod_string Tryz.underlying9 (x := y3) (by simpa using h3)
    have h2' : DataW.trod enc Tryz.prog W 0 (fun _ => true) true m 24 [x2, x3, x4, x5, x6] = some y2 := by simpa using h2
    obtain ⟨zs, k, _, _, _, hzl, hf3⟩ := DataW.trod_struct Tryz.underlying24 h2'
    have g0 : DataW.trod enc Tryz.prog W 0 (fun _ => true) true k 3 (List.take (Tryz.prog.cellsOf 3) (List.drop 0 [x2, x3, x4, x5, x6])) = zs[0]? := hf3 0 _ rfl
    have g1 : DataW.trod enc Tryz.prog W 0 (fun _ => true) true k 3 (List.take (Tryz.prog.cellsOf 3) (List.drop 1 [x2, x3, x4, x5, x6])) = zs[1]? := hf3 1 _ rfl
    have g2 : DataW.trod enc Tryz.prog W 0 (fun _ => true) true k 3 (List.take (Tryz.prog.cellsOf 3) (List.drop 2 [x2, x3, x4, x5, x6])) = zs[2]? := hf3 2 _ rfl
    have g3 : DataW.trod enc Tryz.prog W 0 (fun _ => true) true k 9 (List.take (Tryz.prog.cellsOf 9) (List.drop 3 [x2, x3, x4, x5, x6])) = zs[3]? := hf3 3 _ rfl
    have g4 : DataW.trod enc Tryz.prog W 0 (fun _ => true) true k 9 (List.take (Tryz.prog.cellsOf 9) (List.drop 4 [x2, x3, x4, x5, x6])) = zs[4]? := hf3 4 _ rfl
    rw [hc3] at g0 g1 g2
    rw [hc2] at g3 g4
    match zs, hzl with
    | [z0, z1, z2, z3, z4], _ =>
      obtain ⟨n0, b0, _, u0⟩ := DataW.trod_int Tryz.underlying3 (x := z0) (by simpa using g0)
      obtain ⟨n1, b1, _, u1⟩ := DataW.trod_int Tryz.underlying3 (x := z1) (by simpa using g1)
      obtain ⟨n2, b2, _, u2⟩ := DataW.trod_int Tryz.underlying3 (x := z2) (by simpa using g2)
      obtain ⟨s3, b3, _, u3⟩ := DataW.trod_string Tryz.underlying9 (x := z3) (by simpa using g3)
      obtain ⟨s4, b4, _, u4⟩ := DataW.trod_string Tryz.underlying9 (x := z4) (by simpa using g4)
      simp at e0 e1 e3 b0 b1 b2 b3 b4
      exact ⟨va, vb, ⟨n0, n1, n2, s3, s4⟩, t, by rw [e0, e1, e3, b0, b1, b2, b3, b4], i0, i1, wf_i64 u0, wf_i64 u1, wf_i64 u2, u3, u4, w3⟩
end Go.Proofs.YtaejnklgnegkhaaGreatDoor
namespace Go.Proofs.YtaejnklgnegkhaaGreatDoor
open Go.RowKit Pt Sh

/-- A call that gives some short string. -/
def SomeStr (N : Nat) (w : World) (e : Ending) (w' : World) : Prop := ∃ s : ByteArray, s.size ≤ N ∧ e = .returned (.string s) ∧ w.grownBy w' none
/-- A shape whose numbers are ints, with short strings. -/
structure GoodS (a : S5) : Prop where
  l : I64 a.l
  m : I64 a.m
  c : I64 a.c
  b : a.b.size ≤ 20
  e : a.e.size ≤ 20
def SomeS (w : World) (e : Ending) (w' : World) : Prop := ∃ a : S5, GoodS a ∧ e = .returned (vS a) ∧ w.grownBy w' none
def wdL : List Value := [.string ⟨#[]⟩, .string ⟨#[97]⟩, .string ⟨#[97, 98]⟩, .string ⟨#[97, 98, 97]⟩, .string ⟨#[98, 97]⟩, .string ⟨#[66, 49]⟩, .string ⟨#[45]⟩, .string ⟨#[49]⟩, .string ⟨#[32, 120]⟩, .string ⟨#[65, 98, 45, 49]⟩, .string ⟨#[98, 97, 98]⟩]
theorem wd_get {k : Nat} (h : k < 11) : ∃ s : ByteArray, s.size ≤ 4 ∧ wdL[k]? = some (.string s) := by
  rcases (show k = 0 ∨ k = 1 ∨ k = 2 ∨ k = 3 ∨ k = 4 ∨ k = 5 ∨ k = 6 ∨ k = 7 ∨ k = 8 ∨ k = 9 ∨ k = 10 by omega) with rfl | rfl | rfl | rfl | rfl | rfl | rfl | rfl | rfl | rfl | rfl <;> exact ⟨_, by decide, rfl⟩
set_option maxRecDepth 100000 in
set_option maxHeartbeats 2000000 in
theorem word_any (n : Int) (w : World) (hn : I64 n) : Calls Tryz.prog 73 #[.int .i64 n] w (SomeStr 4 w) := by
  have HM := Lib.hid (fun w => rmod_any n 11 w (by decide) (by decide) hn.1 hn.2)
  have hm := mod_le (z := n) (show (0 : Int) < 11 by decide)
  obtain ⟨k, hk⟩ : ∃ k : Nat, n % 11 = (k : Int) := ⟨(n % 11).toNat, by omega⟩
  rw [hk] at HM hm
  have hk1 : (k : Int) < 11 := hm.2
  have hk2 : k < 11 := by omega
  obtain ⟨s, hs, hg⟩ := wd_get hk2
  obtain ⟨wl, hwl⟩ : ∃ wl, w.alloc (.cells #[.string ⟨#[]⟩, .string ⟨#[97]⟩, .string ⟨#[97, 98]⟩, .string ⟨#[97, 98, 97]⟩, .string ⟨#[98, 97]⟩, .string ⟨#[66, 49]⟩, .string ⟨#[45]⟩, .string ⟨#[49]⟩, .string ⟨#[32, 120]⟩, .string ⟨#[65, 98, 45, 49]⟩, .string ⟨#[98, 97, 98]⟩] 9) = wl := ⟨_, rfl⟩
  have RL := Row.new w wdL 9
  have hwl2 : w.alloc (.cells wdL.toArray 9) = wl := hwl
  rw [hwl2] at RL
  have d0 := RL.cell k _ hg
  have HG := Lib.hid (show w.grownBy wl none from by rw [← hwl]; exact gr_alloc _ _ _)
  have HS := Lib.hid hs
  clear hm hk hg RL hwl2 hs
  go_enter Tryz.func73, Tryz.ntmps73
  go_wp2_with fail
  refine (HM.out _).mono ?_
  rintro e w1 ⟨rfl, rfl⟩
  go_wp2
  go_ret
  exact ⟨s, HS.out, rfl, HG.out⟩
theorem cut_size {s : ByteArray} {k m : Nat} (h : min s.size m = k) : (s.extract 0 k).size ≤ m := by rw [ByteArray.size_extract]; omega
set_option maxRecDepth 100000 in
set_option maxHeartbeats 2000000 in
theorem cut8_any (a : S5) (w : World) (hl : I64 a.l) (hm : I64 a.m) (hc : I64 a.c) (hb : a.b.size ≤ maxLen) (he : a.e.size ≤ maxLen) : Calls Tryz.prog 37 #[vS a] w (SomeS w) := by
  obtain ⟨l, m, c, b, e⟩ := a
  simp only at hl hm hc hb he
  have hb' : b.size ≤ 9223372036854775807 := by unfold maxLen at hb; omega
  have he' : e.size ≤ 9223372036854775807 := by unfold maxLen at he; omega
  clear hb he
  obtain ⟨k, hk⟩ : ∃ k, min b.size 12 = k := ⟨_, rfl⟩
  obtain ⟨j, hj⟩ : ∃ j, min e.size 12 = j := ⟨_, rfl⟩
  have hki : min (b.size : Int) 12 = (k : Int) := by omega
  have hji : min (e.size : Int) 12 = (j : Int) := by omega
  have hkl : k ≤ b.size := by omega
  have hjl : j ≤ e.size := by omega
  have HG := Lib.hid (show GoodS ⟨l, m, c, b.extract 0 k, e.extract 0 j⟩ from ⟨hl, hm, hc, by have := cut_size hk; show (b.extract 0 k).size ≤ 20; omega, by have := cut_size hj; show (e.extract 0 j).size ≤ 20; omega⟩)
  clear hk hj hl hm hc
  go_enter Tryz.func37, Tryz.ntmps37
  go_wp2
  exact bodyPost_ret (v := vS ⟨l, m, c, b.extract 0 k, e.extract 0 j⟩) (results_shape (a := ⟨l, m, c, b.extract 0 k, e.extract 0 j⟩) rfl rfl (Row.at5 (World.size_alloc _ _))) rfl ⟨_, HG.out, rfl, gr_then (gr_alloc _ _ _) (gr_alloc _ _ _)⟩
end Go.Proofs.YtaejnklgnegkhaaGreatDoor
