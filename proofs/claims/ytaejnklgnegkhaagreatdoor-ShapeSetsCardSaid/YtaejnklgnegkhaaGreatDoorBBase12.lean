/- Contracts of the program and of the reference, part 12: Qc, Qd, Qe, Qf, Qg, Qh, Qi, Qj, Qk, Ql, Qm, Qn, Qo, Qp, Qq, Ma. -/
import Derived.Test.YtaejnklgnegkhaaGreatDoorBBase11
import Derived.BigQuiet
import Derived.Deep.QuietTactic
import Derived.Defers
import Derived.Recover
import Derived.Laws.Pointers
namespace Go.Proofs.YtaejnklgnegkhaaGreatDoor
namespace Pt

--BEGIN
/-- What a reading gives: a value and what is left, or how much is left where something does not fit, and the error. -/
inductive PR (α : Type) where
  | ok (a : α) (l : List UInt8)
  | bad (rem : Nat) (k : Int)
def nx (l : List UInt8) : Nat := match l with
  | [] => 0
  | c :: _ => c.toNat
theorem nx_le (l : List UInt8) : nx l ≤ 255 := by
  cases l with
  | nil => exact Nat.zero_le _
  | cons c l => have := c.toNat_lt; show c.toNat ≤ 255; omega
theorem nx_pos {l : List UInt8} (h : 0 < nx l) : 0 < l.length := by
  cases l with
  | nil => exact absurd h (by decide)
  | cons c l => simp
/-- The class of the run that begins here. -/
def corL (l : List UInt8) : Nat := if 2 ≤ l.length ∧ nx l = 92 then letD (nx l.tail) else 0
def chrL (l : List UInt8) : PR Nat :=
  let e := decide (nx l = 92)
  let l1 := if e then l.tail else l
  if clsD (nx l1) = 0 ∨ specD (nx l1) ≠ e then .bad l1.length 12 else .ok (nx l1) l1.tail
def litL : Nat → List UInt8 → PR (List UInt8)
  | 0, l => .ok [] l
  | f + 1, l => if 0 < l.length ∧ corL l = 0 then (match chrL l with
      | .bad r k => .bad r k
      | .ok c l' => match litL f l' with
        | .bad r k => .bad r k
        | .ok t l'' => .ok (UInt8.ofNat c :: t) l'') else .ok [] l
def digs (n : Nat) : List UInt8 → Nat × List UInt8
  | [] => (n, [])
  | c :: l => if clsD c.toNat = 1 then digs (min (10 * n + (c.toNat - 48)) 201) l else (n, c :: l)
def numL (l : List UInt8) : PR Nat :=
  if clsD (nx l) ≠ 1 then .bad l.length 12
  else if nx l = 48 then .ok 0 l.tail
  else .ok (digs (nx l - 48) l.tail).1 (digs (nx l - 48) l.tail).2
/-- What stands behind the first number in braces. -/
def sndL (a : Nat) (l : List UInt8) : PR Nat := if nx l = 44 then numL l.tail else .ok a l
def cnumL (l : List UInt8) : PR (Nat × Nat) :=
  if nx l = 43 then .ok (1, 200) l.tail
  else if nx l = 42 then .ok (0, 200) l.tail
  else if nx l ≠ 123 then .ok (1, 1) l
  else match numL l.tail with
    | .bad r k => .bad r k
    | .ok a l1 => match sndL a l1 with
      | .bad r k => .bad r k
      | .ok b l2 => if nx l2 ≠ 125 then .bad l2.length 12 else if b < a ∨ b = 0 ∨ 200 < b then .bad l.length 3 else .ok (a, b) l2.tail
def pieceL (l : List UInt8) : PR Pc :=
  if corL l = 0 then (match litL l.length l with
    | .bad r k => .bad r k
    | .ok t l' => .ok ⟨0, 0, 0, ⟨t.toArray⟩⟩ l')
  else (match cnumL (l.drop 2) with
    | .bad r k => .bad r k
    | .ok x l' => .ok ⟨corL l, x.1, x.2, ⟨#[]⟩⟩ l')
def piecesL : Nat → List UInt8 → PR (List Pc)
  | 0, l => .ok [] l
  | f + 1, l => if 0 < l.length then (match pieceL l with
      | .bad r k => .bad r k
      | .ok p l' => match piecesL f l' with
        | .bad r k => .bad r k
        | .ok ps l'' => .ok (p :: ps) l'') else .ok [] l
/-- What Parse gives: the pieces, the offset, the error. -/
def parseL (s : List UInt8) : List Pc × Nat × Int :=
  if 60 < s.length then ([], 0, 2)
  else match piecesL s.length s with
    | .bad r k => ([], s.length - r, k)
    | .ok ps _ => (ps, 0, 0)
--END
end Pt
end Go.Proofs.YtaejnklgnegkhaaGreatDoor
namespace Go.Proofs.YtaejnklgnegkhaaGreatDoor
open Go.RowKit Pt

abbrev rest (s : ByteArray) (i : Nat) : List UInt8 := s.data.toList.drop i
theorem rest_len (s : ByteArray) (i : Nat) : (rest s i).length = s.size - i := by
  unfold rest; rw [List.length_drop]; rfl
theorem rest_tail (s : ByteArray) (i : Nat) : (rest s i).tail = rest s (i + 1) := by
  unfold rest; rw [List.tail_drop]
theorem nx_rest {s : ByteArray} {i : Nat} (h : i < s.size) : nx (rest s i) = s[i].toNat := by
  unfold rest
  rw [List.drop_eq_getElem_cons (show i < s.data.toList.length from h)]
  rfl
theorem nx_end {s : ByteArray} {i : Nat} (h : i = s.size) : nx (rest s i) = 0 := by
  unfold rest
  rw [List.drop_of_length_le (by show s.size ≤ i; omega)]; rfl
section
variable {w w1 : World} {b i : Nat} {s : ByteArray}
theorem gr_b (hg : w.grownBy w1 none) (b : Nat) : w.grownBy w1 (some b) := gr_trans hg (gr_rfl w1) (.inl rfl) (.inl rfl)
theorem gr_bb {w2 : World} (hg : w.grownBy w1 (some b)) (h2 : w1.grownBy w2 (some b)) : w.grownBy w2 (some b) := gr_trans hg h2 (.inr rfl) (.inr (.inl rfl))
end
theorem ext_rest (s : ByteArray) (i : Nat) : (s.extract i s.size).data.toList = rest s i := by
  unfold rest
  rw [ByteArray.data_extract]
  simp only [Array.toList_extract, List.extract]
  exact List.take_of_length_le (by rw [List.length_drop]; show s.data.size - i ≤ s.size - i; exact Nat.le_refl _)
theorem cor_t {t : ByteArray} (h : 2 ≤ t.size) : corL t.data.toList = if t[0].toNat = 92 then letD t[1].toNat else 0 := by
  have e : t.data.toList = t[0] :: t[1] :: t.data.toList.drop 2 := by
    rw [← List.drop_zero (l := t.data.toList), List.drop_eq_getElem_cons (show 0 < t.data.toList.length by show 0 < t.size; omega), List.drop_eq_getElem_cons (show 0 + 1 < t.data.toList.length by show 0 + 1 < t.size; omega)]
    rfl
  unfold corL
  rw [e]
  simp [nx]
theorem cor_ub {l : List UInt8} : corL l ≤ 7 := by
  unfold corL letD
  repeat' split
  all_goals omega
end Go.Proofs.YtaejnklgnegkhaaGreatDoor
namespace Go.Proofs.YtaejnklgnegkhaaGreatDoor
open Go.RowKit Pt

theorem cls_pos {x : Nat} (h : clsD x ≠ 0) : 0 < x := by
  rcases Nat.eq_zero_or_pos x with rfl | h1
  · exact absurd (by decide) h
  · exact h1
theorem chr_at (s : ByteArray) (i j : Nat) (E : Bool) (hE : decide (nx (rest s i) = 92) = E) (hj : (if nx (rest s i) = 92 then i + 1 else i) = j) :
    chrL (rest s i) = if clsD (nx (rest s j)) = 0 ∨ specD (nx (rest s j)) ≠ E then .bad (s.size - j) 12 else .ok (nx (rest s j)) (rest s (j + 1)) := by
  unfold chrL
  simp only [hE]
  have e : (if E = true then (rest s i).tail else rest s i) = rest s j := by
    rw [← hE, ← hj]
    by_cases h : nx (rest s i) = 92
    · rw [if_pos (decide_eq_true h), if_pos h, rest_tail]
    · rw [if_neg (by rw [decide_eq_false h]; simp), if_neg h]
  rw [e, rest_len, rest_tail]
end Go.Proofs.YtaejnklgnegkhaaGreatDoor
namespace Go.Proofs.YtaejnklgnegkhaaGreatDoor
open Go.RowKit Pt

theorem digs_yes {n : Nat} {l : List UInt8} (h : clsD (nx l) = 1) : digs n l = digs (min (10 * n + (nx l - 48)) 201) l.tail := by
  cases l with
  | nil => exact absurd h (by decide)
  | cons c l =>
    show (if clsD c.toNat = 1 then _ else _) = _
    rw [if_pos (show clsD c.toNat = 1 from h)]
    rfl
theorem digs_no {n : Nat} {l : List UInt8} (h : clsD (nx l) ≠ 1) : digs n l = (n, l) := by
  cases l with
  | nil => rfl
  | cons c l =>
    show (if clsD c.toNat = 1 then _ else _) = _
    rw [if_neg (show ¬ clsD c.toNat = 1 from h)]
theorem cls_one {c : Nat} (h : clsD c = 1) : 48 ≤ c ∧ c ≤ 57 := by
  unfold clsD at h
  repeat' split at h
  all_goals (try omega)
theorem one_cls {c : Nat} (h : 48 ≤ c ∧ c ≤ 57) : clsD c = 1 := by
  unfold clsD
  rw [if_neg (by omega), if_pos (by omega)]
/-- Where a reader stands. -/
def atOf (w : World) (b : Nat) : Nat := (intOf ((w.cell? ⟨b, 1, none⟩).getD undef)).toNat
theorem nx_lt {s : ByteArray} {j : Nat} (h : 0 < nx (rest s j)) : j + 1 ≤ s.size := by
  have := nx_pos h
  rw [rest_len] at this; omega
end Go.Proofs.YtaejnklgnegkhaaGreatDoor
namespace Go.Proofs.YtaejnklgnegkhaaGreatDoor
open Go.RowKit Pt

/-- What count gives behind both numbers. -/
def endL (m1 m2 : Nat) (i : Nat) (s : ByteArray) (l2 : List UInt8) : PR (Nat × Nat) := if nx l2 ≠ 125 then .bad l2.length 12 else if m2 < m1 ∨ m2 = 0 ∨ 200 < m2 then .bad (s.size - i) 3 else .ok (m1, m2) l2.tail
theorem end_go (m1 m2 i j2 : Nat) (s : ByteArray) {r : PR (Nat × Nat)} (h : r = endL m1 m2 i s (rest s j2)) :
    (nx (rest s j2) = 125 → m2 < m1 ∨ m2 = 0 ∨ 200 < m2 → r = .bad (s.size - i) 3) ∧ (nx (rest s j2) = 125 → ¬ (m2 < m1 ∨ m2 = 0 ∨ 200 < m2) → r = .ok (m1, m2) (rest s (j2 + 1))) ∧ (nx (rest s j2) ≠ 125 → r = .bad (s.size - j2) 12) := by
  subst h
  unfold endL
  refine ⟨fun a b => ?_, fun a b => ?_, fun a => ?_⟩
  · rw [if_neg (by simp [a]), if_pos b]
  · rw [if_neg (by simp [a]), if_neg b, rest_tail]
  · rw [if_pos a, rest_len]
theorem cnt_bad {s : ByteArray} {i r : Nat} {k : Int} (h1 : nx (rest s i) = 123) (h2 : numL (rest s (i + 1)) = .bad r k) : cnumL (rest s i) = .bad r k := by
  unfold cnumL
  rw [if_neg (by omega), if_neg (by omega), if_neg (by omega), rest_tail, h2]
theorem cnt_bad2 {s : ByteArray} {i r a : Nat} {k : Int} {l1 : List UInt8} (h1 : nx (rest s i) = 123) (h2 : numL (rest s (i + 1)) = .ok a l1) (h3 : sndL a l1 = .bad r k) : cnumL (rest s i) = .bad r k := by
  unfold cnumL
  rw [if_neg (by omega), if_neg (by omega), if_neg (by omega), rest_tail, h2]
  show (match sndL a l1 with | .bad r k => PR.bad r k | .ok b l2 => _) = _
  rw [h3]
theorem cnt_end {s : ByteArray} {i a m : Nat} {l1 l2 : List UInt8} (h1 : nx (rest s i) = 123) (h2 : numL (rest s (i + 1)) = .ok a l1) (h3 : sndL a l1 = .ok m l2) : cnumL (rest s i) = endL a m i s l2 := by
  unfold cnumL
  rw [if_neg (by omega), if_neg (by omega), if_neg (by omega), rest_tail, h2]
  show (match sndL a l1 with | .bad r k => PR.bad r k | .ok b l2 => _) = _
  rw [h3, rest_len]
  rfl
end Go.Proofs.YtaejnklgnegkhaaGreatDoor
namespace Go.Proofs.YtaejnklgnegkhaaGreatDoor
open Go.RowKit Pt

theorem chr_ok {l l' : List UInt8} {c : Nat} (h : chrL l = .ok c l') : ∃ l1, (l1 = l ∨ l1 = l.tail ∧ 0 < l.length) ∧ nx l1 = c ∧ clsD c ≠ 0 ∧ l1.tail = l' := by
  unfold chrL at h
  obtain ⟨l1, hl1⟩ : ∃ l1, (if decide (nx l = 92) = true then l.tail else l) = l1 := ⟨_, rfl⟩
  simp only [hl1] at h
  by_cases hc : clsD (nx l1) = 0 ∨ specD (nx l1) ≠ decide (nx l = 92)
  · rw [if_pos hc] at h; cases h
  · rw [if_neg hc] at h
    simp only [PR.ok.injEq] at h
    refine ⟨l1, ?_, h.1, fun e => hc (.inl (by rw [h.1]; exact e)), h.2⟩
    by_cases h92 : nx l = 92
    · rw [if_pos (decide_eq_true h92)] at hl1
      exact .inr ⟨hl1.symm, nx_pos (by omega)⟩
    · rw [if_neg (by rw [decide_eq_false h92]; simp)] at hl1
      exact .inl hl1.symm
theorem chr_lt {l l' : List UInt8} {c : Nat} (h : chrL l = .ok c l') : l'.length < l.length := by
  obtain ⟨l1, h1, h2, h3, rfl⟩ := chr_ok h
  have h4 := nx_pos (l := l1) (by rw [h2]; exact cls_pos h3)
  rw [List.length_tail]
  rcases h1 with rfl | ⟨rfl, h5⟩
  · omega
  · rw [List.length_tail] at *; omega
theorem chr_byte {l l' : List UInt8} {c : Nat} (h : chrL l = .ok c l') : c ≤ 255 := by
  obtain ⟨l1, _, h2, _, _⟩ := chr_ok h
  rw [← h2]
  exact nx_le _
theorem lit_fuel : ∀ (n f : Nat) (l : List UInt8), l.length ≤ n → l.length ≤ f → litL f l = litL l.length l
  | 0, f, l, h, _ => by
    obtain rfl := List.eq_nil_of_length_eq_zero (Nat.le_zero.1 h)
    cases f with
    | zero => rfl
    | succ f => show (if 0 < ([] : List UInt8).length ∧ _ then _ else _) = _; rw [if_neg (by simp)]; rfl
  | n + 1, f, l, h, hf => by
    cases hl : l.length with
    | zero =>
      obtain rfl := List.eq_nil_of_length_eq_zero hl
      exact lit_fuel n f [] (by simp) (by simp)
    | succ m =>
      obtain ⟨f, rfl⟩ : ∃ f', f = f' + 1 := ⟨f - 1, by omega⟩
      show (if 0 < l.length ∧ corL l = 0 then _ else _) = (if 0 < l.length ∧ corL l = 0 then _ else _)
      by_cases hc : 0 < l.length ∧ corL l = 0
      · rw [if_pos hc, if_pos hc]
        cases hch : chrL l with
        | bad r k => rfl
        | ok c l' =>
          have hlt := chr_lt hch
          simp only
          rw [lit_fuel n f l' (by omega) (by omega), lit_fuel n m l' (by omega) (by omega)]
      · rw [if_neg hc, if_neg hc]
/-- The literal that begins here. -/
def lit (l : List UInt8) : PR (List UInt8) := litL l.length l
/-- Characters ahead. -/
def pre (acc : List UInt8) (r : PR (List UInt8)) : PR (List UInt8) := match r with
  | .bad r k => .bad r k
  | .ok t l => .ok (acc ++ t) l
theorem lit_end {l : List UInt8} (h : ¬ (0 < l.length ∧ corL l = 0)) : lit l = .ok [] l := by
  unfold lit
  cases hl : l.length with
  | zero => rfl
  | succ m => show (if 0 < l.length ∧ corL l = 0 then _ else _) = _; rw [if_neg h]
theorem lit_bad {l : List UInt8} {r : Nat} {k : Int} (h0 : 0 < l.length) (h : corL l = 0) (hc : chrL l = .bad r k) : lit l = .bad r k := by
  unfold lit
  obtain ⟨m, hm⟩ : ∃ m, l.length = m + 1 := ⟨l.length - 1, by omega⟩
  rw [hm]
  show (if 0 < l.length ∧ corL l = 0 then _ else _) = _
  rw [if_pos ⟨h0, h⟩, hc]
theorem lit_ok {l l' : List UInt8} {c : Nat} (h0 : 0 < l.length) (h : corL l = 0) (hc : chrL l = .ok c l') : lit l = pre [UInt8.ofNat c] (lit l') := by
  have hlt := chr_lt hc
  unfold lit
  obtain ⟨m, hm⟩ : ∃ m, l.length = m + 1 := ⟨l.length - 1, by omega⟩
  rw [hm]
  show (if 0 < l.length ∧ corL l = 0 then _ else _) = _
  rw [if_pos ⟨h0, h⟩, hc]
  simp only
  rw [lit_fuel m m l' (by omega) (by omega)]
  cases litL l'.length l' <;> rfl
theorem pre_pre (a b : List UInt8) (r : PR (List UInt8)) : pre a (pre b r) = pre (a ++ b) r := by
  cases r with
  | bad => rfl
  | ok t l => show PR.ok _ _ = PR.ok _ _; rw [List.append_assoc]
theorem Form.keptb {w w1 : World} {base b : Nat} {v : Value} {l : List UInt8} (h : Form w base v l) (hg : w.grownBy w1 (some b)) (hb : b < base) : Form w1 base v l :=
  World.ownsRow.kept h hg (by
    cases hv : Value.ownBlock v with
    | none => exact .inl rfl
    | some g => exact .inr (fun e => by cases e; have := own_base h _ hv; omega))
/-- append of one byte, where a block that came in is written as well. -/
theorem app_b (W wr : World) (b : Nat) (v : Value) (l : List UInt8) (c : UInt8) (z : Int) (hz : (c.toNat : Int) = z) (hf : Form wr W.heap.size v l) (hn : l.length ≤ 90000) (hg : W.grownBy wr (some b)) :
    ∃ v' w', (Builtin.append_ #[70, 70] 70 #[v, .slice (some ⟨wr.heap.size, 0, none⟩) 1 1]).run Tryz.prog (wr.alloc (.cells #[.int .u8 z] 5)) = .ok v' w' ∧ Form w' W.heap.size v' (l ++ [c]) ∧ W.grownBy w' (some b) ∧ OK8 wr w' := by
  subst hz
  obtain ⟨i0, hi, hz0, hz1, hz2⟩ := info_parts infoY
  obtain ⟨v', w', h1, h2, h3, _⟩ := run_append_own_at (P := Tryz.prog) (wr.alloc (.cells #[.int .u8 (c.toNat : Int)] 5)) W.heap.size 70 70 5 i0 (.int .u8 0) 1 1 Tryz.underlying70 hi hz0 hz1 hz2 rfl (by decide) v l.length (byV l) (World.ownsRow.alloc hf _) ⟨wr.heap.size, 0, none⟩ 1 1 (byV [c]) (by rw [byV_len, Nat.mul_one]; rfl) (fun j u hj => by
    rw [addr_add, Nat.zero_add, cell_of_row _ _ j _ 5 (0, 0) (heap_alloc_new wr (.cells #[.int .u8 (c.toNat : Int)] 5))]
    simpa [byV] using hj) (by
    intro u hu
    unfold byV at hu
    obtain ⟨c, _, rfl⟩ := List.mem_map.1 hu
    rfl) (by unfold maxLen; omega) (by omega) (by have := hg.size; simp; omega)
  refine ⟨v', w', h1, ?_, gr_trans (gr_trans hg (gr_alloc wr (.cells #[.int .u8 (c.toNat : Int)] 5) none) (.inr rfl) (.inl rfl)) h3 (.inr rfl) (.inr (.inr (own_base hf))), ((Lib.OthersKept.refl _ _ wr).alloc _).grown h3 (own_kind (World.ownsRow.alloc hf _))⟩
  unfold Form
  rw [byV_app, List.length_append]
  exact h2
end Go.Proofs.YtaejnklgnegkhaaGreatDoor
namespace Go.Proofs.YtaejnklgnegkhaaGreatDoor
open Go.RowKit Pt

theorem quiet_grow {w w' : World} {m : Nat} (h : w' = w.drewN m) : w.grownBy w' none := by subst h; exact gr_drewN _ _ _
theorem ofNat_int {c : Nat} (h : c ≤ 255) : (((UInt8.ofNat c).toNat : Nat) : Int) = (c : Int) := by
  rw [UInt8.toNat_ofNat_of_lt' (show c < UInt8.size from by show c < 256; omega)]
end Go.Proofs.YtaejnklgnegkhaaGreatDoor
namespace Go.Proofs.YtaejnklgnegkhaaGreatDoor
open Go.RowKit Pt

theorem Row.keptb {w w1 : World} {B b : Nat} {cs : List Value} {t : TypeId} (h : Row w B cs t) (hg : w.grownBy w1 (some b)) (hne : B ≠ b) : Row w1 B cs t := by
  unfold Row at *; rw [hg.block B (Array.getElem?_eq_some_iff.1 h).1 (by simpa using hne)]; exact h
theorem results_pc {fn : Func} {p : Tmp} (h : fn.results = #[.cell p 52]) (tmps : Array Value) (w : World) (B : Nat) (k a b : Int) (t : ByteArray) (hp : tmps.getD p undef = .pointer (some ⟨B, 0, none⟩)) (hr : Row w B [.int .i64 k, .int .i64 a, .int .i64 b, .string t] 52) :
    (results fn tmps).run Tryz.prog w = .ok (pcv k a b t) w := by
  have hp' : tmps[p]?.getD undef = .pointer (some ⟨B, 0, none⟩) := by simpa using hp
  have c0 := hr.cell 0 _ rfl
  have c1 := hr.cell 1 _ rfl
  have c2 := hr.cell 2 _ rfl
  have c3 := hr.cell 3 _ rfl
  have hl : (loadVar 52 ⟨B, 0, none⟩).run Tryz.prog w = .ok (pcv k a b t) w := by
    simp [loadVar, Sem.run_bind, Tryz.isAgg52, c0, c1, c2, c3, go_sem]
  simp [results, h, hp', asAddr, hl]
abbrev set4 (w : World) (B : Nat) (k a b : Int) (t : ByteArray) : World := (((w.setCell ⟨B, 0, none⟩ (.int .i64 k)).setCell ⟨B, 1, none⟩ (.int .i64 a)).setCell ⟨B, 2, none⟩ (.int .i64 b)).setCell ⟨B, 3, none⟩ (.string t)
theorem Row.set4 {w : World} {B : Nat} {x0 x1 x2 x3 : Value} {ty : TypeId} (h : Row w B [x0, x1, x2, x3] ty) (k a b : Int) (t : ByteArray) : Row (set4 w B k a b t) B [.int .i64 k, .int .i64 a, .int .i64 b, .string t] ty :=
  (((h.set 0 _).set 1 _).set 2 _).set 3 _
theorem gr_set4 {w w4 : World} {B b : Nat} (h : w.grownBy w4 (some b)) (hB : w.heap.size ≤ B) (k a c : Int) (t : ByteArray) : w.grownBy (set4 w4 B k a c t) (some b) := by
  have st : ∀ {x : World} {i : Nat} {v : Value}, w.grownBy x (some b) → w.grownBy (x.setCell ⟨B, i, none⟩ v) (some b) := fun hx => gr_trans hx (gr_set _ _ _ _) (.inr rfl) (.inr (.inr fun j e => by cases e; exact hB))
  exact st (st (st (st h)))
abbrev pvv (p : Pc) : Value := pcv p.k p.a p.b p.t
end Go.Proofs.YtaejnklgnegkhaaGreatDoor
namespace Go.Proofs.YtaejnklgnegkhaaGreatDoor
open Go.RowKit Pt

theorem digs_le : ∀ (n : Nat) (l : List UInt8), (digs n l).2.length ≤ l.length
  | n, [] => Nat.le_refl _
  | n, c :: l => by
    by_cases h : clsD (nx (c :: l)) = 1
    · rw [digs_yes h]
      have := digs_le (min (10 * n + (nx (c :: l) - 48)) 201) l
      show (digs _ l).2.length ≤ _
      rw [List.length_cons]; omega
    · rw [digs_no h]; exact Nat.le_refl _
theorem num_le {l l' : List UInt8} {a : Nat} (h : numL l = .ok a l') : l'.length ≤ l.length := by
  unfold numL at h
  by_cases h1 : clsD (nx l) ≠ 1
  · rw [if_pos h1] at h; cases h
  · rw [if_neg h1] at h
    by_cases h2 : nx l = 48
    · rw [if_pos h2] at h
      simp only [PR.ok.injEq] at h
      rw [← h.2, List.length_tail]; omega
    · rw [if_neg h2] at h
      simp only [PR.ok.injEq] at h
      rw [← h.2]
      have := digs_le (nx l - 48) l.tail
      rw [List.length_tail] at this; omega
theorem snd_le {l l' : List UInt8} {a b : Nat} (h : sndL a l = .ok b l') : l'.length ≤ l.length := by
  unfold sndL at h
  by_cases h1 : nx l = 44
  · rw [if_pos h1] at h
    have := num_le h
    rw [List.length_tail] at this; omega
  · rw [if_neg h1] at h
    simp only [PR.ok.injEq] at h
    rw [← h.2]; exact Nat.le_refl _
theorem cnum_le {l l' : List UInt8} {x : Nat × Nat} (h : cnumL l = .ok x l') : l'.length ≤ l.length := by
  unfold cnumL at h
  by_cases h1 : nx l = 43
  · rw [if_pos h1] at h
    simp only [PR.ok.injEq] at h
    rw [← h.2, List.length_tail]; omega
  rw [if_neg h1] at h
  by_cases h2 : nx l = 42
  · rw [if_pos h2] at h
    simp only [PR.ok.injEq] at h
    rw [← h.2, List.length_tail]; omega
  rw [if_neg h2] at h
  by_cases h3 : nx l ≠ 123
  · rw [if_pos h3] at h
    simp only [PR.ok.injEq] at h
    rw [← h.2]; exact Nat.le_refl _
  rw [if_neg h3] at h
  cases hn : numL l.tail with
  | bad r k => rw [hn] at h; cases h
  | ok a l1 =>
    rw [hn] at h
    simp only at h
    have e1 := num_le hn
    cases hs : sndL a l1 with
    | bad r k => rw [hs] at h; cases h
    | ok b l2 =>
      rw [hs] at h
      simp only at h
      have e2 := snd_le hs
      rw [List.length_tail] at e1
      by_cases h4 : nx l2 ≠ 125
      · rw [if_pos h4] at h; cases h
      · rw [if_neg h4] at h
        by_cases h5 : b < a ∨ b = 0 ∨ 200 < b
        · rw [if_pos h5] at h; cases h
        · rw [if_neg h5] at h
          simp only [PR.ok.injEq] at h
          rw [← h.2, List.length_tail]; omega
theorem lit_le : ∀ (n : Nat) {l l' : List UInt8} {t : List UInt8}, l.length ≤ n → lit l = .ok t l' → l'.length ≤ l.length ∧ (0 < l.length → corL l = 0 → l'.length < l.length)
  | 0, l, l', t, hn, h => by
    rw [lit_end (by omega)] at h
    simp only [PR.ok.injEq] at h
    rw [← h.2]; omega
  | n + 1, l, l', t, hn, h => by
    by_cases hc : 0 < l.length ∧ corL l = 0
    · cases hch : chrL l with
      | bad r k => rw [lit_bad hc.1 hc.2 hch] at h; cases h
      | ok c l1 =>
        have hlt := chr_lt hch
        rw [lit_ok hc.1 hc.2 hch] at h
        cases hl : lit l1 with
        | bad r k => rw [hl] at h; cases h
        | ok t1 l2 =>
          rw [hl] at h
          have h' : PR.ok ([UInt8.ofNat c] ++ t1) l2 = .ok t l' := h
          simp only [PR.ok.injEq] at h'
          have := lit_le n (by omega) hl
          rw [← h'.2]
          omega
    · rw [lit_end hc] at h
      simp only [PR.ok.injEq] at h
      rw [← h.2]
      exact ⟨Nat.le_refl _, fun a b => absurd ⟨a, b⟩ hc⟩
theorem cor_len {l : List UInt8} (h : corL l ≠ 0) : 2 ≤ l.length ∧ nx l = 92 := by
  unfold corL at h
  by_cases h2 : 2 ≤ l.length ∧ nx l = 92
  · exact h2
  · exact absurd (if_neg h2) h
theorem piece_lt {l l' : List UInt8} {p : Pc} (h0 : 0 < l.length) (h : pieceL l = .ok p l') : l'.length < l.length := by
  unfold pieceL at h
  by_cases hc : corL l = 0
  · rw [if_pos hc] at h
    cases hl : lit l with
    | bad r k => rw [show litL l.length l = lit l from rfl, hl] at h; cases h
    | ok t l1 =>
      rw [show litL l.length l = lit l from rfl, hl] at h
      simp only [PR.ok.injEq] at h
      rw [← h.2]
      exact (lit_le _ (Nat.le_refl _) hl).2 h0 hc
  · rw [if_neg hc] at h
    have h2 := cor_len hc
    cases hl : cnumL (l.drop 2) with
    | bad r k => rw [hl] at h; cases h
    | ok x l1 =>
      rw [hl] at h
      simp only [PR.ok.injEq] at h
      rw [← h.2]
      have := cnum_le hl
      rw [List.length_drop] at this
      omega
theorem pieces_fuel : ∀ (n f : Nat) (l : List UInt8), l.length ≤ n → l.length ≤ f → piecesL f l = piecesL l.length l
  | 0, f, l, h, _ => by
    obtain rfl := List.eq_nil_of_length_eq_zero (Nat.le_zero.1 h)
    cases f with
    | zero => rfl
    | succ f => show (if 0 < ([] : List UInt8).length then _ else _) = _; rw [if_neg (by simp)]; rfl
  | n + 1, f, l, h, hf => by
    cases hl : l.length with
    | zero =>
      obtain rfl := List.eq_nil_of_length_eq_zero hl
      exact pieces_fuel n f [] (by simp) (by simp)
    | succ m =>
      obtain ⟨f, rfl⟩ : ∃ f', f = f' + 1 := ⟨f - 1, by omega⟩
      show (if 0 < l.length then _ else _) = (if 0 < l.length then _ else _)
      rw [if_pos (by omega), if_pos (by omega)]
      cases hch : pieceL l with
      | bad r k => rfl
      | ok c l' =>
        have hlt := piece_lt (by omega) hch
        simp only
        rw [pieces_fuel n f l' (by omega) (by omega), pieces_fuel n m l' (by omega) (by omega)]
/-- The pieces that stand here. -/
def pcsR (l : List UInt8) : PR (List Pc) := piecesL l.length l
def preP (acc : List Pc) (r : PR (List Pc)) : PR (List Pc) := match r with
  | .bad r k => .bad r k
  | .ok t l => .ok (acc ++ t) l
theorem pcsR_end {l : List UInt8} (h : ¬ 0 < l.length) : pcsR l = .ok [] l := by
  obtain rfl := List.eq_nil_of_length_eq_zero (by omega : l.length = 0)
  rfl
theorem pcsR_bad {l : List UInt8} {r : Nat} {k : Int} (h0 : 0 < l.length) (hc : pieceL l = .bad r k) : pcsR l = .bad r k := by
  unfold pcsR
  obtain ⟨m, hm⟩ : ∃ m, l.length = m + 1 := ⟨l.length - 1, by omega⟩
  rw [hm]
  show (if 0 < l.length then _ else _) = _
  rw [if_pos h0, hc]
theorem pcsR_ok {l l' : List UInt8} {p : Pc} (h0 : 0 < l.length) (hc : pieceL l = .ok p l') : pcsR l = preP [p] (pcsR l') := by
  have hlt := piece_lt h0 hc
  unfold pcsR
  obtain ⟨m, hm⟩ : ∃ m, l.length = m + 1 := ⟨l.length - 1, by omega⟩
  rw [hm]
  show (if 0 < l.length then _ else _) = _
  rw [if_pos h0, hc]
  simp only
  rw [pieces_fuel m m l' (by omega) (by omega)]
  cases piecesL l'.length l' <;> rfl
theorem preP_preP (a b : List Pc) (r : PR (List Pc)) : preP a (preP b r) = preP (a ++ b) r := by
  cases r with
  | bad => rfl
  | ok t l => show PR.ok _ _ = PR.ok _ _; rw [List.append_assoc]

/-- The cells of pieces. -/
def pcC (ps : List Pc) : List Value := ps.flatMap fun p => [.int .i64 p.k, .int .i64 p.a, .int .i64 p.b, .string p.t]
theorem pcC_len (ps : List Pc) : (pcC ps).length = ps.length * 4 := by
  induction ps with
  | nil => rfl
  | cons p ps ih => unfold pcC at *; rw [List.flatMap_cons, List.length_append, ih, List.length_cons]; simp; omega
theorem pcC_app (ps qs : List Pc) : pcC (ps ++ qs) = pcC ps ++ pcC qs := by unfold pcC; rw [List.flatMap_append]
theorem pcC_get : ∀ (ps : List Pc) (i : Nat) (h : i < ps.length), (pcC ps)[i * 4]? = some (.int .i64 ps[i].k) ∧ (pcC ps)[i * 4 + 1]? = some (.int .i64 ps[i].a) ∧ (pcC ps)[i * 4 + 2]? = some (.int .i64 ps[i].b) ∧ (pcC ps)[i * 4 + 3]? = some (.string ps[i].t)
  | p :: ps, 0, h => ⟨rfl, rfl, rfl, rfl⟩
  | p :: ps, i + 1, h => by
    have ih := pcC_get ps i (by simpa using h)
    have e : pcC (p :: ps) = [Value.int .i64 p.k, .int .i64 p.a, .int .i64 p.b, .string p.t] ++ pcC ps := rfl
    have g : ∀ j, (pcC (p :: ps))[(i + 1) * 4 + j]? = (pcC ps)[i * 4 + j]? := fun j => by
      rw [e, List.getElem?_append_right (by simp; omega)]
      congr 1
      simp; omega
    have g0 := g 0
    rw [Nat.add_zero, Nat.add_zero] at g0
    rw [g0, g 1, g 2, g 3]
    exact ih
/-- A slice of pieces that the call owns. -/
def PF (w : World) (base : Nat) (v : Value) (ps : List Pc) : Prop := w.ownsRow base 52 4 v ps.length (pcC ps)
theorem PF.pcs {w : World} {base : Nat} {v : Value} {ps : List Pc} (h : PF w base v ps) : Pcs w v ps := by
  rcases h.2 with ⟨rfl, h0⟩ | ⟨g, cap, cur, rfl, _, hg, hle, _, hs, hx⟩
  · exact .inl ⟨rfl, List.eq_nil_of_length_eq_zero h0⟩
  · refine .inr ⟨g, 0, cap, rfl, (Array.getElem?_eq_some_iff.1 hg).1, fun i hi => ?_⟩
    have key : ∀ j v, j < ps.length * 4 → (pcC ps)[j]? = some v → w.cell? ⟨g, 0 + j, none⟩ = some v := fun j v hj hv => by
      rw [Nat.zero_add, cell_of_row w g j _ _ (0, 0) hg]
      rw [← hx, List.getElem?_take_of_lt hj, Array.getElem?_toList] at hv
      exact hv
    obtain ⟨a0, a1, a2, a3⟩ := pcC_get ps i hi
    exact ⟨key _ _ (by omega) a0, key _ _ (by omega) a1, key _ _ (by omega) a2, key _ _ (by omega) a3⟩
end Go.Proofs.YtaejnklgnegkhaaGreatDoor
namespace Go.Proofs.YtaejnklgnegkhaaGreatDoor
open Go.RowKit Pt

theorem infoP : (Tryz.prog.info? 52).map (fun i => (i.zero, i.size, i.bytes)) = some (some (.agg #[.int .i64 0, .int .i64 0, .int .i64 0, .string ⟨#[]⟩]), 4, 40) := by kernel_rfl
theorem PF.keptb {w w1 : World} {base b : Nat} {v : Value} {l : List Pc} (h : PF w base v l) (hg : w.grownBy w1 (some b)) (hb : b < base) : PF w1 base v l :=
  World.ownsRow.kept h hg (by
    cases hv : Value.ownBlock v with
    | none => exact .inl rfl
    | some g => exact .inr (fun e => by cases e; have := own_base h _ hv; omega))
theorem PF.kept {w w1 : World} {base : Nat} {v : Value} {l : List Pc} (h : PF w base v l) (hg : w.grownBy w1 none) : PF w1 base v l := World.ownsRow.kept h hg (by cases Value.ownBlock v <;> simp)
theorem own_kindP {w : World} {base : Nat} {v : Value} {n : Nat} {xs : List Value} (h : w.ownsRow base 52 4 v n xs) : ∀ g, v.ownBlock = some g → ∃ c fz, w.heap[g]? = some (.cells c 52 fz) := by
  intro g hg
  rcases h.2 with ⟨rfl, _⟩ | ⟨g', cap, cur, rfl, _, hgg, _⟩
  · simp [Value.ownBlock] at hg
  · simp [Value.ownBlock] at hg
    subst hg
    exact ⟨cur, _, hgg⟩
abbrev OKP (w w' : World) : Prop := Lib.OthersKept 52 none w w'
theorem Row.okP {w w' : World} {b : Nat} {cs : List Value} {t : TypeId} (h : Row w b cs t) (ne : t ≠ 52) (k : OKP w w') : Row w' b cs t := k b _ h (by simp) (fun c fz e => ne (by cases e; rfl))
/-- append of one piece, where a block that came in is written as well. -/
theorem app_p (W wr : World) (b : Nat) (v : Value) (l : List Pc) (p : Pc) (hf : PF wr W.heap.size v l) (hn : l.length ≤ 90000) (hg : W.grownBy wr (some b)) :
    ∃ v' w', (Builtin.append_ #[47, 47] 47 #[v, .slice (some ⟨wr.heap.size, 0, none⟩) 1 1]).run Tryz.prog (wr.alloc (.cells #[.int .i64 p.k, .int .i64 p.a, .int .i64 p.b, .string p.t] 52)) = .ok v' w' ∧ PF w' W.heap.size v' (l ++ [p]) ∧ W.grownBy w' (some b) ∧ OKP wr w' := by
  obtain ⟨i0, hi, hz0, hz1, hz2⟩ := info_parts infoP
  obtain ⟨v', w', h1, h2, h3, _⟩ := run_append_own_at (P := Tryz.prog) (wr.alloc (.cells #[.int .i64 p.k, .int .i64 p.a, .int .i64 p.b, .string p.t] 52)) W.heap.size 47 47 52 i0 (.agg #[.int .i64 0, .int .i64 0, .int .i64 0, .string ⟨#[]⟩]) 4 40 Tryz.underlying47 hi hz0 hz1 hz2 rfl (by decide) v l.length (pcC l) (World.ownsRow.alloc hf _) ⟨wr.heap.size, 0, none⟩ 1 1 (pcC [p]) (by rfl) (fun j u hj => by
    rw [addr_add, Nat.zero_add, cell_of_row _ _ j _ 52 (0, 0) (heap_alloc_new wr (.cells #[.int .i64 p.k, .int .i64 p.a, .int .i64 p.b, .string p.t] 52))]
    simpa [pcC] using hj) (by
    intro u hu
    have : u = .int .i64 p.k ∨ u = .int .i64 p.a ∨ u = .int .i64 p.b ∨ u = .string p.t := by simpa [pcC] using hu
    rcases this with rfl | rfl | rfl | rfl <;> rfl) (by unfold maxLen; omega) (by omega) (by have := hg.size; simp; omega)
  refine ⟨v', w', h1, ?_, gr_trans (gr_trans hg (gr_alloc wr (.cells #[.int .i64 p.k, .int .i64 p.a, .int .i64 p.b, .string p.t] 52) none) (.inr rfl) (.inl rfl)) h3 (.inr rfl) (.inr (.inr (own_base hf))), ((Lib.OthersKept.refl _ _ wr).alloc _).grown h3 (own_kindP (World.ownsRow.alloc hf _))⟩
  unfold PF
  rw [pcC_app, List.length_append]
  exact h2
end Go.Proofs.YtaejnklgnegkhaaGreatDoor
namespace Go.Proofs.YtaejnklgnegkhaaGreatDoor
open Go.RowKit Pt

/-- Three results, each in a block of its own. -/
structure R3 (W : World) (B : Nat) (v : Value) (a k : Int) : Prop where
  p : Row W B [v] 47
  a : Row W (B + 1) [.int .i64 a] 3
  e : Row W (B + 1 + 1) [.int .i64 k] 55
theorem R3.kept {W W' : World} {B : Nat} {v : Value} {a k : Int} (h : R3 W B v a k) (hg : W.grownBy W' none) : R3 W' B v a k := ⟨h.p.kept hg, h.a.kept hg, h.e.kept hg⟩
theorem R3.keptb {W W' : World} {B b : Nat} {v : Value} {a k : Int} (h : R3 W B v a k) (hg : W.grownBy W' (some b)) (hb : B + 1 + 1 < b) : R3 W' B v a k := ⟨h.p.keptb hg (by omega), h.a.keptb hg (by omega), h.e.keptb hg (by omega)⟩
theorem R3.set {W : World} {B : Nat} {v : Value} {a k : Int} (h : R3 W B v a k) (v' : Value) (a' k' : Int) : R3 (((W.setCell ⟨B, 0, none⟩ v').setCell ⟨B + 1, 0, none⟩ (.int .i64 a')).setCell ⟨B + 1 + 1, 0, none⟩ (.int .i64 k')) B v' a' k' :=
  ⟨((h.p.set 0 _).other (by omega)).other (by omega), ((h.a.other (by omega)).set 0 _).other (by omega), ((h.e.other (by omega)).other (by omega)).set 0 _⟩
theorem gr_set3 {w W : World} {B : Nat} (h : w.grownBy W none) (hB : w.heap.size ≤ B) (v : Value) (a k : Value) : w.grownBy (((W.setCell ⟨B, 0, none⟩ v).setCell ⟨B + 1, 0, none⟩ a).setCell ⟨B + 1 + 1, 0, none⟩ k) none :=
  gr_setn (gr_setn (gr_setn h hB) (by omega)) (by omega)
end Go.Proofs.YtaejnklgnegkhaaGreatDoor
namespace Go.Proofs.YtaejnklgnegkhaaGreatDoor
open Go.RowKit Pt

theorem r3_new (w : World) : R3 (((w.alloc (.cells #[.slice none 0 0] 47)).alloc (.cells #[.int .i64 0] 3)).alloc (.cells #[.int .i64 0] 55)) w.heap.size (.slice none 0 0) 0 0 := by
  have r0 := Row.new w [.slice none 0 0] 47
  have r1 := Row.new (w.alloc (.cells #[.slice none 0 0] 47)) [.int .i64 0] 3
  have r2 := Row.new ((w.alloc (.cells #[.slice none 0 0] 47)).alloc (.cells #[.int .i64 0] 3)) [.int .i64 0] 55
  simp only [List.toArray, World.size_alloc] at r0 r1 r2
  exact ⟨r0.al.al, r1.al, r2⟩
/-- What Parse hands back. -/
abbrev Parsed (w : World) (s : List UInt8) (e : Ending) (w' : World) : Prop := ∃ v, e = .returned (.tuple #[v, .int .i64 ((parseL s).2.1 : Nat), .int .i64 (parseL s).2.2]) ∧ Pcs w' v (parseL s).1 ∧ w.grownBy w' none
theorem results_r3 {fn : Func} (h : fn.results = #[.cell 2 47, .cell 3 3, .cell 4 55]) (tmps : Array Value) (w : World) (B : Nat) (v : Value) (a k : Int) (h2 : tmps.getD 2 undef = .pointer (some ⟨B, 0, none⟩)) (h3 : tmps.getD 3 undef = .pointer (some ⟨B + 1, 0, none⟩)) (h4 : tmps.getD 4 undef = .pointer (some ⟨B + 1 + 1, 0, none⟩)) (hr : R3 w B v a k) :
    (results fn tmps).run Tryz.prog w = .ok (.tuple #[v, .int .i64 a, .int .i64 k]) w :=
  results_box3 h tmps w B (B + 1) (B + 1 + 1) v (.int .i64 a) (.int .i64 k) h2 h3 h4 (hr.p.cell 0 _ rfl) (hr.a.cell 0 _ rfl) (hr.e.cell 0 _ rfl) (Tryz.isAgg47) (Tryz.isAgg3) (Tryz.isAgg55)
end Go.Proofs.YtaejnklgnegkhaaGreatDoor
namespace Go.Proofs.YtaejnklgnegkhaaGreatDoor
open Go.RowKit Pt

theorem let_no {c k : Nat} (hk : k = 7) (h : ∀ m, m < k → letD c ≠ m + 1) : letD c = 0 := by
  subst hk
  have h7 : letD c ≤ 7 := by unfold letD; repeat' split
                             all_goals omega
  rcases Nat.eq_zero_or_pos (letD c) with h0 | h0
  · exact h0
  · exact absurd (by omega) (h (letD c - 1) (by omega))
set_option maxRecDepth 100000 in
set_option maxHeartbeats 2000000 in
theorem rlet_any (c : Nat) (w : World) (hc : c ≤ 255) : Calls Tryz.prog 68 #[.int .u8 (c : Int)] w fun e w' => e = .returned (.int .i64 (letD c : Nat)) ∧ w = w' := by
  go_enter Tryz.func68, Tryz.ntmps68
  go_wp2
  go_loop [3] (fun v => ∃ k : Nat, k ≤ 7 ∧ v = .int .i64 (k : Int) ∧ Hid (∀ m, m < k → letD c ≠ m + 1)) (fun v => (7 - intOf v).toNat)
  case atStart => exact ⟨0, by omega, by simp, fun m hm => by omega⟩
  case round =>
    obtain ⟨k, hk, rfl, hn⟩ := hrel
    have h8 : k = 0 ∨ k = 1 ∨ k = 2 ∨ k = 3 ∨ k = 4 ∨ k = 5 ∨ k = 6 ∨ k = 7 := by omega
    rcases h8 with rfl | rfl | rfl | rfl | rfl | rfl | rfl | rfl
    · have hix : ((⟨#[100, 117, 108, 97, 115, 111, 46]⟩ : ByteArray)[0]'(by decide)).toNat = 100 := rfl
      by_cases hb : c = 100
      · subst hb
        go_wp2
        go_ret
        exact ⟨by rfl, rfl⟩
      · have hbb : ((100 : Int) == (c : Int)) = false := by rw [beq_eq_false_iff_ne]; omega
        have hbn : (100 : Int) ≠ (c : Int) := by omega
        have HX := Lib.hid (show ∀ m, m < 1 → letD c ≠ m + 1 from fun m hm => by
          rcases Nat.lt_succ_iff_lt_or_eq.1 hm with h | rfl
          · exact hn.out m h
          · unfold letD; repeat' split
            all_goals (first | omega | simp_all))
        clear hb
        go_wp2
        exact ⟨⟨1, by decide, rfl, HX⟩, by decide⟩
    · have hix : ((⟨#[100, 117, 108, 97, 115, 111, 46]⟩ : ByteArray)[1]'(by decide)).toNat = 117 := rfl
      by_cases hb : c = 117
      · subst hb
        go_wp2
        go_ret
        exact ⟨by rfl, rfl⟩
      · have hbb : ((117 : Int) == (c : Int)) = false := by rw [beq_eq_false_iff_ne]; omega
        have hbn : (117 : Int) ≠ (c : Int) := by omega
        have HX := Lib.hid (show ∀ m, m < 2 → letD c ≠ m + 1 from fun m hm => by
          rcases Nat.lt_succ_iff_lt_or_eq.1 hm with h | rfl
          · exact hn.out m h
          · unfold letD; repeat' split
            all_goals (first | omega | simp_all))
        clear hb
        go_wp2
        exact ⟨⟨2, by decide, rfl, HX⟩, by decide⟩
    · have hix : ((⟨#[100, 117, 108, 97, 115, 111, 46]⟩ : ByteArray)[2]'(by decide)).toNat = 108 := rfl
      by_cases hb : c = 108
      · subst hb
        go_wp2
        go_ret
        exact ⟨by rfl, rfl⟩
      · have hbb : ((108 : Int) == (c : Int)) = false := by rw [beq_eq_false_iff_ne]; omega
        have hbn : (108 : Int) ≠ (c : Int) := by omega
        have HX := Lib.hid (show ∀ m, m < 3 → letD c ≠ m + 1 from fun m hm => by
          rcases Nat.lt_succ_iff_lt_or_eq.1 hm with h | rfl
          · exact hn.out m h
          · unfold letD; repeat' split
            all_goals (first | omega | simp_all))
        clear hb
        go_wp2
        exact ⟨⟨3, by decide, rfl, HX⟩, by decide⟩
    · have hix : ((⟨#[100, 117, 108, 97, 115, 111, 46]⟩ : ByteArray)[3]'(by decide)).toNat = 97 := rfl
      by_cases hb : c = 97
      · subst hb
        go_wp2
        go_ret
        exact ⟨by rfl, rfl⟩
      · have hbb : ((97 : Int) == (c : Int)) = false := by rw [beq_eq_false_iff_ne]; omega
        have hbn : (97 : Int) ≠ (c : Int) := by omega
        have HX := Lib.hid (show ∀ m, m < 4 → letD c ≠ m + 1 from fun m hm => by
          rcases Nat.lt_succ_iff_lt_or_eq.1 hm with h | rfl
          · exact hn.out m h
          · unfold letD; repeat' split
            all_goals (first | omega | simp_all))
        clear hb
        go_wp2
        exact ⟨⟨4, by decide, rfl, HX⟩, by decide⟩
    · have hix : ((⟨#[100, 117, 108, 97, 115, 111, 46]⟩ : ByteArray)[4]'(by decide)).toNat = 115 := rfl
      by_cases hb : c = 115
      · subst hb
        go_wp2
        go_ret
        exact ⟨by rfl, rfl⟩
      · have hbb : ((115 : Int) == (c : Int)) = false := by rw [beq_eq_false_iff_ne]; omega
        have hbn : (115 : Int) ≠ (c : Int) := by omega
        have HX := Lib.hid (show ∀ m, m < 5 → letD c ≠ m + 1 from fun m hm => by
          rcases Nat.lt_succ_iff_lt_or_eq.1 hm with h | rfl
          · exact hn.out m h
          · unfold letD; repeat' split
            all_goals (first | omega | simp_all))
        clear hb
        go_wp2
        exact ⟨⟨5, by decide, rfl, HX⟩, by decide⟩
    · have hix : ((⟨#[100, 117, 108, 97, 115, 111, 46]⟩ : ByteArray)[5]'(by decide)).toNat = 111 := rfl
      by_cases hb : c = 111
      · subst hb
        go_wp2
        go_ret
        exact ⟨by rfl, rfl⟩
      · have hbb : ((111 : Int) == (c : Int)) = false := by rw [beq_eq_false_iff_ne]; omega
        have hbn : (111 : Int) ≠ (c : Int) := by omega
        have HX := Lib.hid (show ∀ m, m < 6 → letD c ≠ m + 1 from fun m hm => by
          rcases Nat.lt_succ_iff_lt_or_eq.1 hm with h | rfl
          · exact hn.out m h
          · unfold letD; repeat' split
            all_goals (first | omega | simp_all))
        clear hb
        go_wp2
        exact ⟨⟨6, by decide, rfl, HX⟩, by decide⟩
    · have hix : ((⟨#[100, 117, 108, 97, 115, 111, 46]⟩ : ByteArray)[6]'(by decide)).toNat = 46 := rfl
      by_cases hb : c = 46
      · subst hb
        go_wp2
        go_ret
        exact ⟨by rfl, rfl⟩
      · have hbb : ((46 : Int) == (c : Int)) = false := by rw [beq_eq_false_iff_ne]; omega
        have hbn : (46 : Int) ≠ (c : Int) := by omega
        have HX := Lib.hid (show ∀ m, m < 7 → letD c ≠ m + 1 from fun m hm => by
          rcases Nat.lt_succ_iff_lt_or_eq.1 hm with h | rfl
          · exact hn.out m h
          · unfold letD; repeat' split
            all_goals (first | omega | simp_all))
        clear hb
        go_wp2
        exact ⟨⟨7, by decide, rfl, HX⟩, by decide⟩
    · have HX := Lib.hid (let_no rfl hn.out)
      go_wp2
      go_ret
      exact ⟨by rw [HX.out]; rfl, rfl⟩
/-- The reference's reader, without an error. -/
structure Rr (w : World) (R : Nat) (s : ByteArray) (j : Nat) : Prop where
  row : Row w R [.string s, .int .i64 (j : Int), .int .i64 0, .int .i64 0] 77
  le : j ≤ s.size
section
variable {w w1 : World} {R j : Nat} {s : ByteArray}
theorem Rr.c0 (h : Rr w R s j) : w.cell? ⟨R, 0, none⟩ = some (.string s) := h.row.cell 0 _ rfl
theorem Rr.c1 (h : Rr w R s j) : w.cell? ⟨R, 1, none⟩ = some (.int .i64 (j : Int)) := h.row.cell 1 _ rfl
theorem Rr.c3 (h : Rr w R s j) : w.cell? ⟨R, 3, none⟩ = some (.int .i64 0) := h.row.cell 3 _ rfl
theorem Rr.f1 (h : Rr w R s j) : w.frozen? ⟨R, 1, none⟩ = false := h.row.fr 1
theorem Rr.kept (h : Rr w R s j) (hg : w.grownBy w1 none) : Rr w1 R s j := ⟨h.row.kept hg, h.le⟩
theorem Rr.lt (h : Rr w R s j) : R < w.heap.size := h.row.lt
theorem Rr.at_ (h : Rr w R s j) : atOf w R = j := by unfold atOf; rw [h.c1]; rfl
theorem Rr.step (h : Rr w R s j) (hj : j + 1 ≤ s.size) {z : Int} (hz : z = (j : Int) + 1) : Rr (w.setCell ⟨R, 1, none⟩ (.int .i64 z)) R s (j + 1) := by
  subst hz; exact ⟨h.row.set 1 _, hj⟩
end
/-- A count without braces: its limits, and how many characters it has. -/
def sufR (x : Nat) : Int × Int × Nat := if x = 43 then (1, 200, 1) else if x = 42 then (0, 200, 1) else (1, 1, 0)
set_option maxRecDepth 100000 in
set_option maxHeartbeats 2000000 in
theorem rcnt_any (w : World) (R j : Nat) (s : ByteArray) (h : Rr w R s j) (hx : nx (rest s j) ≠ 123) (hs : s.size ≤ 1000000) : Calls Tryz.prog 71 #[.pointer (some ⟨R, 0, none⟩)] w fun e w' =>
    e = .returned (.tuple #[.int .i64 (sufR (nx (rest s j))).1, .int .i64 (sufR (nx (rest s j))).2.1]) ∧ Rr w' R s (j + (sufR (nx (rest s j))).2.2) ∧ w.grownBy w' (some R) := by
  have HR := Lib.hid h
  have hle := h.le
  have c0 := h.c0
  have c1 := h.c1
  have f1 := h.f1
  clear h
  by_cases hi : j = s.size
  · subst hi
    have HN := Lib.hid (show sufR (nx (rest s s.size)) = (1, 1, 0) from by rw [nx_end rfl]; rfl)
    clear hx
    go_enter Tryz.func71, Tryz.ntmps71
    go_wp2
    go_quiet (fail)
    go_wp2
    go_ret2
    exact ⟨by rw [HN.out]; rfl, by rw [HN.out]; exact HR.out.kept (gr_drewN _ _ _), gr_drewN _ _ _⟩
  · have hi2 : j < s.size := by omega
    have hi3 : (j : Int) < (s.size : Int) := by omega
    have hi4 : ¬ (s.size : Int) ≤ (j : Int) := by omega
    have HN := Lib.hid (nx_rest hi2)
    rw [nx_rest hi2] at hx ⊢
    obtain ⟨x, hxx⟩ : ∃ x, s[j].toNat = x := ⟨_, rfl⟩
    rw [hxx] at hx ⊢
    by_cases h43 : x = 43
    · have HX := Lib.hid (show sufR x = (1, 200, 1) from if_pos h43)
      have hb : ((x : Int) == 43) = true := by rw [h43]; rfl
      clear h43 hx hi
      go_enter Tryz.func71, Tryz.ntmps71
      go_wp2
      go_quiet (fail)
      go_wp2
      go_quiet (fail)
      go_wp2
      go_ret2
      exact ⟨by rw [HX.out]; rfl, by rw [HX.out]; exact (HR.out.kept (gr_drewN _ _ _)).step hi2 rfl, gr_trans (gr_drewN _ _ (some R)) (gr_set _ _ _ _) (.inr rfl) (.inr (.inl rfl))⟩
    · have hb : ((x : Int) == 43) = false := by rw [beq_eq_false_iff_ne]; omega
      by_cases h42 : x = 42
      · have HX := Lib.hid (show sufR x = (0, 200, 1) from by unfold sufR; rw [if_neg h43, if_pos h42])
        have hb2 : ((x : Int) == 42) = true := by rw [h42]; rfl
        clear h43 h42 hx hi
        go_enter Tryz.func71, Tryz.ntmps71
        go_wp2
        go_quiet (fail)
        go_wp2
        go_quiet (fail)
        go_wp2
        go_ret2
        exact ⟨by rw [HX.out]; rfl, by rw [HX.out]; exact (HR.out.kept (gr_drewN _ _ _)).step hi2 rfl, gr_trans (gr_drewN _ _ (some R)) (gr_set _ _ _ _) (.inr rfl) (.inr (.inl rfl))⟩
      · have HX := Lib.hid (show sufR x = (1, 1, 0) from by unfold sufR; rw [if_neg h43, if_neg h42])
        have hb2 : ((x : Int) == 42) = false := by rw [beq_eq_false_iff_ne]; omega
        have hb3 : ((x : Int) == 123) = false := by rw [beq_eq_false_iff_ne]; omega
        clear h43 h42 hx hi
        go_enter Tryz.func71, Tryz.ntmps71
        go_wp2
        go_quiet (fail)
        go_wp2
        go_quiet (fail)
        go_wp2
        go_ret2
        exact ⟨by rw [HX.out]; rfl, by rw [HX.out]; exact HR.out.kept (gr_drewN _ _ _), gr_drewN _ _ _⟩
/-- The pieces of a string that holds runs without braces alone. -/
def runsF : Nat → List UInt8 → Option (List Pc)
  | 0, l => if l.length = 0 then some [] else none
  | f + 1, l => if l.length = 0 then some [] else if nx l = 92 ∧ letD (nx l.tail) ≠ 0 ∧ nx l.tail.tail ≠ 123 then (runsF f (l.drop (2 + (sufR (nx l.tail.tail)).2.2))).map (⟨letD (nx l.tail), (sufR (nx l.tail.tail)).1, (sufR (nx l.tail.tail)).2.1, ⟨#[]⟩⟩ :: ·) else none
theorem run_step {m j : Nat} {s : ByteArray} {rs : List Pc} (h0 : j < s.size) (h : runsF m (rest s j) = some rs) : ∃ (m' L : Nat) (q : Int × Int × Nat) (rs' : List Pc), m = m' + 1 ∧ nx (rest s j) = 92 ∧ (letD (nx (rest s (j + 1))) = L ∧ letD (nx (rest s (j + 1))) ≠ 0) ∧ q = sufR (nx (rest s (j + 2))) ∧ nx (rest s (j + 2)) ≠ 123 ∧ rs = ⟨L, q.1, q.2.1, ⟨#[]⟩⟩ :: rs' ∧ runsF m' (rest s (j + 2 + q.2.2)) = some rs' := by
  have hl : (rest s j).length ≠ 0 := by rw [rest_len]; omega
  cases m with
  | zero => rw [show runsF 0 (rest s j) = none from if_neg hl] at h; cases h
  | succ m' =>
    have e1 : (rest s j).tail = rest s (j + 1) := rest_tail s j
    have e2 : (rest s j).tail.tail = rest s (j + 2) := by rw [e1]; exact rest_tail s (j + 1)
    by_cases hc : nx (rest s j) = 92 ∧ letD (nx (rest s (j + 1))) ≠ 0 ∧ nx (rest s (j + 2)) ≠ 123
    · have hd : (rest s j).drop (2 + (sufR (nx (rest s (j + 2)))).2.2) = rest s (j + 2 + (sufR (nx (rest s (j + 2)))).2.2) := by unfold rest; rw [List.drop_drop, Nat.add_assoc]
      have h' : (runsF m' (rest s (j + 2 + (sufR (nx (rest s (j + 2)))).2.2))).map (⟨letD (nx (rest s (j + 1))), (sufR (nx (rest s (j + 2)))).1, (sufR (nx (rest s (j + 2)))).2.1, ⟨#[]⟩⟩ :: ·) = some rs := by
        have : runsF (m' + 1) (rest s j) = _ := if_neg hl
        rw [this, e2, e1, if_pos hc, hd] at h
        exact h
      cases hr : runsF m' (rest s (j + 2 + (sufR (nx (rest s (j + 2)))).2.2)) with
      | none => rw [hr] at h'; cases h'
      | some rs' =>
        rw [hr] at h'
        cases h'
        exact ⟨m', _, _, rs', rfl, hc.1, ⟨rfl, hc.2.1⟩, rfl, hc.2.2, rfl, hr⟩
    · have : runsF (m' + 1) (rest s j) = _ := if_neg hl
      rw [this, e2, e1, if_neg hc] at h
      cases h
abbrev RParsed (w : World) (ps : List Pc) (e : Ending) (w' : World) : Prop := ∃ v, e = .returned (.tuple #[v, .int .i64 0, .int .i64 0]) ∧ Pcs w' v ps ∧ w.grownBy w' none
set_option maxRecDepth 100000 in
set_option maxHeartbeats 4000000 in
theorem rparse_any (s : ByteArray) (n : Nat) (ps : List Pc) (w : World) (hs : s.size ≤ 60) (hps : runsF n s.data.toList = some ps) : Calls Tryz.prog 34 #[.string s] w (RParsed w ps) := by
  obtain ⟨R, hR⟩ : ∃ R, w.heap.size = R := ⟨_, rfl⟩
  obtain ⟨wa, hwa⟩ : ∃ wa, w.alloc (.cells #[.string s, .int .i64 0, .int .i64 0, .int .i64 0] 77) = wa := ⟨_, rfl⟩
  have hrow := Row.new w [.string s, .int .i64 0, .int .i64 0, .int .i64 0] 77
  simp only [List.toArray] at hrow
  rw [hwa, hR] at hrow
  have HRA := Lib.hid (show Rr wa R s 0 from ⟨hrow, Nat.zero_le _⟩)
  have HGA := Lib.hid (show w.grownBy wa none from by rw [← hwa]; exact gr_alloc _ _ _)
  have HRR := Lib.hid hR
  have HSA := Lib.hid (show wa.heap.size = R + 1 from by rw [← hwa, World.size_alloc, hR])
  have hs2 : ¬ (60 : Int) < (s.size : Int) := by omega
  have HPS := Lib.hid hps
  clear hps hrow
  go_enter Tryz.func34, Tryz.ntmps34
  go_wp2_with fail
  clear hwa hR
  go_loopw [6] (fun v wr => ∃ (j m : Nat) (acc rs : List Pc), j ≤ s.size ∧ acc.length ≤ j ∧ Hid (runsF m (rest s j) = some rs) ∧ Hid (acc ++ rs = ps) ∧ Hid (PF wr wa.heap.size v acc) ∧ Hid (Rr wr R s j) ∧ Hid (wa.grownBy wr (some R))) (fun _ wr => s.size - atOf wr R)
  case atStart => exact ⟨0, n, [], ps, Nat.zero_le _, Nat.zero_le _, HPS, Lib.hid rfl, Lib.hid (World.ownsRow_nil _ _ _ _), HRA, Lib.hid (gr_b (gr_rfl wa) R)⟩
  case round =>
    obtain ⟨j, m, acc, rs, hj, hacc, HRN, HAC, HF, HRj, Gj⟩ := hrel
    have c0 := HRj.out.c0
    have c1 := HRj.out.c1
    have c3 := HRj.out.c3
    have f1 := HRj.out.f1
    by_cases hlt : j < s.size
    · have hlti : (j : Int) < (s.size : Int) := by omega
      obtain ⟨m', L, q, rs', hm, h92, hL, hq, h123, hrs, hrn⟩ := run_step (m := m) (rs := rs) (by omega) HRN.out
      obtain ⟨i1, hi1⟩ : ∃ i1, j + 1 = i1 := ⟨_, rfl⟩
      obtain ⟨i2, hi2⟩ : ∃ i2, i1 + 1 = i2 := ⟨_, rfl⟩
      have e1 : (j : Int) + 1 = (i1 : Int) := by omega
      have e2 : (i1 : Int) + 1 = (i2 : Int) := by omega
      rw [hi1] at hL
      rw [show j + 2 = i2 from by omega] at hq h123 hrn
      have h1s : i1 < s.size := by
        have := nx_pos (l := rest s i1) (by
          rcases Nat.eq_zero_or_pos (nx (rest s i1)) with h | h
          · exact absurd (by rw [h]; decide) hL.2
          · exact h)
        rw [rest_len] at this; omega
      have h1i : (i1 : Int) < (s.size : Int) := by omega
      have h1e : ((i1 : Int) == (s.size : Int)) = false := by rw [beq_eq_false_iff_ne]; omega
      have hx0 : s[j].toNat = 92 := by rw [← nx_rest hlt]; exact h92
      obtain ⟨y, hy⟩ : ∃ y, s[i1].toNat = y := ⟨_, rfl⟩
      have hy255 : y ≤ 255 := by have := s[i1].toNat_lt; omega
      have hLy : letD y = L := by rw [← hy, ← nx_rest h1s]; exact hL.1
      have HR1 := Lib.hid (HRj.out.step (by omega) (z := (i1 : Int)) (by omega))
      rw [hi1] at HR1
      have HR2 := Lib.hid (HR1.out.step (by omega) (z := (i2 : Int)) (by omega))
      rw [hi2] at HR2
      have HCL := Lib.hid (fun w => rlet_any y w hy255)
      rw [hLy] at HCL
      have HCN := Lib.hid (rcnt_any _ R i2 s HR2.out h123 (by omega))
      rw [← hq] at HCN
      have G2 := Lib.hid (gr_bb (gr_bb Gj.out (gr_set wr R 1 (.int .i64 (i1 : Int)))) (gr_set _ R 1 (.int .i64 (i2 : Int))))
      have HF2 := Lib.hid ((HF.out.keptb (gr_set wr R 1 (.int .i64 (i1 : Int))) (by have := HSA.out; omega)).keptb (gr_set _ R 1 (.int .i64 (i2 : Int))) (by have := HSA.out; omega))
      obtain ⟨a1, b1, n1⟩ := q
      have d0 := HR1.out.c0
      have d1 := HR1.out.c1
      have d3 := HR1.out.f1
      have k0 := HR2.out.c0
      have k1 := HR2.out.c1
      have k3 := HR2.out.f1
      have hLb : ((L : Int) == 0) = false := by rw [beq_eq_false_iff_ne]; have := hL.2; have := hL.1; omega
      have hLp : (0 : Int) < (L : Int) := by have := hL.2; have := hL.1; omega
      have HJ := Lib.hid (And.intro hi1 (And.intro hi2 (And.intro hrs hrn)))
      clear hL hq h123 hrs hrn hi1 hi2 h92 hLy
      simp only at HCN
      go_wp2_with fail
      refine (HCL.out _).mono ?_
      rintro e w3 ⟨rfl, rfl⟩
      go_wp2_with fail
      refine (HCL.out _).mono ?_
      rintro e w3 ⟨rfl, rfl⟩
      go_wp2_with fail
      refine HCN.out.mono ?_
      rintro e w4 ⟨rfl, hr4, g4⟩
      have HR4 := Lib.hid hr4
      have F4 := HF2.out.keptb g4 (by have := HSA.out; omega)
      have G4 := gr_bb G2.out g4
      obtain ⟨v5, w5, r5, f5, g5, k5⟩ := app_p wa w4 R u6 acc ⟨(L : Int), a1, b1, ⟨#[]⟩⟩ F4 (by omega) G4
      have F5 := Lib.hid f5
      have G5 := Lib.hid g5
      have R5 := Lib.hid (show Rr w5 R s (i2 + n1) from ⟨hr4.row.okP (by decide) k5, hr4.le⟩)
      clear f5 g5 k5 F4 G4 g4 hr4 c0 c1 c3 d0 d1 d3 k0 k1 k3
      simp only at r5
      go_wp2_with (at_builtin; refine wpList_call_append rfl (.tmp 100) (.tmp 105) 47 rfl _ _ rfl rfl _ _ r5 ?_)
      obtain ⟨hj1, hj2, rfl, hrn⟩ := HJ.out
      refine ⟨⟨i2 + n1, m', acc ++ [⟨(L : Int), a1, b1, ⟨#[]⟩⟩], rs', R5.out.le, by rw [List.length_append, List.length_singleton]; omega, Lib.hid hrn, Lib.hid (by rw [← HAC.out, List.append_assoc]; rfl), F5, R5, G5⟩, ?_⟩
      rw [R5.out.at_, HRj.out.at_]
      have := R5.out.le
      omega
    · have hlti : decide ((j : Int) < (s.size : Int)) = false := decide_eq_false (by omega)
      have hltn : decide (j < s.size) = false := decide_eq_false hlt
      have HE := Lib.hid (show acc = ps from by
        have h1 := HRN.out
        have h0 : (rest s j).length = 0 := by rw [rest_len]; omega
        have : runsF m (rest s j) = some [] := by cases m <;> exact if_pos h0
        rw [this] at h1
        cases h1
        rw [← HAC.out, List.append_nil])
      obtain ⟨a0, n0, k0, hv⟩ : ∃ a0 n0 k0, u6 = .slice a0 n0 k0 := by
        rcases HF.out.2 with ⟨h, _⟩ | ⟨_, _, _, h, _⟩
        · exact ⟨_, _, _, h⟩
        · exact ⟨_, _, _, h⟩
      clear hlt
      go_wp2
      go_ret3
      exact ⟨u6, rfl, by have := HF.out.pcs; rwa [HE.out] at this, gr_new HGA.out Gj.out (by rw [HRR.out]; exact Nat.le_refl _)⟩
end Go.Proofs.YtaejnklgnegkhaaGreatDoor
namespace Go.Proofs.YtaejnklgnegkhaaGreatDoor
open Go.RowKit Pt

def exD : List Pc := [⟨1, 4, 4, ⟨#[]⟩⟩, ⟨0, 0, 0, ⟨#[45]⟩⟩, ⟨1, 1, 200, ⟨#[]⟩⟩]
def exQ : List Pc := [⟨2, 1, 1, ⟨#[]⟩⟩, ⟨3, 0, 200, ⟨#[]⟩⟩]
def exR : List Pc := [⟨1, 1, 200, ⟨#[]⟩⟩]
def exA : List Pc := [⟨4, 1, 200, ⟨#[]⟩⟩]
set_option maxRecDepth 100000
theorem ex1 : parseL [92, 100, 123, 52, 125, 45, 92, 100, 43] = (exD, 0, 0) := by rfl
theorem ex2 : parseL [92, 120] = ([], 1, 12) := by rfl
theorem ex3 : parseL [97, 43] = ([], 1, 12) := by rfl
theorem ex4 : parseL [92, 100, 123, 53, 44, 50, 125] = ([], 2, 3) := by rfl
theorem ex5 : parseL [92, 100, 123, 120, 125] = ([], 3, 12) := by rfl
theorem ex6 : runsF 3 [92, 117, 92, 108, 42] = some exQ := by rfl
theorem ex7 : runsF 3 [92, 100, 43] = some exR := by rfl
theorem ex8 : runsF 3 [92, 97, 43] = some exA := by rfl
theorem ex9 : matchL exQ [65, 98] = true := by decide
theorem ex10 : matchL exQ [65] = true := by decide
theorem ex11 : matchL exQ [65, 66] = false := by decide
theorem ex12 : findsL exR [97, 49, 50, 98, 51, 52, 53] = [(1, 3), (4, 7)] := by decide
theorem ex13 : coversL exA exQ = true := by decide
theorem ex14 : coversL exQ exA = false := by decide
theorem ex15w : wrL exD = [92, 100, 123, 52, 125, 45, 92, 100, 43] := by
  have h4 : Lib.decDigits 4 = [52] := by rw [dec_one (by decide)]; rfl
  have h1 : wrP ⟨1, 4, 4, ⟨#[]⟩⟩ = [92, 100, 123, 52, 125] := by
    show 92 :: letC 1 :: cntL 4 4 = _
    have : cntL 4 4 = 123 :: (Lib.decDigits 4 ++ [125]) := by rfl
    rw [this, h4]; rfl
  show wrP ⟨1, 4, 4, ⟨#[]⟩⟩ ++ (wrP ⟨0, 0, 0, ⟨#[45]⟩⟩ ++ (wrP ⟨1, 1, 200, ⟨#[]⟩⟩ ++ [])) = _
  rw [h1]; rfl
theorem ex15 : printL exD = [92, 100, 123, 52, 125, 45, 92, 100, 43] := by
  unfold printL rightL
  rw [ex15w]
  rfl
end Go.Proofs.YtaejnklgnegkhaaGreatDoor
namespace Go.Proofs.YtaejnklgnegkhaaGreatDoor
open Go.RowKit Pt

theorem pcs_shape {w : World} {v : Value} {ps : List Pc} (h : Pcs w v ps) : ∃ a c, v = .slice a ps.length c := by
  rcases h with ⟨rfl, rfl⟩ | ⟨g, o, c, rfl, _⟩
  · exact ⟨_, _, rfl⟩
  · exact ⟨_, _, rfl⟩
end Go.Proofs.YtaejnklgnegkhaaGreatDoor
namespace Go.Proofs.YtaejnklgnegkhaaGreatDoor
open Go.RowKit Pt

def I64 (z : Int) : Prop := -9223372036854775808 ≤ z ∧ z ≤ 9223372036854775807
/-- A slice of numbers that came in. -/
def IntsA (w : World) (v : Value) : Prop := ∃ a n c, v = .slice a n c ∧ (n = 0 ∨ ∃ (g o : Nat) (F : Nat → Int), a = some ⟨g, o, none⟩ ∧ g < w.heap.size ∧ n ≤ 9223372036854775807 ∧ ∀ i, i < n → w.cell? ⟨g, o + i, none⟩ = some (.int .i64 (F i)) ∧ I64 (F i))
theorem IntsA.kept {w w1 : World} {v : Value} (h : IntsA w v) (hg : w.grownBy w1 none) : IntsA w1 v := by
  obtain ⟨a, n, c, rfl, h | ⟨g, o, F, rfl, hb, hn, hF⟩⟩ := h
  · exact ⟨a, n, c, rfl, .inl h⟩
  · exact ⟨_, n, c, rfl, .inr ⟨g, o, F, rfl, Nat.lt_of_lt_of_le hb hg.size, hn, fun i hi => ⟨hg.cell (hF i hi).1 (by simp), (hF i hi).2⟩⟩⟩
/-- A piece that Made may make, of so many rounds. -/
structure GoodM (q : Nat) (p : Pc) : Prop where
  k : 0 ≤ p.k ∧ p.k ≤ 7
  a : 0 ≤ p.a ∧ p.a ≤ 2
  b : p.a ≤ p.b ∧ p.b ≤ 200
  t : p.t.size ≤ 3 * q
  lit : p.k = 0 → p.a = 0 ∧ p.b = 0
  run : p.k ≠ 0 → p.t = ⟨#[]⟩ ∧ 1 ≤ p.b
theorem GoodM.more {q q' : Nat} {p : Pc} (h : GoodM q p) (hq : q ≤ q') : GoodM q' p := ⟨h.k, h.a, h.b, by have := h.t; omega, h.lit, h.run⟩
def txM : Nat → ByteArray | 0 => ⟨#[45]⟩ | 1 => ⟨#[97]⟩ | 2 => ⟨#[66, 55]⟩ | 3 => ⟨#[43]⟩ | 4 => ⟨#[92, 123]⟩ | 5 => ⟨#[32]⟩ | _ => ⟨#[120, 32, 121]⟩
theorem txM_le (e : Nat) : (txM e).size ≤ 3 := by unfold txM; split <;> decide
abbrev txL : List Value := [.string ⟨#[45]⟩, .string ⟨#[97]⟩, .string ⟨#[66, 55]⟩, .string ⟨#[43]⟩, .string ⟨#[92, 123]⟩, .string ⟨#[32]⟩, .string ⟨#[120, 32, 121]⟩]
theorem txL_get {e : Nat} (h : e < 7) : txL[e]? = some (.string (txM e)) := by
  have h7 : e = 0 ∨ e = 1 ∨ e = 2 ∨ e = 3 ∨ e = 4 ∨ e = 5 ∨ e = 6 := by omega
  rcases h7 with rfl | rfl | rfl | rfl | rfl | rfl | rfl <;> rfl
/-- The last piece of a slice that the call owns. -/
theorem PF.last {w : World} {base : Nat} {v : Value} {l : List Pc} {p : Pc} (h : PF w base v (l ++ [p])) : ∃ g cap, v = .slice (some ⟨g, 0, none⟩) (l.length + 1) cap ∧ base ≤ g ∧ (∃ cs, w.heap[g]? = some (.cells cs 52 (0, 0))) ∧ w.cell? ⟨g, l.length * 4, none⟩ = some (.int .i64 p.k) ∧ w.cell? ⟨g, l.length * 4 + 3, none⟩ = some (.string p.t) ∧ w.frozen? ⟨g, l.length * 4 + 3, none⟩ = false ∧
    ∀ t, PF (w.setCell ⟨g, l.length * 4 + 3, none⟩ (.string t)) base v (l ++ [⟨p.k, p.a, p.b, t⟩]) := by
  obtain ⟨hl, ⟨rfl, h0⟩ | ⟨g, cap, cur, rfl, hb, hg, hle, hm, hs, hx⟩⟩ := h
  · simp at h0
  · have hlen : (l ++ [p]).length = l.length + 1 := by simp
    have hx' := hx
    rw [hlen] at hx' hle
    have hget : ∀ j v, j < (l.length + 1) * 4 → (pcC (l ++ [p]))[j]? = some v → w.cell? ⟨g, j, none⟩ = some v := fun j v hj hv => by
      rw [cell_of_row w g j _ _ (0, 0) hg]
      rw [← hx', List.getElem?_take_of_lt hj, Array.getElem?_toList] at hv
      exact hv
    obtain ⟨a0, a1, a2, a3⟩ := pcC_get (l ++ [p]) l.length (by simp)
    have e : (l ++ [p])[l.length]'(by simp) = p := by simp
    rw [e] at a0 a3
    refine ⟨g, cap, by rw [hlen], hb, ⟨_, hg⟩, hget _ _ (by omega) a0, hget _ _ (by omega) a3, ?_, fun t => ?_⟩
    · simp [World.frozen?, hg]
    · refine ⟨pcC_len _, .inr ⟨g, cap, cur.setIfInBounds (l.length * 4 + 3) (.string t), by simp, hb, ?_, by simpa using hle, hm, by simpa using hs, ?_⟩⟩
      · rw [setCell_eq_setRow w g _ _ _ (0, 0) _ hg, setRow_heap w g _ _ _ (0, 0) hg]
      · rw [show (l ++ [(⟨p.k, p.a, p.b, t⟩ : Pc)]).length = l.length + 1 from by simp, Array.toList_setIfInBounds, List.take_set, hx', pcC_app, pcC_app]
        have hpl := pcC_len l
        rw [List.set_append_right _ _ (by rw [hpl]; omega), hpl, show l.length * 4 + 3 - l.length * 4 = 3 from by omega]
        rfl
end Go.Proofs.YtaejnklgnegkhaaGreatDoor
