/- Contracts of the program and of the reference, part 13: Qc, Qd, Qe, Qf, Qg, Qh, Qi, Qj. -/
import Derived.Test.YtaejnklgnegkhaaDoorBBase12
import Derived.BigQuiet
import Derived.Deep.QuietTactic
namespace Go.Proofs.YtaejnklgnegkhaaDoor
namespace Pt

--BEGIN
/-- What a reading gives: a value and what is left, or how much is left where something does not fit, and the error. -/
inductive PR (α : Type) where
  | ok (a : α) (l : List UInt8)
  | bad (rem : Nat) (k : Int)
def nx (l : List UInt8) : Nat := match l with
  | [] => 0
  | c :: _ => c.toNat
theorem nx_le (l : List UInt8) : nx l ≤ 255 := by
  cases l with
  | nil => exact Nat.zero_le _
  | cons c l => have := c.toNat_lt; show c.toNat ≤ 255; omega
theorem nx_pos {l : List UInt8} (h : 0 < nx l) : 0 < l.length := by
  cases l with
  | nil => exact absurd h (by decide)
  | cons c l => simp
/-- The class of the run that begins here. -/
def corL (l : List UInt8) : Nat := if 2 ≤ l.length ∧ nx l = 92 then letD (nx l.tail) else 0
def chrL (l : List UInt8) : PR Nat :=
  let e := decide (nx l = 92)
  let l1 := if e then l.tail else l
  if clsD (nx l1) = 0 ∨ specD (nx l1) ≠ e then .bad l1.length 12 else .ok (nx l1) l1.tail
def litL : Nat → List UInt8 → PR (List UInt8)
  | 0, l => .ok [] l
  | f + 1, l => if 0 < l.length ∧ corL l = 0 then (match chrL l with
      | .bad r k => .bad r k
      | .ok c l' => match litL f l' with
        | .bad r k => .bad r k
        | .ok t l'' => .ok (UInt8.ofNat c :: t) l'') else .ok [] l
def digs (n : Nat) : List UInt8 → Nat × List UInt8
  | [] => (n, [])
  | c :: l => if clsD c.toNat = 1 then digs (min (10 * n + (c.toNat - 48)) 201) l else (n, c :: l)
def numL (l : List UInt8) : PR Nat :=
  if clsD (nx l) ≠ 1 then .bad l.length 12
  else if nx l = 48 then .ok 0 l.tail
  else .ok (digs (nx l - 48) l.tail).1 (digs (nx l - 48) l.tail).2
/-- What stands behind the first number in braces. -/
def sndL (a : Nat) (l : List UInt8) : PR Nat := if nx l = 44 then numL l.tail else .ok a l
def cnumL (l : List UInt8) : PR (Nat × Nat) :=
  if nx l = 43 then .ok (1, 200) l.tail
  else if nx l = 42 then .ok (0, 200) l.tail
  else if nx l ≠ 123 then .ok (1, 1) l
  else match numL l.tail with
    | .bad r k => .bad r k
    | .ok a l1 => match sndL a l1 with
      | .bad r k => .bad r k
      | .ok b l2 => if nx l2 ≠ 125 then .bad l2.length 12 else if b < a ∨ b = 0 ∨ 200 < b then .bad l.length 3 else .ok (a, b) l2.tail
def pieceL (l : List UInt8) : PR Pc :=
  if corL l = 0 then (match litL l.length l with
    | .bad r k => .bad r k
    | .ok t l' => .ok ⟨0, 0, 0, ⟨t.toArray⟩⟩ l')
  else (match cnumL (l.drop 2) with
    | .bad r k => .bad r k
    | .ok x l' => .ok ⟨corL l, x.1, x.2, ⟨#[]⟩⟩ l')
def piecesL : Nat → List UInt8 → PR (List Pc)
  | 0, l => .ok [] l
  | f + 1, l => if 0 < l.length then (match pieceL l with
      | .bad r k => .bad r k
      | .ok p l' => match piecesL f l' with
        | .bad r k => .bad r k
        | .ok ps l'' => .ok (p :: ps) l'') else .ok [] l
/-- What Parse gives: the pieces, the offset, the error. -/
def parseL (s : List UInt8) : List Pc × Nat × Int :=
  if 60 < s.length then ([], 0, 2)
  else match piecesL s.length s with
    | .bad r k => ([], s.length - r, k)
    | .ok ps _ => (ps, 0, 0)
--END
end Pt
end Go.Proofs.YtaejnklgnegkhaaDoor
namespace Go.Proofs.YtaejnklgnegkhaaDoor
open Go.RowKit Pt

/-- The reader: its text, and where it stands. -/
structure Rd (w : World) (b : Nat) (s : ByteArray) (i : Nat) : Prop where
  row : Row w b [.string s, .int .i64 (i : Int)] 80
  le : i ≤ s.size
abbrev rest (s : ByteArray) (i : Nat) : List UInt8 := s.data.toList.drop i
theorem rest_len (s : ByteArray) (i : Nat) : (rest s i).length = s.size - i := by
  unfold rest; rw [List.length_drop]; rfl
theorem rest_tail (s : ByteArray) (i : Nat) : (rest s i).tail = rest s (i + 1) := by
  unfold rest; rw [List.tail_drop]
theorem nx_rest {s : ByteArray} {i : Nat} (h : i < s.size) : nx (rest s i) = s[i].toNat := by
  unfold rest
  rw [List.drop_eq_getElem_cons (show i < s.data.toList.length from h)]
  rfl
theorem nx_end {s : ByteArray} {i : Nat} (h : i = s.size) : nx (rest s i) = 0 := by
  unfold rest
  rw [List.drop_of_length_le (by show s.size ≤ i; omega)]; rfl
section
variable {w w1 : World} {b i : Nat} {s : ByteArray}
theorem Rd.c0 (h : Rd w b s i) : w.cell? ⟨b, 0, none⟩ = some (.string s) := h.row.cell 0 _ rfl
theorem Rd.c1 (h : Rd w b s i) : w.cell? ⟨b, 1, none⟩ = some (.int .i64 (i : Int)) := h.row.cell 1 _ rfl
theorem Rd.f1 (h : Rd w b s i) : w.frozen? ⟨b, 1, none⟩ = false := h.row.fr 1
theorem Rd.kept (h : Rd w b s i) (hg : w.grownBy w1 none) : Rd w1 b s i := ⟨h.row.kept hg, h.le⟩
theorem Rd.lt (h : Rd w b s i) : b < w.heap.size := h.row.lt
theorem Rd.set (h : Rd w b s i) {j : Nat} (hj : j ≤ s.size) {z : Int} (hz : z = (j : Int)) : Rd (w.setCell ⟨b, 1, none⟩ (.int .i64 z)) b s j := by
  subst hz; exact ⟨h.row.set 1 _, hj⟩
theorem gr_b (hg : w.grownBy w1 none) (b : Nat) : w.grownBy w1 (some b) := gr_trans hg (gr_rfl w1) (.inl rfl) (.inl rfl)
theorem gr_bb {w2 : World} (hg : w.grownBy w1 (some b)) (h2 : w1.grownBy w2 (some b)) : w.grownBy w2 (some b) := gr_trans hg h2 (.inr rfl) (.inr (.inl rfl))
end
set_option maxRecDepth 100000 in
theorem next_any (w : World) (b i : Nat) (s : ByteArray) (h : Rd w b s i) : Calls Tryd.prog 137 #[.pointer (some ⟨b, 0, none⟩)] w fun e w' => e = .returned (.int .u8 (nx (rest s i) : Int)) ∧ w.grownBy w' none := by
  have c0 := h.c0
  have c1 := h.c1
  have hle := h.le
  by_cases hi : i = s.size
  · subst hi
    have HN := Lib.hid (nx_end (s := s) rfl)
    clear h
    go_enter Tryd.func137, Tryd.ntmps137
    go_wp2
    go_quiet (fail)
    go_wp2
    go_ret
    exact ⟨by rw [HN.out]; rfl, gr_drewN _ _ _⟩
  · have hi2 : i < s.size := by omega
    have hi3 : (i : Int) < (s.size : Int) := by omega
    have hi4 : ((i : Int) == (s.size : Int)) = false := by rw [beq_eq_false_iff_ne]; omega
    have HN := Lib.hid (nx_rest hi2)
    clear h hi
    go_enter Tryd.func137, Tryd.ntmps137
    go_wp2
    go_quiet (fail)
    go_wp2
    go_quiet (fail)
    go_wp2
    go_ret
    exact ⟨by rw [HN.out]; rfl, gr_then (gr_drewN _ _ _) (gr_drewN _ _ _)⟩
/-- What the reader panics with. -/
abbrev faultV (i : Nat) (k : Int) : Value := .iface 77 (.agg #[.int .i64 (i : Int), .int .i64 k])
set_option maxRecDepth 100000 in
theorem refuse_any (w : World) (b i : Nat) (s : ByteArray) (h : Rd w b s i) : Calls Tryd.prog 130 #[.pointer (some ⟨b, 0, none⟩)] w fun e w' => e = .panicked [{ v := faultV i 12, recovered := false }] ∧ w.grownBy w' none := by
  have c1 := h.c1
  clear h
  go_enter Tryd.func130, Tryd.ntmps130
  go_wp2
  exact ⟨rfl, rfl, gr_rfl w⟩
set_option maxRecDepth 100000 in
theorem take_any (w : World) (b i c : Nat) (s : ByteArray) (h : Rd w b s i) (hs : s.size ≤ 1000000) (hc0 : 0 < c) : Calls Tryd.prog 128 #[.pointer (some ⟨b, 0, none⟩), .int .u8 (c : Int)] w fun e w' => e = .returned (.bool (decide (nx (rest s i) = c))) ∧ Rd w' b s (if nx (rest s i) = c then i + 1 else i) ∧ w.grownBy w' (some b) := by
  have HN := Lib.hid (next_any w b i s h)
  have HR := Lib.hid h
  have hle := h.le
  have hpos : nx (rest s i) = c → i + 1 ≤ s.size := fun e => by
    have := nx_pos (l := rest s i) (by omega)
    rw [rest_len] at this; omega
  have HP := Lib.hid hpos
  clear h hpos
  generalize nx (rest s i) = x at *
  by_cases hx : x = c
  · have h1 := HP.out hx
    subst hx
    go_enter Tryd.func128, Tryd.ntmps128
    go_wp2_with fail
    refine HN.out.mono ?_
    rintro e w1 ⟨rfl, g1⟩
    have HR1 := Lib.hid (HR.out.kept g1)
    have c1 := HR1.out.c1
    have f1 := HR1.out.f1
    have G1 := Lib.hid g1
    clear g1
    go_wp2
    go_ret
    exact ⟨rfl, HR1.out.set h1 rfl, gr_bb (gr_b G1.out b) (gr_set _ _ _ _)⟩
  · have hb : ((x : Int) == (c : Int)) = false := by rw [beq_eq_false_iff_ne]; omega
    have HX := Lib.hid hx
    clear hx
    go_enter Tryd.func128, Tryd.ntmps128
    go_wp2_with fail
    refine HN.out.mono ?_
    rintro e w1 ⟨rfl, g1⟩
    have HR1 := Lib.hid (HR.out.kept g1)
    have G1 := Lib.hid g1
    clear g1
    go_wp2
    go_ret
    exact ⟨rfl, HR1.out, gr_b G1.out b⟩
theorem ext_rest (s : ByteArray) (i : Nat) : (s.extract i s.size).data.toList = rest s i := by
  unfold rest
  rw [ByteArray.data_extract]
  simp only [Array.toList_extract, List.extract]
  exact List.take_of_length_le (by rw [List.length_drop]; show s.data.size - i ≤ s.size - i; exact Nat.le_refl _)
theorem cor_t {t : ByteArray} (h : 2 ≤ t.size) : corL t.data.toList = if t[0].toNat = 92 then letD t[1].toNat else 0 := by
  have e : t.data.toList = t[0] :: t[1] :: t.data.toList.drop 2 := by
    rw [← List.drop_zero (l := t.data.toList), List.drop_eq_getElem_cons (show 0 < t.data.toList.length by show 0 < t.size; omega), List.drop_eq_getElem_cons (show 0 + 1 < t.data.toList.length by show 0 + 1 < t.size; omega)]
    rfl
  unfold corL
  rw [e]
  simp [nx]
theorem cor_ub {l : List UInt8} : corL l ≤ 7 := by
  unfold corL letD
  repeat' split
  all_goals omega
set_option maxRecDepth 100000 in
theorem cor_any (w : World) (b i : Nat) (s : ByteArray) (h : Rd w b s i) (_ : s.size ≤ 1000000) : Calls Tryd.prog 110 #[.pointer (some ⟨b, 0, none⟩)] w fun e w' => e = .returned (.int .i64 (corL (rest s i) : Int)) ∧ ∃ m, w' = w.drewN m := by
  have c0 := h.c0
  have c1 := h.c1
  have hle := h.le
  clear h
  by_cases h2 : s.size - i < 2
  · have HX := Lib.hid (show corL (rest s i) = 0 from by unfold corL; rw [if_neg (by rw [rest_len]; omega)])
    have hl : ((s.extract i s.size).size : Int) < 2 := by rw [ByteArray.size_extract]; omega
    go_enter Tryd.func110, Tryd.ntmps110
    go_wp2
    go_quiet (fail)
    go_wp2
    go_ret
    exact ⟨by rw [HX.out]; rfl, _, rfl⟩
  · obtain ⟨t, ht⟩ : ∃ t, s.extract i s.size = t := ⟨_, rfl⟩
    have htl : rest s i = t.data.toList := by rw [← ht, ext_rest]
    have hts : t.size = s.size - i := by rw [← ht, ByteArray.size_extract]; omega
    have ht2 : 2 ≤ t.size := by omega
    have hl : ¬ ((t.size : Nat) : Int) < 2 := by omega
    rw [htl]
    have HT := Lib.hid (cor_t ht2)
    obtain ⟨c, hc⟩ : ∃ c, t[1].toNat = c := ⟨_, rfl⟩
    have hc255 : c ≤ 255 := by have := t[1].toNat_lt; omega
    obtain ⟨z, hz⟩ : ∃ z, Lib.indexByte [100, 117, 108, 97, 115, 111, 46] (UInt8.ofNat c) = z := ⟨_, rfl⟩
    have hz1 : z + 1 = (letD c : Int) := by rw [← hz]; exact let_index c hc255
    have HIX := Lib.hid (fun w => show Calls Tryd.prog 126 #[.string ⟨#[100, 117, 108, 97, 115, 111, 46]⟩, .int .u8 (c : Int)] w fun e w' => e = .returned (.int .i64 z) ∧ w = w' from
      (Tryd.strings_IndexByte ⟨#[100, 117, 108, 97, 115, 111, 46]⟩ c w).mono fun e w' h => ⟨by rw [h.1, ← hz]; rfl, h.2.symm⟩)
    have hzb : z ≤ 6 ∧ -1 ≤ z := by
      have h7 : letD c ≤ 7 := by unfold letD; repeat' split
                                 all_goals omega
      omega
    have HTL := Lib.hid htl
    have HZ1 := Lib.hid hz1
    have ht0 : 0 < t.size := by omega
    have ht1 : 1 < t.size := by omega
    have ht0i : (0 : Int) < (t.size : Int) := by omega
    have ht1i : (1 : Int) < (t.size : Int) := by omega
    rw [hc] at HT
    clear htl hz hz1 h2 hts
    by_cases h92 : t[0].toNat = 92
    · have HX := Lib.hid (show corL t.data.toList = letD c from by rw [HT.out, if_pos h92])
      have hb : ((t[0].toNat : Int) == 92) = true := by rw [h92]; rfl
      clear HT
      go_enter Tryd.func110, Tryd.ntmps110
      go_wp2
      go_quiet (fail)
      go_wp2_with fail
      refine (HIX.out _).mono ?_
      rintro e w1 ⟨rfl, rfl⟩
      go_wp2
      go_ret
      exact ⟨by rw [HX.out, ← HZ1.out]; rfl, _, rfl⟩
    · have HX := Lib.hid (show corL t.data.toList = 0 from by rw [HT.out, if_neg h92])
      have hb : ((t[0].toNat : Int) == 92) = false := by rw [beq_eq_false_iff_ne]; omega
      have hb2 : ((t[0].toNat : Int) != 92) = true := by unfold bne; rw [hb]; rfl
      have hl2 : decide ((t.size : Int) < 2) = false := decide_eq_false hl
      clear hl
      clear HT
      go_enter Tryd.func110, Tryd.ntmps110
      go_wp2
      go_quiet (fail)
      go_wp2
      go_ret
      exact ⟨by rw [HX.out]; rfl, _, rfl⟩
end Go.Proofs.YtaejnklgnegkhaaDoor
namespace Go.Proofs.YtaejnklgnegkhaaDoor
open Go.RowKit Pt

/-- What a method of the reader gives. -/
def Got {α : Type} (val : α → Value) (b : Nat) (s : ByteArray) (w : World) (r : PR α) (e : Ending) (w' : World) : Prop := match r with
  | .ok a l => e = .returned (val a) ∧ (∃ j, Rd w' b s j ∧ rest s j = l) ∧ w.grownBy w' (some b)
  | .bad rem k => e = .panicked [{ v := faultV (s.size - rem) k, recovered := false }] ∧ w.grownBy w' (some b)
theorem Rd.step {w : World} {b i : Nat} {s : ByteArray} (h : Rd w b s i) (hj : i + 1 ≤ s.size) {z : Int} (hz : z = (i : Int) + 1) : Rd (w.setCell ⟨b, 1, none⟩ (.int .i64 z)) b s (i + 1) := h.set hj (by subst hz; rfl)
theorem cls_pos {x : Nat} (h : clsD x ≠ 0) : 0 < x := by
  rcases Nat.eq_zero_or_pos x with rfl | h1
  · exact absurd (by decide) h
  · exact h1
theorem chr_at (s : ByteArray) (i j : Nat) (E : Bool) (hE : decide (nx (rest s i) = 92) = E) (hj : (if nx (rest s i) = 92 then i + 1 else i) = j) :
    chrL (rest s i) = if clsD (nx (rest s j)) = 0 ∨ specD (nx (rest s j)) ≠ E then .bad (s.size - j) 12 else .ok (nx (rest s j)) (rest s (j + 1)) := by
  unfold chrL
  simp only [hE]
  have e : (if E = true then (rest s i).tail else rest s i) = rest s j := by
    rw [← hE, ← hj]
    by_cases h : nx (rest s i) = 92
    · rw [if_pos (decide_eq_true h), if_pos h, rest_tail]
    · rw [if_neg (by rw [decide_eq_false h]; simp), if_neg h]
  rw [e, rest_len, rest_tail]
set_option maxRecDepth 100000 in
set_option maxHeartbeats 2000000 in
theorem chr_any (w : World) (b i : Nat) (s : ByteArray) (h : Rd w b s i) (hs : s.size ≤ 1000000) : Calls Tryd.prog 127 #[.pointer (some ⟨b, 0, none⟩)] w fun e w' => Got (fun c : Nat => .int .u8 (c : Int)) b s w (chrL (rest s i)) e w' := by
  obtain ⟨E, hE⟩ : ∃ E, decide (nx (rest s i) = 92) = E := ⟨_, rfl⟩
  obtain ⟨j, hj⟩ : ∃ j, (if nx (rest s i) = 92 then i + 1 else i) = j := ⟨_, rfl⟩
  have HC := Lib.hid (chr_at s i j E hE hj)
  have HT := take_any w b i 92 s h hs (by decide)
  rw [hE, hj] at HT
  have HTT := Lib.hid HT
  clear HT hE hj h
  rw [HC.out]
  obtain ⟨x, hx⟩ : ∃ x, nx (rest s j) = x := ⟨_, rfl⟩
  have hx255 : x ≤ 255 := by rw [← hx]; exact nx_le _
  have HX := Lib.hid hx
  rw [hx]
  clear hx HC
  have HCL := Lib.hid (fun w => class_any x w hx255)
  have HSP := Lib.hid (fun w => pspec_any x w hx255)
  by_cases h0 : clsD x = 0
  · rw [if_pos (.inl h0)]
    unfold Got
    rw [h0] at HCL
    clear h0
    go_enter Tryd.func127, Tryd.ntmps127
    go_wp2_with fail
    refine HTT.out.mono ?_
    rintro e w1 ⟨rfl, hr1, g1⟩
    have HN := Lib.hid (next_any w1 b j s hr1)
    rw [HX.out] at HN
    have HR1 := Lib.hid hr1
    have G1 := Lib.hid g1
    clear hr1 g1
    go_wp2_with fail
    refine HN.out.mono ?_
    rintro e w2 ⟨rfl, g2⟩
    have HRF := Lib.hid (refuse_any w2 b j s (HR1.out.kept g2))
    have hle := HR1.out.le
    have G2 := Lib.hid (gr_bb G1.out (gr_b g2 b))
    clear g2
    go_wp2_with fail
    refine (HCL.out w2).mono ?_
    rintro e w3 ⟨rfl, rfl⟩
    go_wp2_with fail
    refine HRF.out.mono ?_
    rintro e w4 ⟨rfl, g4⟩
    exact ⟨rfl, by rw [show s.size - (s.size - j) = j from by omega], gr_bb G2.out (gr_b g4 b)⟩
  · have hcb : ((clsD x : Int) == 0) = false := by rw [beq_eq_false_iff_ne]; omega
    have hpos := cls_pos h0
    have HPOS := Lib.hid hpos
    have H0 := Lib.hid h0
    by_cases hS : specD x = E
    · rw [if_neg (by simp [h0, hS])]
      rw [hS] at HSP
      unfold Got
      clear h0 hS
      generalize clsD x = cx at *
      go_enter Tryd.func127, Tryd.ntmps127
      go_wp2_with fail
      refine HTT.out.mono ?_
      rintro e w1 ⟨rfl, hr1, g1⟩
      have HN := Lib.hid (next_any w1 b j s hr1)
      have HJ := Lib.hid (show j + 1 ≤ s.size from by
        have := nx_pos (l := rest s j) (by rw [HX.out]; exact HPOS.out)
        rw [rest_len] at this; omega)
      rw [HX.out] at HN
      have HR1 := Lib.hid hr1
      have G1 := Lib.hid g1
      clear hr1 g1 hpos
      go_wp2_with fail
      refine HN.out.mono ?_
      rintro e w2 ⟨rfl, g2⟩
      have HR2 := Lib.hid (HR1.out.kept g2)
      have hle := HR1.out.le
      have G2 := Lib.hid (gr_bb G1.out (gr_b g2 b))
      clear g2
      go_wp2_with fail
      refine (HCL.out w2).mono ?_
      rintro e w3 ⟨rfl, rfl⟩
      go_wp2_with fail
      refine (HSP.out w2).mono ?_
      rintro e w3 ⟨rfl, rfl⟩
      have c1 := HR2.out.c1
      have f1 := HR2.out.f1
      have hbe : (E != E) = false := by simp
      go_wp2
      go_ret
      exact ⟨rfl, ⟨j + 1, HR2.out.step HJ.out rfl, rfl⟩, gr_bb G2.out (gr_set _ _ _ _)⟩
    · rw [if_pos (.inr hS)]
      have hbe : (specD x == E) = false := by rw [beq_eq_false_iff_ne]; exact hS
      generalize specD x = S at *
      unfold Got
      clear h0 hS
      generalize clsD x = cx at *
      go_enter Tryd.func127, Tryd.ntmps127
      go_wp2_with fail
      refine HTT.out.mono ?_
      rintro e w1 ⟨rfl, hr1, g1⟩
      have HN := Lib.hid (next_any w1 b j s hr1)
      rw [HX.out] at HN
      have HR1 := Lib.hid hr1
      have G1 := Lib.hid g1
      clear hr1 g1 hpos
      go_wp2_with fail
      refine HN.out.mono ?_
      rintro e w2 ⟨rfl, g2⟩
      have HRF := Lib.hid (refuse_any w2 b j s (HR1.out.kept g2))
      have hle := HR1.out.le
      have G2 := Lib.hid (gr_bb G1.out (gr_b g2 b))
      clear g2
      go_wp2_with fail
      refine (HCL.out w2).mono ?_
      rintro e w3 ⟨rfl, rfl⟩
      go_wp2_with fail
      refine (HSP.out w2).mono ?_
      rintro e w3 ⟨rfl, rfl⟩
      go_wp2_with fail
      refine HRF.out.mono ?_
      rintro e w4 ⟨rfl, g4⟩
      exact ⟨rfl, by rw [show s.size - (s.size - j) = j from by omega], gr_bb G2.out (gr_b g4 b)⟩
end Go.Proofs.YtaejnklgnegkhaaDoor
namespace Go.Proofs.YtaejnklgnegkhaaDoor
open Go.RowKit Pt

theorem digs_yes {n : Nat} {l : List UInt8} (h : clsD (nx l) = 1) : digs n l = digs (min (10 * n + (nx l - 48)) 201) l.tail := by
  cases l with
  | nil => exact absurd h (by decide)
  | cons c l =>
    show (if clsD c.toNat = 1 then _ else _) = _
    rw [if_pos (show clsD c.toNat = 1 from h)]
    rfl
theorem digs_no {n : Nat} {l : List UInt8} (h : clsD (nx l) ≠ 1) : digs n l = (n, l) := by
  cases l with
  | nil => rfl
  | cons c l =>
    show (if clsD c.toNat = 1 then _ else _) = _
    rw [if_neg (show ¬ clsD c.toNat = 1 from h)]
theorem cls_one {c : Nat} (h : clsD c = 1) : 48 ≤ c ∧ c ≤ 57 := by
  unfold clsD at h
  repeat' split at h
  all_goals (try omega)
theorem one_cls {c : Nat} (h : 48 ≤ c ∧ c ≤ 57) : clsD c = 1 := by
  unfold clsD
  rw [if_neg (by omega), if_pos (by omega)]
/-- Where a reader stands. -/
def atOf (w : World) (b : Nat) : Nat := (intOf ((w.cell? ⟨b, 1, none⟩).getD undef)).toNat
theorem Rd.at_ {w : World} {b j : Nat} {s : ByteArray} (h : Rd w b s j) : atOf w b = j := by unfold atOf; rw [h.c1]; rfl
theorem nx_lt {s : ByteArray} {j : Nat} (h : 0 < nx (rest s j)) : j + 1 ≤ s.size := by
  have := nx_pos h
  rw [rest_len] at this; omega
set_option maxRecDepth 100000 in
set_option maxHeartbeats 2000000 in
theorem num_any (w : World) (b i : Nat) (s : ByteArray) (h : Rd w b s i) (hs : s.size ≤ 1000000) : Calls Tryd.prog 129 #[.pointer (some ⟨b, 0, none⟩)] w fun e w' => Got (fun c : Nat => .int .i64 (c : Int)) b s w (numL (rest s i)) e w' := by
  obtain ⟨x, hx⟩ : ∃ x, nx (rest s i) = x := ⟨_, rfl⟩
  have hx255 : x ≤ 255 := by rw [← hx]; exact nx_le _
  have HN := Lib.hid (next_any w b i s h)
  rw [hx] at HN
  have HX := Lib.hid hx
  have HR := Lib.hid h
  have HCL := Lib.hid (fun w => class_any x w hx255)
  have hle := h.le
  clear h
  by_cases h1 : clsD x = 1
  · have hr := cls_one h1
    have HJ := Lib.hid (show i + 1 ≤ s.size from nx_lt (by rw [hx]; omega))
    rw [h1] at HCL
    obtain ⟨d, hd⟩ : ∃ d, x = 48 + d := ⟨x - 48, by omega⟩
    have hd1 : (x : Int) - 48 = (d : Int) := by omega
    have hd9 : d ≤ 9 := by omega
    have HH := Lib.hid h1
    have HD := Lib.hid hd
    have hx1 : (48 : Int) ≤ (x : Int) := by omega
    have hx2 : (x : Int) ≤ 57 := by omega
    clear h1 hx hd
    go_enter Tryd.func129, Tryd.ntmps129
    go_wp2_with fail
    refine HN.out.mono ?_
    rintro e w1 ⟨rfl, g1⟩
    have HR1 := Lib.hid (HR.out.kept g1)
    have c1 := HR1.out.c1
    have f1 := HR1.out.f1
    have G1 := Lib.hid (gr_b g1 b)
    clear g1
    go_wp2_with fail
    refine (HCL.out w1).mono ?_
    rintro e w3 ⟨rfl, rfl⟩
    by_cases h48 : x = 48
    · have HG := Lib.hid (show numL (rest s i) = .ok 0 (rest s (i + 1)) from by unfold numL; rw [HX.out, if_neg (by rw [HH.out]; simp), if_pos h48, rest_tail])
      obtain rfl : d = 0 := by omega
      have hb0 : ((x : Int) == 48) = true := by rw [h48]; rfl
      have hb1 : ((x : Int) != 48) = false := by rw [h48]; rfl
      have HR2 := Lib.hid (HR1.out.step HJ.out rfl)
      have G2 := Lib.hid (gr_bb G1.out (gr_set w1 b 1 (.int .i64 ((i : Int) + 1))))
      clear h48 HX HH HCL HN
      go_wp2_with fail
      go_loopw [4] (fun v wr => v = .int .i64 0 ∧ w1.setCell ⟨b, 1, none⟩ (.int .i64 ((i : Int) + 1)) = wr) (fun _ _ => 0)
      case atStart => exact ⟨rfl, rfl⟩
      case round =>
        obtain ⟨rfl, rfl⟩ := hrel
        go_wp2
        go_ret
        rw [HG.out]
        exact ⟨rfl, ⟨i + 1, HR2.out, rfl⟩, G2.out⟩
    · have HG := Lib.hid (show numL (rest s i) = .ok (digs d (rest s (i + 1))).1 (digs d (rest s (i + 1))).2 from by
        unfold numL; rw [HX.out, if_neg (by rw [HH.out]; simp), if_neg h48, rest_tail, HD.out, show 48 + d - 48 = d from by omega])
      have hb0 : ((x : Int) == 48) = false := by rw [beq_eq_false_iff_ne]; omega
      have hb1 : ((x : Int) != 48) = true := by unfold bne; rw [hb0]; rfl
      obtain ⟨T, hT⟩ : ∃ T, digs d (rest s (i + 1)) = T := ⟨_, rfl⟩
      have HT := Lib.hid hT
      rw [hT] at HG
      have HR2 := Lib.hid (HR1.out.step HJ.out rfl)
      have G2 := Lib.hid (gr_bb G1.out (gr_set w1 b 1 (.int .i64 ((i : Int) + 1))))
      clear h48 HX HH HCL HN hT hr HD
      go_wp2_with fail
      clear hd1 hx1 hx2
      go_loopw [4] (fun v wr => ∃ n j : Nat, v = .int .i64 (n : Int) ∧ n ≤ 201 ∧ j ≤ s.size ∧ Hid (digs n (rest s j) = T) ∧ Hid (Rd wr b s j) ∧ Hid (w.grownBy wr (some b))) (fun _ wr => s.size - atOf wr b)
      case atStart => exact ⟨d, i + 1, rfl, by omega, HJ.out, HT, HR2, G2⟩
      case round =>
        obtain ⟨n, j, rfl, hn, hj, HDG, HRj, Gj⟩ := hrel
        obtain ⟨y, hy⟩ : ∃ y, nx (rest s j) = y := ⟨_, rfl⟩
        have hy255 : y ≤ 255 := by rw [← hy]; exact nx_le _
        have HNJ := Lib.hid (fun (w2 : World) (g : wr.grownBy w2 none) => next_any w2 b j s (HRj.out.kept g))
        rw [hy] at HNJ
        have HYC := Lib.hid (fun w => class_any y w hy255)
        have N1 := Lib.hid (HNJ.out wr (gr_rfl wr))
        go_wp2_with fail
        refine N1.out.mono ?_
        rintro e w2 ⟨rfl, g2⟩
        have G3 := Lib.hid g2
        clear g2
        go_wp2_with fail
        refine (HYC.out w2).mono ?_
        rintro e w3 ⟨rfl, rfl⟩
        by_cases hc1 : clsD y = 1
        · have hyr := cls_one hc1
          obtain ⟨d2, hd2⟩ : ∃ d2, y = 48 + d2 := ⟨y - 48, by omega⟩
          have hy1 : (y : Int) - 48 = (d2 : Int) := by omega
          have hd29 : d2 ≤ 9 := by omega
          have HJJ := Lib.hid (show j + 1 ≤ s.size from nx_lt (by rw [hy]; omega))
          have HNX := Lib.hid (show digs (min (10 * n + d2) 201) (rest s (j + 1)) = T from by
            have e := digs_yes (n := n) (l := rest s j) (by rw [hy]; exact hc1)
            rw [hy, rest_tail, hd2, show 48 + d2 - 48 = d2 from by omega] at e
            rw [← HDG.out, e])
          have hcc : ((clsD y : Int) == 1) = true := by rw [hc1]; rfl
          have HY2 := Lib.hid (And.intro hd2 (And.intro hc1 hy))
          have N2 := Lib.hid (HNJ.out w2 G3.out)
          generalize clsD y = cy at *
          clear hc1 hd2 hyr hy
          go_wp2_with fail
          refine N2.out.mono ?_
          rintro e w3 ⟨rfl, g3⟩
          have HR3 := Lib.hid (HRj.out.kept (gr_then G3.out g3))
          have G4 := Lib.hid (gr_bb Gj.out (gr_b (gr_then G3.out g3) b))
          have c3 := HR3.out.c1
          have f3 := HR3.out.f1
          clear g3
          go_wp2_with fail
          have HR4 := Lib.hid (HR3.out.step HJJ.out rfl)
          refine ⟨⟨min (10 * n + d2) 201, j + 1, by first | rfl | (congr 1; omega), by omega, HJJ.out, HNX, HR4, Lib.hid (gr_bb G4.out (gr_set _ _ _ _))⟩, ?_⟩
          rw [HR4.out.at_, HRj.out.at_]
          have := HJJ.out
          omega
        · have hcc : ((clsD y : Int) == 1) = false := by rw [beq_eq_false_iff_ne]; omega
          have HNX := Lib.hid (show T = (n, rest s j) from by rw [← HDG.out, digs_no (by rw [hy]; exact hc1)])
          generalize clsD y = cy at *
          clear hc1 hy
          go_wp2
          go_ret
          rw [HG.out]
          exact ⟨by rw [HNX.out]; rfl, ⟨j, HRj.out.kept G3.out, by rw [HNX.out]⟩, gr_bb Gj.out (gr_b G3.out b)⟩
  · have hcb : ((clsD x : Int) == 1) = false := by rw [beq_eq_false_iff_ne]; omega
    have HG := Lib.hid (show numL (rest s i) = .bad (s.size - i) 12 from by unfold numL; rw [HX.out, if_pos h1, rest_len])
    rw [HG.out]
    clear h1 hx HG
    unfold Got
    generalize clsD x = cx at *
    go_enter Tryd.func129, Tryd.ntmps129
    go_wp2_with fail
    refine HN.out.mono ?_
    rintro e w1 ⟨rfl, g1⟩
    have HRF := Lib.hid (refuse_any w1 b i s (HR.out.kept g1))
    have G1 := Lib.hid (gr_b g1 b)
    clear g1
    go_wp2_with fail
    refine (HCL.out w1).mono ?_
    rintro e w3 ⟨rfl, rfl⟩
    go_wp2_with fail
    refine HRF.out.mono ?_
    rintro e w4 ⟨rfl, g4⟩
    exact ⟨rfl, by rw [show s.size - (s.size - i) = i from by omega], gr_bb G1.out (gr_b g4 b)⟩
end Go.Proofs.YtaejnklgnegkhaaDoor
namespace Go.Proofs.YtaejnklgnegkhaaDoor
open Go.RowKit Pt

theorem got_bad {α : Type} {val : α → Value} {b : Nat} {s : ByteArray} {w w' : World} {r : PR α} {e : Ending} {rem : Nat} {k : Int} (hr : r = .bad rem k) (he : e = .panicked [{ v := faultV (s.size - rem) k, recovered := false }]) (hg : w.grownBy w' (some b)) : Got val b s w r e w' := by
  subst hr; exact ⟨he, hg⟩
/-- What count gives behind both numbers. -/
def endL (m1 m2 : Nat) (i : Nat) (s : ByteArray) (l2 : List UInt8) : PR (Nat × Nat) := if nx l2 ≠ 125 then .bad l2.length 12 else if m2 < m1 ∨ m2 = 0 ∨ 200 < m2 then .bad (s.size - i) 3 else .ok (m1, m2) l2.tail
theorem end_go (m1 m2 i j2 : Nat) (s : ByteArray) {r : PR (Nat × Nat)} (h : r = endL m1 m2 i s (rest s j2)) :
    (nx (rest s j2) = 125 → m2 < m1 ∨ m2 = 0 ∨ 200 < m2 → r = .bad (s.size - i) 3) ∧ (nx (rest s j2) = 125 → ¬ (m2 < m1 ∨ m2 = 0 ∨ 200 < m2) → r = .ok (m1, m2) (rest s (j2 + 1))) ∧ (nx (rest s j2) ≠ 125 → r = .bad (s.size - j2) 12) := by
  subst h
  unfold endL
  refine ⟨fun a b => ?_, fun a b => ?_, fun a => ?_⟩
  · rw [if_neg (by simp [a]), if_pos b]
  · rw [if_neg (by simp [a]), if_neg b, rest_tail]
  · rw [if_pos a, rest_len]
theorem cnt_bad {s : ByteArray} {i r : Nat} {k : Int} (h1 : nx (rest s i) = 123) (h2 : numL (rest s (i + 1)) = .bad r k) : cnumL (rest s i) = .bad r k := by
  unfold cnumL
  rw [if_neg (by omega), if_neg (by omega), if_neg (by omega), rest_tail, h2]
theorem cnt_bad2 {s : ByteArray} {i r a : Nat} {k : Int} {l1 : List UInt8} (h1 : nx (rest s i) = 123) (h2 : numL (rest s (i + 1)) = .ok a l1) (h3 : sndL a l1 = .bad r k) : cnumL (rest s i) = .bad r k := by
  unfold cnumL
  rw [if_neg (by omega), if_neg (by omega), if_neg (by omega), rest_tail, h2]
  show (match sndL a l1 with | .bad r k => PR.bad r k | .ok b l2 => _) = _
  rw [h3]
theorem cnt_end {s : ByteArray} {i a m : Nat} {l1 l2 : List UInt8} (h1 : nx (rest s i) = 123) (h2 : numL (rest s (i + 1)) = .ok a l1) (h3 : sndL a l1 = .ok m l2) : cnumL (rest s i) = endL a m i s l2 := by
  unfold cnumL
  rw [if_neg (by omega), if_neg (by omega), if_neg (by omega), rest_tail, h2]
  show (match sndL a l1 with | .bad r k => PR.bad r k | .ok b l2 => _) = _
  rw [h3, rest_len]
  rfl
set_option maxRecDepth 100000 in
set_option maxHeartbeats 4000000 in
theorem cnt_any (w : World) (b i : Nat) (s : ByteArray) (h : Rd w b s i) (hs : s.size ≤ 1000000) : Calls Tryd.prog 112 #[.pointer (some ⟨b, 0, none⟩)] w fun e w' => Got (fun c : Nat × Nat => .tuple #[.int .i64 (c.1 : Int), .int .i64 (c.2 : Int)]) b s w (cnumL (rest s i)) e w' := by
  obtain ⟨x, hx⟩ : ∃ x, nx (rest s i) = x := ⟨_, rfl⟩
  have HX := Lib.hid hx
  have HR := Lib.hid h
  have hle := h.le
  have c1 := h.c1
  have HT1 := take_any w b i 43 s h hs (by decide)
  rw [hx] at HT1
  clear h hx
  by_cases h43 : x = 43
  · have HG := Lib.hid (show cnumL (rest s i) = .ok (1, 200) (rest s (i + 1)) from by unfold cnumL; rw [HX.out, if_pos h43, rest_tail])
    rw [decide_eq_true h43, if_pos h43] at HT1
    have HT := Lib.hid HT1
    clear HT1 h43
    go_enter Tryd.func112, Tryd.ntmps112
    go_wp2_with fail
    refine HT.out.mono ?_
    rintro e w1 ⟨rfl, hr1, g1⟩
    have HR1 := Lib.hid hr1
    have G1 := Lib.hid g1
    clear hr1 g1
    go_wp2
    go_ret2
    rw [HG.out]
    exact ⟨rfl, ⟨i + 1, HR1.out, rfl⟩, G1.out⟩
  rw [decide_eq_false h43, if_neg h43] at HT1
  have HT := Lib.hid HT1
  have H43 := Lib.hid h43
  have HT2 := Lib.hid (fun (w1 : World) (hr : Rd w1 b s i) => take_any w1 b i 42 s hr hs (by decide))
  have HT3 := Lib.hid (fun (w1 : World) (hr : Rd w1 b s i) => take_any w1 b i 123 s hr hs (by decide))
  rw [HX.out] at HT2 HT3
  clear HT1 h43
  by_cases h42 : x = 42
  · have HG := Lib.hid (show cnumL (rest s i) = .ok (0, 200) (rest s (i + 1)) from by unfold cnumL; rw [HX.out, if_neg H43.out, if_pos h42, rest_tail])
    rw [decide_eq_true h42, if_pos h42] at HT2
    clear h42
    go_enter Tryd.func112, Tryd.ntmps112
    go_wp2_with fail
    refine HT.out.mono ?_
    rintro e w1 ⟨rfl, hr1, g1⟩
    have K2 := Lib.hid (HT2.out w1 hr1)
    have G1 := Lib.hid g1
    clear hr1 g1
    go_wp2_with fail
    refine K2.out.mono ?_
    rintro e w2 ⟨rfl, hr2, g2⟩
    have HR2 := Lib.hid hr2
    have G2 := Lib.hid (gr_bb G1.out g2)
    clear hr2 g2
    go_wp2
    go_ret2
    rw [HG.out]
    exact ⟨rfl, ⟨i + 1, HR2.out, rfl⟩, G2.out⟩
  rw [decide_eq_false h42, if_neg h42] at HT2
  have H42 := Lib.hid h42
  clear h42
  by_cases h123 : x = 123
  case neg =>
    have HG := Lib.hid (show cnumL (rest s i) = .ok (1, 1) (rest s i) from by unfold cnumL; rw [HX.out, if_neg H43.out, if_neg H42.out, if_pos h123])
    rw [decide_eq_false h123, if_neg h123] at HT3
    clear h123
    go_enter Tryd.func112, Tryd.ntmps112
    go_wp2_with fail
    refine HT.out.mono ?_
    rintro e w1 ⟨rfl, hr1, g1⟩
    have K2 := Lib.hid (HT2.out w1 hr1)
    have G1 := Lib.hid g1
    clear hr1 g1
    go_wp2_with fail
    refine K2.out.mono ?_
    rintro e w2 ⟨rfl, hr2, g2⟩
    have K3 := Lib.hid (HT3.out w2 hr2)
    have G2 := Lib.hid (gr_bb G1.out g2)
    clear hr2 g2
    go_wp2_with fail
    refine K3.out.mono ?_
    rintro e w3 ⟨rfl, hr3, g3⟩
    have HR3 := Lib.hid hr3
    have G3 := Lib.hid (gr_bb G2.out g3)
    clear hr3 g3
    go_wp2
    go_ret2
    rw [HG.out]
    exact ⟨rfl, ⟨i, HR3.out, rfl⟩, G3.out⟩
  have H123 := Lib.hid (HX.out.trans h123)
  rw [decide_eq_true h123, if_pos h123] at HT3
  clear h123
  have HNUM := Lib.hid (fun (w1 : World) (hr : Rd w1 b s (i + 1)) => num_any w1 b (i + 1) s hr hs)
  go_enter Tryd.func112, Tryd.ntmps112
  go_wp2_with fail
  refine HT.out.mono ?_
  rintro e w1 ⟨rfl, hr1, g1⟩
  have K2 := Lib.hid (HT2.out w1 hr1)
  have G1 := Lib.hid g1
  clear hr1 g1
  go_wp2_with fail
  refine K2.out.mono ?_
  rintro e w2 ⟨rfl, hr2, g2⟩
  have K3 := Lib.hid (HT3.out w2 hr2)
  have G2 := Lib.hid (gr_bb G1.out g2)
  clear hr2 g2
  go_wp2_with fail
  refine K3.out.mono ?_
  rintro e w3 ⟨rfl, hr3, g3⟩
  have K4 := HNUM.out w3 hr3
  have G3 := Lib.hid (gr_bb G2.out g3)
  clear hr3 g3 HNUM K2 K3 HT HT2 HT3
  cases hn1 : numL (rest s (i + 1)) with
  | bad r k =>
    rw [hn1] at K4
    unfold Got at K4
    have K5 := Lib.hid K4
    have HG := Lib.hid (cnt_bad H123.out hn1)
    clear K4 hn1
    go_wp2_with fail
    refine K5.out.mono ?_
    rintro e w4 ⟨rfl, g4⟩
    exact ⟨rfl, got_bad HG.out rfl (gr_bb G3.out g4)⟩
  | ok m1 l1 =>
    rw [hn1] at K4
    unfold Got at K4
    have K5 := Lib.hid K4
    have HN1 := Lib.hid hn1
    clear K4 hn1
    go_wp2_with fail
    refine K5.out.mono ?_
    rintro e w4 ⟨rfl, ⟨j1, hr4, rfl⟩, g4⟩
    have HR4 := Lib.hid hr4
    have G4 := Lib.hid (gr_bb G3.out g4)
    clear hr4 g4
    obtain ⟨y, hy⟩ : ∃ y, nx (rest s j1) = y := ⟨_, rfl⟩
    have HTK := take_any w4 b j1 44 s HR4.out hs (by decide)
    rw [hy] at HTK
    by_cases h44 : y = 44
    · rw [decide_eq_true h44, if_pos h44] at HTK
      have HTK2 := Lib.hid HTK
      have HNUM := Lib.hid (fun (w1 : World) (hr : Rd w1 b s (j1 + 1)) => num_any w1 b (j1 + 1) s hr hs)
      have HSN := Lib.hid (show sndL m1 (rest s j1) = numL (rest s (j1 + 1)) from by unfold sndL; rw [hy, if_pos h44, rest_tail])
      clear HTK hy h44
      go_wp2_with fail
      refine HTK2.out.mono ?_
      rintro e w5 ⟨rfl, hr5, g5⟩
      have K6 := HNUM.out w5 hr5
      have G5 := Lib.hid (gr_bb G4.out g5)
      clear hr5 g5 HNUM HTK2
      cases hn2 : numL (rest s (j1 + 1)) with
      | bad r k =>
        rw [hn2] at K6
        unfold Got at K6
        have K7 := Lib.hid K6
        have HG := Lib.hid (cnt_bad2 H123.out HN1.out (HSN.out.trans hn2))
        clear K6 hn2
        go_wp2_with fail
        refine K7.out.mono ?_
        rintro e w6 ⟨rfl, g6⟩
        exact ⟨rfl, got_bad HG.out rfl (gr_bb G5.out g6)⟩
      | ok m2 l2 =>
        rw [hn2] at K6
        unfold Got at K6
        have K7 := Lib.hid K6
        have HEND := Lib.hid (cnt_end H123.out HN1.out (HSN.out.trans hn2))
        clear K6 hn2
        go_wp2_with fail
        refine K7.out.mono ?_
        rintro e wz ⟨rfl, ⟨j2, hrz, rfl⟩, gz⟩
        have HRZ := Lib.hid hrz
        have GZ := Lib.hid (gr_bb G5.out gz)
        have HGO := Lib.hid (end_go m1 m2 i j2 s HEND.out)
        clear hrz gz

        -- the closing brace: the reader stands at j2 in world wz, GZ: w.grownBy wz (some b)
        obtain ⟨z, hz⟩ : ∃ z, nx (rest s j2) = z := ⟨_, rfl⟩
        have HTK := take_any wz b j2 125 s HRZ.out hs (by decide)
        rw [hz] at HTK
        by_cases h125 : z = 125
        · rw [decide_eq_true h125, if_pos h125] at HTK
          have HTK2 := Lib.hid HTK
          have HZ := Lib.hid (hz.trans h125)
          clear HTK hz h125
          go_wp2_with fail
          refine HTK2.out.mono ?_
          rintro e wy ⟨rfl, hry, gy⟩
          have HRY := Lib.hid hry
          have GY := Lib.hid (gr_bb GZ.out gy)
          clear hry gy
          by_cases k1 : m2 < m1
          · have HG := Lib.hid (HGO.out.1 HZ.out (.inl k1))
            have k1i : (m2 : Int) < (m1 : Int) := by omega
            clear k1
            go_wp2
            exact ⟨rfl, got_bad HG.out (by rw [show s.size - (s.size - i) = i from by omega]) GY.out⟩
          · have k1i : decide ((m2 : Int) < (m1 : Int)) = false := decide_eq_false (by omega)
            have k1n : decide (m2 < m1) = false := decide_eq_false k1
            have K1 := Lib.hid k1
            clear k1
            by_cases k2 : m2 = 0
            · have HG := Lib.hid (HGO.out.1 HZ.out (.inr (.inl k2)))
              have k2i : ((m2 : Int) == 0) = true := by rw [k2]; rfl
              clear k2
              go_wp2
              exact ⟨rfl, got_bad HG.out (by rw [show s.size - (s.size - i) = i from by omega]) GY.out⟩
            · have k2i : ((m2 : Int) == 0) = false := by rw [beq_eq_false_iff_ne]; omega
              have K2 := Lib.hid k2
              clear k2
              by_cases k3 : 200 < m2
              · have HG := Lib.hid (HGO.out.1 HZ.out (.inr (.inr k3)))
                have k3i : (200 : Int) < (m2 : Int) := by omega
                clear k3
                go_wp2
                exact ⟨rfl, got_bad HG.out (by rw [show s.size - (s.size - i) = i from by omega]) GY.out⟩
              · have HG := Lib.hid (HGO.out.2.1 HZ.out (by have := K1.out; have := K2.out; omega))
                have k3i : decide ((200 : Int) < (m2 : Int)) = false := decide_eq_false (by omega)
                have k3n : decide (200 < m2) = false := decide_eq_false k3
                clear k3
                go_wp2
                go_ret2
                rw [HG.out]
                exact ⟨rfl, ⟨j2 + 1, HRY.out, rfl⟩, GY.out⟩
        · have HG := Lib.hid (HGO.out.2.2 (by rw [hz]; exact h125))
          rw [decide_eq_false h125, if_neg h125] at HTK
          have HTK2 := Lib.hid HTK
          clear HTK hz h125
          go_wp2_with fail
          refine HTK2.out.mono ?_
          rintro e wy ⟨rfl, hry, gy⟩
          have HRF := Lib.hid (refuse_any wy b j2 s hry)
          have hle2 := hry.le
          have GY := Lib.hid (gr_bb GZ.out gy)
          clear hry gy
          go_wp2_with fail
          refine HRF.out.mono ?_
          rintro e w9 ⟨rfl, g9⟩
          exact ⟨rfl, got_bad HG.out (by rw [show s.size - (s.size - j2) = j2 from by omega]) (gr_bb GY.out (gr_b g9 b))⟩
    · rw [decide_eq_false h44, if_neg h44] at HTK
      have HTK2 := Lib.hid HTK
      have HSN := Lib.hid (show sndL m1 (rest s j1) = .ok m1 (rest s j1) from by unfold sndL; rw [hy, if_neg h44])
      clear HTK hy h44
      go_wp2_with fail
      refine HTK2.out.mono ?_
      rintro e wz ⟨rfl, hrz, gz⟩
      have HRZ := Lib.hid hrz
      have GZ := Lib.hid (gr_bb G4.out gz)
      have HEND := cnt_end H123.out HN1.out HSN.out
      clear hrz gz HTK2 HSN HN1 HR4
      have HGO := Lib.hid (end_go m1 m1 i j1 s HEND)
      clear HEND

      -- the closing brace: the reader stands at j1 in world wz, GZ: w.grownBy wz (some b)
      obtain ⟨z, hz⟩ : ∃ z, nx (rest s j1) = z := ⟨_, rfl⟩
      have HTK := take_any wz b j1 125 s HRZ.out hs (by decide)
      rw [hz] at HTK
      by_cases h125 : z = 125
      · rw [decide_eq_true h125, if_pos h125] at HTK
        have HTK2 := Lib.hid HTK
        have HZ := Lib.hid (hz.trans h125)
        clear HTK hz h125
        go_wp2_with fail
        refine HTK2.out.mono ?_
        rintro e wy ⟨rfl, hry, gy⟩
        have HRY := Lib.hid hry
        have GY := Lib.hid (gr_bb GZ.out gy)
        clear hry gy
        by_cases k1 : m1 < m1
        · exact absurd k1 (by omega)
        · have k1i : decide ((m1 : Int) < (m1 : Int)) = false := decide_eq_false (by omega)
          have k1n : decide (m1 < m1) = false := decide_eq_false k1
          have K1 := Lib.hid k1
          clear k1
          by_cases k2 : m1 = 0
          · have HG := Lib.hid (HGO.out.1 HZ.out (.inr (.inl k2)))
            have k2i : ((m1 : Int) == 0) = true := by rw [k2]; rfl
            clear k2
            go_wp2
            exact ⟨rfl, got_bad HG.out (by rw [show s.size - (s.size - i) = i from by omega]) GY.out⟩
          · have k2i : ((m1 : Int) == 0) = false := by rw [beq_eq_false_iff_ne]; omega
            have K2 := Lib.hid k2
            clear k2
            by_cases k3 : 200 < m1
            · have HG := Lib.hid (HGO.out.1 HZ.out (.inr (.inr k3)))
              have k3i : (200 : Int) < (m1 : Int) := by omega
              clear k3
              go_wp2
              exact ⟨rfl, got_bad HG.out (by rw [show s.size - (s.size - i) = i from by omega]) GY.out⟩
            · have HG := Lib.hid (HGO.out.2.1 HZ.out (by have := K1.out; have := K2.out; omega))
              have k3i : decide ((200 : Int) < (m1 : Int)) = false := decide_eq_false (by omega)
              have k3n : decide (200 < m1) = false := decide_eq_false k3
              clear k3
              go_wp2
              go_ret2
              rw [HG.out]
              exact ⟨rfl, ⟨j1 + 1, HRY.out, rfl⟩, GY.out⟩
      · have HG := Lib.hid (HGO.out.2.2 (by rw [hz]; exact h125))
        rw [decide_eq_false h125, if_neg h125] at HTK
        have HTK2 := Lib.hid HTK
        clear HTK hz h125
        go_wp2_with fail
        refine HTK2.out.mono ?_
        rintro e wy ⟨rfl, hry, gy⟩
        have HRF := Lib.hid (refuse_any wy b j1 s hry)
        have hle2 := hry.le
        have GY := Lib.hid (gr_bb GZ.out gy)
        clear hry gy
        go_wp2_with fail
        refine HRF.out.mono ?_
        rintro e w9 ⟨rfl, g9⟩
        exact ⟨rfl, got_bad HG.out (by rw [show s.size - (s.size - j1) = j1 from by omega]) (gr_bb GY.out (gr_b g9 b))⟩
end Go.Proofs.YtaejnklgnegkhaaDoor
namespace Go.Proofs.YtaejnklgnegkhaaDoor
open Go.RowKit Pt

theorem chr_ok {l l' : List UInt8} {c : Nat} (h : chrL l = .ok c l') : ∃ l1, (l1 = l ∨ l1 = l.tail ∧ 0 < l.length) ∧ nx l1 = c ∧ clsD c ≠ 0 ∧ l1.tail = l' := by
  unfold chrL at h
  obtain ⟨l1, hl1⟩ : ∃ l1, (if decide (nx l = 92) = true then l.tail else l) = l1 := ⟨_, rfl⟩
  simp only [hl1] at h
  by_cases hc : clsD (nx l1) = 0 ∨ specD (nx l1) ≠ decide (nx l = 92)
  · rw [if_pos hc] at h; cases h
  · rw [if_neg hc] at h
    simp only [PR.ok.injEq] at h
    refine ⟨l1, ?_, h.1, fun e => hc (.inl (by rw [h.1]; exact e)), h.2⟩
    by_cases h92 : nx l = 92
    · rw [if_pos (decide_eq_true h92)] at hl1
      exact .inr ⟨hl1.symm, nx_pos (by omega)⟩
    · rw [if_neg (by rw [decide_eq_false h92]; simp)] at hl1
      exact .inl hl1.symm
theorem chr_lt {l l' : List UInt8} {c : Nat} (h : chrL l = .ok c l') : l'.length < l.length := by
  obtain ⟨l1, h1, h2, h3, rfl⟩ := chr_ok h
  have h4 := nx_pos (l := l1) (by rw [h2]; exact cls_pos h3)
  rw [List.length_tail]
  rcases h1 with rfl | ⟨rfl, h5⟩
  · omega
  · rw [List.length_tail] at *; omega
theorem chr_byte {l l' : List UInt8} {c : Nat} (h : chrL l = .ok c l') : c ≤ 255 := by
  obtain ⟨l1, _, h2, _, _⟩ := chr_ok h
  rw [← h2]
  exact nx_le _
theorem lit_fuel : ∀ (n f : Nat) (l : List UInt8), l.length ≤ n → l.length ≤ f → litL f l = litL l.length l
  | 0, f, l, h, _ => by
    obtain rfl := List.eq_nil_of_length_eq_zero (Nat.le_zero.1 h)
    cases f with
    | zero => rfl
    | succ f => show (if 0 < ([] : List UInt8).length ∧ _ then _ else _) = _; rw [if_neg (by simp)]; rfl
  | n + 1, f, l, h, hf => by
    cases hl : l.length with
    | zero =>
      obtain rfl := List.eq_nil_of_length_eq_zero hl
      exact lit_fuel n f [] (by simp) (by simp)
    | succ m =>
      obtain ⟨f, rfl⟩ : ∃ f', f = f' + 1 := ⟨f - 1, by omega⟩
      show (if 0 < l.length ∧ corL l = 0 then _ else _) = (if 0 < l.length ∧ corL l = 0 then _ else _)
      by_cases hc : 0 < l.length ∧ corL l = 0
      · rw [if_pos hc, if_pos hc]
        cases hch : chrL l with
        | bad r k => rfl
        | ok c l' =>
          have hlt := chr_lt hch
          simp only
          rw [lit_fuel n f l' (by omega) (by omega), lit_fuel n m l' (by omega) (by omega)]
      · rw [if_neg hc, if_neg hc]
/-- The literal that begins here. -/
def lit (l : List UInt8) : PR (List UInt8) := litL l.length l
/-- Characters ahead. -/
def pre (acc : List UInt8) (r : PR (List UInt8)) : PR (List UInt8) := match r with
  | .bad r k => .bad r k
  | .ok t l => .ok (acc ++ t) l
theorem lit_end {l : List UInt8} (h : ¬ (0 < l.length ∧ corL l = 0)) : lit l = .ok [] l := by
  unfold lit
  cases hl : l.length with
  | zero => rfl
  | succ m => show (if 0 < l.length ∧ corL l = 0 then _ else _) = _; rw [if_neg h]
theorem lit_bad {l : List UInt8} {r : Nat} {k : Int} (h0 : 0 < l.length) (h : corL l = 0) (hc : chrL l = .bad r k) : lit l = .bad r k := by
  unfold lit
  obtain ⟨m, hm⟩ : ∃ m, l.length = m + 1 := ⟨l.length - 1, by omega⟩
  rw [hm]
  show (if 0 < l.length ∧ corL l = 0 then _ else _) = _
  rw [if_pos ⟨h0, h⟩, hc]
theorem lit_ok {l l' : List UInt8} {c : Nat} (h0 : 0 < l.length) (h : corL l = 0) (hc : chrL l = .ok c l') : lit l = pre [UInt8.ofNat c] (lit l') := by
  have hlt := chr_lt hc
  unfold lit
  obtain ⟨m, hm⟩ : ∃ m, l.length = m + 1 := ⟨l.length - 1, by omega⟩
  rw [hm]
  show (if 0 < l.length ∧ corL l = 0 then _ else _) = _
  rw [if_pos ⟨h0, h⟩, hc]
  simp only
  rw [lit_fuel m m l' (by omega) (by omega)]
  cases litL l'.length l' <;> rfl
theorem pre_pre (a b : List UInt8) (r : PR (List UInt8)) : pre a (pre b r) = pre (a ++ b) r := by
  cases r with
  | bad => rfl
  | ok t l => show PR.ok _ _ = PR.ok _ _; rw [List.append_assoc]
theorem Form.keptb {w w1 : World} {base b : Nat} {v : Value} {l : List UInt8} (h : Form w base v l) (hg : w.grownBy w1 (some b)) (hb : b < base) : Form w1 base v l :=
  World.ownsRow.kept h hg (by
    cases hv : Value.ownBlock v with
    | none => exact .inl rfl
    | some g => exact .inr (fun e => by cases e; have := own_base h _ hv; omega))
/-- append of one byte, where a block that came in is written as well. -/
theorem app_b (W wr : World) (b : Nat) (v : Value) (l : List UInt8) (c : UInt8) (z : Int) (hz : (c.toNat : Int) = z) (hf : Form wr W.heap.size v l) (hn : l.length ≤ 90000) (hg : W.grownBy wr (some b)) :
    ∃ v' w', (Builtin.append_ #[41, 41] 41 #[v, .slice (some ⟨wr.heap.size, 0, none⟩) 1 1]).run Tryd.prog (wr.alloc (.cells #[.int .u8 z] 5)) = .ok v' w' ∧ Form w' W.heap.size v' (l ++ [c]) ∧ W.grownBy w' (some b) ∧ OK8 wr w' := by
  subst hz
  obtain ⟨i0, hi, hz0, hz1, hz2⟩ := info_parts infoY
  obtain ⟨v', w', h1, h2, h3, _⟩ := run_append_own_at (P := Tryd.prog) (wr.alloc (.cells #[.int .u8 (c.toNat : Int)] 5)) W.heap.size 41 41 5 i0 (.int .u8 0) 1 1 Tryd.underlying41 hi hz0 hz1 hz2 rfl (by decide) v l.length (byV l) (World.ownsRow.alloc hf _) ⟨wr.heap.size, 0, none⟩ 1 1 (byV [c]) (by rw [byV_len, Nat.mul_one]; rfl) (fun j u hj => by
    rw [addr_add, Nat.zero_add, cell_of_row _ _ j _ 5 (0, 0) (heap_alloc_new wr (.cells #[.int .u8 (c.toNat : Int)] 5))]
    simpa [byV] using hj) (by
    intro u hu
    unfold byV at hu
    obtain ⟨c, _, rfl⟩ := List.mem_map.1 hu
    rfl) (by unfold maxLen; omega) (by omega) (by have := hg.size; simp; omega)
  refine ⟨v', w', h1, ?_, gr_trans (gr_trans hg (gr_alloc wr (.cells #[.int .u8 (c.toNat : Int)] 5) none) (.inr rfl) (.inl rfl)) h3 (.inr rfl) (.inr (.inr (own_base hf))), ((Lib.OthersKept.refl _ _ wr).alloc _).grown h3 (own_kind (World.ownsRow.alloc hf _))⟩
  unfold Form
  rw [byV_app, List.length_append]
  exact h2
end Go.Proofs.YtaejnklgnegkhaaDoor
namespace Go.Proofs.YtaejnklgnegkhaaDoor
open Go.RowKit Pt

theorem quiet_grow {w w' : World} {m : Nat} (h : w' = w.drewN m) : w.grownBy w' none := by subst h; exact gr_drewN _ _ _
theorem ofNat_int {c : Nat} (h : c ≤ 255) : (((UInt8.ofNat c).toNat : Nat) : Int) = (c : Int) := by
  rw [UInt8.toNat_ofNat_of_lt' (show c < UInt8.size from by show c < 256; omega)]
set_option maxRecDepth 100000 in
set_option maxHeartbeats 2000000 in
theorem lit_any (w : World) (b i : Nat) (s : ByteArray) (h : Rd w b s i) (hs : s.size ≤ 1000) : Calls Tryd.prog 111 #[.pointer (some ⟨b, 0, none⟩)] w fun e w' => Got (fun t : List UInt8 => .string ⟨t.toArray⟩) b s w (lit (rest s i)) e w' := by
  have hb := h.lt
  have HR := Lib.hid h
  have hle := h.le
  clear h
  go_enter Tryd.func111, Tryd.ntmps111
  go_wp2_with fail
  go_loopw [3] (fun v wr => ∃ (j : Nat) (acc : List UInt8), j ≤ s.size ∧ acc.length ≤ j ∧ Hid (lit (rest s i) = pre acc (lit (rest s j))) ∧ Hid (Form wr w.heap.size v acc) ∧ Hid (Rd wr b s j) ∧ Hid (w.grownBy wr (some b))) (fun _ wr => s.size - atOf wr b)
  case atStart => exact ⟨i, [], hle, Nat.zero_le _, Lib.hid (by cases lit (rest s i) <;> rfl), Lib.hid (World.ownsRow_nil _ _ _ _), HR, Lib.hid (gr_b (gr_rfl w) b)⟩
  case round =>
    obtain ⟨j, acc, hj, hacc, HL, HF, HRj, Gj⟩ := hrel
    have c0 := HRj.out.c0
    have c1 := HRj.out.c1
    by_cases hlt : j < s.size
    · have hlti : (j : Int) < (s.size : Int) := by omega
      have HC := Lib.hid (fun n => cor_any (wr.drewN n) b j s (HRj.out.kept (gr_drewN _ _ _)) (by omega))
      go_wp2
      go_quiet ((go_at_call 110; exact Calls.quiet_of (HC.out _)))
      by_cases hcor : corL (rest s j) = 0
      · have hcb : ((corL (rest s j) : Int) == 0) = true := by rw [hcor]; rfl
        have h0 : 0 < (rest s j).length := by rw [rest_len]; omega
        have HCH := chr_any (wr.drewN nq) b j s (HRj.out.kept (gr_drewN _ _ _)) (by omega)
        cases hch : chrL (rest s j) with
        | bad r k =>
          rw [hch] at HCH
          unfold Got at HCH
          have HCH2 := Lib.hid HCH
          have HG := Lib.hid (show lit (rest s i) = .bad r k from by rw [HL.out, lit_bad h0 hcor hch]; rfl)
          generalize corL (rest s j) = cr at *
          clear HCH hch hcor h0
          go_wp2_with fail
          refine HCH2.out.mono ?_
          rintro e w4 ⟨rfl, g4⟩
          exact ⟨rfl, got_bad HG.out rfl (gr_bb Gj.out (gr_bb (gr_drewN _ _ _) g4))⟩
        | ok x l' =>
          rw [hch] at HCH
          unfold Got at HCH
          have HCH2 := Lib.hid HCH
          have hx := chr_byte hch
          have hll := chr_lt hch
          have HG := Lib.hid (show lit (rest s i) = pre (acc ++ [UInt8.ofNat x]) (lit l') from by rw [HL.out, lit_ok h0 hcor hch, pre_pre])
          have HLL := Lib.hid hll
          generalize corL (rest s j) = cr at *
          clear HCH hch hcor h0 hll
          go_wp2_with fail
          refine HCH2.out.mono ?_
          rintro e w4 ⟨rfl, ⟨j2, hr4, rfl⟩, g4⟩
          have HJ2 := Lib.hid (show j < j2 ∧ j2 ≤ s.size from by
            have h1 := HLL.out
            rw [rest_len, rest_len] at h1
            exact ⟨by omega, hr4.le⟩)
          have F4 := (HF.out.kept (gr_drewN _ nq none)).keptb g4 hb
          have G4 := gr_bb Gj.out (gr_bb (gr_drewN _ nq _) g4)
          obtain ⟨v5, w5, r5, f5, g5, k5⟩ := app_b w w4 b u3 acc (UInt8.ofNat x) (x : Int) (ofNat_int hx) F4 (by omega) G4
          have F5 := Lib.hid f5
          have G5 := Lib.hid g5
          have R5 := Lib.hid (show Rd w5 b s j2 from ⟨hr4.row.ok (by decide) k5, hr4.le⟩)
          clear f5 g5 k5 F4 G4 g4 hr4 c0 c1
          go_wp2_with (at_builtin; refine wpList_call_append rfl (.tmp 19) (.tmp 22) 41 rfl _ _ rfl rfl _ _ r5 ?_)
          refine ⟨⟨j2, acc ++ [UInt8.ofNat x], HJ2.out.2, by rw [List.length_append, List.length_singleton]; have := HJ2.out.1; omega, HG, F5, R5, G5⟩, ?_⟩
          rw [R5.out.at_, HRj.out.at_]
          have := HJ2.out
          omega
      · have hcb : ((corL (rest s j) : Int) == 0) = false := by rw [beq_eq_false_iff_ne]; omega
        have HG := Lib.hid (show lit (rest s i) = .ok acc (rest s j) from by rw [HL.out, lit_end (fun hh => hcor hh.2)]; show PR.ok (acc ++ []) _ = _; rw [List.append_nil])
        have hst := (HF.out.kept (gr_drewN wr nq none)).str
        generalize corL (rest s j) = cr at *
        clear hcor
        go_wp2
        go_ret
        rw [HG.out]
        exact ⟨rfl, ⟨j, HRj.out.kept (gr_drewN _ _ _), rfl⟩, gr_bb Gj.out (gr_drewN _ _ _)⟩
    · have hlti : decide ((j : Int) < (s.size : Int)) = false := decide_eq_false (by omega)
      have hltn : decide (j < s.size) = false := decide_eq_false hlt
      have HG := Lib.hid (show lit (rest s i) = .ok acc (rest s j) from by rw [HL.out, lit_end (fun hh => by have := hh.1; rw [rest_len] at this; omega)]; show PR.ok (acc ++ []) _ = _; rw [List.append_nil])
      clear hlt
      go_wp2
      go_quiet (fail)
      have hst := (HF.out.kept (gr_drewN wr nq none)).str
      go_wp2
      go_ret
      rw [HG.out]
      exact ⟨rfl, ⟨j, HRj.out.kept (gr_drewN _ _ _), rfl⟩, gr_bb Gj.out (gr_drewN _ _ _)⟩
end Go.Proofs.YtaejnklgnegkhaaDoor
namespace Go.Proofs.YtaejnklgnegkhaaDoor
open Go.RowKit Pt

theorem Row.keptb {w w1 : World} {B b : Nat} {cs : List Value} {t : TypeId} (h : Row w B cs t) (hg : w.grownBy w1 (some b)) (hne : B ≠ b) : Row w1 B cs t := by
  unfold Row at *; rw [hg.block B (Array.getElem?_eq_some_iff.1 h).1 (by simpa using hne)]; exact h
theorem results_pc {fn : Func} {p : Tmp} (h : fn.results = #[.cell p 31]) (tmps : Array Value) (w : World) (B : Nat) (k a b : Int) (t : ByteArray) (hp : tmps.getD p undef = .pointer (some ⟨B, 0, none⟩)) (hr : Row w B [.int .i64 k, .int .i64 a, .int .i64 b, .string t] 31) :
    (results fn tmps).run Tryd.prog w = .ok (pcv k a b t) w := by
  have hp' : tmps[p]?.getD undef = .pointer (some ⟨B, 0, none⟩) := by simpa using hp
  have c0 := hr.cell 0 _ rfl
  have c1 := hr.cell 1 _ rfl
  have c2 := hr.cell 2 _ rfl
  have c3 := hr.cell 3 _ rfl
  have hl : (loadVar 31 ⟨B, 0, none⟩).run Tryd.prog w = .ok (pcv k a b t) w := by
    simp [loadVar, Sem.run_bind, Tryd.isAgg31, c0, c1, c2, c3, go_sem]
  simp [results, h, hp', asAddr, hl]
abbrev set4 (w : World) (B : Nat) (k a b : Int) (t : ByteArray) : World := (((w.setCell ⟨B, 0, none⟩ (.int .i64 k)).setCell ⟨B, 1, none⟩ (.int .i64 a)).setCell ⟨B, 2, none⟩ (.int .i64 b)).setCell ⟨B, 3, none⟩ (.string t)
theorem Row.set4 {w : World} {B : Nat} {x0 x1 x2 x3 : Value} {ty : TypeId} (h : Row w B [x0, x1, x2, x3] ty) (k a b : Int) (t : ByteArray) : Row (set4 w B k a b t) B [.int .i64 k, .int .i64 a, .int .i64 b, .string t] ty :=
  (((h.set 0 _).set 1 _).set 2 _).set 3 _
theorem Rd.set4 {w : World} {B b i : Nat} {s : ByteArray} (h : Rd w b s i) (hne : b ≠ B) (k a c : Int) (t : ByteArray) : Rd (set4 w B k a c t) b s i :=
  ⟨(((h.row.other hne).other hne).other hne).other hne, h.le⟩
theorem gr_set4 {w w4 : World} {B b : Nat} (h : w.grownBy w4 (some b)) (hB : w.heap.size ≤ B) (k a c : Int) (t : ByteArray) : w.grownBy (set4 w4 B k a c t) (some b) := by
  have st : ∀ {x : World} {i : Nat} {v : Value}, w.grownBy x (some b) → w.grownBy (x.setCell ⟨B, i, none⟩ v) (some b) := fun hx => gr_trans hx (gr_set _ _ _ _) (.inr rfl) (.inr (.inr fun j e => by cases e; exact hB))
  exact st (st (st (st h)))
abbrev pvv (p : Pc) : Value := pcv p.k p.a p.b p.t
set_option maxRecDepth 100000 in
set_option maxHeartbeats 2000000 in
theorem piece_any (w : World) (b i : Nat) (s : ByteArray) (h : Rd w b s i) (hs : s.size ≤ 1000) : Calls Tryd.prog 80 #[.pointer (some ⟨b, 0, none⟩)] w fun e w' => Got pvv b s w (pieceL (rest s i)) e w' := by
  have hb := h.lt
  have HR := Lib.hid h
  have hle := h.le
  have g0 : w.grownBy (w.alloc (.cells #[.int .i64 0, .int .i64 0, .int .i64 0, .string ⟨#[]⟩] 31)) none := gr_alloc _ _ _
  have hR0 := h.kept g0
  have hB := Row.new w [.int .i64 0, .int .i64 0, .int .i64 0, .string ⟨#[]⟩] 31
  obtain ⟨B, hBB⟩ : ∃ B, w.heap.size = B := ⟨_, rfl⟩
  rw [hBB] at hB
  have HB := Lib.hid hB
  have HG0 := Lib.hid g0
  have HR0 := Lib.hid hR0
  have hbB : b ≠ B := by omega
  have HC := Lib.hid (cor_any _ b i s hR0 (by omega))
  clear h g0 hR0 hB
  go_enter Tryd.func80, Tryd.ntmps80
  go_wp2_with fail
  refine HC.out.mono ?_
  rintro e w1 ⟨rfl, nq, hw1⟩
  have HB1 := Lib.hid (HB.out.kept (quiet_grow hw1))
  have HR1 := Lib.hid (HR0.out.kept (quiet_grow hw1))
  have G1 := Lib.hid (gr_then HG0.out (quiet_grow hw1))
  clear HC HR0 HG0 HB hw1
  by_cases hcor : corL (rest s i) = 0
  · have hcb : ((corL (rest s i) : Int) == 0) = true := by rw [hcor]; rfl
    have HL := lit_any w1 b i s HR1.out hs
    cases hl : lit (rest s i) with
    | bad r k =>
      rw [hl] at HL
      unfold Got at HL
      have HL2 := Lib.hid HL
      have HG := Lib.hid (show pieceL (rest s i) = .bad r k from by unfold pieceL; rw [if_pos hcor, show litL (rest s i).length (rest s i) = lit (rest s i) from rfl, hl])
      clear HL hl
      generalize corL (rest s i) = cr at *
      clear hcor
      go_wp2_with fail
      refine HL2.out.mono ?_
      rintro e w4 ⟨rfl, g4⟩
      exact ⟨rfl, got_bad HG.out rfl (gr_trans (gr_b G1.out b) g4 (.inr rfl) (.inr (.inl rfl)))⟩
    | ok t l' =>
      rw [hl] at HL
      unfold Got at HL
      have HL2 := Lib.hid HL
      have HG := Lib.hid (show pieceL (rest s i) = .ok ⟨0, 0, 0, ⟨t.toArray⟩⟩ l' from by unfold pieceL; rw [if_pos hcor, show litL (rest s i).length (rest s i) = lit (rest s i) from rfl, hl])
      clear HL hl
      generalize corL (rest s i) = cr at *
      clear hcor
      go_wp2_with fail
      refine HL2.out.mono ?_
      rintro e w4 ⟨rfl, ⟨j, hr4, rfl⟩, g4⟩
      have HB4 := Lib.hid (HB1.out.keptb g4 (Ne.symm hbB))
      have HR4 := Lib.hid hr4
      have G4 := Lib.hid (gr_trans (gr_b G1.out b) g4 (.inr rfl) (.inr (.inl rfl)))
      have c0 := HB4.out.cell 0 _ rfl
      have c1 := HB4.out.cell 1 _ rfl
      have c2 := HB4.out.cell 2 _ rfl
      have c3 := HB4.out.cell 3 _ rfl
      have f0 := HB4.out.fr 0
      have f1 := HB4.out.fr 1
      have f2 := HB4.out.fr 2
      have f3 := HB4.out.fr 3
      clear hr4 g4
      go_wp2
      refine bodyPost_ret (results_pc rfl _ _ B _ _ _ _ rfl (HB4.out.set4 _ _ _ _)) rfl ?_
      rw [HG.out]
      exact ⟨rfl, ⟨j, HR4.out.set4 hbB _ _ _ _, rfl⟩, gr_set4 G4.out (by omega) _ _ _ _⟩
  · have hcb : ((corL (rest s i) : Int) == 0) = false := by rw [beq_eq_false_iff_ne]; omega
    have H2 := Lib.hid (show i + 2 ≤ s.size from by
      unfold corL at hcor
      by_cases h2 : 2 ≤ (rest s i).length ∧ nx (rest s i) = 92
      · have := h2.1; rw [rest_len] at this; omega
      · exact absurd (if_neg h2) hcor)
    have HR2 := Lib.hid (HR1.out.set H2.out (z := (i : Int) + 2) rfl)
    have G2 := Lib.hid (gr_trans (gr_b G1.out b) (gr_set w1 b 1 (.int .i64 ((i : Int) + 2))) (.inr rfl) (.inr (.inl rfl)))
    have HB2 := Lib.hid (HB1.out.other (b' := b) (i := 1) (v := .int .i64 ((i : Int) + 2)) (Ne.symm hbB))
    have HL := cnt_any _ b (i + 2) s HR2.out (by omega)
    have hdr : (rest s i).drop 2 = rest s (i + 2) := by unfold rest; rw [List.drop_drop]
    have e0 := HR1.out.c1
    have ef := HR1.out.f1
    cases hl : cnumL (rest s (i + 2)) with
    | bad r k =>
      rw [hl] at HL
      unfold Got at HL
      have HL2 := Lib.hid HL
      have HG := Lib.hid (show pieceL (rest s i) = .bad r k from by unfold pieceL; rw [if_neg hcor, hdr, hl])
      clear HL hl hdr
      generalize corL (rest s i) = cr at *
      clear hcor
      go_wp2_with fail
      refine HL2.out.mono ?_
      rintro e w4 ⟨rfl, g4⟩
      exact ⟨rfl, got_bad HG.out rfl (gr_bb G2.out g4)⟩
    | ok xy l' =>
      rw [hl] at HL
      unfold Got at HL
      have HL2 := Lib.hid HL
      have HG := Lib.hid (show pieceL (rest s i) = .ok ⟨corL (rest s i), xy.1, xy.2, ⟨#[]⟩⟩ l' from by unfold pieceL; rw [if_neg hcor, hdr, hl])
      clear HL hl hdr
      obtain ⟨x, y⟩ := xy
      generalize corL (rest s i) = cr at *
      clear hcor
      go_wp2_with fail
      refine HL2.out.mono ?_
      rintro e w4 ⟨rfl, ⟨j, hr4, rfl⟩, g4⟩
      have HB4 := Lib.hid (HB2.out.keptb g4 (Ne.symm hbB))
      have HR4 := Lib.hid hr4
      have G4 := Lib.hid (gr_bb G2.out g4)
      have c0 := HB4.out.cell 0 _ rfl
      have c1 := HB4.out.cell 1 _ rfl
      have c2 := HB4.out.cell 2 _ rfl
      have c3 := HB4.out.cell 3 _ rfl
      have f0 := HB4.out.fr 0
      have f1 := HB4.out.fr 1
      have f2 := HB4.out.fr 2
      have f3 := HB4.out.fr 3
      clear hr4 g4
      go_wp2
      refine bodyPost_ret (results_pc rfl _ _ B _ _ _ _ rfl (HB4.out.set4 _ _ _ _)) rfl ?_
      rw [HG.out]
      exact ⟨rfl, ⟨j, HR4.out.set4 hbB _ _ _ _, rfl⟩, gr_set4 G4.out (by omega) _ _ _ _⟩
end Go.Proofs.YtaejnklgnegkhaaDoor
