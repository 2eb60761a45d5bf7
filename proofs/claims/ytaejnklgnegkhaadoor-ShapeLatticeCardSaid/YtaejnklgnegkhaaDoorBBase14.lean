/- Contracts of the program and of the reference, part 14: Qk, Ql, Qm, Qn, Qo, Qp, Qq, Ma. -/
import Derived.Test.YtaejnklgnegkhaaDoorBBase13
import Derived.Defers
import Derived.Recover
import Derived.Laws.Pointers
namespace Go.Proofs.YtaejnklgnegkhaaDoor
open Go.RowKit Pt

theorem digs_le : ∀ (n : Nat) (l : List UInt8), (digs n l).2.length ≤ l.length
  | n, [] => Nat.le_refl _
  | n, c :: l => by
    by_cases h : clsD (nx (c :: l)) = 1
    · rw [digs_yes h]
      have := digs_le (min (10 * n + (nx (c :: l) - 48)) 201) l
      show (digs _ l).2.length ≤ _
      rw [List.length_cons]; omega
    · rw [digs_no h]; exact Nat.le_refl _
theorem num_le {l l' : List UInt8} {a : Nat} (h : numL l = .ok a l') : l'.length ≤ l.length := by
  unfold numL at h
  by_cases h1 : clsD (nx l) ≠ 1
  · rw [if_pos h1] at h; cases h
  · rw [if_neg h1] at h
    by_cases h2 : nx l = 48
    · rw [if_pos h2] at h
      simp only [PR.ok.injEq] at h
      rw [← h.2, List.length_tail]; omega
    · rw [if_neg h2] at h
      simp only [PR.ok.injEq] at h
      rw [← h.2]
      have := digs_le (nx l - 48) l.tail
      rw [List.length_tail] at this; omega
theorem snd_le {l l' : List UInt8} {a b : Nat} (h : sndL a l = .ok b l') : l'.length ≤ l.length := by
  unfold sndL at h
  by_cases h1 : nx l = 44
  · rw [if_pos h1] at h
    have := num_le h
    rw [List.length_tail] at this; omega
  · rw [if_neg h1] at h
    simp only [PR.ok.injEq] at h
    rw [← h.2]; exact Nat.le_refl _
theorem cnum_le {l l' : List UInt8} {x : Nat × Nat} (h : cnumL l = .ok x l') : l'.length ≤ l.length := by
  unfold cnumL at h
  by_cases h1 : nx l = 43
  · rw [if_pos h1] at h
    simp only [PR.ok.injEq] at h
    rw [← h.2, List.length_tail]; omega
  rw [if_neg h1] at h
  by_cases h2 : nx l = 42
  · rw [if_pos h2] at h
    simp only [PR.ok.injEq] at h
    rw [← h.2, List.length_tail]; omega
  rw [if_neg h2] at h
  by_cases h3 : nx l ≠ 123
  · rw [if_pos h3] at h
    simp only [PR.ok.injEq] at h
    rw [← h.2]; exact Nat.le_refl _
  rw [if_neg h3] at h
  cases hn : numL l.tail with
  | bad r k => rw [hn] at h; cases h
  | ok a l1 =>
    rw [hn] at h
    simp only at h
    have e1 := num_le hn
    cases hs : sndL a l1 with
    | bad r k => rw [hs] at h; cases h
    | ok b l2 =>
      rw [hs] at h
      simp only at h
      have e2 := snd_le hs
      rw [List.length_tail] at e1
      by_cases h4 : nx l2 ≠ 125
      · rw [if_pos h4] at h; cases h
      · rw [if_neg h4] at h
        by_cases h5 : b < a ∨ b = 0 ∨ 200 < b
        · rw [if_pos h5] at h; cases h
        · rw [if_neg h5] at h
          simp only [PR.ok.injEq] at h
          rw [← h.2, List.length_tail]; omega
theorem lit_le : ∀ (n : Nat) {l l' : List UInt8} {t : List UInt8}, l.length ≤ n → lit l = .ok t l' → l'.length ≤ l.length ∧ (0 < l.length → corL l = 0 → l'.length < l.length)
  | 0, l, l', t, hn, h => by
    rw [lit_end (by omega)] at h
    simp only [PR.ok.injEq] at h
    rw [← h.2]; omega
  | n + 1, l, l', t, hn, h => by
    by_cases hc : 0 < l.length ∧ corL l = 0
    · cases hch : chrL l with
      | bad r k => rw [lit_bad hc.1 hc.2 hch] at h; cases h
      | ok c l1 =>
        have hlt := chr_lt hch
        rw [lit_ok hc.1 hc.2 hch] at h
        cases hl : lit l1 with
        | bad r k => rw [hl] at h; cases h
        | ok t1 l2 =>
          rw [hl] at h
          have h' : PR.ok ([UInt8.ofNat c] ++ t1) l2 = .ok t l' := h
          simp only [PR.ok.injEq] at h'
          have := lit_le n (by omega) hl
          rw [← h'.2]
          omega
    · rw [lit_end hc] at h
      simp only [PR.ok.injEq] at h
      rw [← h.2]
      exact ⟨Nat.le_refl _, fun a b => absurd ⟨a, b⟩ hc⟩
theorem cor_len {l : List UInt8} (h : corL l ≠ 0) : 2 ≤ l.length ∧ nx l = 92 := by
  unfold corL at h
  by_cases h2 : 2 ≤ l.length ∧ nx l = 92
  · exact h2
  · exact absurd (if_neg h2) h
theorem piece_lt {l l' : List UInt8} {p : Pc} (h0 : 0 < l.length) (h : pieceL l = .ok p l') : l'.length < l.length := by
  unfold pieceL at h
  by_cases hc : corL l = 0
  · rw [if_pos hc] at h
    cases hl : lit l with
    | bad r k => rw [show litL l.length l = lit l from rfl, hl] at h; cases h
    | ok t l1 =>
      rw [show litL l.length l = lit l from rfl, hl] at h
      simp only [PR.ok.injEq] at h
      rw [← h.2]
      exact (lit_le _ (Nat.le_refl _) hl).2 h0 hc
  · rw [if_neg hc] at h
    have h2 := cor_len hc
    cases hl : cnumL (l.drop 2) with
    | bad r k => rw [hl] at h; cases h
    | ok x l1 =>
      rw [hl] at h
      simp only [PR.ok.injEq] at h
      rw [← h.2]
      have := cnum_le hl
      rw [List.length_drop] at this
      omega
theorem pieces_fuel : ∀ (n f : Nat) (l : List UInt8), l.length ≤ n → l.length ≤ f → piecesL f l = piecesL l.length l
  | 0, f, l, h, _ => by
    obtain rfl := List.eq_nil_of_length_eq_zero (Nat.le_zero.1 h)
    cases f with
    | zero => rfl
    | succ f => show (if 0 < ([] : List UInt8).length then _ else _) = _; rw [if_neg (by simp)]; rfl
  | n + 1, f, l, h, hf => by
    cases hl : l.length with
    | zero =>
      obtain rfl := List.eq_nil_of_length_eq_zero hl
      exact pieces_fuel n f [] (by simp) (by simp)
    | succ m =>
      obtain ⟨f, rfl⟩ : ∃ f', f = f' + 1 := ⟨f - 1, by omega⟩
      show (if 0 < l.length then _ else _) = (if 0 < l.length then _ else _)
      rw [if_pos (by omega), if_pos (by omega)]
      cases hch : pieceL l with
      | bad r k => rfl
      | ok c l' =>
        have hlt := piece_lt (by omega) hch
        simp only
        rw [pieces_fuel n f l' (by omega) (by omega), pieces_fuel n m l' (by omega) (by omega)]
/-- The pieces that stand here. -/
def pcsR (l : List UInt8) : PR (List Pc) := piecesL l.length l
def preP (acc : List Pc) (r : PR (List Pc)) : PR (List Pc) := match r with
  | .bad r k => .bad r k
  | .ok t l => .ok (acc ++ t) l
theorem pcsR_end {l : List UInt8} (h : ¬ 0 < l.length) : pcsR l = .ok [] l := by
  obtain rfl := List.eq_nil_of_length_eq_zero (by omega : l.length = 0)
  rfl
theorem pcsR_bad {l : List UInt8} {r : Nat} {k : Int} (h0 : 0 < l.length) (hc : pieceL l = .bad r k) : pcsR l = .bad r k := by
  unfold pcsR
  obtain ⟨m, hm⟩ : ∃ m, l.length = m + 1 := ⟨l.length - 1, by omega⟩
  rw [hm]
  show (if 0 < l.length then _ else _) = _
  rw [if_pos h0, hc]
theorem pcsR_ok {l l' : List UInt8} {p : Pc} (h0 : 0 < l.length) (hc : pieceL l = .ok p l') : pcsR l = preP [p] (pcsR l') := by
  have hlt := piece_lt h0 hc
  unfold pcsR
  obtain ⟨m, hm⟩ : ∃ m, l.length = m + 1 := ⟨l.length - 1, by omega⟩
  rw [hm]
  show (if 0 < l.length then _ else _) = _
  rw [if_pos h0, hc]
  simp only
  rw [pieces_fuel m m l' (by omega) (by omega)]
  cases piecesL l'.length l' <;> rfl
theorem preP_preP (a b : List Pc) (r : PR (List Pc)) : preP a (preP b r) = preP (a ++ b) r := by
  cases r with
  | bad => rfl
  | ok t l => show PR.ok _ _ = PR.ok _ _; rw [List.append_assoc]

/-- The cells of pieces. -/
def pcC (ps : List Pc) : List Value := ps.flatMap fun p => [.int .i64 p.k, .int .i64 p.a, .int .i64 p.b, .string p.t]
theorem pcC_len (ps : List Pc) : (pcC ps).length = ps.length * 4 := by
  induction ps with
  | nil => rfl
  | cons p ps ih => unfold pcC at *; rw [List.flatMap_cons, List.length_append, ih, List.length_cons]; simp; omega
theorem pcC_app (ps qs : List Pc) : pcC (ps ++ qs) = pcC ps ++ pcC qs := by unfold pcC; rw [List.flatMap_append]
theorem pcC_get : ∀ (ps : List Pc) (i : Nat) (h : i < ps.length), (pcC ps)[i * 4]? = some (.int .i64 ps[i].k) ∧ (pcC ps)[i * 4 + 1]? = some (.int .i64 ps[i].a) ∧ (pcC ps)[i * 4 + 2]? = some (.int .i64 ps[i].b) ∧ (pcC ps)[i * 4 + 3]? = some (.string ps[i].t)
  | p :: ps, 0, h => ⟨rfl, rfl, rfl, rfl⟩
  | p :: ps, i + 1, h => by
    have ih := pcC_get ps i (by simpa using h)
    have e : pcC (p :: ps) = [Value.int .i64 p.k, .int .i64 p.a, .int .i64 p.b, .string p.t] ++ pcC ps := rfl
    have g : ∀ j, (pcC (p :: ps))[(i + 1) * 4 + j]? = (pcC ps)[i * 4 + j]? := fun j => by
      rw [e, List.getElem?_append_right (by simp; omega)]
      congr 1
      simp; omega
    have g0 := g 0
    rw [Nat.add_zero, Nat.add_zero] at g0
    rw [g0, g 1, g 2, g 3]
    exact ih
/-- A slice of pieces that the call owns. -/
def PF (w : World) (base : Nat) (v : Value) (ps : List Pc) : Prop := w.ownsRow base 31 4 v ps.length (pcC ps)
theorem PF.pcs {w : World} {base : Nat} {v : Value} {ps : List Pc} (h : PF w base v ps) : Pcs w v ps := by
  rcases h.2 with ⟨rfl, h0⟩ | ⟨g, cap, cur, rfl, _, hg, hle, _, hs, hx⟩
  · exact .inl ⟨rfl, List.eq_nil_of_length_eq_zero h0⟩
  · refine .inr ⟨g, 0, cap, rfl, (Array.getElem?_eq_some_iff.1 hg).1, fun i hi => ?_⟩
    have key : ∀ j v, j < ps.length * 4 → (pcC ps)[j]? = some v → w.cell? ⟨g, 0 + j, none⟩ = some v := fun j v hj hv => by
      rw [Nat.zero_add, cell_of_row w g j _ _ (0, 0) hg]
      rw [← hx, List.getElem?_take_of_lt hj, Array.getElem?_toList] at hv
      exact hv
    obtain ⟨a0, a1, a2, a3⟩ := pcC_get ps i hi
    exact ⟨key _ _ (by omega) a0, key _ _ (by omega) a1, key _ _ (by omega) a2, key _ _ (by omega) a3⟩
end Go.Proofs.YtaejnklgnegkhaaDoor
namespace Go.Proofs.YtaejnklgnegkhaaDoor
open Go.RowKit Pt

theorem infoP : (Tryd.prog.info? 31).map (fun i => (i.zero, i.size, i.bytes)) = some (some (.agg #[.int .i64 0, .int .i64 0, .int .i64 0, .string ⟨#[]⟩]), 4, 40) := by kernel_rfl
theorem PF.keptb {w w1 : World} {base b : Nat} {v : Value} {l : List Pc} (h : PF w base v l) (hg : w.grownBy w1 (some b)) (hb : b < base) : PF w1 base v l :=
  World.ownsRow.kept h hg (by
    cases hv : Value.ownBlock v with
    | none => exact .inl rfl
    | some g => exact .inr (fun e => by cases e; have := own_base h _ hv; omega))
theorem PF.kept {w w1 : World} {base : Nat} {v : Value} {l : List Pc} (h : PF w base v l) (hg : w.grownBy w1 none) : PF w1 base v l := World.ownsRow.kept h hg (by cases Value.ownBlock v <;> simp)
theorem own_kindP {w : World} {base : Nat} {v : Value} {n : Nat} {xs : List Value} (h : w.ownsRow base 31 4 v n xs) : ∀ g, v.ownBlock = some g → ∃ c fz, w.heap[g]? = some (.cells c 31 fz) := by
  intro g hg
  rcases h.2 with ⟨rfl, _⟩ | ⟨g', cap, cur, rfl, _, hgg, _⟩
  · simp [Value.ownBlock] at hg
  · simp [Value.ownBlock] at hg
    subst hg
    exact ⟨cur, _, hgg⟩
abbrev OKP (w w' : World) : Prop := Lib.OthersKept 31 none w w'
theorem Row.okP {w w' : World} {b : Nat} {cs : List Value} {t : TypeId} (h : Row w b cs t) (ne : t ≠ 31) (k : OKP w w') : Row w' b cs t := k b _ h (by simp) (fun c fz e => ne (by cases e; rfl))
/-- append of one piece, where a block that came in is written as well. -/
theorem app_p (W wr : World) (b : Nat) (v : Value) (l : List Pc) (p : Pc) (hf : PF wr W.heap.size v l) (hn : l.length ≤ 90000) (hg : W.grownBy wr (some b)) :
    ∃ v' w', (Builtin.append_ #[23, 23] 23 #[v, .slice (some ⟨wr.heap.size, 0, none⟩) 1 1]).run Tryd.prog (wr.alloc (.cells #[.int .i64 p.k, .int .i64 p.a, .int .i64 p.b, .string p.t] 31)) = .ok v' w' ∧ PF w' W.heap.size v' (l ++ [p]) ∧ W.grownBy w' (some b) ∧ OKP wr w' := by
  obtain ⟨i0, hi, hz0, hz1, hz2⟩ := info_parts infoP
  obtain ⟨v', w', h1, h2, h3, _⟩ := run_append_own_at (P := Tryd.prog) (wr.alloc (.cells #[.int .i64 p.k, .int .i64 p.a, .int .i64 p.b, .string p.t] 31)) W.heap.size 23 23 31 i0 (.agg #[.int .i64 0, .int .i64 0, .int .i64 0, .string ⟨#[]⟩]) 4 40 Tryd.underlying23 hi hz0 hz1 hz2 rfl (by decide) v l.length (pcC l) (World.ownsRow.alloc hf _) ⟨wr.heap.size, 0, none⟩ 1 1 (pcC [p]) (by rfl) (fun j u hj => by
    rw [addr_add, Nat.zero_add, cell_of_row _ _ j _ 31 (0, 0) (heap_alloc_new wr (.cells #[.int .i64 p.k, .int .i64 p.a, .int .i64 p.b, .string p.t] 31))]
    simpa [pcC] using hj) (by
    intro u hu
    have : u = .int .i64 p.k ∨ u = .int .i64 p.a ∨ u = .int .i64 p.b ∨ u = .string p.t := by simpa [pcC] using hu
    rcases this with rfl | rfl | rfl | rfl <;> rfl) (by unfold maxLen; omega) (by omega) (by have := hg.size; simp; omega)
  refine ⟨v', w', h1, ?_, gr_trans (gr_trans hg (gr_alloc wr (.cells #[.int .i64 p.k, .int .i64 p.a, .int .i64 p.b, .string p.t] 31) none) (.inr rfl) (.inl rfl)) h3 (.inr rfl) (.inr (.inr (own_base hf))), ((Lib.OthersKept.refl _ _ wr).alloc _).grown h3 (own_kindP (World.ownsRow.alloc hf _))⟩
  unfold PF
  rw [pcC_app, List.length_append]
  exact h2
/-- What pieces gives. -/
def GotP (b : Nat) (s : ByteArray) (w : World) (r : PR (List Pc)) (e : Ending) (w' : World) : Prop := match r with
  | .ok a l => (∃ v, e = .returned v ∧ PF w' w.heap.size v a) ∧ (∃ j, Rd w' b s j ∧ rest s j = l) ∧ w.grownBy w' (some b)
  | .bad rem k => e = .panicked [{ v := faultV (s.size - rem) k, recovered := false }] ∧ w.grownBy w' (some b)
theorem gotP_bad {b : Nat} {s : ByteArray} {w w' : World} {r : PR (List Pc)} {e : Ending} {rem : Nat} {k : Int} (hr : r = .bad rem k) (he : e = .panicked [{ v := faultV (s.size - rem) k, recovered := false }]) (hg : w.grownBy w' (some b)) : GotP b s w r e w' := by
  subst hr; exact ⟨he, hg⟩
set_option maxRecDepth 100000 in
set_option maxHeartbeats 2000000 in
theorem pieces_any (w : World) (b i : Nat) (s : ByteArray) (h : Rd w b s i) (hs : s.size ≤ 1000) : Calls Tryd.prog 47 #[.pointer (some ⟨b, 0, none⟩)] w fun e w' => GotP b s w (pcsR (rest s i)) e w' := by
  have hb := h.lt
  have HR := Lib.hid h
  have hle := h.le
  clear h
  go_enter Tryd.func47, Tryd.ntmps47
  go_wp2_with fail
  go_loopw [3] (fun v wr => ∃ (j : Nat) (acc : List Pc), j ≤ s.size ∧ acc.length ≤ j ∧ Hid (pcsR (rest s i) = preP acc (pcsR (rest s j))) ∧ Hid (PF wr w.heap.size v acc) ∧ Hid (Rd wr b s j) ∧ Hid (w.grownBy wr (some b))) (fun _ wr => s.size - atOf wr b)
  case atStart => exact ⟨i, [], hle, Nat.zero_le _, Lib.hid (by cases pcsR (rest s i) <;> rfl), Lib.hid (World.ownsRow_nil _ _ _ _), HR, Lib.hid (gr_b (gr_rfl w) b)⟩
  case round =>
    obtain ⟨j, acc, hj, hacc, HL, HF, HRj, Gj⟩ := hrel
    have c0 := HRj.out.c0
    have c1 := HRj.out.c1
    by_cases hlt : j < s.size
    · have hlti : (j : Int) < (s.size : Int) := by omega
      have h0 : 0 < (rest s j).length := by rw [rest_len]; omega
      have HP := Lib.hid (fun nq => piece_any (wr.drewN nq) b j s (HRj.out.kept (gr_drewN _ _ _)) hs)
      go_wp2
      go_quiet (fail)
      have HCH := HP.out nq
      cases hch : pieceL (rest s j) with
      | bad r k =>
        rw [hch] at HCH
        unfold Got at HCH
        have HCH2 := Lib.hid HCH
        have HG := Lib.hid (show pcsR (rest s i) = .bad r k from by rw [HL.out, pcsR_bad h0 hch]; rfl)
        clear HCH hch h0
        go_wp2_with fail
        refine HCH2.out.mono ?_
        rintro e w4 ⟨rfl, g4⟩
        exact ⟨rfl, gotP_bad HG.out rfl (gr_bb Gj.out (gr_bb (gr_drewN _ _ _) g4))⟩
      | ok x l' =>
        rw [hch] at HCH
        unfold Got at HCH
        have HCH2 := Lib.hid HCH
        have hll := piece_lt h0 hch
        have HG := Lib.hid (show pcsR (rest s i) = preP (acc ++ [x]) (pcsR l') from by rw [HL.out, pcsR_ok h0 hch, preP_preP])
        have HLL := Lib.hid hll
        clear HCH hch h0 hll
        obtain ⟨x0, x1, x2, x3⟩ := x
        go_wp2_with fail
        refine HCH2.out.mono ?_
        rintro e w4 ⟨rfl, ⟨j2, hr4, rfl⟩, g4⟩
        have HJ2 := Lib.hid (show j < j2 ∧ j2 ≤ s.size from by
          have h1 := HLL.out
          rw [rest_len, rest_len] at h1
          exact ⟨by omega, hr4.le⟩)
        have F4 := (HF.out.kept (gr_drewN _ nq none)).keptb g4 hb
        have G4 := gr_bb Gj.out (gr_bb (gr_drewN _ nq _) g4)
        obtain ⟨v5, w5, r5, f5, g5, k5⟩ := app_p w w4 b u3 acc ⟨x0, x1, x2, x3⟩ F4 (by omega) G4
        have F5 := Lib.hid f5
        have G5 := Lib.hid g5
        have R5 := Lib.hid (show Rd w5 b s j2 from ⟨hr4.row.okP (by decide) k5, hr4.le⟩)
        clear f5 g5 k5 F4 G4 g4 hr4 c0 c1
        simp only at r5
        go_wp2_with (at_builtin; refine wpList_call_append rfl (.tmp 14) (.tmp 17) 23 rfl _ _ rfl rfl _ _ r5 ?_)
        refine ⟨⟨j2, acc ++ [⟨x0, x1, x2, x3⟩], HJ2.out.2, by rw [List.length_append, List.length_singleton]; have := HJ2.out.1; omega, HG, F5, R5, G5⟩, ?_⟩
        rw [R5.out.at_, HRj.out.at_]
        have := HJ2.out
        omega
    · have hlti : decide ((j : Int) < (s.size : Int)) = false := decide_eq_false (by omega)
      have hltn : decide (j < s.size) = false := decide_eq_false hlt
      have HG := Lib.hid (show pcsR (rest s i) = .ok acc (rest s j) from by rw [HL.out, pcsR_end (by rw [rest_len]; omega)]; show PR.ok (acc ++ []) _ = _; rw [List.append_nil])
      clear hlt
      go_wp2
      go_quiet (fail)
      go_wp2
      go_ret
      rw [HG.out]
      exact ⟨⟨_, rfl, HF.out.kept (gr_drewN _ _ _)⟩, ⟨j, HRj.out.kept (gr_drewN _ _ _), rfl⟩, gr_bb Gj.out (gr_drewN _ _ _)⟩
end Go.Proofs.YtaejnklgnegkhaaDoor
namespace Go.Proofs.YtaejnklgnegkhaaDoor
open Go.RowKit Pt

set_option maxRecDepth 100000 in
theorem ta_nil (w : World) : Sem.run Tryd.prog (Instr.typeAssert .nilIface 20 77 true) w = .ok (.tuple #[.agg #[.int .i64 0, .int .i64 0], .bool false]) w := by kernel_rfl
set_option maxRecDepth 100000 in
theorem ta_some (i : Nat) (k : Int) (w : World) : Sem.run Tryd.prog (Instr.typeAssert (faultV i k) 20 77 true) w = .ok (.tuple #[.agg #[.int .i64 (i : Int), .int .i64 k], .bool true]) w := by kernel_rfl
set_option maxRecDepth 100000 in
set_option maxHeartbeats 1000000 in
theorem catch_idle (B : Nat) (w : World) :
    CallsD Tryd.prog 46 #[.pointer (some ⟨B, 0, none⟩), .pointer (some ⟨B + 1, 0, none⟩), .pointer (some ⟨B + 1 + 1, 0, none⟩)] .returning w fun e u' w' => e = .returned (.tuple #[]) ∧ u' = .returning ∧ w.grownBy w' none := by
  refine callsD_of_wpS Tryd.func46 rfl fun c₀ cs hu => ?_
  apply wpS_seq
  apply wpS_region
  simp [wpOpsS, go_sem, recoverD, hu, Tryd.ntmps46, Exit.thenS, ta_nil]
  refine wpS_of_wp ?_
  simp only [Array.replicate_succ, Array.replicate_zero, List.push_toArray, List.nil_append, List.cons_append, List.setIfInBounds_toArray, List.set_cons_zero, List.set_cons_succ, List.append_toArray]
  go_wp2
  cases c₀
  simp_all [bodyPostS, results, Tryd.results46]
  exact gr_alloc _ _ _
/-- Three results, each in a block of its own. -/
structure R3 (W : World) (B : Nat) (v : Value) (a k : Int) : Prop where
  p : Row W B [v] 23
  a : Row W (B + 1) [.int .i64 a] 3
  e : Row W (B + 1 + 1) [.int .i64 k] 27
theorem R3.kept {W W' : World} {B : Nat} {v : Value} {a k : Int} (h : R3 W B v a k) (hg : W.grownBy W' none) : R3 W' B v a k := ⟨h.p.kept hg, h.a.kept hg, h.e.kept hg⟩
theorem R3.keptb {W W' : World} {B b : Nat} {v : Value} {a k : Int} (h : R3 W B v a k) (hg : W.grownBy W' (some b)) (hb : B + 1 + 1 < b) : R3 W' B v a k := ⟨h.p.keptb hg (by omega), h.a.keptb hg (by omega), h.e.keptb hg (by omega)⟩
theorem R3.set {W : World} {B : Nat} {v : Value} {a k : Int} (h : R3 W B v a k) (v' : Value) (a' k' : Int) : R3 (((W.setCell ⟨B, 0, none⟩ v').setCell ⟨B + 1, 0, none⟩ (.int .i64 a')).setCell ⟨B + 1 + 1, 0, none⟩ (.int .i64 k')) B v' a' k' :=
  ⟨((h.p.set 0 _).other (by omega)).other (by omega), ((h.a.other (by omega)).set 0 _).other (by omega), ((h.e.other (by omega)).other (by omega)).set 0 _⟩
theorem gr_set3 {w W : World} {B : Nat} (h : w.grownBy W none) (hB : w.heap.size ≤ B) (v : Value) (a k : Value) : w.grownBy (((W.setCell ⟨B, 0, none⟩ v).setCell ⟨B + 1, 0, none⟩ a).setCell ⟨B + 1 + 1, 0, none⟩ k) none :=
  gr_setn (gr_setn (gr_setn h hB) (by omega)) (by omega)
set_option maxRecDepth 100000 in
set_option maxHeartbeats 1000000 in
theorem catch_some (w0 : World) (B i : Nat) (k : Int) (w : World) (hr : R3 w B (.slice none 0 0) 0 0) (h0 : w0.grownBy w none) (hB : w0.heap.size ≤ B) :
    CallsD Tryd.prog 46 #[.pointer (some ⟨B, 0, none⟩), .pointer (some ⟨B + 1, 0, none⟩), .pointer (some ⟨B + 1 + 1, 0, none⟩)] (.panicking [{ v := faultV i k, recovered := false }]) w fun e u' w' => e = .returned (.tuple #[]) ∧ u' = .panicking [{ v := faultV i k, recovered := true }] ∧ R3 w' B (.slice none 0 0) (i : Int) k ∧ w0.grownBy w' none := by
  have hr1 := hr.kept (gr_alloc w (.cells #[.int .i64 (i : Int), .int .i64 k] 77) none)
  have HR := Lib.hid hr1
  have H0 := Lib.hid (gr_then h0 (gr_alloc w (.cells #[.int .i64 (i : Int), .int .i64 k] 77) none))
  have hta := ta_some i k
  refine callsD_of_wpS Tryd.func46 rfl fun c₀ cs hu => ?_
  apply wpS_seq
  apply wpS_region
  simp [wpOpsS, go_sem, recoverD, hu, Tryd.ntmps46, Exit.thenS, hta]
  refine wpS_of_wp ?_
  simp only [Array.replicate_succ, Array.replicate_zero, List.push_toArray, List.nil_append, List.cons_append, List.setIfInBounds_toArray, List.set_cons_zero, List.set_cons_succ, List.append_toArray]
  have c0 := hr1.p.cell 0 _ rfl
  have c1 := hr1.a.cell 0 _ rfl
  have c2 := hr1.e.cell 0 _ rfl
  have f0 := hr1.p.fr 0
  have f1 := hr1.a.fr 0
  have f2 := hr1.e.fr 0
  have hne : w.heap.size ≠ B := by have := hr.p.lt; omega
  have hr2 := Row.new w [.int .i64 (i : Int), .int .i64 k] 77
  have d0 := hr2.cell 0 _ rfl
  have d1 := hr2.cell 1 _ rfl
  have hsz : w.heap.size ≠ B + 1 ∧ w.heap.size ≠ B + 1 + 1 := by have h1 := hr.a.lt; have h2 := hr.e.lt; omega
  clear hr hr1 h0 hr2 hta
  obtain ⟨wx, hwx⟩ : ∃ wx, w.alloc (.cells #[.int .i64 (i : Int), .int .i64 k] 77) = wx := ⟨_, rfl⟩
  obtain ⟨X, hX⟩ : ∃ X, w.heap.size = X := ⟨_, rfl⟩
  rw [hwx] at HR H0 c0 c1 c2 f0 f1 f2 d0 d1 ⊢
  rw [hX] at hne hsz d0 d1 ⊢
  clear hwx hX
  go_wp2
  go_region
  exact ⟨rfl, _, rfl, _, results_none rfl _ _ _, rfl, rfl, (HR.out.set _ _ _).kept (gr_drewN _ 1 none), gr_then (gr_set3 H0.out hB _ _ _) (gr_drewN _ 1 none)⟩
end Go.Proofs.YtaejnklgnegkhaaDoor
namespace Go.Proofs.YtaejnklgnegkhaaDoor
open Go.RowKit Pt

theorem r3_new (w : World) : R3 (((w.alloc (.cells #[.slice none 0 0] 23)).alloc (.cells #[.int .i64 0] 3)).alloc (.cells #[.int .i64 0] 27)) w.heap.size (.slice none 0 0) 0 0 := by
  have r0 := Row.new w [.slice none 0 0] 23
  have r1 := Row.new (w.alloc (.cells #[.slice none 0 0] 23)) [.int .i64 0] 3
  have r2 := Row.new ((w.alloc (.cells #[.slice none 0 0] 23)).alloc (.cells #[.int .i64 0] 3)) [.int .i64 0] 27
  simp only [List.toArray, World.size_alloc] at r0 r1 r2
  exact ⟨r0.al.al, r1.al, r2⟩
/-- What Parse hands back. -/
abbrev Parsed (w : World) (s : List UInt8) (e : Ending) (w' : World) : Prop := ∃ v, e = .returned (.tuple #[v, .int .i64 ((parseL s).2.1 : Nat), .int .i64 (parseL s).2.2]) ∧ Pcs w' v (parseL s).1 ∧ w.grownBy w' none
theorem results_r3 {fn : Func} (h : fn.results = #[.cell 2 23, .cell 3 3, .cell 4 27]) (tmps : Array Value) (w : World) (B : Nat) (v : Value) (a k : Int) (h2 : tmps.getD 2 undef = .pointer (some ⟨B, 0, none⟩)) (h3 : tmps.getD 3 undef = .pointer (some ⟨B + 1, 0, none⟩)) (h4 : tmps.getD 4 undef = .pointer (some ⟨B + 1 + 1, 0, none⟩)) (hr : R3 w B v a k) :
    (results fn tmps).run Tryd.prog w = .ok (.tuple #[v, .int .i64 a, .int .i64 k]) w :=
  results_box3 h tmps w B (B + 1) (B + 1 + 1) v (.int .i64 a) (.int .i64 k) h2 h3 h4 (hr.p.cell 0 _ rfl) (hr.a.cell 0 _ rfl) (hr.e.cell 0 _ rfl) (Tryd.isAgg23) (Tryd.isAgg3) (Tryd.isAgg27)
set_option maxRecDepth 100000 in
set_option maxHeartbeats 2000000 in
theorem parse_any (s : ByteArray) (w : World) (hs : s.size ≤ 1000000000000) : Calls Tryd.prog 16 #[.string s] w (Parsed w s.data.toList) := by
  have hmf : ∀ (fn : Fn) (first cap : Array Value) (w : World), (Instr.makeFunc fn first cap).run Tryd.prog w = .ok (.func fn first cap) w := fun _ _ _ _ => rfl
  obtain ⟨B, hB⟩ : ∃ B, w.heap.size = B := ⟨_, rfl⟩
  obtain ⟨wa, hwa⟩ : ∃ wa, ((w.alloc (.cells #[.slice none 0 0] 23)).alloc (.cells #[.int .i64 0] 3)).alloc (.cells #[.int .i64 0] 27) = wa := ⟨_, rfl⟩
  have hr := r3_new w
  rw [hwa, hB] at hr
  have hg : w.grownBy wa none := by rw [← hwa]; exact gr_then (gr_then (gr_alloc _ _ _) (gr_alloc _ _ _)) (gr_alloc _ _ _)
  have HR := Lib.hid hr
  have HG := Lib.hid hg
  have HWA := Lib.hid hwa
  have HB := Lib.hid hB
  have hsz : wa.heap.size = B + 1 + 1 + 1 := by rw [← hwa]; simp [hB]
  by_cases hl : 60 < s.size
  · have HP := Lib.hid (show parseL s.data.toList = ([], 0, 2) from if_pos hl)
    have hli : (60 : Int) < (s.size : Int) := by omega
    have c0 := hr.p.cell 0 _ rfl
    have c1 := hr.a.cell 0 _ rfl
    have c2 := hr.e.cell 0 _ rfl
    have f0 := hr.p.fr 0
    have f1 := hr.a.fr 0
    have f2 := hr.e.fr 0
    clear hl hg hr
    go_enter_defers Tryd.func16, Tryd.ntmps16
    go_wp2
    exact ⟨_, results_r3 rfl _ _ B _ _ _ rfl rfl rfl (HR.out.set _ _ _), _, by rw [HP.out]; rfl, by rw [HP.out]; exact .inl ⟨rfl, rfl⟩, gr_set3 HG.out (by rw [HB.out]; exact Nat.le_refl _) _ _ _⟩
  · have hli : ¬ (60 : Int) < (s.size : Int) := by omega
    have HP := Lib.hid (show parseL s.data.toList = (match pcsR (rest s 0) with | .bad r k => ([], s.size - r, k) | .ok ps _ => (ps, 0, 0)) from if_neg hl)
    obtain ⟨wb, hwb⟩ : ∃ wb, wa.alloc (.cells #[.string s, .int .i64 0] 80) = wb := ⟨_, rfl⟩
    have hrow := Row.new wa [.string s, .int .i64 0] 80
    have gb : wa.grownBy wb none := by rw [← hwb]; exact gr_alloc _ _ _
    simp only [List.toArray] at hrow
    rw [hwb, hsz] at hrow
    have hRD : Rd wb (B + 1 + 1 + 1) s 0 := ⟨hrow, Nat.zero_le _⟩
    have HRB := Lib.hid (HR.out.kept gb)
    have HGB := Lib.hid (gr_then hg gb)
    have HK := pieces_any wb (B + 1 + 1 + 1) 0 s hRD (by omega)
    have HWB := Lib.hid hwb
    clear hl hg hr hrow gb hRD hwb
    cases hpc : pcsR (rest s 0) with
    | bad r k =>
      rw [hpc] at HK HP
      unfold GotP at HK
      have HK2 := Lib.hid HK
      clear HK hpc
      go_enter_defers Tryd.func16, Tryd.ntmps16
      go_wp2_with fail
      rw [HWB.out]
      refine HK2.out.mono ?_
      rintro e w4 ⟨rfl, g4⟩
      have HR4 := HRB.out.keptb g4 (by omega)
      refine leaves_cons (f := 46) (args := #[.pointer (some ⟨B, 0, none⟩), .pointer (some ⟨B + 1, 0, none⟩), .pointer (some ⟨B + 1 + 1, 0, none⟩)]) (by simp) (by simp [go_sem]) ?_
      refine (catch_some w B (s.size - r) k w4 HR4 (gr_new HGB.out g4 (by rw [HB.out]; omega)) (by rw [HB.out]; exact Nat.le_refl _)).mono ?_
      rintro e u' w'' ⟨rfl, rfl, hr5, g5⟩
      exact ⟨_, results_r3 rfl _ _ B _ _ _ rfl rfl rfl hr5, _, by rw [HP.out], by rw [HP.out]; exact .inl ⟨rfl, rfl⟩, g5⟩
    | ok ps l =>
      rw [hpc] at HK HP
      unfold GotP at HK
      have HK2 := Lib.hid HK
      clear HK hpc
      go_enter_defers Tryd.func16, Tryd.ntmps16
      go_wp2_with fail
      rw [HWB.out]
      refine HK2.out.mono ?_
      rintro e w4 ⟨⟨v, rfl, hv⟩, _, g4⟩
      have HR4 := Lib.hid (HRB.out.keptb g4 (by omega))
      have G4 := Lib.hid (gr_new HGB.out g4 (by rw [HB.out]; omega))
      have c0 := HR4.out.p.cell 0 _ rfl
      have c1 := HR4.out.a.cell 0 _ rfl
      have c2 := HR4.out.e.cell 0 _ rfl
      have f0 := HR4.out.p.fr 0
      have f1 := HR4.out.a.fr 0
      have f2 := HR4.out.e.fr 0
      have HV := Lib.hid hv
      obtain ⟨a0, n0, k0, rfl⟩ : ∃ a0 n0 k0, v = .slice a0 n0 k0 := by
        rcases hv.2 with ⟨rfl, _⟩ | ⟨_, _, _, rfl, _⟩
        · exact ⟨_, _, _, rfl⟩
        · exact ⟨_, _, _, rfl⟩
      clear hv g4
      go_wp2
      refine leaves_cons (f := 46) (args := #[.pointer (some ⟨B, 0, none⟩), .pointer (some ⟨B + 1, 0, none⟩), .pointer (some ⟨B + 1 + 1, 0, none⟩)]) (by simp) (by simp [go_sem]) ?_
      refine (catch_idle B _).mono ?_
      rintro e u' w'' ⟨rfl, rfl, g5⟩
      refine ⟨_, results_r3 rfl _ _ B _ _ _ rfl rfl rfl ((HR4.out.set _ _ _).kept g5), _, by rw [HP.out]; rfl, ?_, gr_then (gr_set3 G4.out (by rw [HB.out]; exact Nat.le_refl _) _ _ _) g5⟩
      rw [HP.out]
      have hbs : B + 1 + 1 + 1 + 1 ≤ wb.heap.size := by rw [← HWB.out, World.size_alloc, hsz]; exact Nat.le_refl _
      exact ((((HV.out.keptb (gr_set _ B 0 _) (by omega)).keptb (gr_set _ (B + 1) 0 _) (by omega)).keptb (gr_set _ (B + 1 + 1) 0 _) (by omega)).kept g5).pcs
end Go.Proofs.YtaejnklgnegkhaaDoor
namespace Go.Proofs.YtaejnklgnegkhaaDoor
open Go.RowKit Pt

theorem let_no {c k : Nat} (hk : k = 7) (h : ∀ m, m < k → letD c ≠ m + 1) : letD c = 0 := by
  subst hk
  have h7 : letD c ≤ 7 := by unfold letD; repeat' split
                             all_goals omega
  rcases Nat.eq_zero_or_pos (letD c) with h0 | h0
  · exact h0
  · exact absurd (by omega) (h (letD c - 1) (by omega))
set_option maxRecDepth 100000 in
set_option maxHeartbeats 2000000 in
theorem rlet_any (c : Nat) (w : World) (hc : c ≤ 255) : Calls Tryd.prog 94 #[.int .u8 (c : Int)] w fun e w' => e = .returned (.int .i64 (letD c : Nat)) ∧ w = w' := by
  go_enter Tryd.func94, Tryd.ntmps94
  go_wp2
  go_loop [3] (fun v => ∃ k : Nat, k ≤ 7 ∧ v = .int .i64 (k : Int) ∧ Hid (∀ m, m < k → letD c ≠ m + 1)) (fun v => (7 - intOf v).toNat)
  case atStart => exact ⟨0, by omega, by simp, fun m hm => by omega⟩
  case round =>
    obtain ⟨k, hk, rfl, hn⟩ := hrel
    have h8 : k = 0 ∨ k = 1 ∨ k = 2 ∨ k = 3 ∨ k = 4 ∨ k = 5 ∨ k = 6 ∨ k = 7 := by omega
    rcases h8 with rfl | rfl | rfl | rfl | rfl | rfl | rfl | rfl
    · have hix : ((⟨#[100, 117, 108, 97, 115, 111, 46]⟩ : ByteArray)[0]'(by decide)).toNat = 100 := rfl
      by_cases hb : c = 100
      · subst hb
        go_wp2
        go_ret
        exact ⟨by rfl, rfl⟩
      · have hbb : ((100 : Int) == (c : Int)) = false := by rw [beq_eq_false_iff_ne]; omega
        have hbn : (100 : Int) ≠ (c : Int) := by omega
        have HX := Lib.hid (show ∀ m, m < 1 → letD c ≠ m + 1 from fun m hm => by
          rcases Nat.lt_succ_iff_lt_or_eq.1 hm with h | rfl
          · exact hn.out m h
          · unfold letD; repeat' split
            all_goals (first | omega | simp_all))
        clear hb
        go_wp2
        exact ⟨⟨1, by decide, rfl, HX⟩, by decide⟩
    · have hix : ((⟨#[100, 117, 108, 97, 115, 111, 46]⟩ : ByteArray)[1]'(by decide)).toNat = 117 := rfl
      by_cases hb : c = 117
      · subst hb
        go_wp2
        go_ret
        exact ⟨by rfl, rfl⟩
      · have hbb : ((117 : Int) == (c : Int)) = false := by rw [beq_eq_false_iff_ne]; omega
        have hbn : (117 : Int) ≠ (c : Int) := by omega
        have HX := Lib.hid (show ∀ m, m < 2 → letD c ≠ m + 1 from fun m hm => by
          rcases Nat.lt_succ_iff_lt_or_eq.1 hm with h | rfl
          · exact hn.out m h
          · unfold letD; repeat' split
            all_goals (first | omega | simp_all))
        clear hb
        go_wp2
        exact ⟨⟨2, by decide, rfl, HX⟩, by decide⟩
    · have hix : ((⟨#[100, 117, 108, 97, 115, 111, 46]⟩ : ByteArray)[2]'(by decide)).toNat = 108 := rfl
      by_cases hb : c = 108
      · subst hb
        go_wp2
        go_ret
        exact ⟨by rfl, rfl⟩
      · have hbb : ((108 : Int) == (c : Int)) = false := by rw [beq_eq_false_iff_ne]; omega
        have hbn : (108 : Int) ≠ (c : Int) := by omega
        have HX := Lib.hid (show ∀ m, m < 3 → letD c ≠ m + 1 from fun m hm => by
          rcases Nat.lt_succ_iff_lt_or_eq.1 hm with h | rfl
          · exact hn.out m h
          · unfold letD; repeat' split
            all_goals (first | omega | simp_all))
        clear hb
        go_wp2
        exact ⟨⟨3, by decide, rfl, HX⟩, by decide⟩
    · have hix : ((⟨#[100, 117, 108, 97, 115, 111, 46]⟩ : ByteArray)[3]'(by decide)).toNat = 97 := rfl
      by_cases hb : c = 97
      · subst hb
        go_wp2
        go_ret
        exact ⟨by rfl, rfl⟩
      · have hbb : ((97 : Int) == (c : Int)) = false := by rw [beq_eq_false_iff_ne]; omega
        have hbn : (97 : Int) ≠ (c : Int) := by omega
        have HX := Lib.hid (show ∀ m, m < 4 → letD c ≠ m + 1 from fun m hm => by
          rcases Nat.lt_succ_iff_lt_or_eq.1 hm with h | rfl
          · exact hn.out m h
          · unfold letD; repeat' split
            all_goals (first | omega | simp_all))
        clear hb
        go_wp2
        exact ⟨⟨4, by decide, rfl, HX⟩, by decide⟩
    · have hix : ((⟨#[100, 117, 108, 97, 115, 111, 46]⟩ : ByteArray)[4]'(by decide)).toNat = 115 := rfl
      by_cases hb : c = 115
      · subst hb
        go_wp2
        go_ret
        exact ⟨by rfl, rfl⟩
      · have hbb : ((115 : Int) == (c : Int)) = false := by rw [beq_eq_false_iff_ne]; omega
        have hbn : (115 : Int) ≠ (c : Int) := by omega
        have HX := Lib.hid (show ∀ m, m < 5 → letD c ≠ m + 1 from fun m hm => by
          rcases Nat.lt_succ_iff_lt_or_eq.1 hm with h | rfl
          · exact hn.out m h
          · unfold letD; repeat' split
            all_goals (first | omega | simp_all))
        clear hb
        go_wp2
        exact ⟨⟨5, by decide, rfl, HX⟩, by decide⟩
    · have hix : ((⟨#[100, 117, 108, 97, 115, 111, 46]⟩ : ByteArray)[5]'(by decide)).toNat = 111 := rfl
      by_cases hb : c = 111
      · subst hb
        go_wp2
        go_ret
        exact ⟨by rfl, rfl⟩
      · have hbb : ((111 : Int) == (c : Int)) = false := by rw [beq_eq_false_iff_ne]; omega
        have hbn : (111 : Int) ≠ (c : Int) := by omega
        have HX := Lib.hid (show ∀ m, m < 6 → letD c ≠ m + 1 from fun m hm => by
          rcases Nat.lt_succ_iff_lt_or_eq.1 hm with h | rfl
          · exact hn.out m h
          · unfold letD; repeat' split
            all_goals (first | omega | simp_all))
        clear hb
        go_wp2
        exact ⟨⟨6, by decide, rfl, HX⟩, by decide⟩
    · have hix : ((⟨#[100, 117, 108, 97, 115, 111, 46]⟩ : ByteArray)[6]'(by decide)).toNat = 46 := rfl
      by_cases hb : c = 46
      · subst hb
        go_wp2
        go_ret
        exact ⟨by rfl, rfl⟩
      · have hbb : ((46 : Int) == (c : Int)) = false := by rw [beq_eq_false_iff_ne]; omega
        have hbn : (46 : Int) ≠ (c : Int) := by omega
        have HX := Lib.hid (show ∀ m, m < 7 → letD c ≠ m + 1 from fun m hm => by
          rcases Nat.lt_succ_iff_lt_or_eq.1 hm with h | rfl
          · exact hn.out m h
          · unfold letD; repeat' split
            all_goals (first | omega | simp_all))
        clear hb
        go_wp2
        exact ⟨⟨7, by decide, rfl, HX⟩, by decide⟩
    · have HX := Lib.hid (let_no rfl hn.out)
      go_wp2
      go_ret
      exact ⟨by rw [HX.out]; rfl, rfl⟩
/-- The reference's reader, without an error. -/
structure Rr (w : World) (R : Nat) (s : ByteArray) (j : Nat) : Prop where
  row : Row w R [.string s, .int .i64 (j : Int), .int .i64 0, .int .i64 0] 115
  le : j ≤ s.size
section
variable {w w1 : World} {R j : Nat} {s : ByteArray}
theorem Rr.c0 (h : Rr w R s j) : w.cell? ⟨R, 0, none⟩ = some (.string s) := h.row.cell 0 _ rfl
theorem Rr.c1 (h : Rr w R s j) : w.cell? ⟨R, 1, none⟩ = some (.int .i64 (j : Int)) := h.row.cell 1 _ rfl
theorem Rr.c3 (h : Rr w R s j) : w.cell? ⟨R, 3, none⟩ = some (.int .i64 0) := h.row.cell 3 _ rfl
theorem Rr.f1 (h : Rr w R s j) : w.frozen? ⟨R, 1, none⟩ = false := h.row.fr 1
theorem Rr.kept (h : Rr w R s j) (hg : w.grownBy w1 none) : Rr w1 R s j := ⟨h.row.kept hg, h.le⟩
theorem Rr.lt (h : Rr w R s j) : R < w.heap.size := h.row.lt
theorem Rr.at_ (h : Rr w R s j) : atOf w R = j := by unfold atOf; rw [h.c1]; rfl
theorem Rr.step (h : Rr w R s j) (hj : j + 1 ≤ s.size) {z : Int} (hz : z = (j : Int) + 1) : Rr (w.setCell ⟨R, 1, none⟩ (.int .i64 z)) R s (j + 1) := by
  subst hz; exact ⟨h.row.set 1 _, hj⟩
end
/-- A count without braces: its limits, and how many characters it has. -/
def sufR (x : Nat) : Int × Int × Nat := if x = 43 then (1, 200, 1) else if x = 42 then (0, 200, 1) else (1, 1, 0)
set_option maxRecDepth 100000 in
set_option maxHeartbeats 2000000 in
theorem rcnt_any (w : World) (R j : Nat) (s : ByteArray) (h : Rr w R s j) (hx : nx (rest s j) ≠ 123) (hs : s.size ≤ 1000000) : Calls Tryd.prog 96 #[.pointer (some ⟨R, 0, none⟩)] w fun e w' =>
    e = .returned (.tuple #[.int .i64 (sufR (nx (rest s j))).1, .int .i64 (sufR (nx (rest s j))).2.1]) ∧ Rr w' R s (j + (sufR (nx (rest s j))).2.2) ∧ w.grownBy w' (some R) := by
  have HR := Lib.hid h
  have hle := h.le
  have c0 := h.c0
  have c1 := h.c1
  have f1 := h.f1
  clear h
  by_cases hi : j = s.size
  · subst hi
    have HN := Lib.hid (show sufR (nx (rest s s.size)) = (1, 1, 0) from by rw [nx_end rfl]; rfl)
    clear hx
    go_enter Tryd.func96, Tryd.ntmps96
    go_wp2
    go_quiet (fail)
    go_wp2
    go_ret2
    exact ⟨by rw [HN.out]; rfl, by rw [HN.out]; exact HR.out.kept (gr_drewN _ _ _), gr_drewN _ _ _⟩
  · have hi2 : j < s.size := by omega
    have hi3 : (j : Int) < (s.size : Int) := by omega
    have hi4 : ¬ (s.size : Int) ≤ (j : Int) := by omega
    have HN := Lib.hid (nx_rest hi2)
    rw [nx_rest hi2] at hx ⊢
    obtain ⟨x, hxx⟩ : ∃ x, s[j].toNat = x := ⟨_, rfl⟩
    rw [hxx] at hx ⊢
    by_cases h43 : x = 43
    · have HX := Lib.hid (show sufR x = (1, 200, 1) from if_pos h43)
      have hb : ((x : Int) == 43) = true := by rw [h43]; rfl
      clear h43 hx hi
      go_enter Tryd.func96, Tryd.ntmps96
      go_wp2
      go_quiet (fail)
      go_wp2
      go_quiet (fail)
      go_wp2
      go_ret2
      exact ⟨by rw [HX.out]; rfl, by rw [HX.out]; exact (HR.out.kept (gr_drewN _ _ _)).step hi2 rfl, gr_trans (gr_drewN _ _ (some R)) (gr_set _ _ _ _) (.inr rfl) (.inr (.inl rfl))⟩
    · have hb : ((x : Int) == 43) = false := by rw [beq_eq_false_iff_ne]; omega
      by_cases h42 : x = 42
      · have HX := Lib.hid (show sufR x = (0, 200, 1) from by unfold sufR; rw [if_neg h43, if_pos h42])
        have hb2 : ((x : Int) == 42) = true := by rw [h42]; rfl
        clear h43 h42 hx hi
        go_enter Tryd.func96, Tryd.ntmps96
        go_wp2
        go_quiet (fail)
        go_wp2
        go_quiet (fail)
        go_wp2
        go_ret2
        exact ⟨by rw [HX.out]; rfl, by rw [HX.out]; exact (HR.out.kept (gr_drewN _ _ _)).step hi2 rfl, gr_trans (gr_drewN _ _ (some R)) (gr_set _ _ _ _) (.inr rfl) (.inr (.inl rfl))⟩
      · have HX := Lib.hid (show sufR x = (1, 1, 0) from by unfold sufR; rw [if_neg h43, if_neg h42])
        have hb2 : ((x : Int) == 42) = false := by rw [beq_eq_false_iff_ne]; omega
        have hb3 : ((x : Int) == 123) = false := by rw [beq_eq_false_iff_ne]; omega
        clear h43 h42 hx hi
        go_enter Tryd.func96, Tryd.ntmps96
        go_wp2
        go_quiet (fail)
        go_wp2
        go_quiet (fail)
        go_wp2
        go_ret2
        exact ⟨by rw [HX.out]; rfl, by rw [HX.out]; exact HR.out.kept (gr_drewN _ _ _), gr_drewN _ _ _⟩
/-- The pieces of a string that holds runs without braces alone. -/
def runsF : Nat → List UInt8 → Option (List Pc)
  | 0, l => if l.length = 0 then some [] else none
  | f + 1, l => if l.length = 0 then some [] else if nx l = 92 ∧ letD (nx l.tail) ≠ 0 ∧ nx l.tail.tail ≠ 123 then (runsF f (l.drop (2 + (sufR (nx l.tail.tail)).2.2))).map (⟨letD (nx l.tail), (sufR (nx l.tail.tail)).1, (sufR (nx l.tail.tail)).2.1, ⟨#[]⟩⟩ :: ·) else none
theorem run_step {m j : Nat} {s : ByteArray} {rs : List Pc} (h0 : j < s.size) (h : runsF m (rest s j) = some rs) : ∃ (m' L : Nat) (q : Int × Int × Nat) (rs' : List Pc), m = m' + 1 ∧ nx (rest s j) = 92 ∧ (letD (nx (rest s (j + 1))) = L ∧ letD (nx (rest s (j + 1))) ≠ 0) ∧ q = sufR (nx (rest s (j + 2))) ∧ nx (rest s (j + 2)) ≠ 123 ∧ rs = ⟨L, q.1, q.2.1, ⟨#[]⟩⟩ :: rs' ∧ runsF m' (rest s (j + 2 + q.2.2)) = some rs' := by
  have hl : (rest s j).length ≠ 0 := by rw [rest_len]; omega
  cases m with
  | zero => rw [show runsF 0 (rest s j) = none from if_neg hl] at h; cases h
  | succ m' =>
    have e1 : (rest s j).tail = rest s (j + 1) := rest_tail s j
    have e2 : (rest s j).tail.tail = rest s (j + 2) := by rw [e1]; exact rest_tail s (j + 1)
    by_cases hc : nx (rest s j) = 92 ∧ letD (nx (rest s (j + 1))) ≠ 0 ∧ nx (rest s (j + 2)) ≠ 123
    · have hd : (rest s j).drop (2 + (sufR (nx (rest s (j + 2)))).2.2) = rest s (j + 2 + (sufR (nx (rest s (j + 2)))).2.2) := by unfold rest; rw [List.drop_drop, Nat.add_assoc]
      have h' : (runsF m' (rest s (j + 2 + (sufR (nx (rest s (j + 2)))).2.2))).map (⟨letD (nx (rest s (j + 1))), (sufR (nx (rest s (j + 2)))).1, (sufR (nx (rest s (j + 2)))).2.1, ⟨#[]⟩⟩ :: ·) = some rs := by
        have : runsF (m' + 1) (rest s j) = _ := if_neg hl
        rw [this, e2, e1, if_pos hc, hd] at h
        exact h
      cases hr : runsF m' (rest s (j + 2 + (sufR (nx (rest s (j + 2)))).2.2)) with
      | none => rw [hr] at h'; cases h'
      | some rs' =>
        rw [hr] at h'
        cases h'
        exact ⟨m', _, _, rs', rfl, hc.1, ⟨rfl, hc.2.1⟩, rfl, hc.2.2, rfl, hr⟩
    · have : runsF (m' + 1) (rest s j) = _ := if_neg hl
      rw [this, e2, e1, if_neg hc] at h
      cases h
abbrev RParsed (w : World) (ps : List Pc) (e : Ending) (w' : World) : Prop := ∃ v, e = .returned (.tuple #[v, .int .i64 0, .int .i64 0]) ∧ Pcs w' v ps ∧ w.grownBy w' none
set_option maxRecDepth 100000 in
set_option maxHeartbeats 4000000 in
theorem rparse_any (s : ByteArray) (n : Nat) (ps : List Pc) (w : World) (hs : s.size ≤ 60) (hps : runsF n s.data.toList = some ps) : Calls Tryd.prog 63 #[.string s] w (RParsed w ps) := by
  obtain ⟨R, hR⟩ : ∃ R, w.heap.size = R := ⟨_, rfl⟩
  obtain ⟨wa, hwa⟩ : ∃ wa, w.alloc (.cells #[.string s, .int .i64 0, .int .i64 0, .int .i64 0] 115) = wa := ⟨_, rfl⟩
  have hrow := Row.new w [.string s, .int .i64 0, .int .i64 0, .int .i64 0] 115
  simp only [List.toArray] at hrow
  rw [hwa, hR] at hrow
  have HRA := Lib.hid (show Rr wa R s 0 from ⟨hrow, Nat.zero_le _⟩)
  have HGA := Lib.hid (show w.grownBy wa none from by rw [← hwa]; exact gr_alloc _ _ _)
  have HRR := Lib.hid hR
  have HSA := Lib.hid (show wa.heap.size = R + 1 from by rw [← hwa, World.size_alloc, hR])
  have hs2 : ¬ (60 : Int) < (s.size : Int) := by omega
  have HPS := Lib.hid hps
  clear hps hrow
  go_enter Tryd.func63, Tryd.ntmps63
  go_wp2_with fail
  clear hwa hR
  go_loopw [6] (fun v wr => ∃ (j m : Nat) (acc rs : List Pc), j ≤ s.size ∧ acc.length ≤ j ∧ Hid (runsF m (rest s j) = some rs) ∧ Hid (acc ++ rs = ps) ∧ Hid (PF wr wa.heap.size v acc) ∧ Hid (Rr wr R s j) ∧ Hid (wa.grownBy wr (some R))) (fun _ wr => s.size - atOf wr R)
  case atStart => exact ⟨0, n, [], ps, Nat.zero_le _, Nat.zero_le _, HPS, Lib.hid rfl, Lib.hid (World.ownsRow_nil _ _ _ _), HRA, Lib.hid (gr_b (gr_rfl wa) R)⟩
  case round =>
    obtain ⟨j, m, acc, rs, hj, hacc, HRN, HAC, HF, HRj, Gj⟩ := hrel
    have c0 := HRj.out.c0
    have c1 := HRj.out.c1
    have c3 := HRj.out.c3
    have f1 := HRj.out.f1
    by_cases hlt : j < s.size
    · have hlti : (j : Int) < (s.size : Int) := by omega
      obtain ⟨m', L, q, rs', hm, h92, hL, hq, h123, hrs, hrn⟩ := run_step (m := m) (rs := rs) (by omega) HRN.out
      obtain ⟨i1, hi1⟩ : ∃ i1, j + 1 = i1 := ⟨_, rfl⟩
      obtain ⟨i2, hi2⟩ : ∃ i2, i1 + 1 = i2 := ⟨_, rfl⟩
      have e1 : (j : Int) + 1 = (i1 : Int) := by omega
      have e2 : (i1 : Int) + 1 = (i2 : Int) := by omega
      rw [hi1] at hL
      rw [show j + 2 = i2 from by omega] at hq h123 hrn
      have h1s : i1 < s.size := by
        have := nx_pos (l := rest s i1) (by
          rcases Nat.eq_zero_or_pos (nx (rest s i1)) with h | h
          · exact absurd (by rw [h]; decide) hL.2
          · exact h)
        rw [rest_len] at this; omega
      have h1i : (i1 : Int) < (s.size : Int) := by omega
      have h1e : ((i1 : Int) == (s.size : Int)) = false := by rw [beq_eq_false_iff_ne]; omega
      have hx0 : s[j].toNat = 92 := by rw [← nx_rest hlt]; exact h92
      obtain ⟨y, hy⟩ : ∃ y, s[i1].toNat = y := ⟨_, rfl⟩
      have hy255 : y ≤ 255 := by have := s[i1].toNat_lt; omega
      have hLy : letD y = L := by rw [← hy, ← nx_rest h1s]; exact hL.1
      have HR1 := Lib.hid (HRj.out.step (by omega) (z := (i1 : Int)) (by omega))
      rw [hi1] at HR1
      have HR2 := Lib.hid (HR1.out.step (by omega) (z := (i2 : Int)) (by omega))
      rw [hi2] at HR2
      have HCL := Lib.hid (fun w => rlet_any y w hy255)
      rw [hLy] at HCL
      have HCN := Lib.hid (rcnt_any _ R i2 s HR2.out h123 (by omega))
      rw [← hq] at HCN
      have G2 := Lib.hid (gr_bb (gr_bb Gj.out (gr_set wr R 1 (.int .i64 (i1 : Int)))) (gr_set _ R 1 (.int .i64 (i2 : Int))))
      have HF2 := Lib.hid ((HF.out.keptb (gr_set wr R 1 (.int .i64 (i1 : Int))) (by have := HSA.out; omega)).keptb (gr_set _ R 1 (.int .i64 (i2 : Int))) (by have := HSA.out; omega))
      obtain ⟨a1, b1, n1⟩ := q
      have d0 := HR1.out.c0
      have d1 := HR1.out.c1
      have d3 := HR1.out.f1
      have k0 := HR2.out.c0
      have k1 := HR2.out.c1
      have k3 := HR2.out.f1
      have hLb : ((L : Int) == 0) = false := by rw [beq_eq_false_iff_ne]; have := hL.2; have := hL.1; omega
      have hLp : (0 : Int) < (L : Int) := by have := hL.2; have := hL.1; omega
      have HJ := Lib.hid (And.intro hi1 (And.intro hi2 (And.intro hrs hrn)))
      clear hL hq h123 hrs hrn hi1 hi2 h92 hLy
      simp only at HCN
      go_wp2_with fail
      refine (HCL.out _).mono ?_
      rintro e w3 ⟨rfl, rfl⟩
      go_wp2_with fail
      refine (HCL.out _).mono ?_
      rintro e w3 ⟨rfl, rfl⟩
      go_wp2_with fail
      refine HCN.out.mono ?_
      rintro e w4 ⟨rfl, hr4, g4⟩
      have HR4 := Lib.hid hr4
      have F4 := HF2.out.keptb g4 (by have := HSA.out; omega)
      have G4 := gr_bb G2.out g4
      obtain ⟨v5, w5, r5, f5, g5, k5⟩ := app_p wa w4 R u6 acc ⟨(L : Int), a1, b1, ⟨#[]⟩⟩ F4 (by omega) G4
      have F5 := Lib.hid f5
      have G5 := Lib.hid g5
      have R5 := Lib.hid (show Rr w5 R s (i2 + n1) from ⟨hr4.row.okP (by decide) k5, hr4.le⟩)
      clear f5 g5 k5 F4 G4 g4 hr4 c0 c1 c3 d0 d1 d3 k0 k1 k3
      simp only at r5
      go_wp2_with (at_builtin; refine wpList_call_append rfl (.tmp 100) (.tmp 105) 23 rfl _ _ rfl rfl _ _ r5 ?_)
      obtain ⟨hj1, hj2, rfl, hrn⟩ := HJ.out
      refine ⟨⟨i2 + n1, m', acc ++ [⟨(L : Int), a1, b1, ⟨#[]⟩⟩], rs', R5.out.le, by rw [List.length_append, List.length_singleton]; omega, Lib.hid hrn, Lib.hid (by rw [← HAC.out, List.append_assoc]; rfl), F5, R5, G5⟩, ?_⟩
      rw [R5.out.at_, HRj.out.at_]
      have := R5.out.le
      omega
    · have hlti : decide ((j : Int) < (s.size : Int)) = false := decide_eq_false (by omega)
      have hltn : decide (j < s.size) = false := decide_eq_false hlt
      have HE := Lib.hid (show acc = ps from by
        have h1 := HRN.out
        have h0 : (rest s j).length = 0 := by rw [rest_len]; omega
        have : runsF m (rest s j) = some [] := by cases m <;> exact if_pos h0
        rw [this] at h1
        cases h1
        rw [← HAC.out, List.append_nil])
      obtain ⟨a0, n0, k0, hv⟩ : ∃ a0 n0 k0, u6 = .slice a0 n0 k0 := by
        rcases HF.out.2 with ⟨h, _⟩ | ⟨_, _, _, h, _⟩
        · exact ⟨_, _, _, h⟩
        · exact ⟨_, _, _, h⟩
      clear hlt
      go_wp2
      go_ret3
      exact ⟨u6, rfl, by have := HF.out.pcs; rwa [HE.out] at this, gr_new HGA.out Gj.out (by rw [HRR.out]; exact Nat.le_refl _)⟩
end Go.Proofs.YtaejnklgnegkhaaDoor
namespace Go.Proofs.YtaejnklgnegkhaaDoor
open Go.RowKit Pt

def exD : List Pc := [⟨1, 4, 4, ⟨#[]⟩⟩, ⟨0, 0, 0, ⟨#[45]⟩⟩, ⟨1, 1, 200, ⟨#[]⟩⟩]
def exQ : List Pc := [⟨2, 1, 1, ⟨#[]⟩⟩, ⟨3, 0, 200, ⟨#[]⟩⟩]
def exR : List Pc := [⟨1, 1, 200, ⟨#[]⟩⟩]
def exA : List Pc := [⟨4, 1, 200, ⟨#[]⟩⟩]
set_option maxRecDepth 100000
theorem ex1 : parseL [92, 100, 123, 52, 125, 45, 92, 100, 43] = (exD, 0, 0) := by rfl
theorem ex2 : parseL [92, 120] = ([], 1, 12) := by rfl
theorem ex3 : parseL [97, 43] = ([], 1, 12) := by rfl
theorem ex4 : parseL [92, 100, 123, 53, 44, 50, 125] = ([], 2, 3) := by rfl
theorem ex5 : parseL [92, 100, 123, 120, 125] = ([], 3, 12) := by rfl
theorem ex6 : runsF 3 [92, 117, 92, 108, 42] = some exQ := by rfl
theorem ex7 : runsF 3 [92, 100, 43] = some exR := by rfl
theorem ex8 : runsF 3 [92, 97, 43] = some exA := by rfl
theorem ex9 : matchL exQ [65, 98] = true := by decide
theorem ex10 : matchL exQ [65] = true := by decide
theorem ex11 : matchL exQ [65, 66] = false := by decide
theorem ex12 : findsL exR [97, 49, 50, 98, 51, 52, 53] = [(1, 3), (4, 7)] := by decide
theorem ex13 : coversL exA exQ = true := by decide
theorem ex14 : coversL exQ exA = false := by decide
theorem ex15w : wrL exD = [92, 100, 123, 52, 125, 45, 92, 100, 43] := by
  have h4 : Lib.decDigits 4 = [52] := by rw [dec_one (by decide)]; rfl
  have h1 : wrP ⟨1, 4, 4, ⟨#[]⟩⟩ = [92, 100, 123, 52, 125] := by
    show 92 :: letC 1 :: cntL 4 4 = _
    have : cntL 4 4 = 123 :: (Lib.decDigits 4 ++ [125]) := by rfl
    rw [this, h4]; rfl
  show wrP ⟨1, 4, 4, ⟨#[]⟩⟩ ++ (wrP ⟨0, 0, 0, ⟨#[45]⟩⟩ ++ (wrP ⟨1, 1, 200, ⟨#[]⟩⟩ ++ [])) = _
  rw [h1]; rfl
theorem ex15 : printL exD = [92, 100, 123, 52, 125, 45, 92, 100, 43] := by
  unfold printL rightL
  rw [ex15w]
  rfl
end Go.Proofs.YtaejnklgnegkhaaDoor
namespace Go.Proofs.YtaejnklgnegkhaaDoor
open Go.RowKit Pt

theorem pcs_shape {w : World} {v : Value} {ps : List Pc} (h : Pcs w v ps) : ∃ a c, v = .slice a ps.length c := by
  rcases h with ⟨rfl, rfl⟩ | ⟨g, o, c, rfl, _⟩
  · exact ⟨_, _, rfl⟩
  · exact ⟨_, _, rfl⟩
set_option maxRecDepth 100000 in
theorem read_any (s : ByteArray) (n : Nat) (ps : List Pc) (w : World) (hs : s.size ≤ 60) (hps : runsF n s.data.toList = some ps) : Calls Tryd.prog 44 #[.string s] w fun e w' => ∃ v, e = .returned v ∧ Pcs w' v ps ∧ w.grownBy w' none := by
  have HP := Lib.hid (rparse_any s n ps w hs hps)
  clear hs hps
  go_enter Tryd.func44, Tryd.ntmps44
  go_wp2_with fail
  refine HP.out.mono ?_
  rintro e w1 ⟨v, rfl, hv, g1⟩
  go_wp2
  go_ret
  exact ⟨_, rfl, hv, g1⟩
set_option maxRecDepth 100000 in
theorem fails_any (s : ByteArray) (a : Nat) (k : Int) (w : World) (hs : s.size ≤ 60) (hp : parseL s.data.toList = ([], a, k)) : Calls Tryd.prog 43 #[.string s, .int .i64 (a : Int), .int .i64 k] w fun e w' => e = .returned (.bool true) ∧ w.grownBy w' none := by
  have HP := Lib.hid (parse_any s w (by omega))
  have HL := Lib.hid hp
  unfold Parsed at HP
  rw [hp] at HP
  clear hs hp
  go_enter Tryd.func43, Tryd.ntmps43
  go_wp2_with fail
  refine HP.out.mono ?_
  rintro e w1 ⟨v, rfl, hv, g1⟩
  obtain ⟨a0, c0, rfl⟩ := pcs_shape hv
  clear hv
  go_wp2
  go_ret
  exact ⟨by simp, g1⟩
set_option maxRecDepth 100000 in
set_option maxHeartbeats 4000000 in
theorem sanity_any (w : World) (ht : TabP w) : Calls Tryd.prog 13 #[] w fun e w' => e = .returned (.bool true) ∧ w.grownBy w' none := by
  have HT := Lib.hid ht
  have HP := Lib.hid (parse_any ⟨#[92, 100, 123, 52, 125, 45, 92, 100, 43]⟩ w (by decide))
  unfold Parsed at HP
  rw [show parseL (⟨#[92, 100, 123, 52, 125, 45, 92, 100, 43]⟩ : ByteArray).data.toList = (exD, 0, 0) from ex1] at HP
  clear ht
  go_enter Tryd.func13, Tryd.ntmps13
  go_wp2_with fail
  refine HP.out.mono ?_
  rintro e w1 ⟨v, rfl, hv, g1⟩
  have G1 := Lib.hid g1
  have HPR := Lib.hid (pprint_any w1 v exD (tabis_grown HT.out g1) hv (by decide) (by decide))
  rw [ex15] at HPR
  obtain ⟨a0, c0, rfl⟩ := pcs_shape hv
  have hl3 : exD.length = 3 := rfl
  clear hv g1
  -- BEHIND PRINT
  go_wp2_with fail
  refine HPR.out.mono ?_
  rintro e w2 ⟨rfl, g2⟩
  have G2 := Lib.hid (gr_then G1.out g2)
  clear g2 HP HPR G1
  have K3 := Lib.hid (fails_any ⟨#[92, 120]⟩ 1 12 w2 (by decide) ex2)
  go_wp2_with fail
  refine K3.out.mono ?_
  rintro e w3 ⟨rfl, g3⟩
  have G3 := Lib.hid (gr_then G2.out g3)
  clear g3 K3 G2
  have K4 := Lib.hid (fails_any ⟨#[97, 43]⟩ 1 12 w3 (by decide) ex3)
  go_wp2_with fail
  refine K4.out.mono ?_
  rintro e w4 ⟨rfl, g4⟩
  have G4 := Lib.hid (gr_then G3.out g4)
  clear g4 K4 G3
  have K5 := Lib.hid (fails_any ⟨#[92, 100, 123, 53, 44, 50, 125]⟩ 2 3 w4 (by decide) ex4)
  go_wp2_with fail
  refine K5.out.mono ?_
  rintro e w5 ⟨rfl, g5⟩
  have G5 := Lib.hid (gr_then G4.out g5)
  clear g5 K5 G4
  have K6 := Lib.hid (fails_any ⟨#[92, 100, 123, 120, 125]⟩ 3 12 w5 (by decide) ex5)
  go_wp2_with fail
  refine K6.out.mono ?_
  rintro e w6 ⟨rfl, g6⟩
  have G6 := Lib.hid (gr_then G5.out g6)
  clear g6 K6 G5
  have K7 := Lib.hid (read_any ⟨#[92, 117, 92, 108, 42]⟩ 3 exQ w6 (by decide) ex6)
  go_wp2_with fail
  refine K7.out.mono ?_
  rintro e w7 ⟨vq, rfl, hvq, g7⟩
  have G7 := Lib.hid (gr_then G6.out g7)
  obtain ⟨avq, cvq, rfl⟩ := pcs_shape hvq
  have Hvq := Lib.hid hvq
  clear hvq
  clear g7 K7 G6
  have K8 := Lib.hid ((show matchL exQ (⟨#[65, 98]⟩ : ByteArray).data.toList = true from ex9) ▸ pmatches_any (.slice avq exQ.length cvq) exQ ⟨#[65, 98]⟩ w7 (tabis_grown HT.out G7.out) Hvq.out (by decide) (by decide) (by decide))
  go_wp2_with fail
  refine K8.out.mono ?_
  rintro e w8 ⟨rfl, g8⟩
  have G8 := Lib.hid (gr_then G7.out g8)
  have Hvq := Lib.hid (Hvq.out.kept g8)
  clear g8 K8 G7
  have K9 := Lib.hid ((show matchL exQ (⟨#[65]⟩ : ByteArray).data.toList = true from ex10) ▸ pmatches_any (.slice avq exQ.length cvq) exQ ⟨#[65]⟩ w8 (tabis_grown HT.out G8.out) Hvq.out (by decide) (by decide) (by decide))
  go_wp2_with fail
  refine K9.out.mono ?_
  rintro e w9 ⟨rfl, g9⟩
  have G9 := Lib.hid (gr_then G8.out g9)
  have Hvq := Lib.hid (Hvq.out.kept g9)
  clear g9 K9 G8
  have K10 := Lib.hid ((show matchL exQ (⟨#[65, 66]⟩ : ByteArray).data.toList = false from ex11) ▸ pmatches_any (.slice avq exQ.length cvq) exQ ⟨#[65, 66]⟩ w9 (tabis_grown HT.out G9.out) Hvq.out (by decide) (by decide) (by decide))
  go_wp2_with fail
  refine K10.out.mono ?_
  rintro e w10 ⟨rfl, g10⟩
  have G10 := Lib.hid (gr_then G9.out g10)
  have Hvq := Lib.hid (Hvq.out.kept g10)
  clear g10 K10 G9
  have K11 := Lib.hid (read_any ⟨#[92, 100, 43]⟩ 3 exR w10 (by decide) ex7)
  go_wp2_with fail
  refine K11.out.mono ?_
  rintro e w11 ⟨vr, rfl, hvr, g11⟩
  have G11 := Lib.hid (gr_then G10.out g11)
  have Hvq := Lib.hid (Hvq.out.kept g11)
  obtain ⟨avr, cvr, rfl⟩ := pcs_shape hvr
  have Hvr := Lib.hid hvr
  clear hvr
  clear g11 K11 G10
  have K12 := Lib.hid ((show findsL exR (⟨#[97, 49, 50, 98, 51, 52, 53]⟩ : ByteArray).data.toList = [(1, 3), (4, 7)] from ex12) ▸ pfind_any (.slice avr exR.length cvr) exR ⟨#[97, 49, 50, 98, 51, 52, 53]⟩ 2 w11 (tabis_grown HT.out G11.out) Hvr.out (by decide) (by decide) (by decide))
  go_wp2_with fail
  refine K12.out.mono ?_
  rintro e w12 ⟨rfl, g12⟩
  have G12 := Lib.hid (gr_then G11.out g12)
  have Hvq := Lib.hid (Hvq.out.kept g12)
  clear g12 K12 G11
  have K13 := Lib.hid (read_any ⟨#[92, 100, 43]⟩ 3 exR w12 (by decide) ex7)
  go_wp2_with fail
  refine K13.out.mono ?_
  rintro e w13 ⟨vs, rfl, hvs, g13⟩
  have G13 := Lib.hid (gr_then G12.out g13)
  have Hvq := Lib.hid (Hvq.out.kept g13)
  obtain ⟨avs, cvs, rfl⟩ := pcs_shape hvs
  have Hvs := Lib.hid hvs
  clear hvs
  clear g13 K13 G12
  have K14 := Lib.hid ((show findsL exR (⟨#[97, 49, 50, 98, 51, 52, 53]⟩ : ByteArray).data.toList = [(1, 3), (4, 7)] from ex12) ▸ pfind_any (.slice avs exR.length cvs) exR ⟨#[97, 49, 50, 98, 51, 52, 53]⟩ 3 w13 (tabis_grown HT.out G13.out) Hvs.out (by decide) (by decide) (by decide))
  go_wp2_with fail
  refine K14.out.mono ?_
  rintro e w14 ⟨rfl, g14⟩
  have G14 := Lib.hid (gr_then G13.out g14)
  have Hvq := Lib.hid (Hvq.out.kept g14)
  clear g14 K14 G13
  have K15 := Lib.hid (read_any ⟨#[92, 97, 43]⟩ 3 exA w14 (by decide) ex8)
  go_wp2_with fail
  refine K15.out.mono ?_
  rintro e w15 ⟨va, rfl, hva, g15⟩
  have G15 := Lib.hid (gr_then G14.out g15)
  have Hvq := Lib.hid (Hvq.out.kept g15)
  obtain ⟨ava, cva, rfl⟩ := pcs_shape hva
  have Hva := Lib.hid hva
  clear hva
  clear g15 K15 G14
  have K16 := Lib.hid ((show coversL exA exQ = true from ex13) ▸ pcovers_any w15 (.slice ava exA.length cva) (.slice avq exQ.length cvq) exA exQ (tabis_grown HT.out G15.out) Hva.out Hvq.out (by decide) (by decide) (by decide) (by decide))
  go_wp2_with fail
  refine K16.out.mono ?_
  rintro e w16 ⟨rfl, g16⟩
  have G16 := Lib.hid (gr_then G15.out g16)
  have Hvq := Lib.hid (Hvq.out.kept g16)
  clear g16 K16 G15
  have K17 := Lib.hid (read_any ⟨#[92, 97, 43]⟩ 3 exA w16 (by decide) ex8)
  go_wp2_with fail
  refine K17.out.mono ?_
  rintro e w17 ⟨vb, rfl, hvb, g17⟩
  have G17 := Lib.hid (gr_then G16.out g17)
  have Hvq := Lib.hid (Hvq.out.kept g17)
  obtain ⟨avb, cvb, rfl⟩ := pcs_shape hvb
  have Hvb := Lib.hid hvb
  clear hvb
  clear g17 K17 G16
  have K18 := Lib.hid ((show coversL exQ exA = false from ex14) ▸ pcovers_any w17 (.slice avq exQ.length cvq) (.slice avb exA.length cvb) exQ exA (tabis_grown HT.out G17.out) Hvq.out Hvb.out (by decide) (by decide) (by decide) (by decide))
  go_wp2_with fail
  refine K18.out.mono ?_
  rintro e w18 ⟨rfl, g18⟩
  have G18 := Lib.hid (gr_then G17.out g18)
  have Hvq := Lib.hid (Hvq.out.kept g18)
  clear g18 K18 G17
  go_wp2
  go_ret
  exact ⟨rfl, G18.out⟩
end Go.Proofs.YtaejnklgnegkhaaDoor
namespace Go.Proofs.YtaejnklgnegkhaaDoor
open Go.RowKit Pt

def I64 (z : Int) : Prop := -9223372036854775808 ≤ z ∧ z ≤ 9223372036854775807
/-- A slice of numbers that came in. -/
def IntsA (w : World) (v : Value) : Prop := ∃ a n c, v = .slice a n c ∧ (n = 0 ∨ ∃ (g o : Nat) (F : Nat → Int), a = some ⟨g, o, none⟩ ∧ g < w.heap.size ∧ n ≤ 9223372036854775807 ∧ ∀ i, i < n → w.cell? ⟨g, o + i, none⟩ = some (.int .i64 (F i)) ∧ I64 (F i))
theorem IntsA.kept {w w1 : World} {v : Value} (h : IntsA w v) (hg : w.grownBy w1 none) : IntsA w1 v := by
  obtain ⟨a, n, c, rfl, h | ⟨g, o, F, rfl, hb, hn, hF⟩⟩ := h
  · exact ⟨a, n, c, rfl, .inl h⟩
  · exact ⟨_, n, c, rfl, .inr ⟨g, o, F, rfl, Nat.lt_of_lt_of_le hb hg.size, hn, fun i hi => ⟨hg.cell (hF i hi).1 (by simp), (hF i hi).2⟩⟩⟩
/-- A piece that Made may make, of so many rounds. -/
structure GoodM (q : Nat) (p : Pc) : Prop where
  k : 0 ≤ p.k ∧ p.k ≤ 7
  a : 0 ≤ p.a ∧ p.a ≤ 2
  b : p.a ≤ p.b ∧ p.b ≤ 200
  t : p.t.size ≤ 3 * q
  lit : p.k = 0 → p.a = 0 ∧ p.b = 0
  run : p.k ≠ 0 → p.t = ⟨#[]⟩ ∧ 1 ≤ p.b
theorem GoodM.more {q q' : Nat} {p : Pc} (h : GoodM q p) (hq : q ≤ q') : GoodM q' p := ⟨h.k, h.a, h.b, by have := h.t; omega, h.lit, h.run⟩
def txM : Nat → ByteArray | 0 => ⟨#[45]⟩ | 1 => ⟨#[97]⟩ | 2 => ⟨#[66, 55]⟩ | 3 => ⟨#[43]⟩ | 4 => ⟨#[92, 123]⟩ | 5 => ⟨#[32]⟩ | _ => ⟨#[120, 32, 121]⟩
theorem txM_le (e : Nat) : (txM e).size ≤ 3 := by unfold txM; split <;> decide
abbrev txL : List Value := [.string ⟨#[45]⟩, .string ⟨#[97]⟩, .string ⟨#[66, 55]⟩, .string ⟨#[43]⟩, .string ⟨#[92, 123]⟩, .string ⟨#[32]⟩, .string ⟨#[120, 32, 121]⟩]
theorem txL_get {e : Nat} (h : e < 7) : txL[e]? = some (.string (txM e)) := by
  have h7 : e = 0 ∨ e = 1 ∨ e = 2 ∨ e = 3 ∨ e = 4 ∨ e = 5 ∨ e = 6 := by omega
  rcases h7 with rfl | rfl | rfl | rfl | rfl | rfl | rfl <;> rfl
/-- The last piece of a slice that the call owns. -/
theorem PF.last {w : World} {base : Nat} {v : Value} {l : List Pc} {p : Pc} (h : PF w base v (l ++ [p])) : ∃ g cap, v = .slice (some ⟨g, 0, none⟩) (l.length + 1) cap ∧ base ≤ g ∧ (∃ cs, w.heap[g]? = some (.cells cs 31 (0, 0))) ∧ w.cell? ⟨g, l.length * 4, none⟩ = some (.int .i64 p.k) ∧ w.cell? ⟨g, l.length * 4 + 3, none⟩ = some (.string p.t) ∧ w.frozen? ⟨g, l.length * 4 + 3, none⟩ = false ∧
    ∀ t, PF (w.setCell ⟨g, l.length * 4 + 3, none⟩ (.string t)) base v (l ++ [⟨p.k, p.a, p.b, t⟩]) := by
  obtain ⟨hl, ⟨rfl, h0⟩ | ⟨g, cap, cur, rfl, hb, hg, hle, hm, hs, hx⟩⟩ := h
  · simp at h0
  · have hlen : (l ++ [p]).length = l.length + 1 := by simp
    have hx' := hx
    rw [hlen] at hx' hle
    have hget : ∀ j v, j < (l.length + 1) * 4 → (pcC (l ++ [p]))[j]? = some v → w.cell? ⟨g, j, none⟩ = some v := fun j v hj hv => by
      rw [cell_of_row w g j _ _ (0, 0) hg]
      rw [← hx', List.getElem?_take_of_lt hj, Array.getElem?_toList] at hv
      exact hv
    obtain ⟨a0, a1, a2, a3⟩ := pcC_get (l ++ [p]) l.length (by simp)
    have e : (l ++ [p])[l.length]'(by simp) = p := by simp
    rw [e] at a0 a3
    refine ⟨g, cap, by rw [hlen], hb, ⟨_, hg⟩, hget _ _ (by omega) a0, hget _ _ (by omega) a3, ?_, fun t => ?_⟩
    · simp [World.frozen?, hg]
    · refine ⟨pcC_len _, .inr ⟨g, cap, cur.setIfInBounds (l.length * 4 + 3) (.string t), by simp, hb, ?_, by simpa using hle, hm, by simpa using hs, ?_⟩⟩
      · rw [setCell_eq_setRow w g _ _ _ (0, 0) _ hg, setRow_heap w g _ _ _ (0, 0) hg]
      · rw [show (l ++ [(⟨p.k, p.a, p.b, t⟩ : Pc)]).length = l.length + 1 from by simp, Array.toList_setIfInBounds, List.take_set, hx', pcC_app, pcC_app]
        have hpl := pcC_len l
        rw [List.set_append_right _ _ (by rw [hpl]; omega), hpl, show l.length * 4 + 3 - l.length * 4 = 3 from by omega]
        rfl
end Go.Proofs.YtaejnklgnegkhaaDoor
