/- Contracts of the program and of the reference, part 2: Repl, ReadA, Day, DayS. -/
import Derived.Test.YtchbefaflhimcaaDoorBForm1
import Derived.Test.YtchbefaflhimcaaDoorChecked
import Derived.WalkKit
import Derived.WalkSpells
import Derived.WalkLawsBesides
import Derived.Lib.Hide
import Derived.Lib.LaidTab
namespace Go.Proofs.YtchbefaflhimcaaDoor
open Go.RowKit Go.Shelf Mth

abbrev BldF (B b : Nat) (l : List UInt8) (w : World) : Prop := Lib.IsBuilderF 76 5 B b (Lib.byteCells l) w
theorem writeString_any (B b : Nat) (l : List UInt8) (s : ByteArray) (w : World) (h : BldF B b l w) (hlen : l.length + s.size ≤ 140737488355328) (hBw : B ≤ w.heap.size) :
    Calls Tryd.prog 55 #[.pointer (some ⟨b, 0, none⟩), .string s] w fun e w' => e = .returned (.tuple #[.int .i64 s.size, .nilIface]) ∧ BldF B b (l ++ s.data.toList) w' ∧ Below B w w' ∧ Lib.OthersKept 5 (some b) w w' := by
  refine (Any.Builder_WriteString_k (P := Tryd.prog) (ρ := lays166_ren) lays166 extra166 B b (Lib.byteCells l) s w h (by rw [Lib.byteCells_length]; exact hlen) hBw).mono ?_
  rintro e w' ⟨rfl, h1, h2, h3⟩
  refine ⟨rfl, .inr ?_, h2, h3⟩
  rw [Lib.byteCells_append, ← Lib.strCells_eq]
  exact h1

theorem keeps_of_others {e : TypeId} {b : Nat} {W W' : World} (h : Lib.OthersKept e (some b) W W') (hs : W.heap.size ≤ W'.heap.size) {cs : Array Value} {t : TypeId} {f : Nat × Nat} (hb : W.heap[b]? = some (.cells cs t f)) : KeepsOthers W W' := by
  refine ⟨hs, fun k o hk ho => h k o hk ?_ ?_⟩
  · intro e1
    obtain rfl := Option.some.inj e1
    rw [hb] at hk
    obtain rfl := Option.some.inj hk
    simp [Obj.isCells] at ho
  · rintro c fz rfl
    simp [Obj.isCells] at ho
theorem bldF_grown {B b : Nat} {l : List UInt8} {W W' : World} {row : Option Nat} (h : BldF B b l W) (hg : W.grownBy W' row) (hr : ∀ r, row = some r → ∃ o : Obj, W.heap[r]? = some o ∧ o.isCells = false) : BldF B b l W' := by
  have key : ∀ p, Lib.BuilderAtF 76 5 B b p (Lib.byteCells l) W → Lib.BuilderAtF 76 5 B b p (Lib.byteCells l) W' := by
    rintro p ⟨hB, v, hb, hown, hne⟩
    have hlt : b < W.heap.size := (Array.getElem?_eq_some_iff.1 hb).1
    refine ⟨hB, v, (hg.block b hlt ?_).trans hb, hown.kept hg ?_, hne⟩
    · intro e
      obtain ⟨o, ho, hc⟩ := hr b e.symm
      rw [hb] at ho
      obtain rfl := Option.some.inj ho
      simp [Obj.isCells] at hc
    · rcases hown.2 with ⟨rfl, _⟩ | ⟨g, cap, cur, fz, rfl, _, hgg, _⟩
      · exact .inl rfl
      · refine .inr fun e => ?_
        obtain ⟨o, ho, hc⟩ := hr g (by rw [← e]; rfl)
        rw [hgg] at ho
        obtain rfl := Option.some.inj ho
        simp [Obj.isCells] at hc
  exact h.imp (key _) (key _)
theorem bldF_block {B b : Nat} {l : List UInt8} {W : World} (h : BldF B b l W) : ∃ cs, W.heap[b]? = some (.cells cs 76 (0, 0)) := by
  rcases h with ⟨_, v, hb, _⟩ | ⟨_, v, hb, _⟩ <;> exact ⟨_, hb⟩
theorem own_block {W W' : World} {row : Option Nat} {b : Nat} {cs : Array Value} {t : TypeId} {f : Nat × Nat} (h : W.heap[b]? = some (.cells cs t f)) (hg : W.grownBy W' row) (hr : ∀ r, row = some r → ∃ o : Obj, W.heap[r]? = some o ∧ o.isCells = false) : W'.heap[b]? = some (.cells cs t f) := by
  refine (hg.block b (Array.getElem?_eq_some_iff.1 h).1 ?_).trans h
  intro e
  obtain ⟨o, ho, hc⟩ := hr b e.symm
  rw [h] at ho
  obtain rfl := Option.some.inj ho
  simp [Obj.isCells] at hc
theorem no_row {W : World} : ∀ r, (none : Option Nat) = some r → ∃ o : Obj, W.heap[r]? = some o ∧ o.isCells = false := fun _ e => by cases e
theorem tab_below {n : Nat} {w w' : World} (h : Tab w) (hb : Below n w w') (hn : w.heap.size ≤ n) : Tab w' :=
  tab_grown h ⟨hb.os, hb.tape, hb.output, hb.size, fun k hk _ => hb.block k (by omega)⟩
theorem wrt_le {c : Nat × Nat × Nat} (hc : c.1 ≤ 9999 ∧ c.2.1 ≤ 99 ∧ c.2.2 ≤ 99) (t : Tok) : (wrt c t).length ≤ 4 := by
  obtain ⟨h1, h2, h3⟩ := hc
  cases t <;> simp only [wrt]
  case y4 => exact (padD_len (w := 4) (by simp; omega) (by omega)).2
  case m2 => exact Nat.le_trans (padD_len (w := 2) (by simp; omega) (by omega)).2 (by omega)
  case m1 => exact Nat.le_trans (padD_len (w := 2) (by simp; omega) (by omega)).2 (by omega)
  case d2 => exact Nat.le_trans (padD_len (w := 2) (by simp; omega) (by omega)).2 (by omega)
  case d1 => exact Nat.le_trans (padD_len (w := 2) (by simp; omega) (by omega)).2 (by omega)
  case ch b => simp
theorem fmt_le {c : Nat × Nat × Nat} (hc : c.1 ≤ 9999 ∧ c.2.1 ≤ 99 ∧ c.2.2 ≤ 99) (ts : List Tok) : (fmt c ts).length ≤ 4 * ts.length := by
  induction ts with
  | nil => simp [fmt_nil]
  | cons t ts ih =>
    rw [fmt_cons, List.length_append, List.length_cons]
    have := wrt_le hc t
    omega

/-- What replaced holds between two parts. -/
structure RP (B : Nat) (s : ByteArray) (c : Nat × Nat × Nat) (pre : List RTok) (W : World) : Prop where
  f : W.heap[B]? = some (.cells #[.func (.func 47) #[cval c] #[]] 64 (0, 0))
  b : BldF (B + 1) (B + 1) (fmt c (vals pre)) W
  s : W.heap[B + 1 + 1]? = some (.cells #[.string s] 9 (0, 0))
theorem RP.own {B : Nat} {s : ByteArray} {c : Nat × Nat × Nat} {pre : List RTok} {W W' : World} {row : Option Nat} (h : RP B s c pre W) (hg : W.grownBy W' row) (hr : ∀ r, row = some r → ∃ o : Obj, W.heap[r]? = some o ∧ o.isCells = false) : RP B s c pre W' :=
  ⟨own_block h.f hg hr, bldF_grown h.b hg hr, own_block h.s hg hr⟩

attribute [local go_sem] Oper.semAt_some
set_option maxRecDepth 100000 in
set_option maxHeartbeats 2000000 in
theorem replaced_any (s : ByteArray) (c : Nat × Nat × Nat) (hc : c.1 ≤ 9999 ∧ c.2.1 ≤ 99 ∧ c.2.2 ≤ 99) (w : World) (hs : s.size ≤ 40) (hv : FV w) (ht : Tab w) :
    Calls Tryd.prog 46 #[.string s, .func (.func 47) #[cval c] #[]] w fun e w' => e = .returned (.string ⟨(fmt c (toks s.data.toList)).toArray⟩) ∧ w.grownBy w' none := by
  refine (callsIn_wide (n := 5)).1 ?_
  refine callsIn_of_wp_marks Tryd.func46 rfl trivial ?_ rfl
  simp only [Tryd.ntmps46, List.size_toArray, List.length_cons, List.length_nil, Nat.reduceAdd, Nat.reduceSub, Array.replicate_succ, Array.replicate_zero, List.push_toArray, List.append_toArray, List.nil_append, List.cons_append]
  gi_wp2
  refine ⟨trivial, (callsIn_wide.2 (partsOf_any _ _)).mono ?_⟩
  rintro e' w' ⟨rfl, rfl⟩
  gi_wp2
  obtain ⟨W0, hW0⟩ : ∃ W0, W0 = (((w.alloc (.cells #[.func (.func 47) #[cval c] #[]] 64)).alloc (.cells #[.pointer none, .slice none 0 0] 76)).alloc (.cells #[.string s] 9)) := ⟨_, rfl⟩
  rw [← hW0]
  have hs0 : W0.heap.size = w.heap.size + 3 := by rw [hW0]; simp
  have hg0 : w.grownBy W0 none := by
    rw [hW0]
    exact gr_then (gr_then (gr_alloc _ _ _) (gr_alloc _ _ _)) (gr_alloc _ _ _)
  have hB0 : Below w.heap.size w W0 := ⟨hg0.os, hg0.tape, hg0.output, hg0.size, fun k hk => hg0.block k hk (by simp)⟩
  have hR0 : RP w.heap.size s c [] W0 := by
    have h1 := heap_alloc_new w (.cells #[.func (.func 47) #[cval c] #[]] 64)
    have h2 := Lib.fresh_isBuilder 76 5 (w.alloc (.cells #[.func (.func 47) #[cval c] #[]] 64))
    have h3 := heap_alloc_new ((w.alloc (.cells #[.func (.func 47) #[cval c] #[]] 64)).alloc (.cells #[.pointer none, .slice none 0 0] 76)) (.cells #[.string s] 9)
    simp only [World.size_alloc] at h2 h3
    rw [hW0]
    refine ⟨own_block (own_block h1 (gr_alloc _ _ none) no_row) (gr_alloc _ _ none) no_row, bldF_grown ?_ (gr_alloc _ _ none) no_row, h3⟩
    exact Lib.IsBuilderF.of h2
  have hl0 : W0.cell? ⟨w.heap.size + 1 + 1, 0, none⟩ = some (.string s) := by rw [cell_of_row _ _ _ _ _ _ hR0.s]; rfl
  have hv0 : FV W0 := hv.grown hg0 (by simp)
  have hvlt := hv.lt
  clear hW0
  refine wpIn_rangeFunc_ownF rfl (by omega) (gf := 59) (lb := #[.pointer (some ⟨w.heap.size + 1 + 1, 0, none⟩)]) rfl trivial (enters_of Tryd.func59 (by kernel_rfl) rfl)
    (parts_stops 4 (w.heap.size + 1 + 1) s W0 hl0 hv0 (by omega)) (fun h k => h.trans k) (fun W l o o' _ hl ho _ => ⟨fun v hv => cell_kept hv (grownBy_putObj' W l o') (fun r e => by cases e; exact ⟨o, hl, ho⟩), fun hf => hf.own (grownBy_putObj' W l o') (fun r e => by cases e; exact ⟨o, hl, ho⟩)⟩) (Below.refl _ _) (fun _ => rfl)
    (fun pre W => RP w.heap.size s c pre W ∧ Below w.heap.size w W)
    (fun _ _ _ => False)
    (OwnFrom.and (Own.from (fun _ _ _ _ hs hg hr => hs.own hg hr) _) (ownFrom_below (Nat.le_refl _) (by omega)))
    (fun _ _ _ _ _ hs _ _ => hs)
    ⟨hR0, hB0⟩
    (fun x => { tmps := #[.string s, .func (.func 47) #[cval c] #[], undef, .pointer (some ⟨w.heap.size, 0, none⟩), .string ⟨#[]⟩, .pointer (some ⟨w.heap.size + 1, 0, none⟩), .string ⟨x.1.txt.toArray⟩, .string s, .func (.func 59) #[] #[.pointer (some ⟨w.heap.size + 1 + 1, 0, none⟩)], .string ⟨x.1.txt.toArray⟩, undef, undef, undef, undef, undef], defers := [] }) ?assign ?body ?done ?stop
  case assign =>
    intro l x W K hK
    gi_wp2
    exact hK
  case body =>
    rintro l pre x W ⟨hR, hB⟩ hlt
    have hpl : pre.length < s.size := hlt
    have hvl : (vals pre).length = pre.length := by simp [vals]
    have hfl := fmt_le hc (vals pre)
    have hwl := wrt_le hc x.1
    have hcell : W.cell? ⟨w.heap.size, 0, none⟩ = some (.func (.func 47) #[cval c] #[]) := by rw [cell_of_row _ _ _ _ _ _ hR.f]; rfl
    have htW := tab_below ht hB (Nat.le_refl _)
    have HV := Lib.hid (show fmt c (vals (pre ++ [x])) = fmt c (vals pre) ++ wrt c x.1 from by
      rw [show vals (pre ++ [x]) = vals pre ++ [x.1] from by simp [vals], fmt_snoc])
    have HR := Lib.hid hR
    have hfl' : (fmt c (vals pre)).length ≤ 160 := by omega
    clear hR hl0 hR0 hv0 hg0 hB0 hs0 hfl hvl
    gi_wp2
    refine ⟨trivial, (CallsIn.inRound l (callsIn_wide.2 (written_any c hc x W htW))).mono ?_⟩
    rintro e' W1 ⟨rfl, hg1⟩
    have HR1 := Lib.hid (HR.out.own hg1 no_row)
    have hle1 := hg1.size
    have hWlt : w.heap.size + 1 < W.heap.size := by
      obtain ⟨cs, hb⟩ := bldF_block HR.out.b
      exact (Array.getElem?_eq_some_iff.1 hb).1
    have HG := Lib.hid hg1
    clear hg1 hcell htW
    gi_wp2
    refine ⟨trivial, (CallsIn.inRound l (callsIn_wide.2 (writeString_any (w.heap.size + 1) (w.heap.size + 1) _ ⟨(wrt c x.1).toArray⟩ W1 HR1.out.b (by show _ + (wrt c x.1).length ≤ _; omega) (by omega)))).mono ?_⟩
    rintro e' W2 ⟨rfl, hb2, hl2, ho2⟩
    have hK2 : KeepsOthers W W2 := by
      obtain ⟨cs, hb⟩ := bldF_block HR1.out.b
      exact (KeepsOthers.of_grownBy HG.out (by simp)).trans (keeps_of_others ho2 hl2.size hb)
    have hs2 : W2.heap[w.heap.size + 1 + 1]? = some (.cells #[.string s] 9 (0, 0)) :=
      ho2 _ _ HR1.out.s (by simp) (fun c fz e => by cases e)
    have hf2 : W2.heap[w.heap.size]? = some _ := ho2 _ _ HR1.out.f (by simp) (fun c fz e => by cases e)
    have hB2 : Below w.heap.size w W2 := (hB.grown HG.out hB.size (by simp)).trans (hl2.mono (by omega))
    have hR2 : RP w.heap.size s c (pre ++ [x]) W2 := ⟨hf2, by rw [HV.out]; exact hb2, hs2⟩
    have hKp : KpD (w.heap.size + 1 + 1) W W2 := by
      refine ⟨fun v hv => ?_, fun hf => (hf.grown HG.out (by simp)).of_cells fun i v h => ?_⟩
      · rw [cell_of_row _ _ _ _ _ _ HR.out.s] at hv
        rw [cell_of_row _ _ _ _ _ _ hs2]; exact hv
      · have h1 : (⟨1, i, none⟩ : Addr).block < w.heap.size + 1 := by show 1 < _; omega
        rw [hl2.cell h1]; exact h
    have HALL := Lib.hid (And.intro hK2 (And.intro hKp (And.intro hR2 hB2)))
    clear hb2 hl2 ho2 hK2 hs2 hf2 hB2 hR2 hKp
    gi_wp2
    exact HALL.out
  case done =>
    rintro D ys W hD hys ⟨hR, hB⟩ hK
    have hys' : vals ys = toks s.data.toList := hys
    have hD2 : w.heap.size + 3 ≤ D := by omega
    have HB := Lib.hid (And.intro hB hD2)
    have hbb := hR.b
    rw [hys'] at hbb
    have HBB := Lib.hid hbb
    have hszW : w.heap.size + 1 ≤ W.heap.size := by
      obtain ⟨cs, hb⟩ := bldF_block hbb
      exact Nat.le_of_lt (Array.getElem?_eq_some_iff.1 hb).1
    clear hys hys' hR hbb hl0 hR0 hv0 hg0 hB0 hs0 hD hB
    gi_wp2
    refine ⟨trivial, (callsIn_wide.2 (Tryd.Builder_String_any_k (w.heap.size + 1) (w.heap.size + 1) _ W HBB.out hszW)).mono ?_⟩
    rintro e' W2 ⟨rfl, hb2, hl2, ho2⟩
    have hK2 : W2.heap[D]? = some (.deferred (some [])) := ho2 _ _ hK (by simp; omega) (fun c fz e => by cases e)
    have hB2 : Below w.heap.size w W2 := HB.out.1.trans (hl2.mono (by omega))
    have hBK := hB2.trans (belowK_b (w := w) (Nat.le_refl _) W2 D _ (.deferred none) (by have := HB.out.2; omega) hK2 rfl rfl)
    clear hb2 hl2 ho2 hB2
    gi_wp2
    refine ⟨by simp, .inl ⟨_, _, rfl, run_takeDeferred hK2, ?_⟩⟩
    exact ⟨_, results_tmp rfl _ _ _, rfl, gr_below hBK none⟩
  case stop =>
    rintro D c pre W _ _ h _
    exact h.elim
end Go.Proofs.YtchbefaflhimcaaDoor
namespace Go.Proofs.YtchbefaflhimcaaDoor
open Go.RowKit Go.Shelf Mth

/-- One part is read. -/
def rdStep (p : List UInt8 × (Nat × Nat × Nat)) (t : Tok) : List UInt8 × (Nat × Nat × Nat) :=
  match t with
  | .y4 => ((lead 4 0 p.1).2, ((lead 4 0 p.1).1, p.2.2))
  | .m2 => ((lead 2 0 p.1).2, (p.2.1, (lead 2 0 p.1).1, p.2.2.2))
  | .m1 => ((lead 2 0 p.1).2, (p.2.1, (lead 2 0 p.1).1, p.2.2.2))
  | .d2 => ((lead 2 0 p.1).2, (p.2.1, p.2.2.1, (lead 2 0 p.1).1))
  | .d1 => ((lead 2 0 p.1).2, (p.2.1, p.2.2.1, (lead 2 0 p.1).1))
  | .ch _ => (p.1.drop 1, p.2)
theorem rd_step (ts : List Tok) (p : List UInt8 × (Nat × Nat × Nat)) : rd ts p.1 p.2 = (ts.foldl rdStep p).2 := by
  induction ts generalizing p with
  | nil => rfl
  | cons t ts ih =>
    rw [List.foldl_cons, ← ih]
    cases t <;> rfl
def rdAll (s : ByteArray) (ts : List Tok) : List UInt8 × (Nat × Nat × Nat) := ts.foldl rdStep (s.data.toList, (0, 0, 0))
theorem rdAll_snoc (s : ByteArray) (ts : List Tok) (t : Tok) : rdAll s (ts ++ [t]) = rdStep (rdAll s ts) t := by simp [rdAll, List.foldl_append]

/-- The struct of a date in memory. -/
abbrev CB (W : World) (b : Nat) (c : Nat × Nat × Nat) : Prop := W.heap[b]? = some (.cells #[.int .i64 (c.1 : Nat), .int .i64 (c.2.1 : Nat), .int .i64 (c.2.2 : Nat)] 66 (0, 0))
theorem CB.cell {W : World} {b : Nat} {c : Nat × Nat × Nat} (h : CB W b c) : W.cell? ⟨b, 0, none⟩ = some (.int .i64 (c.1 : Nat)) ∧ W.cell? ⟨b, 1, none⟩ = some (.int .i64 (c.2.1 : Nat)) ∧ W.cell? ⟨b, 2, none⟩ = some (.int .i64 (c.2.2 : Nat)) :=
  ⟨by rw [cell_of_row _ _ _ _ _ _ h]; rfl, by rw [cell_of_row _ _ _ _ _ _ h]; rfl, by rw [cell_of_row _ _ _ _ _ _ h]; rfl⟩
theorem CB.froz {W : World} {b : Nat} {c : Nat × Nat × Nat} (h : CB W b c) (i : Nat) : W.frozen? ⟨b, i, none⟩ = false := by
  simp only [World.frozen?]
  rw [show W.heap[b]? = _ from h]
  simp
theorem CB.set {W : World} {b : Nat} {c c' : Nat × Nat × Nat} (h : CB W b c) (i : Nat) (v : Value) (hc : (#[.int .i64 (c.1 : Nat), .int .i64 (c.2.1 : Nat), .int .i64 (c.2.2 : Nat)] : Array Value).setIfInBounds i v = #[.int .i64 (c'.1 : Nat), .int .i64 (c'.2.1 : Nat), .int .i64 (c'.2.2 : Nat)]) : CB (W.setCell ⟨b, i, none⟩ v) b c' := by
  unfold CB at h ⊢
  rw [setCell_eq_setRow W b i _ 66 (0, 0) _ h, setRow_heap W b _ _ 66 (0, 0) h, hc]
theorem block_other {W : World} {b b' i : Nat} {v : Value} {o : Obj} (h : W.heap[b]? = some o) (hne : b ≠ b') : (W.setCell ⟨b', i, none⟩ v).heap[b]? = some o := by
  rw [Below.heap_setCell _ _ _ _ hne]; exact h

/-- What readAs holds between two parts. -/
structure RA (B : Nat) (lay : ByteArray) (p : List UInt8 × (Nat × Nat × Nat)) (W : World) : Prop where
  s : ∃ t : ByteArray, t.data.toList = p.1 ∧ W.heap[B]? = some (.cells #[.string t] 9 (0, 0))
  r : CB W (B + 1) (0, 0, 0)
  c : CB W (B + 1 + 1) p.2
  l : W.heap[B + 1 + 1 + 1]? = some (.cells #[.string lay] 9 (0, 0))
theorem RA.own {B : Nat} {lay : ByteArray} {p : List UInt8 × (Nat × Nat × Nat)} {W W' : World} {row : Option Nat} (h : RA B lay p W) (hg : W.grownBy W' row) (hr : ∀ r, row = some r → ∃ o : Obj, W.heap[r]? = some o ∧ o.isCells = false) : RA B lay p W' := by
  obtain ⟨t, h1, h2⟩ := h.s
  exact ⟨⟨t, h1, own_block h2 hg hr⟩, own_block h.r hg hr, own_block h.c hg hr, own_block h.l hg hr⟩
theorem RA.ss {B : Nat} {lay : ByteArray} {p : List UInt8 × (Nat × Nat × Nat)} {W : World} (h : RA B lay p W) (t : ByteArray) (q : List UInt8) (hq : t.data.toList = q) : RA B lay (q, p.2) (W.setCell ⟨B, 0, none⟩ (.string t)) := by
  obtain ⟨t0, h1, h2⟩ := h.s
  refine ⟨⟨t, hq, ?_⟩, block_other h.r (by omega), block_other h.c (by omega), block_other h.l (by omega)⟩
  rw [setCell_eq_setRow W B 0 _ 9 (0, 0) _ h2, setRow_heap W B _ _ 9 (0, 0) h2]
  rfl
theorem RA.sc {B : Nat} {lay : ByteArray} {p : List UInt8 × (Nat × Nat × Nat)} {W : World} (h : RA B lay p W) (i : Nat) (v : Value) (c' : Nat × Nat × Nat) (hc : (#[.int .i64 (p.2.1 : Nat), .int .i64 (p.2.2.1 : Nat), .int .i64 (p.2.2.2 : Nat)] : Array Value).setIfInBounds i v = #[.int .i64 (c'.1 : Nat), .int .i64 (c'.2.1 : Nat), .int .i64 (c'.2.2 : Nat)]) : RA B lay (p.1, c') (W.setCell ⟨B + 1 + 1, i, none⟩ v) := by
  obtain ⟨t0, h1, h2⟩ := h.s
  exact ⟨⟨t0, h1, block_other h2 (by omega)⟩, block_other h.r (by omega), h.c.set i v hc, block_other h.l (by omega)⟩

attribute [local go_sem] Oper.semAt_some
set_option maxRecDepth 100000 in
set_option maxHeartbeats 2000000 in
theorem readAs_any (lay s : ByteArray) (w : World) (hl : lay.size ≤ 40) (hs : s.size ≤ 9223372036854775807) (hv : FV w) :
    Calls Tryd.prog 50 #[.string lay, .string s] w fun e w' => e = .returned (cval (rd (toks lay.data.toList) s.data.toList (0, 0, 0))) ∧ w.grownBy w' none := by
  refine (callsIn_wide (n := 5)).1 ?_
  refine callsIn_of_wp_marks Tryd.func50 rfl trivial ?_ rfl
  simp only [Tryd.ntmps50, List.size_toArray, List.length_cons, List.length_nil, Nat.reduceAdd, Nat.reduceSub, Array.replicate_succ, Array.replicate_zero, List.push_toArray, List.append_toArray, List.nil_append, List.cons_append]
  gi_wp2
  refine ⟨trivial, (callsIn_wide.2 (partsOf_any _ _)).mono ?_⟩
  rintro e' w' ⟨rfl, rfl⟩
  gi_wp2
  obtain ⟨W0, hW0⟩ : ∃ W0, W0 = ((((w.alloc (.cells #[.string s] 9)).alloc (.cells #[.int .i64 0, .int .i64 0, .int .i64 0] 66)).alloc (.cells #[.int .i64 0, .int .i64 0, .int .i64 0] 66)).alloc (.cells #[.string lay] 9)) := ⟨_, rfl⟩
  rw [← hW0]
  have hs0 : W0.heap.size = w.heap.size + 4 := by rw [hW0]; simp
  have hg0 : w.grownBy W0 none := by
    rw [hW0]
    exact gr_then (gr_then (gr_then (gr_alloc _ _ _) (gr_alloc _ _ _)) (gr_alloc _ _ _)) (gr_alloc _ _ _)
  have hB0 : Below w.heap.size w W0 := ⟨hg0.os, hg0.tape, hg0.output, hg0.size, fun k hk => hg0.block k hk (by simp)⟩
  have hR0 : RA w.heap.size lay (rdAll s (vals [])) W0 := by
    have h0 := heap_alloc_new w (.cells #[.string s] 9)
    have h1 := heap_alloc_new (w.alloc (.cells #[.string s] 9)) (.cells #[.int .i64 0, .int .i64 0, .int .i64 0] 66)
    have h2 := heap_alloc_new ((w.alloc (.cells #[.string s] 9)).alloc (.cells #[.int .i64 0, .int .i64 0, .int .i64 0] 66)) (.cells #[.int .i64 0, .int .i64 0, .int .i64 0] 66)
    have h3 := heap_alloc_new (((w.alloc (.cells #[.string s] 9)).alloc (.cells #[.int .i64 0, .int .i64 0, .int .i64 0] 66)).alloc (.cells #[.int .i64 0, .int .i64 0, .int .i64 0] 66)) (.cells #[.string lay] 9)
    simp only [World.size_alloc] at h1 h2 h3
    have k : ∀ {W : World} {b : Nat} {cs : Array Value} {t : TypeId} {f : Nat × Nat} (o : Obj), W.heap[b]? = some (.cells cs t f) → (W.alloc o).heap[b]? = some (.cells cs t f) := fun o h => own_block h (gr_alloc _ o none) no_row
    rw [hW0]
    exact ⟨⟨s, rfl, k _ (k _ (k _ h0))⟩, k _ (k _ h1), k _ h2, h3⟩
  have hl0 : W0.cell? ⟨w.heap.size + 1 + 1 + 1, 0, none⟩ = some (.string lay) := by rw [cell_of_row _ _ _ _ _ _ hR0.l]; rfl
  have hv0 : FV W0 := hv.grown hg0 (by simp)
  have hvlt := hv.lt
  clear hW0
  refine wpIn_rangeFunc_ownF rfl (by omega) (gf := 59) (lb := #[.pointer (some ⟨w.heap.size + 1 + 1 + 1, 0, none⟩)]) rfl trivial (enters_of Tryd.func59 (by kernel_rfl) rfl)
    (parts_stops 4 (w.heap.size + 1 + 1 + 1) lay W0 hl0 hv0 (by omega)) (fun h k => h.trans k) (fun W l o o' _ hl ho _ => ⟨fun v hv => cell_kept hv (grownBy_putObj' W l o') (fun r e => by cases e; exact ⟨o, hl, ho⟩), fun hf => hf.own (grownBy_putObj' W l o') (fun r e => by cases e; exact ⟨o, hl, ho⟩)⟩) (Below.refl _ _) (fun _ => rfl)
    (fun pre W => (RA w.heap.size lay (rdAll s (vals pre)) W ∧ (rdAll s (vals pre)).1.length ≤ s.size) ∧ Below w.heap.size w W)
    (fun _ _ _ => False)
    (OwnFrom.and (Own.from (fun _ _ _ _ hs hg hr => ⟨hs.1.own hg hr, hs.2⟩) _) (ownFrom_below (Nat.le_refl _) (by omega)))
    (fun _ _ _ _ _ hs _ _ => hs)
    ⟨⟨hR0, Nat.le_refl _⟩, hB0⟩
    (fun x => { tmps := #[.string lay, .string s, undef, .pointer (some ⟨w.heap.size, 0, none⟩), .pointer (some ⟨w.heap.size + 1, 0, none⟩), .pointer (some ⟨w.heap.size + 1 + 1, 0, none⟩), .string ⟨x.1.txt.toArray⟩, .string lay, .func (.func 59) #[] #[.pointer (some ⟨w.heap.size + 1 + 1 + 1, 0, none⟩)], .string ⟨x.1.txt.toArray⟩, undef, undef, undef, undef, undef, undef, undef, undef, undef, undef, undef, undef, undef, undef, undef, undef, undef, undef, undef, undef, undef, undef, undef, undef, undef, undef, undef, undef, undef, undef, undef, undef, undef, undef, undef], defers := [] }) ?assign ?body ?done ?stop
  case assign =>
    intro l x W K hK
    gi_wp2
    exact hK
  case body =>
    rintro l pre ⟨x, hx⟩ W ⟨⟨hR, hlen⟩, hB⟩ hlt
    have HV := Lib.hid (show rdAll s (vals (pre ++ [(⟨x, hx⟩ : RTok)])) = rdStep (rdAll s (vals pre)) x from by
      rw [show vals (pre ++ [(⟨x, hx⟩ : RTok)]) = vals pre ++ [x] from by simp [vals], rdAll_snoc])
    generalize rdAll s (vals pre) = p at *
    obtain ⟨p1, y, m, d⟩ := p
    have HR := Lib.hid hR
    obtain ⟨t, ht, hts⟩ := hR.s
    simp only at ht hlen
    have hsz : t.size ≤ s.size := by rw [size_of ht]; exact hlen
    have hcell : W.cell? ⟨w.heap.size, 0, none⟩ = some (.string t) := by rw [cell_of_row _ _ _ _ _ _ hts]; rfl
    have hfr : W.frozen? ⟨w.heap.size, 0, none⟩ = false := by
      simp only [World.frozen?]; rw [hts]; simp
    have hc0 := hR.c.cell
    obtain ⟨c0, c1, c2⟩ := hc0
    have f0 := hR.c.froz 0
    have f1 := hR.c.froz 1
    have f2 := hR.c.froz 2
    have ht2 : t.size ≤ 9223372036854775807 := by omega
    have HT := Lib.hid ht
    clear hR hl0 hR0 hv0 hg0 hB0 hs0 hlen hts ht
    simp only at c0 c1 c2
    have FIN : ∀ W3, KeepsOthers W W3 → KpD (w.heap.size + 1 + 1 + 1) W W3 → RA w.heap.size lay (rdStep (p1, y, m, d) x) W3 → Below w.heap.size w W3 → (rdStep (p1, y, m, d) x).1.length ≤ s.size → _ := fun W3 a1 a2 a3 a4 a5 => (show KeepsOthers W W3 ∧ KpD (w.heap.size + 1 + 1 + 1) W W3 ∧ (RA w.heap.size lay (rdAll s (vals (pre ++ [(⟨x, hx⟩ : RTok)]))) W3 ∧ (rdAll s (vals (pre ++ [(⟨x, hx⟩ : RTok)]))).1.length ≤ s.size) ∧ Below w.heap.size w W3 from ⟨a1, a2, by rw [HV.out]; exact ⟨a3, a5⟩, a4⟩)
    have HF := Lib.hid FIN
    clear FIN
    cases x
    case y4 =>
      have hld := leading_any t 4 (by decide) W ht2
      rw [HT.out] at hld
      have hll : (lead 4 0 p1).2.length ≤ p1.length := by
        obtain ⟨q, hq, _⟩ := lead_parts 4 0 p1
        have := congrArg List.length hq
        rw [List.length_append] at this
        omega
      have HLL := Lib.hid (show (lead 4 0 p1).2.length ≤ s.size by rw [size_of HT.out] at hsz; omega)
      have HLD := Lib.hid hld
      clear hld hll
      gi_wp2
      refine ⟨trivial, (CallsIn.inRound l (callsIn_wide.2 HLD.out)).mono ?_⟩
      rintro e' W1 ⟨rfl, hg1⟩
      have hR1 := HR.out.own hg1 no_row
      have q0 := hg1.cell hcell (by simp)
      have q1 : W1.frozen? ⟨w.heap.size, 0, none⟩ = false := (World.frozen?_of_block (hg1.block _ (World.block_lt_of_cell? W _ hcell) (by simp))).trans hfr
      have q2 := hg1.cell c0 (by simp)
      have q3 := hR1.c.froz 0
      have HR1 := Lib.hid hR1
      have HG := Lib.hid hg1
      clear hR1 hg1 hcell hfr c0 c1 c2 f0 f1 f2
      gi_wp2
      exact HF.out _ ((KeepsOthers.of_grownBy HG.out (by simp)).trans ((KeepsOthers.setCell _ _ _).trans (KeepsOthers.setCell _ _ _))) ((KpD.of_grown HG.out (by simp) (by simp)).trans ((KpD.of_grown (gr_set _ _ _ _) (by intro e; simp only [Option.some.injEq] at e; omega) (by intro e; simp only [Option.some.injEq] at e; omega)).trans (KpD.of_grown (gr_set _ _ _ _) (by intro e; simp only [Option.some.injEq] at e; omega) (by intro e; simp only [Option.some.injEq] at e; omega)))) ((HR1.out.sc 0 _ ((lead 4 0 p1).1, m, d) rfl).ss _ _ rfl) (below_set (below_set (hB.grown HG.out hB.size (by simp)) (by omega)) (by omega)) HLL.out
    case m2 =>
      have hld := leading_any t 2 (by decide) W ht2
      rw [HT.out] at hld
      have hll : (lead 2 0 p1).2.length ≤ p1.length := by
        obtain ⟨q, hq, _⟩ := lead_parts 2 0 p1
        have := congrArg List.length hq
        rw [List.length_append] at this
        omega
      have HLL := Lib.hid (show (lead 2 0 p1).2.length ≤ s.size by rw [size_of HT.out] at hsz; omega)
      have HLD := Lib.hid hld
      clear hld hll
      gi_wp2
      refine ⟨trivial, (CallsIn.inRound l (callsIn_wide.2 HLD.out)).mono ?_⟩
      rintro e' W1 ⟨rfl, hg1⟩
      have hR1 := HR.out.own hg1 no_row
      have q0 := hg1.cell hcell (by simp)
      have q1 : W1.frozen? ⟨w.heap.size, 0, none⟩ = false := (World.frozen?_of_block (hg1.block _ (World.block_lt_of_cell? W _ hcell) (by simp))).trans hfr
      have q2 := hg1.cell c1 (by simp)
      have q3 := hR1.c.froz 1
      have HR1 := Lib.hid hR1
      have HG := Lib.hid hg1
      clear hR1 hg1 hcell hfr c0 c1 c2 f0 f1 f2
      gi_wp2
      exact HF.out _ ((KeepsOthers.of_grownBy HG.out (by simp)).trans ((KeepsOthers.setCell _ _ _).trans (KeepsOthers.setCell _ _ _))) ((KpD.of_grown HG.out (by simp) (by simp)).trans ((KpD.of_grown (gr_set _ _ _ _) (by intro e; simp only [Option.some.injEq] at e; omega) (by intro e; simp only [Option.some.injEq] at e; omega)).trans (KpD.of_grown (gr_set _ _ _ _) (by intro e; simp only [Option.some.injEq] at e; omega) (by intro e; simp only [Option.some.injEq] at e; omega)))) ((HR1.out.sc 1 _ (y, (lead 2 0 p1).1, d) rfl).ss _ _ rfl) (below_set (below_set (hB.grown HG.out hB.size (by simp)) (by omega)) (by omega)) HLL.out
    case m1 =>
      have hld := leading_any t 2 (by decide) W ht2
      rw [HT.out] at hld
      have hll : (lead 2 0 p1).2.length ≤ p1.length := by
        obtain ⟨q, hq, _⟩ := lead_parts 2 0 p1
        have := congrArg List.length hq
        rw [List.length_append] at this
        omega
      have HLL := Lib.hid (show (lead 2 0 p1).2.length ≤ s.size by rw [size_of HT.out] at hsz; omega)
      have HLD := Lib.hid hld
      clear hld hll
      gi_wp2
      refine ⟨trivial, (CallsIn.inRound l (callsIn_wide.2 HLD.out)).mono ?_⟩
      rintro e' W1 ⟨rfl, hg1⟩
      have hR1 := HR.out.own hg1 no_row
      have q0 := hg1.cell hcell (by simp)
      have q1 : W1.frozen? ⟨w.heap.size, 0, none⟩ = false := (World.frozen?_of_block (hg1.block _ (World.block_lt_of_cell? W _ hcell) (by simp))).trans hfr
      have q2 := hg1.cell c1 (by simp)
      have q3 := hR1.c.froz 1
      have HR1 := Lib.hid hR1
      have HG := Lib.hid hg1
      clear hR1 hg1 hcell hfr c0 c1 c2 f0 f1 f2
      gi_wp2
      exact HF.out _ ((KeepsOthers.of_grownBy HG.out (by simp)).trans ((KeepsOthers.setCell _ _ _).trans (KeepsOthers.setCell _ _ _))) ((KpD.of_grown HG.out (by simp) (by simp)).trans ((KpD.of_grown (gr_set _ _ _ _) (by intro e; simp only [Option.some.injEq] at e; omega) (by intro e; simp only [Option.some.injEq] at e; omega)).trans (KpD.of_grown (gr_set _ _ _ _) (by intro e; simp only [Option.some.injEq] at e; omega) (by intro e; simp only [Option.some.injEq] at e; omega)))) ((HR1.out.sc 1 _ (y, (lead 2 0 p1).1, d) rfl).ss _ _ rfl) (below_set (below_set (hB.grown HG.out hB.size (by simp)) (by omega)) (by omega)) HLL.out
    case d2 =>
      have hld := leading_any t 2 (by decide) W ht2
      rw [HT.out] at hld
      have hll : (lead 2 0 p1).2.length ≤ p1.length := by
        obtain ⟨q, hq, _⟩ := lead_parts 2 0 p1
        have := congrArg List.length hq
        rw [List.length_append] at this
        omega
      have HLL := Lib.hid (show (lead 2 0 p1).2.length ≤ s.size by rw [size_of HT.out] at hsz; omega)
      have HLD := Lib.hid hld
      clear hld hll
      gi_wp2
      refine ⟨trivial, (CallsIn.inRound l (callsIn_wide.2 HLD.out)).mono ?_⟩
      rintro e' W1 ⟨rfl, hg1⟩
      have hR1 := HR.out.own hg1 no_row
      have q0 := hg1.cell hcell (by simp)
      have q1 : W1.frozen? ⟨w.heap.size, 0, none⟩ = false := (World.frozen?_of_block (hg1.block _ (World.block_lt_of_cell? W _ hcell) (by simp))).trans hfr
      have q2 := hg1.cell c2 (by simp)
      have q3 := hR1.c.froz 2
      have HR1 := Lib.hid hR1
      have HG := Lib.hid hg1
      clear hR1 hg1 hcell hfr c0 c1 c2 f0 f1 f2
      gi_wp2
      exact HF.out _ ((KeepsOthers.of_grownBy HG.out (by simp)).trans ((KeepsOthers.setCell _ _ _).trans (KeepsOthers.setCell _ _ _))) ((KpD.of_grown HG.out (by simp) (by simp)).trans ((KpD.of_grown (gr_set _ _ _ _) (by intro e; simp only [Option.some.injEq] at e; omega) (by intro e; simp only [Option.some.injEq] at e; omega)).trans (KpD.of_grown (gr_set _ _ _ _) (by intro e; simp only [Option.some.injEq] at e; omega) (by intro e; simp only [Option.some.injEq] at e; omega)))) ((HR1.out.sc 2 _ (y, m, (lead 2 0 p1).1) rfl).ss _ _ rfl) (below_set (below_set (hB.grown HG.out hB.size (by simp)) (by omega)) (by omega)) HLL.out
    case d1 =>
      have hld := leading_any t 2 (by decide) W ht2
      rw [HT.out] at hld
      have hll : (lead 2 0 p1).2.length ≤ p1.length := by
        obtain ⟨q, hq, _⟩ := lead_parts 2 0 p1
        have := congrArg List.length hq
        rw [List.length_append] at this
        omega
      have HLL := Lib.hid (show (lead 2 0 p1).2.length ≤ s.size by rw [size_of HT.out] at hsz; omega)
      have HLD := Lib.hid hld
      clear hld hll
      gi_wp2
      refine ⟨trivial, (CallsIn.inRound l (callsIn_wide.2 HLD.out)).mono ?_⟩
      rintro e' W1 ⟨rfl, hg1⟩
      have hR1 := HR.out.own hg1 no_row
      have q0 := hg1.cell hcell (by simp)
      have q1 : W1.frozen? ⟨w.heap.size, 0, none⟩ = false := (World.frozen?_of_block (hg1.block _ (World.block_lt_of_cell? W _ hcell) (by simp))).trans hfr
      have q2 := hg1.cell c2 (by simp)
      have q3 := hR1.c.froz 2
      have HR1 := Lib.hid hR1
      have HG := Lib.hid hg1
      clear hR1 hg1 hcell hfr c0 c1 c2 f0 f1 f2
      gi_wp2
      exact HF.out _ ((KeepsOthers.of_grownBy HG.out (by simp)).trans ((KeepsOthers.setCell _ _ _).trans (KeepsOthers.setCell _ _ _))) ((KpD.of_grown HG.out (by simp) (by simp)).trans ((KpD.of_grown (gr_set _ _ _ _) (by intro e; simp only [Option.some.injEq] at e; omega) (by intro e; simp only [Option.some.injEq] at e; omega)).trans (KpD.of_grown (gr_set _ _ _ _) (by intro e; simp only [Option.some.injEq] at e; omega) (by intro e; simp only [Option.some.injEq] at e; omega)))) ((HR1.out.sc 2 _ (y, m, (lead 2 0 p1).1) rfl).ss _ _ rfl) (below_set (below_set (hB.grown HG.out hB.size (by simp)) (by omega)) (by omega)) HLL.out
    case ch c =>
      obtain ⟨g1, g2, g3, g4, g5⟩ := ch_tests hx
      have hl1 : (Tok.ch c).txt.length = 1 := rfl
      by_cases h0 : 0 < t.size
      · have hmin : min (1 : Int) (t.size : Int) = 1 := by omega
        have hd : (t.extract 1 t.size).data.toList = p1.drop 1 := by rw [ext_tail, HT.out]
        have hdl : (p1.drop 1).length ≤ s.size := by rw [List.length_drop]; rw [size_of HT.out] at hsz; omega
        have HD := Lib.hid (And.intro hd hdl)
        clear hd hdl
        gi_wp2
        exact HF.out _ (KeepsOthers.setCell _ _ _) (KpD.of_grown (gr_set _ _ _ _) (by intro e; simp only [Option.some.injEq] at e; omega) (by intro e; simp only [Option.some.injEq] at e; omega)) (HR.out.ss _ _ HD.out.1) (below_set hB (by omega)) HD.out.2
      · have hz : t.size = 0 := by omega
        have hmin : min (1 : Int) (t.size : Int) = 0 := by omega
        have hd : t.data.toList = p1.drop 1 := by
          rw [HT.out]
          have hpl : p1.length = 0 := by rw [← size_of HT.out]; exact hz
          rw [List.length_eq_zero_iff.1 hpl]
          rfl
        have hdl : (p1.drop 1).length ≤ s.size := by rw [List.length_drop]; rw [size_of HT.out] at hsz; omega
        have HD := Lib.hid (And.intro hd hdl)
        clear hd hdl hz
        gi_wp2
        exact HF.out _ (KeepsOthers.setCell _ _ _) (KpD.of_grown (gr_set _ _ _ _) (by intro e; simp only [Option.some.injEq] at e; omega) (by intro e; simp only [Option.some.injEq] at e; omega)) (HR.out.ss _ _ HD.out.1) (below_set hB (by omega)) HD.out.2
  case done =>
    rintro D ys W hD hys ⟨⟨hR, _⟩, hB⟩ hK
    have hys' : vals ys = toks lay.data.toList := hys
    have hrd : (rdAll s (vals ys)).2 = rd (toks lay.data.toList) s.data.toList (0, 0, 0) := by
      rw [hys']
      exact (rd_step _ (s.data.toList, (0, 0, 0))).symm
    have HRD := Lib.hid hrd
    have HR := Lib.hid hR
    have hD2 : w.heap.size + 4 ≤ D := by omega
    have HB := Lib.hid (And.intro hB hD2)
    obtain ⟨c0, c1, c2⟩ := hR.c.cell
    obtain ⟨r0, r1, r2⟩ := hR.r.cell
    have f0 := hR.r.froz 0
    have f1 := hR.r.froz 1
    have f2 := hR.r.froz 2
    clear hys hys' hrd hR hl0 hR0 hv0 hg0 hB0 hs0 hD hB
    have hcv : CB (((W.setCell ⟨w.heap.size + 1, 0, none⟩ (.int .i64 ((rdAll s (vals ys)).2.1 : Nat))).setCell ⟨w.heap.size + 1, 1, none⟩ (.int .i64 ((rdAll s (vals ys)).2.2.1 : Nat))).setCell ⟨w.heap.size + 1, 2, none⟩ (.int .i64 ((rdAll s (vals ys)).2.2.2 : Nat))) (w.heap.size + 1) (rdAll s (vals ys)).2 :=
      ((HR.out.r.set (c' := ((rdAll s (vals ys)).2.1, 0, 0)) 0 _ rfl).set (c' := ((rdAll s (vals ys)).2.1, (rdAll s (vals ys)).2.2.1, 0)) 1 _ rfl).set 2 _ rfl
    have HCV := Lib.hid hcv
    clear hcv
    gi_wp2
    have hK3 := (((KeepsOthers.setCell W ⟨w.heap.size + 1, 0, none⟩ (.int .i64 ((rdAll s (vals ys)).2.1 : Nat))).trans (KeepsOthers.setCell _ ⟨w.heap.size + 1, 1, none⟩ (.int .i64 ((rdAll s (vals ys)).2.2.1 : Nat)))).trans (KeepsOthers.setCell _ ⟨w.heap.size + 1, 2, none⟩ (.int .i64 ((rdAll s (vals ys)).2.2.2 : Nat)))).same D _ hK rfl
    have hB3 := below_set (i := 2) (v := .int .i64 ((rdAll s (vals ys)).2.2.2 : Nat)) (below_set (i := 1) (v := .int .i64 ((rdAll s (vals ys)).2.2.1 : Nat)) (below_set (i := 0) (v := .int .i64 ((rdAll s (vals ys)).2.1 : Nat)) HB.out.1 (Nat.le_succ w.heap.size)) (Nat.le_succ w.heap.size)) (Nat.le_succ w.heap.size)
    refine ⟨by simp, .inl ⟨_, _, rfl, run_takeDeferred hK3, ?_⟩⟩
    refine ⟨_, results_cell_row rfl _ _ (w.heap.size + 1) _ _ (0, 0) _ rfl (own_block HCV.out (grownBy_putObj' _ D (.deferred none)) (fun r e => by cases e; exact ⟨_, hK3, rfl⟩)) Tryd.underlying66 rfl (by kernel_rfl), ?_⟩
    refine ⟨by rw [HRD.out], gr_below (hB3.trans (belowK_b (w := w) (Nat.le_refl _) _ D _ (.deferred none) (by have := HB.out.2; omega) hK3 rfl rfl)) none⟩
  case stop =>
    rintro D c pre W _ _ h _
    exact h.elim
end Go.Proofs.YtchbefaflhimcaaDoor
namespace Go.Proofs.YtchbefaflhimcaaDoor
open Go.RowKit Mth

/-- The variable date.lengths as it is laid. -/
def lensL : List Int := [31, 28, 31, 30, 31, 30, 31, 31, 30, 31, 30, 31]
abbrev LenV (w : World) : Prop := Lib.TabIs Tryd.prog w "concord/date.lengths" .i64 lensL

theorem leap_true {y : Nat} (h : y % 4 = 0 ∧ (y % 100 ≠ 0 ∨ y % 400 = 0)) : leap y = true := by
  unfold leap
  simp only [Bool.and_eq_true, Bool.or_eq_true, beq_iff_eq, bne_iff_ne]
  exact h
theorem leap_false {y : Nat} (h : ¬ (y % 4 = 0 ∧ (y % 100 ≠ 0 ∨ y % 400 = 0))) : leap y = false := by
  rw [Bool.eq_false_iff]
  intro h2
  apply h
  unfold leap at h2
  simpa only [Bool.and_eq_true, Bool.or_eq_true, beq_iff_eq, bne_iff_ne] using h2

theorem hasLeapDay_any (y : Nat) (w : World) :
    Calls Tryd.prog 51 #[.int .i64 y] w fun e w' => e = .returned (.bool (leap y)) ∧ w = w' := by
  go_enter Tryd.func51, Tryd.ntmps51
  go_wp2
  all_goals
    go_ret
    refine ⟨?_, rfl⟩
    first
    | (rw [leap_true ⟨by omega, by omega⟩]; rfl)
    | (rw [leap_false (by omega)]; rfl)
    | skip
  by_cases h : y % 400 = 0
  · rw [leap_true ⟨by omega, by omega⟩, show ((y : Int) % 400 == 0) = true from by rw [beq_iff_eq]; omega]; rfl
  · rw [leap_false (by omega), show ((y : Int) % 400 == 0) = false from by rw [beq_eq_false_iff_ne]; omega]; rfl

theorem befor_any (t : Nat) (ht : t ≤ 10000000000000000) (w : World) :
    Calls Tryd.prog 35 #[.int .i64 ((t : Int) + 1)] w fun e w' => e = .returned (.int .i64 (bef t : Nat)) ∧ w = w' := by
  have h1 : (bef t : Int) = 365 * (t : Int) + (t : Int) / 4 - (t : Int) / 100 + (t : Int) / 400 := by unfold bef; omega
  rw [h1]
  go_enter Tryd.func35, Tryd.ntmps35
  go_wp2
  go_ret
  exact ⟨rfl, rfl⟩

theorem lens_nm : Tryd.prog.globalNamed "concord/date.lengths" = some 0 := by kernel_rfl
theorem lens_cell {w : World} (hv : LenV w) (m : Nat) (h1 : 1 ≤ m) (h12 : m ≤ 12) (y : Nat) (h2 : m ≠ 2) : w.cell? ⟨0, m - 1, none⟩ = some (.int .i64 (dim y m : Nat)) := by
  rw [hv.cell lens_nm (m - 1) (by simp [lensL]; omega)]
  have : m = 1 ∨ m = 3 ∨ m = 4 ∨ m = 5 ∨ m = 6 ∨ m = 7 ∨ m = 8 ∨ m = 9 ∨ m = 10 ∨ m = 11 ∨ m = 12 := by omega
  rcases this with h | h | h | h | h | h | h | h | h | h | h <;> subst h <;> rfl
theorem month_any (y m : Nat) (h1 : 1 ≤ m) (h12 : m ≤ 12) (w : World) (hv : LenV w) :
    Calls Tryd.prog 36 #[.int .i64 y, .int .i64 m] w fun e w' => e = .returned (.int .i64 (dim y m : Nat)) ∧ w = w' := by
  by_cases h2 : m = 2
  · subst h2
    cases hl : leap y with
    | true =>
      have hd : dim y 2 = 29 := by unfold dim; rw [hl]; rfl
      rw [hd]
      go_enter Tryd.func36, Tryd.ntmps36
      go_wp2_with fail
      refine (hasLeapDay_any y w).mono ?_
      rintro e w' ⟨rfl, rfl⟩
      rw [hl]
      go_wp2
      go_ret
      exact ⟨rfl, rfl⟩
    | false =>
      have hd : dim y 2 = 28 := by unfold dim; rw [hl]; rfl
      have hc : w.cell? ⟨0, 1, none⟩ = some (.int .i64 28) := hv.cell lens_nm 1 (by decide)
      rw [hd]
      go_enter Tryd.func36, Tryd.ntmps36
      go_wp2_with fail
      refine (hasLeapDay_any y w).mono ?_
      rintro e w' ⟨rfl, rfl⟩
      rw [hl]
      go_wp2
      go_ret
      exact ⟨rfl, rfl⟩
  · have hc := lens_cell hv m h1 h12 y h2
    have h2' : ((m : Int) == 2) = false := by rw [beq_eq_false_iff_ne]; omega
    go_enter Tryd.func36, Tryd.ntmps36
    go_wp2
    go_ret
    exact ⟨rfl, rfl⟩

/-- Whether numbers are those of a date. -/
def okD (y m d : Int) : Bool := decide (1 ≤ y ∧ y ≤ 9999 ∧ 1 ≤ m ∧ m ≤ 12 ∧ 1 ≤ d ∧ d ≤ dim y.toNat m.toNat)

theorem valid_any (y m d : Int) (w : World) (hv : LenV w) :
    Calls Tryd.prog 16 #[.int .i64 y, .int .i64 m, .int .i64 d] w fun e w' => e = .returned (.bool (okD y m d)) ∧ w = w' := by
  by_cases h1 : 1 ≤ y ∧ y ≤ 9999 ∧ 1 ≤ m ∧ m ≤ 12 ∧ 1 ≤ d
  · obtain ⟨a1, a2, a3, a4, a5⟩ := h1
    obtain ⟨ny, rfl⟩ := Int.eq_ofNat_of_zero_le (show 0 ≤ y by omega)
    obtain ⟨nm, rfl⟩ := Int.eq_ofNat_of_zero_le (show 0 ≤ m by omega)
    have hk : okD ny nm d = decide (d ≤ (dim ny nm : Nat)) := by unfold okD; simp [a1, a2, a3, a4, a5]
    rw [hk]
    go_enter Tryd.func16, Tryd.ntmps16
    go_wp2_with fail
    refine (month_any ny nm (by omega) (by omega) w hv).mono ?_
    rintro e w' ⟨rfl, rfl⟩
    go_wp2
    go_ret
    exact ⟨rfl, rfl⟩
  · have hk : okD y m d = false := by unfold okD; rw [decide_eq_false]; intro h; exact h1 ⟨h.1, h.2.1, h.2.2.1, h.2.2.2.1, h.2.2.2.2.1⟩
    rw [hk]
    go_enter Tryd.func16, Tryd.ntmps16
    go_wp2_with fail
    all_goals
      go_ret
      exact ⟨rfl, rfl⟩

/-- The number of a date, if there is one. -/
def numD (y m d : Int) : Int × Bool := if okD y m d then (((numOf y.toNat m.toNat d.toNat : Nat) : Int), true) else (0, false)

set_option maxRecDepth 100000 in
theorem number_any (y m d : Int) (w : World) (hv : LenV w) :
    Calls Tryd.prog 14 #[.int .i64 y, .int .i64 m, .int .i64 d] w fun e w' => e = .returned (.tuple #[.int .i64 (numD y m d).1, .bool (numD y m d).2]) ∧ w = w' := by
  cases hk : okD y m d with
  | false =>
    have hn : numD y m d = (0, false) := by unfold numD; rw [hk]; rfl
    rw [hn]
    go_enter Tryd.func14, Tryd.ntmps14
    go_wp2_with fail
    refine (valid_any y m d w hv).mono ?_
    rintro e w' ⟨rfl, rfl⟩
    rw [hk]
    go_wp2
    go_ret2
    exact ⟨rfl, rfl⟩
  | true =>
    have hn : numD y m d = (((numOf y.toNat m.toNat d.toNat : Nat) : Int), true) := by unfold numD; rw [hk]; rfl
    have ho := hk
    unfold okD at ho
    rw [decide_eq_true_eq] at ho
    obtain ⟨a1, a2, a3, a4, a5, a6⟩ := ho
    obtain ⟨t, rfl⟩ : ∃ t : Nat, y = (t : Int) + 1 := ⟨(y - 1).toNat, by omega⟩
    obtain ⟨nm, rfl⟩ := Int.eq_ofNat_of_zero_le (show 0 ≤ m by omega)
    obtain ⟨nd, rfl⟩ := Int.eq_ofNat_of_zero_le (show 0 ≤ d by omega)
    rw [hn]
    simp only [Int.toNat_natCast, show ((t : Int) + 1).toNat = t + 1 from by omega] at a6 ⊢
    have HK := Lib.hid hk
    have hb : bef t ≤ 3652059 := by
      have := bef_le (show t ≤ 9999 by omega)
      rwa [show bef 9999 = 3652059 from by decide] at this
    have hdl := dim_le (t + 1) nm
    clear hk hn
    go_enter Tryd.func14, Tryd.ntmps14
    go_wp2_with fail
    refine (valid_any _ _ _ w hv).mono ?_
    rintro e w' ⟨rfl, rfl⟩
    rw [HK.out]
    go_wp2_with fail
    refine (befor_any t (by omega) w).mono ?_
    rintro e w' ⟨rfl, rfl⟩
    go_wp2
    go_loop [8, 9] (fun u v => ∃ k : Nat, k + 1 ≤ nm ∧ u = .int .i64 ((bef t : Int) + (cum (t + 1) k : Nat) + nd - 1) ∧ v = .int .i64 ((k : Int) + 1)) (fun _ v => (nm - intOf v).toNat)
    case atStart => exact ⟨0, by omega, by simp [cum], by simp⟩
    case round =>
      obtain ⟨k, hk, rfl, rfl⟩ := hrel
      have hcl := cum_le (t + 1) (show k ≤ 12 by omega)
      rw [cum_12] at hcl
      have hcl2 : cum (t + 1) k ≤ 366 := by split at hcl <;> omega
      clear hcl
      by_cases hkm : k + 1 = nm
      · subst hkm
        go_wp2
        go_ret2
        refine ⟨?_, rfl⟩
        unfold numOf
        rw [Nat.add_sub_cancel, Nat.add_sub_cancel, show ((bef t + cum (t + 1) k + nd - 1 : Nat) : Int) = (bef t : Int) + (cum (t + 1) k : Nat) + nd - 1 from by omega]
        rfl
      · have hdl := dim_le (t + 1) (k + 1)
        have hlt : (k : Int) + 1 < nm := by omega
        go_wp2_with fail
        refine (month_any (t + 1) (k + 1) (by omega) (by omega) w hv).mono ?_
        rintro e w' ⟨rfl, rfl⟩
        go_wp2
        refine ⟨⟨k + 1, by omega, by congr 1; simp only [cum]; omega, by congr 1⟩, ?_⟩
        simp only [intOf]
        omega

/-- Whether a number is that of a date. -/
def isN (n : Int) : Bool := decide (0 ≤ n ∧ n ≤ 3652058)
theorem isN_true {n : Int} (h : 0 ≤ n ∧ n ≤ 3652058) : isN n = true := decide_eq_true h
theorem isN_false {n : Int} (h : ¬ (0 ≤ n ∧ n ≤ 3652058)) : isN n = false := decide_eq_false h

theorem isNumber_any (n : Int) (w : World) :
    Calls Tryd.prog 40 #[.int .i64 n] w fun e w' => e = .returned (.bool (isN n)) ∧ w = w' := by
  by_cases h : 0 ≤ n
  · rw [show isN n = decide (n ≤ 3652058) from by unfold isN; simp [h]]
    go_enter Tryd.func40, Tryd.ntmps40
    go_wp2
    go_ret
    exact ⟨rfl, rfl⟩
  · rw [isN_false (by omega)]
    go_enter Tryd.func40, Tryd.ntmps40
    go_wp2
    go_ret
    exact ⟨rfl, rfl⟩

theorem yearOf_any (n : Nat) (hn : n ≤ 3652058) (w : World) :
    Calls Tryd.prog 41 #[.int .i64 n] w fun e w' => e = .returned (.int .i64 ((yr n : Int) + 1)) ∧ w = w' := by
  have h1 : (400 * (n : Int)) / 146097 = ((400 * n / 146097 : Nat) : Int) := by omega
  have hq : 400 * n / 146097 ≤ 10000 := by omega
  have hy : yr n = 400 * n / 146097 + (if bef (400 * n / 146097 + 1) ≤ n then 1 else 0) := rfl
  generalize 400 * n / 146097 = q at *
  have hb := befor_any (q + 1) (by omega) w
  rw [show (((q + 1 : Nat) : Int) + 1) = (q : Int) + 1 + 1 from by omega] at hb
  have hB := Lib.hid hb
  have HY := Lib.hid hy
  clear hb hy
  by_cases hle : bef (q + 1) ≤ n
  · go_enter Tryd.func41, Tryd.ntmps41
    go_wp2_with fail
    refine hB.out.mono ?_
    rintro e w' ⟨rfl, rfl⟩
    go_wp2
    go_ret
    rw [HY.out, if_pos hle]
    exact ⟨by congr 2, rfl⟩
  · go_enter Tryd.func41, Tryd.ntmps41
    go_wp2_with fail
    refine hB.out.mono ?_
    rintro e w' ⟨rfl, rfl⟩
    go_wp2
    go_ret
    rw [HY.out, if_neg hle]
    exact ⟨by congr 2, rfl⟩

theorem results_tmp4 {fn : Func} {t u v x : Tmp} (h : fn.results = #[.tmp t, .tmp u, .tmp v, .tmp x]) (tmps : Array Value) (P : Program) (w : World) :
    (results fn tmps).run P w = .ok (.tuple #[tmps.getD t undef, tmps.getD u undef, tmps.getD v undef, tmps.getD x undef]) w := by
  simp [results, h]

/-- Year, month and day of a number, if there are some. -/
def civD (n : Int) : Value := if isN n then .tuple #[.int .i64 ((civ n.toNat).1 : Nat), .int .i64 ((civ n.toNat).2.1 : Nat), .int .i64 ((civ n.toNat).2.2 : Nat), .bool true] else .tuple #[.int .i64 0, .int .i64 0, .int .i64 0, .bool false]

/-- The loop over the months: k months are over. -/
structure InYear (n t k r : Nat) : Prop where
  le : k ≤ 11
  eq : n = bef t + cum (t + 1) k + r
  lt : cum (t + 1) k + r < cum (t + 1) 12
theorem InYear.next {n t k r : Nat} (h : InYear n t k r) (hr : dim (t + 1) (k + 1) ≤ r) : InYear n t (k + 1) (r - dim (t + 1) (k + 1)) := by
  obtain ⟨h1, h2, h3⟩ := h
  have e : cum (t + 1) (k + 1) = cum (t + 1) k + dim (t + 1) (k + 1) := rfl
  refine ⟨?_, by omega, by omega⟩
  rcases Nat.lt_or_ge k 11 with h | h
  · omega
  · obtain rfl : k = 11 := by omega
    have e' : cum (t + 1) 12 = cum (t + 1) 11 + dim (t + 1) 12 := e
    have hr' : dim (t + 1) 12 ≤ r := hr
    omega
theorem InYear.done {n t k r : Nat} (h : InYear n t k r) (hr : r < dim (t + 1) (k + 1)) (ht : t ≤ 9998) : Civ n (t + 1) (k + 1) (r + 1) :=
  ⟨⟨by omega, by omega, by omega, by have := h.le; omega, by omega, by omega⟩, by
    unfold numOf
    rw [Nat.add_sub_cancel, Nat.add_sub_cancel]
    have := h.eq
    omega⟩
theorem InYear.start {n : Nat} : InYear n (yr n) 0 (n - bef (yr n)) := by
  have := yr_spec n
  have hb := bef_next (yr n)
  refine ⟨by omega, by simp only [cum]; omega, by rw [cum_12]; simp only [cum]; omega⟩
theorem InYear.small {n t k r : Nat} (h : InYear n t k r) : r ≤ 366 := by
  have := h.lt
  rw [cum_12] at this
  split at this <;> omega

theorem civil_any (n : Int) (w : World) (hv : LenV w) :
    Calls Tryd.prog 17 #[.int .i64 n] w fun e w' => e = .returned (civD n) ∧ w = w' := by
  by_cases h : 0 ≤ n ∧ n ≤ 3652058
  · obtain ⟨k, rfl⟩ := Int.eq_ofNat_of_zero_le h.1
    have hc : ∀ y m d, Civ k y m d → civD (k : Int) = .tuple #[.int .i64 (y : Nat), .int .i64 (m : Nat), .int .i64 (d : Nat), .bool true] := by
      intro y m d hc
      unfold civD
      rw [isN_true h, Int.toNat_natCast, hc.eq hc.le]
      rfl
    have hk : k ≤ 3652058 := by omega
    have hyl := yr_le (n := k) hk
    have HC := Lib.hid hc
    have hst := InYear.start (n := k)
    have hle := (yr_spec k).1
    clear hc
    go_enter Tryd.func17, Tryd.ntmps17
    go_wp2_with fail
    refine (isNumber_any _ w).mono ?_
    rintro e w' ⟨rfl, rfl⟩
    rw [isN_true h]
    go_wp2_with fail
    refine (yearOf_any k hk w).mono ?_
    rintro e w' ⟨rfl, rfl⟩
    go_wp2_with fail
    refine (befor_any (yr k) (by omega) w).mono ?_
    rintro e w' ⟨rfl, rfl⟩
    generalize yr k = t at *
    go_wp2
    go_loop [3, 4] (fun u v => ∃ j r : Nat, Hid (InYear k t j r) ∧ r ≤ 366 ∧ j ≤ 11 ∧ u = .int .i64 ((j : Int) + 1) ∧ v = .int .i64 ((r : Int) + 1)) (fun u _ => (12 - intOf u).toNat)
    case atStart => exact ⟨0, k - bef t, hst, hst.small, by omega, by simp, by congr 1; omega⟩
    case round =>
      obtain ⟨j, r, hin, hr, hj, rfl, rfl⟩ := hrel
      have hmo := month_any (t + 1) (j + 1) (by omega) (by omega) w hv
      have HM := Lib.hid hmo
      clear hmo
      by_cases hd : dim (t + 1) (j + 1) ≤ r
      · go_wp2_with fail
        refine HM.out.mono ?_
        rintro e w' ⟨rfl, rfl⟩
        go_wp2_with fail
        refine HM.out.mono ?_
        rintro e w' ⟨rfl, rfl⟩
        have hn := hin.out.next hd
        go_wp2
        refine ⟨⟨j + 1, r - dim (t + 1) (j + 1), hn, hn.small, hn.le, by congr 1, by congr 1; omega⟩, ?_⟩
        have := hn.le
        simp only [intOf]
        omega
      · go_wp2_with fail
        refine HM.out.mono ?_
        rintro e w' ⟨rfl, rfl⟩
        go_wp2
        (try simp only [Exit.inBlock, Exit.then])
        refine bodyPost_ret (results_tmp4 rfl _ _ _) rfl ?_
        rw [HC.out _ _ _ (hin.out.done (by omega) hyl)]
        exact ⟨by simp, rfl⟩
  · have hc : civD n = .tuple #[.int .i64 0, .int .i64 0, .int .i64 0, .bool false] := by unfold civD; rw [isN_false h]; rfl
    rw [hc]
    have hf := isN_false h
    clear h
    go_enter Tryd.func17, Tryd.ntmps17
    go_wp2_with fail
    refine (isNumber_any _ w).mono ?_
    rintro e w' ⟨rfl, rfl⟩
    rw [hf]
    go_wp2
    (try simp only [Exit.inBlock, Exit.then])
    refine bodyPost_ret (results_tmp4 rfl _ _ _) rfl ?_
    exact ⟨rfl, rfl⟩
end Go.Proofs.YtchbefaflhimcaaDoor
namespace Go.Proofs.YtchbefaflhimcaaDoor
open Go.RowKit Mth

/-- The weekday of a number, if it is that of a date. -/
def wkD (n : Int) : Int × Bool := if isN n then (n % 7 + 1, true) else (0, false)
def addD (n k : Int) : Int × Bool := if isN n && isN (n + k) then (n + k, true) else (0, false)

theorem weekday_any (n : Int) (w : World) :
    Calls Tryd.prog 21 #[.int .i64 n] w fun e w' => e = .returned (.tuple #[.int .i64 (wkD n).1, .bool (wkD n).2]) ∧ w = w' := by
  by_cases h : 0 ≤ n ∧ n ≤ 3652058
  · rw [show wkD n = (n % 7 + 1, true) from by unfold wkD; rw [isN_true h]; rfl]
    go_enter Tryd.func21, Tryd.ntmps21
    go_wp2_with fail
    refine (isNumber_any _ w).mono ?_
    rintro e w' ⟨rfl, rfl⟩
    rw [isN_true h]
    go_wp2
    go_ret2
    exact ⟨rfl, rfl⟩
  · rw [show wkD n = (0, false) from by unfold wkD; rw [isN_false h]; rfl]
    have hf := isN_false h
    clear h
    go_enter Tryd.func21, Tryd.ntmps21
    go_wp2_with fail
    refine (isNumber_any _ w).mono ?_
    rintro e w' ⟨rfl, rfl⟩
    rw [hf]
    go_wp2
    go_ret2
    exact ⟨rfl, rfl⟩

theorem wrap_in {x : Int} (h1 : -9223372036854775808 ≤ x) (h2 : x ≤ 9223372036854775807) : wrap64 x = x := by
  unfold wrap64; omega
theorem wrap_low {x : Int} (h1 : 9223372036854775808 ≤ x) (h2 : x ≤ 18446744073709551615) : wrap64 x < 0 := by
  unfold wrap64; omega
set_option maxRecDepth 100000 in
theorem add_any (n k : Int) (hk1 : -9223372036854775808 ≤ k) (hk2 : k ≤ 9223372036854775807) (w : World) :
    Calls Tryd.prog 19 #[.int .i64 n, .int .i64 k] w fun e w' => e = .returned (.tuple #[.int .i64 (addD n k).1, .bool (addD n k).2]) ∧ w = w' := by
  by_cases h : 0 ≤ n ∧ n ≤ 3652058
  · have ht := isN_true h
    by_cases h2 : 0 ≤ n + k ∧ n + k ≤ 3652058
    · have hw : wrap64 (n + k) = n + k := wrap_in (by omega) (by omega)
      have ht2 := isN_true h2
      rw [show addD n k = (n + k, true) from by unfold addD; rw [ht, ht2]; rfl]
      clear h2 hk1 hk2
      go_enter Tryd.func19, Tryd.ntmps19
      go_wp2_with fail
      refine (isNumber_any _ w).mono ?_
      rintro e w' ⟨rfl, rfl⟩
      rw [ht]
      go_wp2_with fail
      refine (isNumber_any _ w).mono ?_
      rintro e w' ⟨rfl, rfl⟩
      rw [ht2]
      go_wp2
      go_ret2
      exact ⟨rfl, rfl⟩
    · have hf : isN (wrap64 (n + k)) = false := by
        apply isN_false
        by_cases h3 : n + k ≤ 9223372036854775807
        · rw [wrap_in (by omega) h3]; exact h2
        · have := wrap_low (x := n + k) (by omega) (by omega)
          omega
      rw [show addD n k = (0, false) from by unfold addD; rw [ht, isN_false h2]; rfl]
      generalize hz : wrap64 (n + k) = z at *
      have HZ := Lib.hid hz
      clear h2 hk1 hk2 hz
      go_enter Tryd.func19, Tryd.ntmps19
      go_wp2_with fail
      rw [HZ.out]
      refine (isNumber_any _ w).mono ?_
      rintro e w' ⟨rfl, rfl⟩
      rw [ht]
      go_wp2_with fail
      refine (isNumber_any _ w).mono ?_
      rintro e w' ⟨rfl, rfl⟩
      rw [hf]
      go_wp2
      go_ret2
      exact ⟨rfl, rfl⟩
  · rw [show addD n k = (0, false) from by unfold addD; rw [isN_false h]; rfl]
    have hf := isN_false h
    generalize hz : wrap64 (n + k) = z at *
    have HZ := Lib.hid hz
    clear h hz
    go_enter Tryd.func19, Tryd.ntmps19
    go_wp2_with fail
    rw [HZ.out]
    refine (isNumber_any _ w).mono ?_
    rintro e w' ⟨rfl, rfl⟩
    rw [hf]
    go_wp2
    go_ret2
    exact ⟨rfl, rfl⟩

/-- What months later is: the month's number, from January of the year 0 on. -/
def monC (n : Nat) (M : Int) : Int := 12 * ((civ n).1 : Nat) + ((civ n).2.1 : Nat) - 1 + M
def monN (c : Nat) (d : Nat) : Nat := numOf (c / 12) (c % 12 + 1) (min d (dim (c / 12) (c % 12 + 1)))
def monD (n M : Int) : Int × Bool := if isN n && decide (12 ≤ monC n.toNat M ∧ monC n.toNat M < 120000) then (((monN (monC n.toNat M).toNat (civ n.toNat).2.2 : Nat) : Int), true) else (0, false)

theorem month_at (z u : Int) (y m : Nat) (hz : z = (y : Int)) (hu : u = (m : Int)) (h1 : 1 ≤ m) (h12 : m ≤ 12) (w : World) (hv : LenV w) :
    Calls Tryd.prog 36 #[.int .i64 z, .int .i64 u] w fun e w' => e = .returned (.int .i64 (dim y m : Nat)) ∧ w = w' := by
  subst hz; subst hu; exact month_any y m h1 h12 w hv
set_option maxRecDepth 100000 in
theorem months_any (n M : Int) (hk1 : -9223372036854775808 ≤ M) (hk2 : M ≤ 9223372036854775807) (w : World) (hv : LenV w) :
    Calls Tryd.prog 23 #[.int .i64 n, .int .i64 M] w fun e w' => e = .returned (.tuple #[.int .i64 (monD n M).1, .bool (monD n M).2]) ∧ w = w' := by
  by_cases h : 0 ≤ n ∧ n ≤ 3652058
  · obtain ⟨k, rfl⟩ := Int.eq_ofNat_of_zero_le h.1
    have hc := civ_spec (n := k) (show k ≤ maxDay by unfold maxDay; omega)
    have hcd : civD (k : Int) = .tuple #[.int .i64 ((civ k).1 : Nat), .int .i64 ((civ k).2.1 : Nat), .int .i64 ((civ k).2.2 : Nat), .bool true] := by
      unfold civD; rw [isN_true h]; rfl
    have hm : monD (k : Int) M = if 12 ≤ monC k M ∧ monC k M < 120000 then (((monN (monC k M).toNat (civ k).2.2 : Nat) : Int), true) else (0, false) := by
      unfold monD; rw [isN_true h]; simp only [Int.toNat_natCast, Bool.true_and, decide_eq_true_eq]
    have hmc : monC k M = 12 * ((civ k).1 : Nat) + ((civ k).2.1 : Nat) - 1 + M := rfl
    rw [hm]
    obtain ⟨h1, h2, h3, h4, h5, h6⟩ := hc.ok
    clear hm hc
    generalize (civ k).1 = y at *
    generalize (civ k).2.1 = m at *
    generalize (civ k).2.2 = d at *
    have hdl := dim_le y m
    have hd31 : d ≤ 31 := by omega
    clear h6 hdl
    have HCD := Lib.hid hcd
    clear hcd
    obtain ⟨c, hcc⟩ : ∃ c : Int, c = 12 * ((y : Int) - 1) + m - 1 + M := ⟨_, rfl⟩
    have hmc2 : monC k M = c + 12 := by omega
    rw [hmc2]
    by_cases hneg : wrap64 (12 * ((y : Int) - 1) + m - 1 + M) < 0
    · have hno : ¬ (12 ≤ c + 12 ∧ c + 12 < 120000) := by
        intro hh
        rw [← hcc, wrap_in (by omega) (by omega)] at hneg
        omega
      rw [if_neg hno]
      clear hno hmc hmc2 hcc h
      go_enter Tryd.func23, Tryd.ntmps23
      go_wp2_with fail
      refine (civil_any _ w hv).mono ?_
      rintro e w' ⟨rfl, rfl⟩
      rw [HCD.out]
      go_wp2
      go_ret2
      exact ⟨rfl, rfl⟩
    · have hc63 : c ≤ 9223372036854775807 := by
        rcases (show c ≤ 9223372036854775807 ∨ 9223372036854775807 < c by omega) with hh | hh
        · exact hh
        · rw [← hcc] at hneg
          exact absurd (wrap_low (by omega) (by omega)) hneg
      have hw : wrap64 (12 * ((y : Int) - 1) + m - 1 + M) = c := by rw [← hcc, wrap_in (by omega) hc63]
      rw [hw] at hneg
      obtain ⟨q, rfl⟩ := Int.eq_ofNat_of_zero_le (show 0 ≤ c by omega)
      have hnum : numD ((q : Int) / 12 + 1) ((q : Int) % 12 + 1) (min (d : Int) (dim (q / 12 + 1) (q % 12 + 1) : Nat)) = if 12 ≤ (q : Int) + 12 ∧ (q : Int) + 12 < 120000 then (((monN ((q : Int) + 12).toNat d : Nat) : Int), true) else (0, false) := by
        have e1 : ((q : Int) / 12 + 1).toNat = q / 12 + 1 := by omega
        have e2 : ((q : Int) % 12 + 1).toNat = q % 12 + 1 := by omega
        have e3 : (min (d : Int) (dim (q / 12 + 1) (q % 12 + 1) : Nat)).toNat = min d (dim (q / 12 + 1) (q % 12 + 1)) := by omega
        have hdp := dim_pos (q / 12 + 1) (q % 12 + 1)
        have ho : okD ((q : Int) / 12 + 1) ((q : Int) % 12 + 1) (min (d : Int) (dim (q / 12 + 1) (q % 12 + 1) : Nat)) = decide (12 ≤ (q : Int) + 12 ∧ (q : Int) + 12 < 120000) := by
          unfold okD
          rw [e1, e2]
          apply decide_eq_decide.2
          omega
        unfold numD
        rw [ho, e1, e2, e3]
        unfold monN
        rw [show ((q : Int) + 12).toNat / 12 = q / 12 + 1 from by omega, show ((q : Int) + 12).toNat % 12 = q % 12 from by omega]
        simp only [decide_eq_true_eq]
      rw [← hnum]
      have HW := Lib.hid hw
      obtain ⟨ln, hln⟩ : ∃ ln, ln = dim (q / 12 + 1) (q % 12 + 1) := ⟨_, rfl⟩
      rw [← hln]
      have HL := Lib.hid hln
      have hq : (q : Int) ≤ 9223372036854775807 := hc63
      have hln31 : ln ≤ 31 := by rw [hln]; exact dim_le _ _
      clear hnum hmc hmc2 hcc h hln hneg hc63
      go_enter Tryd.func23, Tryd.ntmps23
      go_wp2_with fail
      refine (civil_any _ w hv).mono ?_
      rintro e w' ⟨rfl, rfl⟩
      rw [HCD.out]
      go_wp2_with fail
      refine (month_at _ _ (q / 12 + 1) (q % 12 + 1) (by omega) (by omega) (by omega) (by omega) w hv).mono ?_
      rintro e w' ⟨rfl, rfl⟩
      rw [← HL.out]
      go_wp2_with fail
      all_goals
        refine (number_any _ _ _ w hv).mono ?_
        rintro e w' ⟨rfl, rfl⟩
        go_wp2
        go_ret2
        refine ⟨?_, rfl⟩
        first
        | rfl
        | (rw [show min (d : Int) ln = d from by omega]; done)
        | (rw [show min (d : Int) ln = d from by omega]; rfl)
        | (rw [show min (d : Int) ln = ln from by omega]; done)
        | (rw [show min (d : Int) ln = ln from by omega]; rfl)
  · rw [show monD n M = (0, false) from by unfold monD; rw [isN_false h]; rfl]
    have hcd : civD n = .tuple #[.int .i64 0, .int .i64 0, .int .i64 0, .bool false] := by unfold civD; rw [isN_false h]; rfl
    have HCD := Lib.hid hcd
    clear h hcd
    go_enter Tryd.func23, Tryd.ntmps23
    go_wp2_with fail
    refine (civil_any _ w hv).mono ?_
    rintro e w' ⟨rfl, rfl⟩
    rw [HCD.out]
    go_wp2
    go_ret2
    exact ⟨rfl, rfl⟩
end Go.Proofs.YtchbefaflhimcaaDoor
