/- Contracts of the program and of the reference, part 5: Pu, Py, Pz, Qa, Qb, Qc, Qd. -/
import Derived.Test.YtgkegbcdiadkdaaDoorBBase4
import Derived.BigQuiet
namespace Go.Proofs.YtgkegbcdiadkdaaDoor
open Go.RowKit Pt

def allD1 (ps qs : List Pc) : Bool := match ps with
  | [p] => allCov p qs
  | _ => false
theorem allD1_ne {ps qs : List Pc} (h : ps.length ≠ 1) : allD1 ps qs = false := by
  match ps, h with
  | [], _ => rfl
  | [p], h => exact absurd rfl h
  | _ :: _ :: _, _ => rfl
abbrev AllF (v u : Value) (w : World) (b : Bool) : Prop := Calls Tryd.prog 47 #[v, u] w fun e w' => e = .returned (.bool b) ∧ w.grownBy w' none
set_option maxRecDepth 100000 in
theorem all_ne (w : World) (a : Option Addr) (n c : Nat) (u : Value) (h : n ≠ 1) : AllF (.slice a n c) u w false := by
  unfold AllF
  have h1 : ¬ (n : Int) = 1 := by omega
  have h2 : (n : Int) ≠ 1 := h1
  go_enter Tryd.func47, Tryd.ntmps47
  go_wp2
  go_ret
  exact ⟨rfl, gr_rfl w⟩
set_option maxRecDepth 100000 in
theorem all_nil (w : World) (g o c : Nat) (p : Pc) (hb : g < w.heap.size) (hp : PcsAt w g o [p]) : AllF (.slice (some ⟨g, o, none⟩) 1 c) (.slice none 0 0) w (allCov p []) := by
  unfold AllF
  have HP := Lib.hid (hp 0 (by simp))
  have HLIT := Lib.hid (fun (h : p.k = 0) => allCov_lit (qs := []) h)
  have HYES := Lib.hid (fun (hk : p.k ≠ 0) hs => allCov_yes (p := p) (qs := []) hk hs)
  generalize allCov p [] = R at *
  obtain ⟨p0, p1, p2, p3⟩ := p
  obtain ⟨c0, c1, c2, c3⟩ := HP.out
  simp only [List.getElem_cons_zero, Nat.zero_mul, Nat.add_zero] at c0 c1 c2 c3
  have HC := Lib.hid (And.intro c0 (And.intro c1 (And.intro c2 c3)))
  have HPL := Lib.hid (plit_any p0 p1 p2 p3)
  clear hp HP
  go_enter Tryd.func47, Tryd.ntmps47
  go_wp2_with fail
  refine (HPL.out _).mono ?_
  rintro e w1 ⟨rfl, g1⟩
  clear c0 c1 c2 c3
  cases hk : (p0 == 0)
  case true =>
    have hk0 : p0 = 0 := by simpa using hk
    have HL := Lib.hid (HLIT.out hk0)
    clear hk hk0
    go_wp2
    go_ret
    exact ⟨by rw [HL.out]; rfl, g1⟩
  have HK := Lib.hid (show p0 ≠ 0 from by simpa using hk)
  clear hk
  go_wp2_with fail
  go_loopw [5, 6, 22] (fun a b i wr => i = .int .i64 0 ∧ a = .int .i64 0 ∧ b = .int .i64 0 ∧ w1 = wr) (fun _ _ _ _ => 0)
  case atStart => exact ⟨rfl, rfl, rfl, rfl⟩
  case round =>
    obtain ⟨rfl, rfl, rfl, rfl⟩ := hrel
    have HY := Lib.hid (HYES.out HK.out (fun i hi => by simp at hi))
    obtain ⟨c0, c1, c2, c3⟩ := cells4 hb g1 HC.out
    by_cases h1 : p1 ≤ 0
    · go_wp2
      go_ret
      exact ⟨by rw [HY.out, show leastL [] = 0 from rfl, decide_eq_true h1]; rfl, g1⟩
    · go_wp2
      go_ret
      exact ⟨by rw [HY.out, show leastL [] = 0 from rfl, decide_eq_false (by omega : ¬ p1 ≤ 0)]; rfl, g1⟩
theorem pcall_any (w : World) (v u : Value) (ps qs : List Pc) (hp : Pcs w v ps) (hq : Pcs w u qs) (hn : qs.length ≤ 1000000) (hsz : ∀ q ∈ qs, q.t.size ≤ 1000)
    (hr : ∀ q ∈ qs, rightP q.k q.a q.b q.t = true) : AllF v u w (allD1 ps qs) := by
  by_cases h1 : ps.length = 1
  · match ps, h1, hp with
    | [p], _, hp =>
      rcases hp with ⟨_, h⟩ | ⟨g, o, c, rfl, hb, hp⟩
      · cases h
      · rcases hq with ⟨rfl, rfl⟩ | ⟨g', o', c', rfl, hb', hq⟩
        · exact all_nil w g o c p hb hp
        · exact all_some w g o c g' o' c' p qs hb hp hb' hq hn hsz hr
  · rw [allD1_ne h1]
    rcases hp with ⟨rfl, rfl⟩ | ⟨g, o, c, rfl, _, _⟩
    · exact all_ne w none 0 0 u h1
    · exact all_ne w _ _ c u h1
theorem tabis_grown {w w' : World} {name : String} {k : IntKind} {zs : List Int} (h : Lib.TabIs Tryd.prog w name k zs) (hg : w.grownBy w' none) : Lib.TabIs Tryd.prog w' name k zs := by
  unfold Lib.TabIs World.var? at *
  cases hq : Tryd.prog.globalNamed name with
  | none => simp [hq] at h
  | some g =>
    simp only [hq, Option.bind_some] at h ⊢
    have hlt : g < w.heap.size := by
      rcases Nat.lt_or_ge g w.heap.size with h' | h'
      · exact h'
      · rw [Array.getElem?_eq_none h'] at h; simp at h
    rw [hg.block g hlt (by simp)]
    exact h
/-- What Covers gives. -/
def coversL (ps qs : List Pc) : Bool := rightL ps && (rightL qs && (eachD ps qs || allD1 ps qs))
theorem right_all {ps : List Pc} (h : rightL ps = true) : ∀ p ∈ ps, rightP p.k p.a p.b p.t = true := by
  unfold rightL at h
  rw [Bool.and_eq_true, Bool.and_eq_true, List.all_eq_true] at h
  intro p hp
  obtain ⟨j, hj, rfl⟩ := List.getElem_of_mem hp
  have h1 := h.1.1 j (List.mem_range.2 hj)
  rw [good_some hj, Bool.and_eq_true] at h1
  exact h1.1
theorem right_lit {p : Pc} (h : rightP p.k p.a p.b p.t = true) (hk : p.k = 0) : p.a = 0 ∧ p.b = 0 := by
  unfold rightP at h
  rw [if_pos hk, Bool.and_eq_true, Bool.and_eq_true, Bool.and_eq_true, decide_eq_true_eq, decide_eq_true_eq] at h
  exact h.1.1
set_option maxRecDepth 100000 in
theorem pcovers_any (w : World) (v u : Value) (ps qs : List Pc) (ht : TabP w) (hp : Pcs w v ps) (hq : Pcs w u qs) (hn : ps.length ≤ 1000000) (hn' : qs.length ≤ 1000000) (hs : ∀ q ∈ ps, q.t.size ≤ 1000) (hs' : ∀ q ∈ qs, q.t.size ≤ 1000) :
    Calls Tryd.prog 28 #[v, u] w fun e w' => e = .returned (.bool (coversL ps qs)) ∧ w.grownBy w' none := by
  have H1 := Lib.hid (pright_any w v ps ht hp hn hs)
  have H2 := Lib.hid (fun (w1 : World) (g : w.grownBy w1 none) => pright_any w1 u qs (tabis_grown ht g) (hq.kept g) hn' hs')
  have H3 := Lib.hid (fun (w1 : World) (g : w.grownBy w1 none) (a : rightL ps = true) (b : rightL qs = true) => peach_any w1 v u ps qs (hp.kept g) (hq.kept g) hn hs' (fun p hp q hq h h' => by
    have x := right_lit (right_all a p hp) h
    have y := right_lit (right_all b q hq) h'
    exact ⟨x.1.trans y.1.symm, x.2.trans y.2.symm⟩))
  have H4 := Lib.hid (fun (w1 : World) (g : w.grownBy w1 none) (b : rightL qs = true) => pcall_any w1 v u ps qs (hp.kept g) (hq.kept g) hn' hs' (right_all b))
  unfold coversL
  generalize eachD ps qs = E at *
  generalize allD1 ps qs = D at *
  generalize rightL ps = r at *
  generalize rightL qs = r' at *
  clear hp hq ht hn hn' hs hs'
  go_enter Tryd.func28, Tryd.ntmps28
  go_wp2_with fail
  refine H1.out.mono ?_
  rintro e w1 ⟨rfl, g1⟩
  cases r
  · go_wp2
    go_ret
    exact ⟨rfl, g1⟩
  have K2 := Lib.hid (H2.out w1 g1)
  have G1 := Lib.hid g1
  clear g1
  go_wp2_with fail
  refine K2.out.mono ?_
  rintro e w2 ⟨rfl, g2⟩
  have G2 := gr_then G1.out g2
  clear g2
  cases r'
  · go_wp2
    go_ret
    exact ⟨rfl, G2⟩
  have K3 := Lib.hid (H3.out w2 G2 (by first | exact trivial | rfl) (by first | exact trivial | rfl))
  have G2h := Lib.hid G2
  clear G2
  go_wp2_with fail
  refine K3.out.mono ?_
  rintro e w3 ⟨rfl, g3⟩
  have G3 := gr_then G2h.out g3
  clear g3
  cases E
  · have K4 := Lib.hid (H4.out w3 G3 (by first | exact trivial | rfl))
    have G3h := Lib.hid G3
    clear G3
    unfold AllF at K4
    go_wp2_with fail
    refine K4.out.mono ?_
    rintro e w4 ⟨rfl, g4⟩
    have G4 := gr_then G3h.out g4
    clear g4
    go_wp2
    go_ret
    exact ⟨rfl, G4⟩
  · go_wp2
    go_ret
    exact ⟨rfl, G3⟩
end Go.Proofs.YtgkegbcdiadkdaaDoor
namespace Go.Proofs.YtgkegbcdiadkdaaDoor
open Go.RowKit Pt

/-- A pattern matches a text. -/
def matchL (ps : List Pc) (s : List UInt8) : Bool := rightL ps && isTextD s && rch ps s 0 s.length
theorem text_size {s : ByteArray} (h : isTextD s.data.toList = true) : s.size ≤ 200 := by
  rw [isText_iff, Bool.and_eq_true, decide_eq_true_eq] at h
  exact h.1
set_option maxRecDepth 100000 in
set_option maxHeartbeats 2000000 in
theorem pmatches_any (v : Value) (ps : List Pc) (s : ByteArray) (w : World) (ht : TabP w) (hp : Pcs w v ps) (hn : ps.length ≤ 1000000) (hs : s.size ≤ 1000000000000) (hsz : ∀ q ∈ ps, q.t.size ≤ 1000) :
    Calls Tryd.prog 21 #[v, .string s] w fun e w' => e = .returned (.bool (matchL ps s.data.toList)) ∧ w.grownBy w' none := by
  have H1 := Lib.hid (pright_any w v ps ht hp hn hsz)
  have H2 := Lib.hid (fun w1 => ptext_any s w1 hs)
  have HGE := Lib.hid (fun (w1 : World) (g : w.grownBy w1 none) (h1 : rightL ps = true) (h2 : isTextD s.data.toList = true) => great_any v ps s w1 (hp.kept g) hn (by have := text_size h2; omega) (right_all h1) hsz)
  clear ht hp hn hs hsz
  cases h1 : rightL ps
  case false =>
    have HM := Lib.hid (show matchL ps s.data.toList = false from by unfold matchL; rw [h1]; rfl)
    rw [h1] at H1
    clear h1
    go_enter Tryd.func21, Tryd.ntmps21
    go_wp2_with fail
    refine H1.out.mono ?_
    rintro e w1 ⟨rfl, g1⟩
    go_wp2
    go_ret
    exact ⟨by rw [HM.out]; rfl, g1⟩
  case true =>
    have HR := Lib.hid h1
    rw [h1] at H1
    cases h2 : isTextD s.data.toList
    case false =>
      have HM := Lib.hid (show matchL ps s.data.toList = false from by unfold matchL; rw [h2]; simp)
      rw [h2] at H2
      clear h1 h2
      go_enter Tryd.func21, Tryd.ntmps21
      go_wp2_with fail
      refine H1.out.mono ?_
      rintro e w1 ⟨rfl, g1⟩
      go_wp2_with fail
      refine (H2.out w1).mono ?_
      rintro e w2 ⟨rfl, rfl⟩
      go_wp2
      go_ret
      exact ⟨by rw [HM.out]; rfl, g1⟩
    case true =>
      have HM := Lib.hid (show matchL ps s.data.toList = (gr ps s.data.toList 0 == (s.size : Int)) from by
        unfold matchL; rw [h1, h2, show (s.size : Int) = ((s.data.toList.length : Nat) : Int) from rfl, gr_whole]; rfl)
      have HT := Lib.hid h2
      rw [h2] at H2
      clear h1 h2
      go_enter Tryd.func21, Tryd.ntmps21
      go_wp2_with fail
      refine H1.out.mono ?_
      rintro e w1 ⟨rfl, g1⟩
      go_wp2_with fail
      refine (H2.out w1).mono ?_
      rintro e w2 ⟨rfl, rfl⟩
      go_wp2_with fail
      refine (HGE.out w1 g1 HR.out HT.out).mono ?_
      rintro e w2 ⟨G, rfl, hr, g2, _⟩
      have c1 := hr.cell 0 _ (tab_get (Nat.zero_le _))
      clear hr
      go_wp2
      go_ret
      exact ⟨by rw [HM.out]; rfl, gr_then g1 g2⟩
end Go.Proofs.YtgkegbcdiadkdaaDoor
namespace Go.Proofs.YtgkegbcdiadkdaaDoor
open Go.RowKit Go.Shelf Pt
attribute [local go_sem] Oper.semAt_some

/-- The finds of a pattern. -/
def findsL (ps : List Pc) (s : List UInt8) : List (Nat × Nat) := if rightL ps && isTextD s then findsP (gr ps s) (s.length + 1) 0 0 else []
/-- What a round must keep for the iterator: all cells from a block on. -/
def KpU (B : Nat) (W W' : World) : Prop := ∀ b i v, B ≤ b → W.cell? ⟨b, i, none⟩ = some v → W'.cell? ⟨b, i, none⟩ = some v
theorem KpU.trans {B : Nat} {W1 W2 W3 : World} (h : KpU B W1 W2) (g : KpU B W2 W3) : KpU B W1 W3 := fun b i v h1 hv => g b i v h1 (h b i v h1 hv)
theorem KpU.of_grown {B : Nat} {W W' : World} {row : Option Nat} (hg : W.grownBy W' row) (h : ∀ b, B ≤ b → row ≠ some b) : KpU B W W' :=
  fun b _ _ h1 hc => hg.cell hc (fun e => h b h1 e.symm)
theorem KpU.of_put {B l : Nat} {W : World} {o o' : Obj} (hl : W.heap[l]? = some o) (ho : o.isCells = false) : KpU B W (W.putObj l o') :=
  fun _ _ _ _ hv => cell_kept hv (grownBy_putObj' W l o') (fun r e => by cases e; exact ⟨o, hl, ho⟩)
/-- Two places in a text of so many bytes. -/
abbrev Span (L : Nat) := { x : Nat × Nat // x.1 ≤ L ∧ x.2 ≤ L }
abbrev encF (L : Nat) (x : Span L) : Array Value := #[Value.int .i64 (x.1.1 : Int), Value.int .i64 (x.1.2 : Int)]
def SFinds (L : Nat) (ps : List Pc) (s : List UInt8) (xs : List (Span L)) : Prop := xs.map (·.1) = findsL ps s
def PFinds (L : Nat) (ps : List Pc) (s : List UInt8) (xs : List (Span L)) : Prop := xs.map (·.1) <+: findsL ps s
theorem findsP_no {g : Nat → Int} {f b pl : Nat} (h : (b : Int) < pl ∨ g b ≤ b) : findsP g (f + 1) b pl = findsP g f (b + 1) pl := if_pos h
theorem findsP_yes {g : Nat → Int} {f b pl : Nat} (h : ¬ ((b : Int) < pl ∨ g b ≤ b)) : findsP g (f + 1) b pl = (b, (g b).toNat) :: findsP g f (b + 1) (g b).toNat := if_neg h

set_option maxRecDepth 100000 in
theorem pfinds_any (a0 : Option Addr) (m c : Nat) (s : ByteArray) (w : World) : Calls Tryd.prog 43 #[.slice a0 m c, .string s] w fun e w' =>
    e = .returned (.func (.func 60) #[] #[.pointer (some ⟨w.heap.size, 0, none⟩), .pointer (some ⟨w.heap.size + 1, 0, none⟩)]) ∧
    (w.alloc (.cells #[.slice a0 m c] 23)).alloc (.cells #[.string s] 9) = w' := by
  go_enter Tryd.func43, Tryd.ntmps43
  go_wp2
  go_ret
  exact ⟨rfl, rfl⟩
theorem pcs_below {w W : World} {v : Value} {ps : List Pc} (h : Pcs w v ps) (hb : Below w.heap.size w W) : Pcs W v ps :=
  h.kept ⟨hb.os, hb.tape, hb.output, hb.size, fun k hk _ => hb.block k hk⟩
theorem tabp_below {w W : World} (h : TabP w) (hb : Below w.heap.size w W) : TabP W :=
  tabis_grown h ⟨hb.os, hb.tape, hb.output, hb.size, fun k hk _ => hb.block k hk⟩

set_option maxRecDepth 100000 in
set_option maxHeartbeats 2000000 in
theorem finds_stops (n B : Nat) (a0 : Option Addr) (m c : Nat) (ps : List Pc) (s : ByteArray) (w : World) (hc1 : w.cell? ⟨B, 0, none⟩ = some (.slice a0 m c)) (hc2 : w.cell? ⟨B + 1, 0, none⟩ = some (.string s)) (ht : TabP w) (hp : Pcs w (.slice a0 m c) ps) (hn : ps.length ≤ 1000000) (hs : s.size ≤ 1000000000000) (hsz : ∀ q ∈ ps, q.t.size ≤ 1000) :
    SeqStopsK Fence.wide n Tryd.prog 60 #[.pointer (some ⟨B, 0, none⟩), .pointer (some ⟨B + 1, 0, none⟩)] (encF s.size) (KpU B) (SFinds s.size ps s.data.toList) (PFinds s.size ps s.data.toList) (s.size + 1) w := fun l J Jx W hbl hJ _ hY h0 => by
  have key : ∀ b i v, w.cell? ⟨b, i, none⟩ = some v → W.cell? ⟨b, i, none⟩ = some v := fun b i v h => by
    rw [hbl.cell (p := ⟨b, i, none⟩) (World.block_lt_of_cell? w _ h)]; exact h
  have d1 := key _ _ _ hc1
  have d2 := key _ _ _ hc2
  have hBW : B < W.heap.size := World.block_lt_of_cell? W _ d1
  have htW := tabp_below ht hbl
  have hpW := pcs_below hp hbl
  have HD := Lib.hid (And.intro d1 d2)
  have H1 := Lib.hid (pright_any W (.slice a0 m c) ps htW hpW hn hsz)
  have H2 := Lib.hid (fun w1 => ptext_any s w1 hs)
  have HGE := Lib.hid (fun (w1 : World) (g : W.grownBy w1 none) (h1 : rightL ps = true) (h2 : isTextD s.data.toList = true) => great_any (.slice a0 m c) ps s w1 (hpW.kept g) hn (by have := text_size h2; omega) (right_all h1) hsz)
  refine callsIn_of_wp Tryd.func60 rfl trivial ?_ rfl
  simp only [Tryd.ntmps60, List.size_toArray, List.length_cons, List.length_nil, Nat.reduceAdd, Nat.reduceSub, Array.replicate_succ, Array.replicate_zero, List.push_toArray, List.append_toArray, List.nil_append, List.cons_append]
  clear hc1 hc2 ht hp htW hpW key hbl hsz
  gi_wp2
  refine ⟨trivial, fun h => absurd h (by decide), ?_⟩
  refine (callsIn_wide.2 H1.out).mono ?_
  rintro e w1 ⟨rfl, g1⟩
  have hJ1 : J [] w1 := hJ _ _ _ _ h0 g1 (fun _ e => by cases e)
  obtain ⟨d1, d2⟩ := And.intro (g1.cell HD.out.1 (by simp)) (g1.cell HD.out.2 (by simp))
  have HG1 := Lib.hid g1
  clear g1 h0 H1
  cases h1 : rightL ps
  case false =>
    have HS := Lib.hid (show SFinds s.size ps s.data.toList [] from by unfold SFinds findsL; rw [h1]; rfl)
    clear h1
    gi_wp2
    refine ⟨trivial, ?_⟩
    gi_wp2
    refine bodyPost_ret (results_none rfl _ _ _) rfl ?_
    exact ⟨⟨_, rfl⟩, .inl ⟨[], HS.out, hJ1⟩⟩
  case true =>
    have HR := Lib.hid h1
    clear h1
    gi_wp2
    refine ⟨trivial, fun h => absurd h (by decide), ?_⟩
    refine (callsIn_wide.2 (H2.out w1)).mono ?_
    rintro e w2 ⟨rfl, rfl⟩
    cases h2 : isTextD s.data.toList
    case false =>
      have HS := Lib.hid (show SFinds s.size ps s.data.toList [] from by unfold SFinds findsL; rw [h2, Bool.and_false]; rfl)
      clear h2
      gi_wp2
      refine bodyPost_ret (results_none rfl _ _ _) rfl ?_
      exact ⟨⟨_, rfl⟩, .inl ⟨[], HS.out, hJ1⟩⟩
    case true =>
      have HK := Lib.hid (HGE.out w1 HG1.out HR.out h2)
      obtain ⟨fl, hfl⟩ : ∃ fl, findsL ps s.data.toList = fl := ⟨_, rfl⟩
      have HF := Lib.hid (show findsP (gr ps s.data.toList) (s.size + 1) 0 0 = fl from by rw [← hfl]; unfold findsL; rw [HR.out, h2]; rfl)
      have HFL := Lib.hid hfl
      have hsz2 : s.size ≤ 200 := text_size h2
      have HB := Lib.hid (fun (j : Nat) (h : j ≤ s.size) => gr_ge (ps := ps) (s := s.data.toList) (i := j) h)
      clear h2 hfl HGE H2 hs
      gi_wp2
      refine ⟨trivial, fun h => absurd h (by decide), ?_⟩
      refine (callsIn_wide.2 HK.out).mono ?_
      rintro e w2 ⟨G, rfl, hr, g2, hG⟩
      have hJ2 : J [] w2 := hJ _ _ _ _ hJ1 g2 (fun _ e => by cases e)
      have HT := Lib.hid (fun (j : Nat) (h : j ≤ s.size) => hr.cell j _ (tab_get h))
      have hGB : B < G := Nat.lt_of_lt_of_le hBW (Nat.le_trans HG1.out.size hG)
      generalize gr ps s.data.toList = gf at *
      clear HK hr g2 hG hJ1 d1 d2 HG1 HD hBW
      gi_wp2
      gi_loopw [4, 19] (fun p i wr => ∃ (j pl : Nat) (pre : List (Span s.size)), p = .int .i64 (pl : Int) ∧ i = .int .i64 (j : Int) ∧ j ≤ s.size + 1 ∧ pre.length ≤ j ∧ Hid (pre.map (·.1) ++ findsP gf (s.size + 1 - j) j pl = fl) ∧ J pre wr ∧ Hid (∀ j, j ≤ s.size → wr.cell? ⟨G, j, none⟩ = some (.int .i64 (gf j)))) (fun _ i _ => s.size + 2 - (intOf i).toNat)
      case atStart => exact ⟨0, 0, [], rfl, rfl, Nat.zero_le _, Nat.zero_le _, HF, hJ2, Lib.hid (fun j h => by have := HT.out j h; simpa using this)⟩
      case round =>
        obtain ⟨j, pl, pre, rfl, rfl, hj, hpl, HP, hJr, HTr⟩ := hrel
        by_cases hle : j ≤ s.size
        · have hj1 : (j : Int) < (s.size : Int) + 1 := by omega
          have c1 := HTr.out j hle
          have hgb := HB.out j hle
          have hfu : s.size + 1 - j = (s.size - j) + 1 := by omega
          have HFU := Lib.hid hfu
          by_cases ht1 : (j : Int) < (pl : Int)
          · have HN := Lib.hid (show pre.map (·.1) ++ findsP gf (s.size + 1 - (j + 1)) (j + 1) pl = fl from by
              rw [show s.size + 1 - (j + 1) = s.size - j from by omega, ← HP.out, HFU.out, findsP_no (.inl ht1)])
            clear hgb hfu
            gi_wp2
            exact ⟨⟨j + 1, pl, pre, rfl, by simp, by omega, by omega, HN, hJr, HTr⟩, by simp only [intOf]; omega⟩
          · have hd1 : decide ((j : Int) < (pl : Int)) = false := decide_eq_false ht1
            have hd2 : decide (j < pl) = false := decide_eq_false (by omega)
            by_cases ht2 : gf j ≤ (j : Int)
            · have HN := Lib.hid (show pre.map (·.1) ++ findsP gf (s.size + 1 - (j + 1)) (j + 1) pl = fl from by
                rw [show s.size + 1 - (j + 1) = s.size - j from by omega, ← HP.out, HFU.out, findsP_no (.inr ht2)])
              clear hgb hfu ht1
              gi_wp2
              exact ⟨⟨j + 1, pl, pre, rfl, by simp, by omega, by omega, HN, hJr, HTr⟩, by simp only [intOf]; omega⟩
            · have hd3 : decide (gf j ≤ (j : Int)) = false := decide_eq_false ht2
              obtain ⟨e, he⟩ : ∃ e : Nat, gf j = (e : Int) := ⟨(gf j).toNat, by omega⟩
              have heL : e ≤ s.size := by have := hgb.2; rw [he] at this; exact Int.ofNat_le.1 this
              have HN := Lib.hid (show pre.map (·.1) ++ [(j, e)] ++ findsP gf (s.size + 1 - (j + 1)) (j + 1) e = fl from by
                rw [show s.size + 1 - (j + 1) = s.size - j from by omega, ← HP.out, HFU.out, findsP_yes (by omega), he, Int.toNat_natCast, List.append_assoc]; rfl)
              obtain ⟨fn, tmps, assign, body, hy, hR⟩ := hY pre ⟨(j, e), hle, heL⟩ _ hJr (by omega)
              rw [show encF s.size ⟨(j, e), hle, heL⟩ = #[Value.int .i64 (j : Int), Value.int .i64 (e : Int)] from rfl] at hy
              have hje : ¬ (e : Int) ≤ (j : Int) := by rw [← he]; exact ht2
              have hd4 : decide ((e : Int) ≤ (j : Int)) = false := decide_eq_false hje
              have hd5 : decide (e ≤ j) = false := decide_eq_false (by omega)
              rw [he] at c1
              clear hgb hfu ht1 hd3 ht2 he hje
              gi_wp2
              refine ⟨fun h => absurd h (by decide), ?_⟩
              refine hR.mono ?_
              rintro e' W3 (⟨rfl, hJ3, hk3⟩ | ⟨rfl, hJx3⟩)
              · have HT3 := Lib.hid (fun (k : Nat) (hk : k ≤ s.size) => hk3 G k _ (Nat.le_of_lt hGB) (HTr.out k hk))
                clear hy hk3 c1
                gi_wp2
                refine ⟨⟨j + 1, e, pre ++ [⟨(j, e), hle, heL⟩], rfl, by simp, by omega, by rw [List.length_append]; simp only [List.length_singleton]; omega, Lib.hid (by rw [List.map_append]; exact HN.out), hJ3, HT3⟩, by simp only [intOf]; omega⟩
              · clear hy
                gi_wp2
                refine bodyPost_ret (results_none rfl _ _ _) rfl ?_
                exact ⟨⟨_, rfl⟩, .inr ⟨_, (show PFinds s.size ps s.data.toList _ from by
                  unfold PFinds
                  rw [HFL.out, ← HN.out, List.map_append]
                  exact List.prefix_append _ _), hJx3⟩⟩
        · have hj1 : ¬ (j : Int) < (s.size : Int) + 1 := by omega
          have HS := Lib.hid (show SFinds s.size ps s.data.toList pre from by
            unfold SFinds
            rw [HFL.out, ← HP.out, show s.size + 1 - j = 0 from by omega]
            exact (List.append_nil _).symm)
          gi_wp2
          go_end0
          exact ⟨⟨_, rfl⟩, .inl ⟨pre, HS.out, hJr⟩⟩
end Go.Proofs.YtgkegbcdiadkdaaDoor
namespace Go.Proofs.YtgkegbcdiadkdaaDoor
open Go.RowKit Go.Shelf Pt
attribute [local go_sem] Oper.semAt_some

/-- The find number n, and whether there is one. -/
def findL (fs : List (Nat × Nat)) (n : Int) : Nat × Nat × Bool := if 1 ≤ n then (match fs[n.toNat - 1]? with | some x => (x.1, x.2, true) | none => (0, 0, false)) else (0, 0, false)
theorem find_no {fs : List (Nat × Nat)} {n : Int} (h : ∀ k, k < fs.length → (k : Int) + 1 ≠ n) : findL fs n = (0, 0, false) := by
  unfold findL
  by_cases h1 : 1 ≤ n
  · rw [if_pos h1]
    have : fs.length ≤ n.toNat - 1 := by
      rcases Nat.lt_or_ge (n.toNat - 1) fs.length with h2 | h2
      · exact absurd (show ((n.toNat - 1 : Nat) : Int) + 1 = n from by omega) (h _ h2)
      · exact h2
    rw [List.getElem?_eq_none this]
  · rw [if_neg h1]
theorem find_yes {fs pre : List (Nat × Nat)} {x : Nat × Nat} (h : pre ++ [x] <+: fs) : findL fs ((pre.length : Int) + 1) = (x.1, x.2, true) := by
  obtain ⟨t, rfl⟩ := h
  unfold findL
  rw [if_pos (by omega), show ((pre.length : Int) + 1).toNat - 1 = pre.length from by omega]
  simp
theorem below_set {n b i : Nat} {w W : World} {v : Value} (h : Below n w W) (hb : n ≤ b) : Below n w (W.setCell ⟨b, i, none⟩ v) := h.setCell (p := ⟨b, i, none⟩) hb v
theorem run_loadVar_box {P : Program} {ty : TypeId} {w : World} {b : Nat} {v : Value} (h : w.cell? ⟨b, 0, none⟩ = some v) (hs : ∀ w, Sem.run P (isAgg ty) w = .ok false w) : (loadVar ty ⟨b, 0, none⟩).run P w = .ok v w := by
  simp [loadVar, Sem.run_bind, hs, h, go_sem]
theorem results_box3 {fn : Func} {p1 p2 p3 : Tmp} {t1 t2 t3 : TypeId} {P : Program} (h : fn.results = #[.cell p1 t1, .cell p2 t2, .cell p3 t3]) (tmps : Array Value) (w : World) (b1 b2 b3 : Nat) (v1 v2 v3 : Value) (hp1 : tmps.getD p1 undef = .pointer (some ⟨b1, 0, none⟩)) (hp2 : tmps.getD p2 undef = .pointer (some ⟨b2, 0, none⟩)) (hp3 : tmps.getD p3 undef = .pointer (some ⟨b3, 0, none⟩)) (hb1 : w.cell? ⟨b1, 0, none⟩ = some v1) (hb2 : w.cell? ⟨b2, 0, none⟩ = some v2) (hb3 : w.cell? ⟨b3, 0, none⟩ = some v3) (hs1 : ∀ w, Sem.run P (isAgg t1) w = .ok false w) (hs2 : ∀ w, Sem.run P (isAgg t2) w = .ok false w) (hs3 : ∀ w, Sem.run P (isAgg t3) w = .ok false w) :
    (results fn tmps).run P w = .ok (.tuple #[v1, v2, v3]) w := by
  have hp1' : tmps[p1]?.getD undef = .pointer (some ⟨b1, 0, none⟩) := by simpa using hp1
  have hp2' : tmps[p2]?.getD undef = .pointer (some ⟨b2, 0, none⟩) := by simpa using hp2
  have hp3' : tmps[p3]?.getD undef = .pointer (some ⟨b3, 0, none⟩) := by simpa using hp3
  simp [results, h, hp1', hp2', hp3', asAddr, run_loadVar_box hb1 hs1, run_loadVar_box hb2 hs2, run_loadVar_box hb3 hs3]
theorem gr_of_below {n : Nat} {w W : World} (hb : Below n w W) (hn : w.heap.size ≤ n) : w.grownBy W none :=
  ⟨hb.os, hb.tape, hb.output, hb.size, fun k hk _ => hb.block k (by omega)⟩

theorem zip_two (L : Nat) (a b : Tmp) (x : Span L) : (#[a, b] : Array Tmp).zip (encF L x) = #[(a, .int .i64 (x.1.1 : Int)), (b, .int .i64 (x.1.2 : Int))] := by
  unfold encF
  simp [List.zip_toArray]
/-- Count's variable between two rounds. -/
def CI (w : World) (B : Nat) (k : Nat) (W : World) : Prop := Row W B [.int .i64 (k : Int)] 3 ∧ Below w.heap.size w W
set_option maxRecDepth 100000 in
set_option maxHeartbeats 2000000 in
theorem pcnt_at (a0 : Option Addr) (m c : Nat) (ps : List Pc) (s : ByteArray) (w : World) (ht : TabP w) (hp : Pcs w (.slice a0 m c) ps) (hn : ps.length ≤ 1000000) (hs : s.size ≤ 1000000000000) (hsz : ∀ q ∈ ps, q.t.size ≤ 1000) :
    Calls Tryd.prog 25 #[.slice a0 m c, .string s] w fun e w' => e = .returned (.int .i64 ((findsL ps s.data.toList).length : Int)) ∧ w.grownBy w' none := by
  obtain ⟨B, hB⟩ : ∃ B, w.heap.size = B := ⟨_, rfl⟩
  obtain ⟨wb, hwb⟩ : ∃ wb, w.alloc (.cells #[.int .i64 0] 3) = wb := ⟨_, rfl⟩
  obtain ⟨W0, hW0⟩ : ∃ W0, (wb.alloc (.cells #[.slice a0 m c] 23)).alloc (.cells #[.string s] 9) = W0 := ⟨_, rfl⟩
  have hsb : wb.heap.size = B + 1 := by rw [← hwb]; simp [hB]
  have hs0 : W0.heap.size = B + 3 := by rw [← hW0]; simp [hsb]
  have gb : w.grownBy wb none := by rw [← hwb]; exact gr_alloc _ _ _
  have g0 : wb.grownBy W0 none := by rw [← hW0]; exact gr_then (gr_alloc _ _ _) (gr_alloc _ _ _)
  have HC1 := Lib.hid (show W0.cell? ⟨B + 1, 0, none⟩ = some (.slice a0 m c) from by
    have r := (Row.new wb [.slice a0 m c] 23).kept (gr_alloc _ (.cells #[.string s] 9) none)
    simp only [List.toArray] at r
    rw [hW0, hsb] at r
    exact r.cell 0 _ rfl)
  have HC2 := Lib.hid (show W0.cell? ⟨B + 1 + 1, 0, none⟩ = some (.string s) from by
    have r := Row.new (wb.alloc (.cells #[.slice a0 m c] 23)) [.string s] 9
    simp only [List.toArray] at r
    rw [hW0, World.size_alloc, hsb] at r
    exact r.cell 0 _ rfl)
  have HI0 := Lib.hid (show CI w B 0 W0 from ⟨by
    have r := (Row.new w [.int .i64 0] 3)
    simp only [List.toArray] at r
    rw [hwb, hB] at r
    exact r.kept g0, ⟨(gr_then gb g0).os, (gr_then gb g0).tape, (gr_then gb g0).output, (gr_then gb g0).size, fun k hk => (gr_then gb g0).block k hk (by simp)⟩⟩)
  have HST := Lib.hid (finds_stops 4 (B + 1) a0 m c ps s W0 HC1.out HC2.out (tabis_grown ht (gr_then gb g0)) (hp.kept (gr_then gb g0)) hn hs hsz)
  have HPF := Lib.hid (pfinds_any a0 m c s wb)
  have HB := Lib.hid hB
  have HW0 := Lib.hid hW0
  have HWB := Lib.hid hwb
  clear hn hsz ht hp hwb
  refine (callsIn_wide (n := 5)).1 ?_
  refine callsIn_of_wp_marks Tryd.func25 rfl trivial ?_ rfl
  simp only [Tryd.ntmps25, List.size_toArray, List.length_cons, List.length_nil, Nat.reduceAdd, Nat.reduceSub, Array.replicate_succ, Array.replicate_zero, List.push_toArray, List.append_toArray, List.nil_append, List.cons_append]
  clear hW0 HC1 HC2 gb g0
  gi_wp2
  rw [HWB.out]
  refine ⟨trivial, (callsIn_wide.2 HPF.out).mono ?_⟩
  rintro e' w' ⟨rfl, rfl⟩
  rw [hsb]
  rw [HW0.out]
  clear HPF
  gi_wp2
  refine wpIn_rangeFunc_ownF rfl (by omega) (gf := 60) (lb := #[.pointer (some ⟨B + 1, 0, none⟩), .pointer (some ⟨B + 1 + 1, 0, none⟩)]) rfl trivial (enters_of Tryd.func60 (by kernel_rfl) rfl)
    HST.out KpU.trans (fun W l o o' _ hl ho _ => KpU.of_put hl ho) (Below.refl _ _) (fun _ => rfl)
    (fun pre W => CI w B pre.length W)
    (fun _ _ _ => False)
    (OwnFrom.and (Own.from (fun _ _ _ _ hs hg hr => hs.own hg hr) _) (ownFrom_below (Nat.le_refl _) (by omega)))
    (fun _ _ _ _ _ hs _ _ => hs)
    HI0.out
    (fun x => { tmps := #[.slice a0 m c, .string s, undef, undef, .int .i64 0, .pointer (some ⟨B, 0, none⟩), .slice a0 m c, .string s, .func (.func 60) #[] #[.pointer (some ⟨B + 1, 0, none⟩), .pointer (some ⟨B + 1 + 1, 0, none⟩)], .int .i64 (x.1.1 : Int), .int .i64 (x.1.2 : Int), undef, undef, undef], defers := [] }) ?assign ?body ?done ?stop
  case assign =>
    intro l x W K hK
    gi_wp2
    rw [zip_two]
    simpa using hK
  case body =>
    rintro l pre x W ⟨hR, hBl⟩ hlt
    have d1 := hR.cell 0 _ rfl
    have d2 := hR.fr 0
    have HR := Lib.hid hR
    have HBl := Lib.hid hBl
    clear hR hBl
    gi_wp2
    refine ⟨KeepsOthers.setCell _ _ _, KpU.of_grown (gr_set _ _ _ _) (fun b h1 e1 => by cases e1; omega), ?_, below_set HBl.out (by rw [HB.out]; exact Nat.le_refl _)⟩
    have := HR.out.set 0 (.int .i64 ((pre.length : Int) + 1))
    simpa using this
  case done =>
    rintro D ys W hD hys ⟨hR, hBl⟩ hK
    have d1 := hR.cell 0 _ rfl
    have hlen : ys.length = (findsL ps s.data.toList).length := by
      have hys' : ys.map (·.1) = findsL ps s.data.toList := hys
      rw [← hys', List.length_map]
    have HLEN := Lib.hid hlen
    have hBK := hBl.trans (belowK_b (w := w) (Nat.le_refl _) W D _ (.deferred none) (by omega) hK rfl rfl)
    have HK := Lib.hid hK
    have HBK := Lib.hid hBK
    clear hR hBl hys hlen hBK hK
    gi_wp2
    refine ⟨by simp, .inl ⟨_, _, rfl, run_takeDeferred HK.out, ?_⟩⟩
    exact ⟨_, results_tmp rfl _ _ _, by rw [← HLEN.out]; rfl, gr_of_below HBK.out (Nat.le_refl _)⟩
  case stop =>
    rintro D c pre W _ _ h _
    exact h.elim
theorem pcnt_any (v : Value) (ps : List Pc) (s : ByteArray) (w : World) (ht : TabP w) (hp : Pcs w v ps) (hn : ps.length ≤ 1000000) (hs : s.size ≤ 1000000000000) (hsz : ∀ q ∈ ps, q.t.size ≤ 1000) :
    Calls Tryd.prog 25 #[v, .string s] w fun e w' => e = .returned (.int .i64 ((findsL ps s.data.toList).length : Int)) ∧ w.grownBy w' none := by
  rcases hp with ⟨rfl, rfl⟩ | ⟨g, o, c, rfl, hb, hp⟩
  · exact pcnt_at none 0 0 [] s w ht (.inl ⟨rfl, rfl⟩) hn hs hsz
  · exact pcnt_at _ _ c ps s w ht (.inr ⟨g, o, c, rfl, hb, hp⟩) hn hs hsz
end Go.Proofs.YtgkegbcdiadkdaaDoor
namespace Go.Proofs.YtgkegbcdiadkdaaDoor
open Go.RowKit Go.Shelf Pt
attribute [local go_sem] Oper.semAt_some

/-- Find's variables: the number that is asked for, the three results, the number of finds so far. -/
structure FI (w : World) (B : Nat) (nth a b : Int) (c : Bool) (k : Nat) (W : World) : Prop where
  r0 : Row W B [.int .i64 nth] 3
  r1 : Row W (B + 1) [.int .i64 a] 3
  r2 : Row W (B + 1 + 1) [.int .i64 b] 3
  r3 : Row W (B + 1 + 1 + 1) [.bool c] 4
  r4 : Row W (B + 1 + 1 + 1 + 1) [.int .i64 (k : Int)] 3
theorem FI.own {w W W' : World} {B : Nat} {nth a b : Int} {c : Bool} {k : Nat} {row : Option Nat} (h : FI w B nth a b c k W) (hg : W.grownBy W' row) (hr : ∀ r, row = some r → ∃ o : Obj, W.heap[r]? = some o ∧ o.isCells = false) : FI w B nth a b c k W' :=
  ⟨h.r0.own hg hr, h.r1.own hg hr, h.r2.own hg hr, h.r3.own hg hr, h.r4.own hg hr⟩
theorem FI.kept {w W W' : World} {B : Nat} {nth a b : Int} {c : Bool} {k : Nat} (h : FI w B nth a b c k W) (hg : W.grownBy W' none) : FI w B nth a b c k W' :=
  h.own hg (fun _ e => by cases e)
theorem FI.s4 {w W : World} {B : Nat} {nth a b : Int} {c : Bool} {k : Nat} (h : FI w B nth a b c k W) : FI w B nth a b c (k + 1) (W.setCell ⟨B + 1 + 1 + 1 + 1, 0, none⟩ (.int .i64 ((k : Int) + 1))) :=
  ⟨h.r0.other (by omega), h.r1.other (by omega), h.r2.other (by omega), h.r3.other (by omega), by have := h.r4.set 0 (.int .i64 ((k : Int) + 1)); simpa using this⟩
theorem FI.s1 {w W : World} {B : Nat} {nth a b : Int} {c : Bool} {k : Nat} (h : FI w B nth a b c k W) (x : Int) : FI w B nth x b c k (W.setCell ⟨B + 1, 0, none⟩ (.int .i64 x)) :=
  ⟨h.r0.other (by omega), h.r1.set 0 _, h.r2.other (by omega), h.r3.other (by omega), h.r4.other (by omega)⟩
theorem FI.s2 {w W : World} {B : Nat} {nth a b : Int} {c : Bool} {k : Nat} (h : FI w B nth a b c k W) (x : Int) : FI w B nth a x c k (W.setCell ⟨B + 1 + 1, 0, none⟩ (.int .i64 x)) :=
  ⟨h.r0.other (by omega), h.r1.other (by omega), h.r2.set 0 _, h.r3.other (by omega), h.r4.other (by omega)⟩
theorem FI.s3 {w W : World} {B : Nat} {nth a b : Int} {c : Bool} {k : Nat} (h : FI w B nth a b c k W) (x : Bool) : FI w B nth a b x k (W.setCell ⟨B + 1 + 1 + 1, 0, none⟩ (.bool x)) :=
  ⟨h.r0.other (by omega), h.r1.other (by omega), h.r2.other (by omega), h.r3.set 0 _, h.r4.other (by omega)⟩
/-- A round has found what was asked for. -/
def FX (nth : Int) {L : Nat} (pre : List (Span L)) (a b : Int) : Prop := ∃ p x, pre = p ++ [x] ∧ (p.length : Int) + 1 = nth ∧ a = (x.1.1 : Int) ∧ b = (x.1.2 : Int)
abbrev findV (fs : List (Nat × Nat)) (n : Int) : Value := .tuple #[.int .i64 ((findL fs n).1 : Nat), .int .i64 ((findL fs n).2.1 : Nat), .bool (findL fs n).2.2]
theorem fnd_rows (w : World) (nth : Int) : FI w w.heap.size nth 0 0 false 0 (((((w.alloc (.cells #[.int .i64 nth] 3)).alloc (.cells #[.int .i64 0] 3)).alloc (.cells #[.int .i64 0] 3)).alloc (.cells #[.bool false] 4)).alloc (.cells #[.int .i64 0] 3)) := by
  have r0 := Row.new w [.int .i64 nth] 3
  have r1 := Row.new (w.alloc (.cells #[.int .i64 nth] 3)) [.int .i64 0] 3
  have r2 := Row.new ((w.alloc (.cells #[.int .i64 nth] 3)).alloc (.cells #[.int .i64 0] 3)) [.int .i64 0] 3
  have r3 := Row.new (((w.alloc (.cells #[.int .i64 nth] 3)).alloc (.cells #[.int .i64 0] 3)).alloc (.cells #[.int .i64 0] 3)) [.bool false] 4
  have r4 := Row.new ((((w.alloc (.cells #[.int .i64 nth] 3)).alloc (.cells #[.int .i64 0] 3)).alloc (.cells #[.int .i64 0] 3)).alloc (.cells #[.bool false] 4)) [.int .i64 0] 3
  simp only [List.toArray, World.size_alloc] at r0 r1 r2 r3 r4
  exact ⟨r0.al.al.al.al, r1.al.al.al, r2.al.al, r3.al, r4⟩

set_option maxRecDepth 100000 in
set_option maxHeartbeats 2000000 in
theorem pfind_at (a0 : Option Addr) (m c : Nat) (ps : List Pc) (s : ByteArray) (nth : Int) (w : World) (ht : TabP w) (hp : Pcs w (.slice a0 m c) ps) (hn : ps.length ≤ 1000000) (hs : s.size ≤ 1000000000000) (hsz : ∀ q ∈ ps, q.t.size ≤ 1000) :
    Calls Tryd.prog 23 #[.slice a0 m c, .string s, .int .i64 nth] w fun e w' => e = .returned (findV (findsL ps s.data.toList) nth) ∧ w.grownBy w' none := by
  obtain ⟨B, hB⟩ : ∃ B, w.heap.size = B := ⟨_, rfl⟩
  obtain ⟨wb, hwb⟩ : ∃ wb, ((((w.alloc (.cells #[.int .i64 nth] 3)).alloc (.cells #[.int .i64 0] 3)).alloc (.cells #[.int .i64 0] 3)).alloc (.cells #[.bool false] 4)).alloc (.cells #[.int .i64 0] 3) = wb := ⟨_, rfl⟩
  obtain ⟨W0, hW0⟩ : ∃ W0, (wb.alloc (.cells #[.slice a0 m c] 23)).alloc (.cells #[.string s] 9) = W0 := ⟨_, rfl⟩
  have hsb : wb.heap.size = B + 1 + 1 + 1 + 1 + 1 := by rw [← hwb]; simp [hB]
  have hs0 : W0.heap.size = B + 7 := by rw [← hW0]; simp [hsb]
  have gb : w.grownBy wb none := by rw [← hwb]; exact gr_then (gr_then (gr_then (gr_then (gr_alloc _ _ _) (gr_alloc _ _ _)) (gr_alloc _ _ _)) (gr_alloc _ _ _)) (gr_alloc _ _ _)
  have g0 : wb.grownBy W0 none := by rw [← hW0]; exact gr_then (gr_alloc _ _ _) (gr_alloc _ _ _)
  have HC1 := Lib.hid (show W0.cell? ⟨B + 1 + 1 + 1 + 1 + 1, 0, none⟩ = some (.slice a0 m c) from by
    have r := (Row.new wb [.slice a0 m c] 23).kept (gr_alloc _ (.cells #[.string s] 9) none)
    simp only [List.toArray] at r
    rw [hW0, hsb] at r
    exact r.cell 0 _ rfl)
  have HC2 := Lib.hid (show W0.cell? ⟨B + 1 + 1 + 1 + 1 + 1 + 1, 0, none⟩ = some (.string s) from by
    have r := Row.new (wb.alloc (.cells #[.slice a0 m c] 23)) [.string s] 9
    simp only [List.toArray] at r
    rw [hW0, World.size_alloc, hsb] at r
    exact r.cell 0 _ rfl)
  have HI0 := Lib.hid (show FI w B nth 0 0 false 0 W0 ∧ Below w.heap.size w W0 from ⟨by
    have r := fnd_rows w nth
    rw [hwb, hB] at r
    exact r.kept g0, ⟨(gr_then gb g0).os, (gr_then gb g0).tape, (gr_then gb g0).output, (gr_then gb g0).size, fun k hk => (gr_then gb g0).block k hk (by simp)⟩⟩)
  have HST := Lib.hid (finds_stops 4 (B + 1 + 1 + 1 + 1 + 1) a0 m c ps s W0 HC1.out HC2.out (tabis_grown ht (gr_then gb g0)) (hp.kept (gr_then gb g0)) hn hs hsz)
  have HPF := Lib.hid (pfinds_any a0 m c s wb)
  have HB := Lib.hid hB
  have HW0 := Lib.hid hW0
  have HWB := Lib.hid hwb
  clear hn hsz ht hp hwb
  refine (callsIn_wide (n := 5)).1 ?_
  refine callsIn_of_wp_marks Tryd.func23 rfl trivial ?_ rfl
  simp only [Tryd.ntmps23, List.size_toArray, List.length_cons, List.length_nil, Nat.reduceAdd, Nat.reduceSub, Array.replicate_succ, Array.replicate_zero, List.push_toArray, List.append_toArray, List.nil_append, List.cons_append]
  clear hW0 HC1 HC2 gb g0
  gi_wp2
  rw [HWB.out]
  refine ⟨trivial, (callsIn_wide.2 HPF.out).mono ?_⟩
  rintro e' w' ⟨rfl, rfl⟩
  rw [hsb]
  rw [HW0.out]
  clear HPF
  gi_wp2
  refine wpIn_rangeFunc_ownF rfl (by omega) (gf := 60) (lb := #[.pointer (some ⟨B + 1 + 1 + 1 + 1 + 1, 0, none⟩), .pointer (some ⟨B + 1 + 1 + 1 + 1 + 1 + 1, 0, none⟩)]) rfl trivial (enters_of Tryd.func60 (by kernel_rfl) rfl)
    HST.out KpU.trans (fun W l o o' _ hl ho _ => KpU.of_put hl ho) (Below.refl _ _) (fun _ => rfl)
    (fun pre W => (Hid (∀ k, k < pre.length → (k : Int) + 1 ≠ nth)) ∧ FI w B nth 0 0 false pre.length W ∧ Below w.heap.size w W)
    (fun c pre W => (c = .ret ∧ ∃ a b, FX nth pre a b ∧ FI w B nth a b true pre.length W) ∧ Below w.heap.size w W)
    (OwnFrom.and (Own.from (fun _ _ _ _ hs hg hr => hs) _) (OwnFrom.and (Own.from (fun _ _ _ _ hs hg hr => hs.own hg hr) _) (ownFrom_below (Nat.le_refl _) (by omega))))
    (fun c => OwnFrom.and (Own.from (fun _ _ _ _ hs hg hr => ⟨hs.1, hs.2.elim fun a h => h.elim fun b h => ⟨a, b, h.1, h.2.own hg hr⟩⟩) _) (ownFrom_below (Nat.le_refl _) (by omega)))
    ⟨Lib.hid (fun k h => by simp at h), HI0.out⟩
    (fun x => { tmps := #[.slice a0 m c, .string s, .int .i64 nth, undef, undef, .pointer (some ⟨B, 0, none⟩), .pointer (some ⟨B + 1, 0, none⟩), .pointer (some ⟨B + 1 + 1, 0, none⟩), .pointer (some ⟨B + 1 + 1 + 1, 0, none⟩), .pointer (some ⟨B + 1 + 1 + 1 + 1, 0, none⟩), .int .i64 (x.1.1 : Int), .int .i64 (x.1.2 : Int), .slice a0 m c, .string s, .func (.func 60) #[] #[.pointer (some ⟨B + 1 + 1 + 1 + 1 + 1, 0, none⟩), .pointer (some ⟨B + 1 + 1 + 1 + 1 + 1 + 1, 0, none⟩)], .int .i64 (x.1.1 : Int), .int .i64 (x.1.2 : Int), undef, undef, undef, undef, undef, undef, undef], defers := [] }) ?assign ?body ?done ?stop
  case assign =>
    intro l x W K hK
    rw [zip_two]
    gi_wp2
    exact hK
  case body =>
    rintro l pre x W ⟨HPRE, hR, hBl⟩ hlt
    have d0 := hR.r0.cell 0 _ rfl
    have d1 := hR.r4.cell 0 _ rfl
    have d2 := hR.r1.cell 0 _ rfl
    have d3 := hR.r2.cell 0 _ rfl
    have d4 := hR.r3.cell 0 _ rfl
    have f1 := hR.r1.fr 0
    have f2 := hR.r2.fr 0
    have f3 := hR.r3.fr 0
    have f4 := hR.r4.fr 0
    have HR := Lib.hid hR
    have HBl := Lib.hid hBl
    have HX := Lib.hid (show KpU (B + 1 + 1 + 1 + 1 + 1) W (W.setCell ⟨B + 1 + 1 + 1 + 1, 0, none⟩ (.int .i64 ((pre.length : Int) + 1))) from KpU.of_grown (gr_set _ _ _ _) (fun b h1 e1 => by cases e1; omega))
    have hbb : w.heap.size ≤ B := by omega
    clear hR hBl
    by_cases hk : (pre.length : Int) + 1 = nth
    · have HK := Lib.hid hk
      subst hk
      gi_wp2
      refine ⟨((KeepsOthers.setCell _ _ _).trans (KeepsOthers.setCell _ _ _)).trans ((KeepsOthers.setCell _ _ _).trans (KeepsOthers.setCell _ _ _)), ⟨rfl, _, _, ⟨pre, x, rfl, rfl, rfl, rfl⟩, ?_⟩, (by have h := below_set (b := B + 1 + 1 + 1) (i := 0) (v := .bool true) (below_set (b := B + 1 + 1) (i := 0) (v := .int .i64 (x.1.2 : Int)) (below_set (b := B + 1) (i := 0) (v := .int .i64 (x.1.1 : Int)) (below_set (b := B + 1 + 1 + 1 + 1) (i := 0) (v := .int .i64 ((pre.length : Int) + 1)) HBl.out (by omega)) (by omega)) (by omega)) (by omega); first | exact h | (rw [HB.out] at h; exact h))⟩
      rw [List.length_append, List.length_singleton]
      exact ((HR.out.s4.s1 _).s2 _).s3 true
    · have hkd : ((pre.length : Int) + 1 == nth) = false := by simpa using hk
      have HK := Lib.hid hk
      clear hk
      gi_wp2
      refine ⟨KeepsOthers.setCell _ _ _, HX.out, Lib.hid (fun k h => ?_), ?_, below_set HBl.out (by omega)⟩
      · rw [List.length_append, List.length_singleton] at h
        rcases Nat.lt_succ_iff_lt_or_eq.1 h with h1 | rfl
        · exact HPRE.out k h1
        · exact HK.out
      · rw [List.length_append, List.length_singleton]
        exact HR.out.s4
  case done =>
    rintro D ys W hD hys ⟨HPRE, hR, hBl⟩ hK
    have HFN := Lib.hid (show findL (findsL ps s.data.toList) nth = (0, 0, false) from find_no (by
      have hys' : ys.map (·.1) = findsL ps s.data.toList := hys
      rw [← hys', List.length_map]
      exact HPRE.out))
    have f1 := hR.r1.fr 0
    have f2 := hR.r2.fr 0
    have f3 := hR.r3.fr 0
    have HR := Lib.hid hR
    have HBl := Lib.hid hBl
    have HK := Lib.hid hK
    have c1 := hR.r1.cell 0 _ rfl
    have c2 := hR.r2.cell 0 _ rfl
    have c3 := hR.r3.cell 0 _ rfl
    clear hR hBl hys hK
    gi_wp2
    have hbb : w.heap.size ≤ B := by omega
    have hR1 := ((HR.out.s1 0).s2 0).s3 false
    have hB1 : Below w.heap.size w _ := below_set (b := B + 1 + 1 + 1) (i := 0) (v := .bool false) (below_set (b := B + 1 + 1) (i := 0) (v := .int .i64 0) (below_set (b := B + 1) (i := 0) (v := .int .i64 0) HBl.out (by omega)) (by omega)) (by omega)
    have hK1 := (((KeepsOthers.setCell W ⟨B + 1, 0, none⟩ (.int .i64 0)).trans (KeepsOthers.setCell _ ⟨B + 1 + 1, 0, none⟩ (.int .i64 0))).trans (KeepsOthers.setCell _ ⟨B + 1 + 1 + 1, 0, none⟩ (.bool false))).same D _ HK.out rfl
    refine ⟨by simp, .inl ⟨_, _, rfl, run_takeDeferred hK1, ?_⟩⟩
    have hR2 := hR1.own (grownBy_putObj' _ D (.deferred none)) (fun r e => by cases e; exact ⟨_, hK1, rfl⟩)
    refine ⟨_, results_box3 rfl _ _ _ _ _ _ _ _ rfl rfl rfl (hR2.r1.cell 0 _ rfl) (hR2.r2.cell 0 _ rfl) (hR2.r3.cell 0 _ rfl) (Tryd.isAgg3) (Tryd.isAgg3) (Tryd.isAgg4), ?_, gr_of_below (hB1.trans (belowK_b (w := w) (Nat.le_refl _) _ D _ (.deferred none) (by omega) hK1 rfl rfl)) (Nat.le_refl _)⟩
    unfold findV
    rw [HFN.out]
    rfl
  case stop =>
    rintro D cc pre W hD hpre ⟨⟨rfl, a, b, hfx, hR⟩, hBl⟩ hK
    have HFN := Lib.hid (show ∃ x y : Nat, a = (x : Int) ∧ b = (y : Int) ∧ findL (findsL ps s.data.toList) nth = (x, y, true) from by
      obtain ⟨p, x, rfl, rfl, rfl, rfl⟩ := hfx
      refine ⟨_, _, rfl, rfl, ?_⟩
      have hpre' : (p ++ [x]).map (·.1) <+: findsL ps s.data.toList := hpre
      rw [List.map_append] at hpre'
      have := find_yes hpre'
      rwa [List.length_map] at this)
    have HR := Lib.hid hR
    have HBK := Lib.hid (hBl.trans (belowK_b (w := w) (Nat.le_refl _) W D _ (.deferred none) (by omega) hK rfl rfl))
    have HK := Lib.hid hK
    clear hR hBl hfx hpre hK
    gi_wp2
    refine ⟨by simp, .inl ⟨_, _, rfl, run_takeDeferred HK.out, ?_⟩⟩
    have hR2 := HR.out.own (grownBy_putObj' W D (.deferred none)) (fun r e => by cases e; exact ⟨_, HK.out, rfl⟩)
    refine ⟨_, results_box3 rfl _ _ _ _ _ _ _ _ rfl rfl rfl (hR2.r1.cell 0 _ rfl) (hR2.r2.cell 0 _ rfl) (hR2.r3.cell 0 _ rfl) (Tryd.isAgg3) (Tryd.isAgg3) (Tryd.isAgg4), ?_, gr_of_below HBK.out (Nat.le_refl _)⟩
    obtain ⟨x, y, rfl, rfl, hf⟩ := HFN.out
    unfold findV
    rw [hf]
theorem pfind_any (v : Value) (ps : List Pc) (s : ByteArray) (nth : Int) (w : World) (ht : TabP w) (hp : Pcs w v ps) (hn : ps.length ≤ 1000000) (hs : s.size ≤ 1000000000000) (hsz : ∀ q ∈ ps, q.t.size ≤ 1000) :
    Calls Tryd.prog 23 #[v, .string s, .int .i64 nth] w fun e w' => e = .returned (findV (findsL ps s.data.toList) nth) ∧ w.grownBy w' none := by
  rcases hp with ⟨rfl, rfl⟩ | ⟨g, o, c, rfl, hb, hp⟩
  · exact pfind_at none 0 0 [] s nth w ht (.inl ⟨rfl, rfl⟩) hn hs hsz
  · exact pfind_at _ _ c ps s nth w ht (.inr ⟨g, o, c, rfl, hb, hp⟩) hn hs hsz
end Go.Proofs.YtgkegbcdiadkdaaDoor
namespace Go.Proofs.YtgkegbcdiadkdaaDoor
namespace Pt

--BEGIN
/-- What a reading gives: a value and what is left, or how much is left where something does not fit, and the error. -/
inductive PR (α : Type) where
  | ok (a : α) (l : List UInt8)
  | bad (rem : Nat) (k : Int)
def nx (l : List UInt8) : Nat := match l with
  | [] => 0
  | c :: _ => c.toNat
theorem nx_le (l : List UInt8) : nx l ≤ 255 := by
  cases l with
  | nil => exact Nat.zero_le _
  | cons c l => have := c.toNat_lt; show c.toNat ≤ 255; omega
theorem nx_pos {l : List UInt8} (h : 0 < nx l) : 0 < l.length := by
  cases l with
  | nil => exact absurd h (by decide)
  | cons c l => simp
/-- The class of the run that begins here. -/
def corL (l : List UInt8) : Nat := if 2 ≤ l.length ∧ nx l = 92 then letD (nx l.tail) else 0
def chrL (l : List UInt8) : PR Nat :=
  let e := decide (nx l = 92)
  let l1 := if e then l.tail else l
  if clsD (nx l1) = 0 ∨ specD (nx l1) ≠ e then .bad l1.length 12 else .ok (nx l1) l1.tail
def litL : Nat → List UInt8 → PR (List UInt8)
  | 0, l => .ok [] l
  | f + 1, l => if 0 < l.length ∧ corL l = 0 then (match chrL l with
      | .bad r k => .bad r k
      | .ok c l' => match litL f l' with
        | .bad r k => .bad r k
        | .ok t l'' => .ok (UInt8.ofNat c :: t) l'') else .ok [] l
def digs (n : Nat) : List UInt8 → Nat × List UInt8
  | [] => (n, [])
  | c :: l => if clsD c.toNat = 1 then digs (min (10 * n + (c.toNat - 48)) 201) l else (n, c :: l)
def numL (l : List UInt8) : PR Nat :=
  if clsD (nx l) ≠ 1 then .bad l.length 12
  else if nx l = 48 then .ok 0 l.tail
  else .ok (digs (nx l - 48) l.tail).1 (digs (nx l - 48) l.tail).2
/-- What stands behind the first number in braces. -/
def sndL (a : Nat) (l : List UInt8) : PR Nat := if nx l = 44 then numL l.tail else .ok a l
def cnumL (l : List UInt8) : PR (Nat × Nat) :=
  if nx l = 43 then .ok (1, 200) l.tail
  else if nx l = 42 then .ok (0, 200) l.tail
  else if nx l ≠ 123 then .ok (1, 1) l
  else match numL l.tail with
    | .bad r k => .bad r k
    | .ok a l1 => match sndL a l1 with
      | .bad r k => .bad r k
      | .ok b l2 => if nx l2 ≠ 125 then .bad l2.length 12 else if b < a ∨ b = 0 ∨ 200 < b then .bad l.length 3 else .ok (a, b) l2.tail
def pieceL (l : List UInt8) : PR Pc :=
  if corL l = 0 then (match litL l.length l with
    | .bad r k => .bad r k
    | .ok t l' => .ok ⟨0, 0, 0, ⟨t.toArray⟩⟩ l')
  else (match cnumL (l.drop 2) with
    | .bad r k => .bad r k
    | .ok x l' => .ok ⟨corL l, x.1, x.2, ⟨#[]⟩⟩ l')
def piecesL : Nat → List UInt8 → PR (List Pc)
  | 0, l => .ok [] l
  | f + 1, l => if 0 < l.length then (match pieceL l with
      | .bad r k => .bad r k
      | .ok p l' => match piecesL f l' with
        | .bad r k => .bad r k
        | .ok ps l'' => .ok (p :: ps) l'') else .ok [] l
/-- What Parse gives: the pieces, the offset, the error. -/
def parseL (s : List UInt8) : List Pc × Nat × Int :=
  if 60 < s.length then ([], 0, 2)
  else match piecesL s.length s with
    | .bad r k => ([], s.length - r, k)
    | .ok ps _ => (ps, 0, 0)
--END
end Pt
end Go.Proofs.YtgkegbcdiadkdaaDoor
namespace Go.Proofs.YtgkegbcdiadkdaaDoor
open Go.RowKit Pt

/-- The reader: its text, and where it stands. -/
structure Rd (w : World) (b : Nat) (s : ByteArray) (i : Nat) : Prop where
  row : Row w b [.string s, .int .i64 (i : Int)] 66
  le : i ≤ s.size
abbrev rest (s : ByteArray) (i : Nat) : List UInt8 := s.data.toList.drop i
theorem rest_len (s : ByteArray) (i : Nat) : (rest s i).length = s.size - i := by
  unfold rest; rw [List.length_drop]; rfl
theorem rest_tail (s : ByteArray) (i : Nat) : (rest s i).tail = rest s (i + 1) := by
  unfold rest; rw [List.tail_drop]
theorem nx_rest {s : ByteArray} {i : Nat} (h : i < s.size) : nx (rest s i) = s[i].toNat := by
  unfold rest
  rw [List.drop_eq_getElem_cons (show i < s.data.toList.length from h)]
  rfl
theorem nx_end {s : ByteArray} {i : Nat} (h : i = s.size) : nx (rest s i) = 0 := by
  unfold rest
  rw [List.drop_of_length_le (by show s.size ≤ i; omega)]; rfl
section
variable {w w1 : World} {b i : Nat} {s : ByteArray}
theorem Rd.c0 (h : Rd w b s i) : w.cell? ⟨b, 0, none⟩ = some (.string s) := h.row.cell 0 _ rfl
theorem Rd.c1 (h : Rd w b s i) : w.cell? ⟨b, 1, none⟩ = some (.int .i64 (i : Int)) := h.row.cell 1 _ rfl
theorem Rd.f1 (h : Rd w b s i) : w.frozen? ⟨b, 1, none⟩ = false := h.row.fr 1
theorem Rd.kept (h : Rd w b s i) (hg : w.grownBy w1 none) : Rd w1 b s i := ⟨h.row.kept hg, h.le⟩
theorem Rd.lt (h : Rd w b s i) : b < w.heap.size := h.row.lt
theorem Rd.set (h : Rd w b s i) {j : Nat} (hj : j ≤ s.size) {z : Int} (hz : z = (j : Int)) : Rd (w.setCell ⟨b, 1, none⟩ (.int .i64 z)) b s j := by
  subst hz; exact ⟨h.row.set 1 _, hj⟩
theorem gr_b (hg : w.grownBy w1 none) (b : Nat) : w.grownBy w1 (some b) := gr_trans hg (gr_rfl w1) (.inl rfl) (.inl rfl)
theorem gr_bb {w2 : World} (hg : w.grownBy w1 (some b)) (h2 : w1.grownBy w2 (some b)) : w.grownBy w2 (some b) := gr_trans hg h2 (.inr rfl) (.inr (.inl rfl))
end
set_option maxRecDepth 100000 in
theorem next_any (w : World) (b i : Nat) (s : ByteArray) (h : Rd w b s i) : Calls Tryd.prog 88 #[.pointer (some ⟨b, 0, none⟩)] w fun e w' => e = .returned (.int .u8 (nx (rest s i) : Int)) ∧ w.grownBy w' none := by
  have c0 := h.c0
  have c1 := h.c1
  have hle := h.le
  by_cases hi : i = s.size
  · subst hi
    have HN := Lib.hid (nx_end (s := s) rfl)
    clear h
    go_enter Tryd.func88, Tryd.ntmps88
    go_wp2
    go_quiet (fail)
    go_wp2
    go_ret
    exact ⟨by rw [HN.out]; rfl, gr_drewN _ _ _⟩
  · have hi2 : i < s.size := by omega
    have hi3 : (i : Int) < (s.size : Int) := by omega
    have hi4 : ((i : Int) == (s.size : Int)) = false := by rw [beq_eq_false_iff_ne]; omega
    have HN := Lib.hid (nx_rest hi2)
    clear h hi
    go_enter Tryd.func88, Tryd.ntmps88
    go_wp2
    go_quiet (fail)
    go_wp2
    go_quiet (fail)
    go_wp2
    go_ret
    exact ⟨by rw [HN.out]; rfl, gr_then (gr_drewN _ _ _) (gr_drewN _ _ _)⟩
/-- What the reader panics with. -/
abbrev faultV (i : Nat) (k : Int) : Value := .iface 63 (.agg #[.int .i64 (i : Int), .int .i64 k])
set_option maxRecDepth 100000 in
theorem refuse_any (w : World) (b i : Nat) (s : ByteArray) (h : Rd w b s i) : Calls Tryd.prog 83 #[.pointer (some ⟨b, 0, none⟩)] w fun e w' => e = .panicked [{ v := faultV i 12, recovered := false }] ∧ w.grownBy w' none := by
  have c1 := h.c1
  clear h
  go_enter Tryd.func83, Tryd.ntmps83
  go_wp2
  exact ⟨rfl, rfl, gr_rfl w⟩
set_option maxRecDepth 100000 in
theorem take_any (w : World) (b i c : Nat) (s : ByteArray) (h : Rd w b s i) (hs : s.size ≤ 1000000) (hc0 : 0 < c) : Calls Tryd.prog 81 #[.pointer (some ⟨b, 0, none⟩), .int .u8 (c : Int)] w fun e w' => e = .returned (.bool (decide (nx (rest s i) = c))) ∧ Rd w' b s (if nx (rest s i) = c then i + 1 else i) ∧ w.grownBy w' (some b) := by
  have HN := Lib.hid (next_any w b i s h)
  have HR := Lib.hid h
  have hle := h.le
  have hpos : nx (rest s i) = c → i + 1 ≤ s.size := fun e => by
    have := nx_pos (l := rest s i) (by omega)
    rw [rest_len] at this; omega
  have HP := Lib.hid hpos
  clear h hpos
  generalize nx (rest s i) = x at *
  by_cases hx : x = c
  · have h1 := HP.out hx
    subst hx
    go_enter Tryd.func81, Tryd.ntmps81
    go_wp2_with fail
    refine HN.out.mono ?_
    rintro e w1 ⟨rfl, g1⟩
    have HR1 := Lib.hid (HR.out.kept g1)
    have c1 := HR1.out.c1
    have f1 := HR1.out.f1
    have G1 := Lib.hid g1
    clear g1
    go_wp2
    go_ret
    exact ⟨rfl, HR1.out.set h1 rfl, gr_bb (gr_b G1.out b) (gr_set _ _ _ _)⟩
  · have hb : ((x : Int) == (c : Int)) = false := by rw [beq_eq_false_iff_ne]; omega
    have HX := Lib.hid hx
    clear hx
    go_enter Tryd.func81, Tryd.ntmps81
    go_wp2_with fail
    refine HN.out.mono ?_
    rintro e w1 ⟨rfl, g1⟩
    have HR1 := Lib.hid (HR.out.kept g1)
    have G1 := Lib.hid g1
    clear g1
    go_wp2
    go_ret
    exact ⟨rfl, HR1.out, gr_b G1.out b⟩
theorem ext_rest (s : ByteArray) (i : Nat) : (s.extract i s.size).data.toList = rest s i := by
  unfold rest
  rw [ByteArray.data_extract]
  simp only [Array.toList_extract, List.extract]
  exact List.take_of_length_le (by rw [List.length_drop]; show s.data.size - i ≤ s.size - i; exact Nat.le_refl _)
theorem cor_t {t : ByteArray} (h : 2 ≤ t.size) : corL t.data.toList = if t[0].toNat = 92 then letD t[1].toNat else 0 := by
  have e : t.data.toList = t[0] :: t[1] :: t.data.toList.drop 2 := by
    rw [← List.drop_zero (l := t.data.toList), List.drop_eq_getElem_cons (show 0 < t.data.toList.length by show 0 < t.size; omega), List.drop_eq_getElem_cons (show 0 + 1 < t.data.toList.length by show 0 + 1 < t.size; omega)]
    rfl
  unfold corL
  rw [e]
  simp [nx]
theorem cor_ub {l : List UInt8} : corL l ≤ 7 := by
  unfold corL letD
  repeat' split
  all_goals omega
set_option maxRecDepth 100000 in
theorem cor_any (w : World) (b i : Nat) (s : ByteArray) (h : Rd w b s i) (_ : s.size ≤ 1000000) : Calls Tryd.prog 70 #[.pointer (some ⟨b, 0, none⟩)] w fun e w' => e = .returned (.int .i64 (corL (rest s i) : Int)) ∧ ∃ m, w' = w.drewN m := by
  have c0 := h.c0
  have c1 := h.c1
  have hle := h.le
  clear h
  by_cases h2 : s.size - i < 2
  · have HX := Lib.hid (show corL (rest s i) = 0 from by unfold corL; rw [if_neg (by rw [rest_len]; omega)])
    have hl : ((s.extract i s.size).size : Int) < 2 := by rw [ByteArray.size_extract]; omega
    go_enter Tryd.func70, Tryd.ntmps70
    go_wp2
    go_quiet (fail)
    go_wp2
    go_ret
    exact ⟨by rw [HX.out]; rfl, _, rfl⟩
  · obtain ⟨t, ht⟩ : ∃ t, s.extract i s.size = t := ⟨_, rfl⟩
    have htl : rest s i = t.data.toList := by rw [← ht, ext_rest]
    have hts : t.size = s.size - i := by rw [← ht, ByteArray.size_extract]; omega
    have ht2 : 2 ≤ t.size := by omega
    have hl : ¬ ((t.size : Nat) : Int) < 2 := by omega
    rw [htl]
    have HT := Lib.hid (cor_t ht2)
    obtain ⟨c, hc⟩ : ∃ c, t[1].toNat = c := ⟨_, rfl⟩
    have hc255 : c ≤ 255 := by have := t[1].toNat_lt; omega
    obtain ⟨z, hz⟩ : ∃ z, Lib.indexByte [100, 117, 108, 97, 115, 111, 46] (UInt8.ofNat c) = z := ⟨_, rfl⟩
    have hz1 : z + 1 = (letD c : Int) := by rw [← hz]; exact let_index c hc255
    have HIX := Lib.hid (fun w => show Calls Tryd.prog 79 #[.string ⟨#[100, 117, 108, 97, 115, 111, 46]⟩, .int .u8 (c : Int)] w fun e w' => e = .returned (.int .i64 z) ∧ w = w' from
      (Tryd.strings_IndexByte ⟨#[100, 117, 108, 97, 115, 111, 46]⟩ c w).mono fun e w' h => ⟨by rw [h.1, ← hz]; rfl, h.2.symm⟩)
    have hzb : z ≤ 6 ∧ -1 ≤ z := by
      have h7 : letD c ≤ 7 := by unfold letD; repeat' split
                                 all_goals omega
      omega
    have HTL := Lib.hid htl
    have HZ1 := Lib.hid hz1
    have ht0 : 0 < t.size := by omega
    have ht1 : 1 < t.size := by omega
    have ht0i : (0 : Int) < (t.size : Int) := by omega
    have ht1i : (1 : Int) < (t.size : Int) := by omega
    rw [hc] at HT
    clear htl hz hz1 h2 hts
    by_cases h92 : t[0].toNat = 92
    · have HX := Lib.hid (show corL t.data.toList = letD c from by rw [HT.out, if_pos h92])
      have hb : ((t[0].toNat : Int) == 92) = true := by rw [h92]; rfl
      clear HT
      go_enter Tryd.func70, Tryd.ntmps70
      go_wp2
      go_quiet (fail)
      go_wp2_with fail
      refine (HIX.out _).mono ?_
      rintro e w1 ⟨rfl, rfl⟩
      go_wp2
      go_ret
      exact ⟨by rw [HX.out, ← HZ1.out]; rfl, _, rfl⟩
    · have HX := Lib.hid (show corL t.data.toList = 0 from by rw [HT.out, if_neg h92])
      have hb : ((t[0].toNat : Int) == 92) = false := by rw [beq_eq_false_iff_ne]; omega
      have hb2 : ((t[0].toNat : Int) != 92) = true := by unfold bne; rw [hb]; rfl
      have hl2 : decide ((t.size : Int) < 2) = false := decide_eq_false hl
      clear hl
      clear HT
      go_enter Tryd.func70, Tryd.ntmps70
      go_wp2
      go_quiet (fail)
      go_wp2
      go_ret
      exact ⟨by rw [HX.out]; rfl, _, rfl⟩
end Go.Proofs.YtgkegbcdiadkdaaDoor
