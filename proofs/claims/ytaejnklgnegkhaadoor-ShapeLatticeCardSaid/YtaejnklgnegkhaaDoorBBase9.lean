/- Contracts of the program and of the reference, part 9: Qa, Qb, So. -/
import Derived.Test.YtaejnklgnegkhaaDoorBBase8
namespace Go.Proofs.YtaejnklgnegkhaaDoor
open Go.RowKit Go.Shelf Pt
attribute [local go_sem] Oper.semAt_some

/-- The find number n, and whether there is one. -/
def findL (fs : List (Nat × Nat)) (n : Int) : Nat × Nat × Bool := if 1 ≤ n then (match fs[n.toNat - 1]? with | some x => (x.1, x.2, true) | none => (0, 0, false)) else (0, 0, false)
theorem find_no {fs : List (Nat × Nat)} {n : Int} (h : ∀ k, k < fs.length → (k : Int) + 1 ≠ n) : findL fs n = (0, 0, false) := by
  unfold findL
  by_cases h1 : 1 ≤ n
  · rw [if_pos h1]
    have : fs.length ≤ n.toNat - 1 := by
      rcases Nat.lt_or_ge (n.toNat - 1) fs.length with h2 | h2
      · exact absurd (show ((n.toNat - 1 : Nat) : Int) + 1 = n from by omega) (h _ h2)
      · exact h2
    rw [List.getElem?_eq_none this]
  · rw [if_neg h1]
theorem find_yes {fs pre : List (Nat × Nat)} {x : Nat × Nat} (h : pre ++ [x] <+: fs) : findL fs ((pre.length : Int) + 1) = (x.1, x.2, true) := by
  obtain ⟨t, rfl⟩ := h
  unfold findL
  rw [if_pos (by omega), show ((pre.length : Int) + 1).toNat - 1 = pre.length from by omega]
  simp
theorem below_set {n b i : Nat} {w W : World} {v : Value} (h : Below n w W) (hb : n ≤ b) : Below n w (W.setCell ⟨b, i, none⟩ v) := h.setCell (p := ⟨b, i, none⟩) hb v
theorem run_loadVar_box {P : Program} {ty : TypeId} {w : World} {b : Nat} {v : Value} (h : w.cell? ⟨b, 0, none⟩ = some v) (hs : ∀ w, Sem.run P (isAgg ty) w = .ok false w) : (loadVar ty ⟨b, 0, none⟩).run P w = .ok v w := by
  simp [loadVar, Sem.run_bind, hs, h, go_sem]
theorem results_box3 {fn : Func} {p1 p2 p3 : Tmp} {t1 t2 t3 : TypeId} {P : Program} (h : fn.results = #[.cell p1 t1, .cell p2 t2, .cell p3 t3]) (tmps : Array Value) (w : World) (b1 b2 b3 : Nat) (v1 v2 v3 : Value) (hp1 : tmps.getD p1 undef = .pointer (some ⟨b1, 0, none⟩)) (hp2 : tmps.getD p2 undef = .pointer (some ⟨b2, 0, none⟩)) (hp3 : tmps.getD p3 undef = .pointer (some ⟨b3, 0, none⟩)) (hb1 : w.cell? ⟨b1, 0, none⟩ = some v1) (hb2 : w.cell? ⟨b2, 0, none⟩ = some v2) (hb3 : w.cell? ⟨b3, 0, none⟩ = some v3) (hs1 : ∀ w, Sem.run P (isAgg t1) w = .ok false w) (hs2 : ∀ w, Sem.run P (isAgg t2) w = .ok false w) (hs3 : ∀ w, Sem.run P (isAgg t3) w = .ok false w) :
    (results fn tmps).run P w = .ok (.tuple #[v1, v2, v3]) w := by
  have hp1' : tmps[p1]?.getD undef = .pointer (some ⟨b1, 0, none⟩) := by simpa using hp1
  have hp2' : tmps[p2]?.getD undef = .pointer (some ⟨b2, 0, none⟩) := by simpa using hp2
  have hp3' : tmps[p3]?.getD undef = .pointer (some ⟨b3, 0, none⟩) := by simpa using hp3
  simp [results, h, hp1', hp2', hp3', asAddr, run_loadVar_box hb1 hs1, run_loadVar_box hb2 hs2, run_loadVar_box hb3 hs3]
theorem gr_of_below {n : Nat} {w W : World} (hb : Below n w W) (hn : w.heap.size ≤ n) : w.grownBy W none :=
  ⟨hb.os, hb.tape, hb.output, hb.size, fun k hk _ => hb.block k (by omega)⟩

theorem zip_two (L : Nat) (a b : Tmp) (x : Span L) : (#[a, b] : Array Tmp).zip (encF L x) = #[(a, .int .i64 (x.1.1 : Int)), (b, .int .i64 (x.1.2 : Int))] := by
  unfold encF
  simp [List.zip_toArray]
/-- Count's variable between two rounds. -/
def CI (w : World) (B : Nat) (k : Nat) (W : World) : Prop := Row W B [.int .i64 (k : Int)] 3 ∧ Below w.heap.size w W
set_option maxRecDepth 100000 in
set_option maxHeartbeats 2000000 in
theorem pcnt_at (a0 : Option Addr) (m c : Nat) (ps : List Pc) (s : ByteArray) (w : World) (ht : TabP w) (hp : Pcs w (.slice a0 m c) ps) (hn : ps.length ≤ 1000000) (hs : s.size ≤ 1000000000000) (hsz : ∀ q ∈ ps, q.t.size ≤ 1000) :
    Calls Tryd.prog 27 #[.slice a0 m c, .string s] w fun e w' => e = .returned (.int .i64 ((findsL ps s.data.toList).length : Int)) ∧ w.grownBy w' none := by
  obtain ⟨B, hB⟩ : ∃ B, w.heap.size = B := ⟨_, rfl⟩
  obtain ⟨wb, hwb⟩ : ∃ wb, w.alloc (.cells #[.int .i64 0] 3) = wb := ⟨_, rfl⟩
  obtain ⟨W0, hW0⟩ : ∃ W0, (wb.alloc (.cells #[.slice a0 m c] 23)).alloc (.cells #[.string s] 9) = W0 := ⟨_, rfl⟩
  have hsb : wb.heap.size = B + 1 := by rw [← hwb]; simp [hB]
  have hs0 : W0.heap.size = B + 3 := by rw [← hW0]; simp [hsb]
  have gb : w.grownBy wb none := by rw [← hwb]; exact gr_alloc _ _ _
  have g0 : wb.grownBy W0 none := by rw [← hW0]; exact gr_then (gr_alloc _ _ _) (gr_alloc _ _ _)
  have HC1 := Lib.hid (show W0.cell? ⟨B + 1, 0, none⟩ = some (.slice a0 m c) from by
    have r := (Row.new wb [.slice a0 m c] 23).kept (gr_alloc _ (.cells #[.string s] 9) none)
    simp only [List.toArray] at r
    rw [hW0, hsb] at r
    exact r.cell 0 _ rfl)
  have HC2 := Lib.hid (show W0.cell? ⟨B + 1 + 1, 0, none⟩ = some (.string s) from by
    have r := Row.new (wb.alloc (.cells #[.slice a0 m c] 23)) [.string s] 9
    simp only [List.toArray] at r
    rw [hW0, World.size_alloc, hsb] at r
    exact r.cell 0 _ rfl)
  have HI0 := Lib.hid (show CI w B 0 W0 from ⟨by
    have r := (Row.new w [.int .i64 0] 3)
    simp only [List.toArray] at r
    rw [hwb, hB] at r
    exact r.kept g0, ⟨(gr_then gb g0).os, (gr_then gb g0).tape, (gr_then gb g0).output, (gr_then gb g0).size, fun k hk => (gr_then gb g0).block k hk (by simp)⟩⟩)
  have HST := Lib.hid (finds_stops 4 (B + 1) a0 m c ps s W0 HC1.out HC2.out (tabis_grown ht (gr_then gb g0)) (hp.kept (gr_then gb g0)) hn hs hsz)
  have HPF := Lib.hid (pfinds_any a0 m c s wb)
  have HB := Lib.hid hB
  have HW0 := Lib.hid hW0
  have HWB := Lib.hid hwb
  clear hn hsz ht hp hwb
  refine (callsIn_wide (n := 5)).1 ?_
  refine callsIn_of_wp_marks Tryd.func27 rfl trivial ?_ rfl
  simp only [Tryd.ntmps27, List.size_toArray, List.length_cons, List.length_nil, Nat.reduceAdd, Nat.reduceSub, Array.replicate_succ, Array.replicate_zero, List.push_toArray, List.append_toArray, List.nil_append, List.cons_append]
  clear hW0 HC1 HC2 gb g0
  gi_wp2
  rw [HWB.out]
  refine ⟨trivial, (callsIn_wide.2 HPF.out).mono ?_⟩
  rintro e' w' ⟨rfl, rfl⟩
  rw [hsb]
  rw [HW0.out]
  clear HPF
  gi_wp2
  refine wpIn_rangeFunc_ownF rfl (by omega) (gf := 86) (lb := #[.pointer (some ⟨B + 1, 0, none⟩), .pointer (some ⟨B + 1 + 1, 0, none⟩)]) rfl trivial (enters_of Tryd.func86 (by kernel_rfl) rfl)
    HST.out KpU.trans (fun W l o o' _ hl ho _ => KpU.of_put hl ho) (Below.refl _ _) (fun _ => rfl)
    (fun pre W => CI w B pre.length W)
    (fun _ _ _ => False)
    (OwnFrom.and (Own.from (fun _ _ _ _ hs hg hr => hs.own hg hr) _) (ownFrom_below (Nat.le_refl _) (by omega)))
    (fun _ _ _ _ _ hs _ _ => hs)
    HI0.out
    (fun x => { tmps := #[.slice a0 m c, .string s, undef, undef, .int .i64 0, .pointer (some ⟨B, 0, none⟩), .slice a0 m c, .string s, .func (.func 86) #[] #[.pointer (some ⟨B + 1, 0, none⟩), .pointer (some ⟨B + 1 + 1, 0, none⟩)], .int .i64 (x.1.1 : Int), .int .i64 (x.1.2 : Int), undef, undef, undef], defers := [] }) ?assign ?body ?done ?stop
  case assign =>
    intro l x W K hK
    gi_wp2
    rw [zip_two]
    simpa using hK
  case body =>
    rintro l pre x W ⟨hR, hBl⟩ hlt
    have d1 := hR.cell 0 _ rfl
    have d2 := hR.fr 0
    have HR := Lib.hid hR
    have HBl := Lib.hid hBl
    clear hR hBl
    gi_wp2
    refine ⟨KeepsOthers.setCell _ _ _, KpU.of_grown (gr_set _ _ _ _) (fun b h1 e1 => by cases e1; omega), ?_, below_set HBl.out (by rw [HB.out]; exact Nat.le_refl _)⟩
    have := HR.out.set 0 (.int .i64 ((pre.length : Int) + 1))
    simpa using this
  case done =>
    rintro D ys W hD hys ⟨hR, hBl⟩ hK
    have d1 := hR.cell 0 _ rfl
    have hlen : ys.length = (findsL ps s.data.toList).length := by
      have hys' : ys.map (·.1) = findsL ps s.data.toList := hys
      rw [← hys', List.length_map]
    have HLEN := Lib.hid hlen
    have hBK := hBl.trans (belowK_b (w := w) (Nat.le_refl _) W D _ (.deferred none) (by omega) hK rfl rfl)
    have HK := Lib.hid hK
    have HBK := Lib.hid hBK
    clear hR hBl hys hlen hBK hK
    gi_wp2
    refine ⟨by simp, .inl ⟨_, _, rfl, run_takeDeferred HK.out, ?_⟩⟩
    exact ⟨_, results_tmp rfl _ _ _, by rw [← HLEN.out]; rfl, gr_of_below HBK.out (Nat.le_refl _)⟩
  case stop =>
    rintro D c pre W _ _ h _
    exact h.elim
theorem pcnt_any (v : Value) (ps : List Pc) (s : ByteArray) (w : World) (ht : TabP w) (hp : Pcs w v ps) (hn : ps.length ≤ 1000000) (hs : s.size ≤ 1000000000000) (hsz : ∀ q ∈ ps, q.t.size ≤ 1000) :
    Calls Tryd.prog 27 #[v, .string s] w fun e w' => e = .returned (.int .i64 ((findsL ps s.data.toList).length : Int)) ∧ w.grownBy w' none := by
  rcases hp with ⟨rfl, rfl⟩ | ⟨g, o, c, rfl, hb, hp⟩
  · exact pcnt_at none 0 0 [] s w ht (.inl ⟨rfl, rfl⟩) hn hs hsz
  · exact pcnt_at _ _ c ps s w ht (.inr ⟨g, o, c, rfl, hb, hp⟩) hn hs hsz
end Go.Proofs.YtaejnklgnegkhaaDoor
namespace Go.Proofs.YtaejnklgnegkhaaDoor
open Go.RowKit Go.Shelf Pt
attribute [local go_sem] Oper.semAt_some

/-- Find's variables: the number that is asked for, the three results, the number of finds so far. -/
structure FI (w : World) (B : Nat) (nth a b : Int) (c : Bool) (k : Nat) (W : World) : Prop where
  r0 : Row W B [.int .i64 nth] 3
  r1 : Row W (B + 1) [.int .i64 a] 3
  r2 : Row W (B + 1 + 1) [.int .i64 b] 3
  r3 : Row W (B + 1 + 1 + 1) [.bool c] 4
  r4 : Row W (B + 1 + 1 + 1 + 1) [.int .i64 (k : Int)] 3
theorem FI.own {w W W' : World} {B : Nat} {nth a b : Int} {c : Bool} {k : Nat} {row : Option Nat} (h : FI w B nth a b c k W) (hg : W.grownBy W' row) (hr : ∀ r, row = some r → ∃ o : Obj, W.heap[r]? = some o ∧ o.isCells = false) : FI w B nth a b c k W' :=
  ⟨h.r0.own hg hr, h.r1.own hg hr, h.r2.own hg hr, h.r3.own hg hr, h.r4.own hg hr⟩
theorem FI.kept {w W W' : World} {B : Nat} {nth a b : Int} {c : Bool} {k : Nat} (h : FI w B nth a b c k W) (hg : W.grownBy W' none) : FI w B nth a b c k W' :=
  h.own hg (fun _ e => by cases e)
theorem FI.s4 {w W : World} {B : Nat} {nth a b : Int} {c : Bool} {k : Nat} (h : FI w B nth a b c k W) : FI w B nth a b c (k + 1) (W.setCell ⟨B + 1 + 1 + 1 + 1, 0, none⟩ (.int .i64 ((k : Int) + 1))) :=
  ⟨h.r0.other (by omega), h.r1.other (by omega), h.r2.other (by omega), h.r3.other (by omega), by have := h.r4.set 0 (.int .i64 ((k : Int) + 1)); simpa using this⟩
theorem FI.s1 {w W : World} {B : Nat} {nth a b : Int} {c : Bool} {k : Nat} (h : FI w B nth a b c k W) (x : Int) : FI w B nth x b c k (W.setCell ⟨B + 1, 0, none⟩ (.int .i64 x)) :=
  ⟨h.r0.other (by omega), h.r1.set 0 _, h.r2.other (by omega), h.r3.other (by omega), h.r4.other (by omega)⟩
theorem FI.s2 {w W : World} {B : Nat} {nth a b : Int} {c : Bool} {k : Nat} (h : FI w B nth a b c k W) (x : Int) : FI w B nth a x c k (W.setCell ⟨B + 1 + 1, 0, none⟩ (.int .i64 x)) :=
  ⟨h.r0.other (by omega), h.r1.other (by omega), h.r2.set 0 _, h.r3.other (by omega), h.r4.other (by omega)⟩
theorem FI.s3 {w W : World} {B : Nat} {nth a b : Int} {c : Bool} {k : Nat} (h : FI w B nth a b c k W) (x : Bool) : FI w B nth a b x k (W.setCell ⟨B + 1 + 1 + 1, 0, none⟩ (.bool x)) :=
  ⟨h.r0.other (by omega), h.r1.other (by omega), h.r2.other (by omega), h.r3.set 0 _, h.r4.other (by omega)⟩
/-- A round has found what was asked for. -/
def FX (nth : Int) {L : Nat} (pre : List (Span L)) (a b : Int) : Prop := ∃ p x, pre = p ++ [x] ∧ (p.length : Int) + 1 = nth ∧ a = (x.1.1 : Int) ∧ b = (x.1.2 : Int)
abbrev findV (fs : List (Nat × Nat)) (n : Int) : Value := .tuple #[.int .i64 ((findL fs n).1 : Nat), .int .i64 ((findL fs n).2.1 : Nat), .bool (findL fs n).2.2]
theorem fnd_rows (w : World) (nth : Int) : FI w w.heap.size nth 0 0 false 0 (((((w.alloc (.cells #[.int .i64 nth] 3)).alloc (.cells #[.int .i64 0] 3)).alloc (.cells #[.int .i64 0] 3)).alloc (.cells #[.bool false] 4)).alloc (.cells #[.int .i64 0] 3)) := by
  have r0 := Row.new w [.int .i64 nth] 3
  have r1 := Row.new (w.alloc (.cells #[.int .i64 nth] 3)) [.int .i64 0] 3
  have r2 := Row.new ((w.alloc (.cells #[.int .i64 nth] 3)).alloc (.cells #[.int .i64 0] 3)) [.int .i64 0] 3
  have r3 := Row.new (((w.alloc (.cells #[.int .i64 nth] 3)).alloc (.cells #[.int .i64 0] 3)).alloc (.cells #[.int .i64 0] 3)) [.bool false] 4
  have r4 := Row.new ((((w.alloc (.cells #[.int .i64 nth] 3)).alloc (.cells #[.int .i64 0] 3)).alloc (.cells #[.int .i64 0] 3)).alloc (.cells #[.bool false] 4)) [.int .i64 0] 3
  simp only [List.toArray, World.size_alloc] at r0 r1 r2 r3 r4
  exact ⟨r0.al.al.al.al, r1.al.al.al, r2.al.al, r3.al, r4⟩

set_option maxRecDepth 100000 in
set_option maxHeartbeats 2000000 in
theorem pfind_at (a0 : Option Addr) (m c : Nat) (ps : List Pc) (s : ByteArray) (nth : Int) (w : World) (ht : TabP w) (hp : Pcs w (.slice a0 m c) ps) (hn : ps.length ≤ 1000000) (hs : s.size ≤ 1000000000000) (hsz : ∀ q ∈ ps, q.t.size ≤ 1000) :
    Calls Tryd.prog 25 #[.slice a0 m c, .string s, .int .i64 nth] w fun e w' => e = .returned (findV (findsL ps s.data.toList) nth) ∧ w.grownBy w' none := by
  obtain ⟨B, hB⟩ : ∃ B, w.heap.size = B := ⟨_, rfl⟩
  obtain ⟨wb, hwb⟩ : ∃ wb, ((((w.alloc (.cells #[.int .i64 nth] 3)).alloc (.cells #[.int .i64 0] 3)).alloc (.cells #[.int .i64 0] 3)).alloc (.cells #[.bool false] 4)).alloc (.cells #[.int .i64 0] 3) = wb := ⟨_, rfl⟩
  obtain ⟨W0, hW0⟩ : ∃ W0, (wb.alloc (.cells #[.slice a0 m c] 23)).alloc (.cells #[.string s] 9) = W0 := ⟨_, rfl⟩
  have hsb : wb.heap.size = B + 1 + 1 + 1 + 1 + 1 := by rw [← hwb]; simp [hB]
  have hs0 : W0.heap.size = B + 7 := by rw [← hW0]; simp [hsb]
  have gb : w.grownBy wb none := by rw [← hwb]; exact gr_then (gr_then (gr_then (gr_then (gr_alloc _ _ _) (gr_alloc _ _ _)) (gr_alloc _ _ _)) (gr_alloc _ _ _)) (gr_alloc _ _ _)
  have g0 : wb.grownBy W0 none := by rw [← hW0]; exact gr_then (gr_alloc _ _ _) (gr_alloc _ _ _)
  have HC1 := Lib.hid (show W0.cell? ⟨B + 1 + 1 + 1 + 1 + 1, 0, none⟩ = some (.slice a0 m c) from by
    have r := (Row.new wb [.slice a0 m c] 23).kept (gr_alloc _ (.cells #[.string s] 9) none)
    simp only [List.toArray] at r
    rw [hW0, hsb] at r
    exact r.cell 0 _ rfl)
  have HC2 := Lib.hid (show W0.cell? ⟨B + 1 + 1 + 1 + 1 + 1 + 1, 0, none⟩ = some (.string s) from by
    have r := Row.new (wb.alloc (.cells #[.slice a0 m c] 23)) [.string s] 9
    simp only [List.toArray] at r
    rw [hW0, World.size_alloc, hsb] at r
    exact r.cell 0 _ rfl)
  have HI0 := Lib.hid (show FI w B nth 0 0 false 0 W0 ∧ Below w.heap.size w W0 from ⟨by
    have r := fnd_rows w nth
    rw [hwb, hB] at r
    exact r.kept g0, ⟨(gr_then gb g0).os, (gr_then gb g0).tape, (gr_then gb g0).output, (gr_then gb g0).size, fun k hk => (gr_then gb g0).block k hk (by simp)⟩⟩)
  have HST := Lib.hid (finds_stops 4 (B + 1 + 1 + 1 + 1 + 1) a0 m c ps s W0 HC1.out HC2.out (tabis_grown ht (gr_then gb g0)) (hp.kept (gr_then gb g0)) hn hs hsz)
  have HPF := Lib.hid (pfinds_any a0 m c s wb)
  have HB := Lib.hid hB
  have HW0 := Lib.hid hW0
  have HWB := Lib.hid hwb
  clear hn hsz ht hp hwb
  refine (callsIn_wide (n := 5)).1 ?_
  refine callsIn_of_wp_marks Tryd.func25 rfl trivial ?_ rfl
  simp only [Tryd.ntmps25, List.size_toArray, List.length_cons, List.length_nil, Nat.reduceAdd, Nat.reduceSub, Array.replicate_succ, Array.replicate_zero, List.push_toArray, List.append_toArray, List.nil_append, List.cons_append]
  clear hW0 HC1 HC2 gb g0
  gi_wp2
  rw [HWB.out]
  refine ⟨trivial, (callsIn_wide.2 HPF.out).mono ?_⟩
  rintro e' w' ⟨rfl, rfl⟩
  rw [hsb]
  rw [HW0.out]
  clear HPF
  gi_wp2
  refine wpIn_rangeFunc_ownF rfl (by omega) (gf := 86) (lb := #[.pointer (some ⟨B + 1 + 1 + 1 + 1 + 1, 0, none⟩), .pointer (some ⟨B + 1 + 1 + 1 + 1 + 1 + 1, 0, none⟩)]) rfl trivial (enters_of Tryd.func86 (by kernel_rfl) rfl)
    HST.out KpU.trans (fun W l o o' _ hl ho _ => KpU.of_put hl ho) (Below.refl _ _) (fun _ => rfl)
    (fun pre W => (Hid (∀ k, k < pre.length → (k : Int) + 1 ≠ nth)) ∧ FI w B nth 0 0 false pre.length W ∧ Below w.heap.size w W)
    (fun c pre W => (c = .ret ∧ ∃ a b, FX nth pre a b ∧ FI w B nth a b true pre.length W) ∧ Below w.heap.size w W)
    (OwnFrom.and (Own.from (fun _ _ _ _ hs hg hr => hs) _) (OwnFrom.and (Own.from (fun _ _ _ _ hs hg hr => hs.own hg hr) _) (ownFrom_below (Nat.le_refl _) (by omega))))
    (fun c => OwnFrom.and (Own.from (fun _ _ _ _ hs hg hr => ⟨hs.1, hs.2.elim fun a h => h.elim fun b h => ⟨a, b, h.1, h.2.own hg hr⟩⟩) _) (ownFrom_below (Nat.le_refl _) (by omega)))
    ⟨Lib.hid (fun k h => by simp at h), HI0.out⟩
    (fun x => { tmps := #[.slice a0 m c, .string s, .int .i64 nth, undef, undef, .pointer (some ⟨B, 0, none⟩), .pointer (some ⟨B + 1, 0, none⟩), .pointer (some ⟨B + 1 + 1, 0, none⟩), .pointer (some ⟨B + 1 + 1 + 1, 0, none⟩), .pointer (some ⟨B + 1 + 1 + 1 + 1, 0, none⟩), .int .i64 (x.1.1 : Int), .int .i64 (x.1.2 : Int), .slice a0 m c, .string s, .func (.func 86) #[] #[.pointer (some ⟨B + 1 + 1 + 1 + 1 + 1, 0, none⟩), .pointer (some ⟨B + 1 + 1 + 1 + 1 + 1 + 1, 0, none⟩)], .int .i64 (x.1.1 : Int), .int .i64 (x.1.2 : Int), undef, undef, undef, undef, undef, undef, undef], defers := [] }) ?assign ?body ?done ?stop
  case assign =>
    intro l x W K hK
    rw [zip_two]
    gi_wp2
    exact hK
  case body =>
    rintro l pre x W ⟨HPRE, hR, hBl⟩ hlt
    have d0 := hR.r0.cell 0 _ rfl
    have d1 := hR.r4.cell 0 _ rfl
    have d2 := hR.r1.cell 0 _ rfl
    have d3 := hR.r2.cell 0 _ rfl
    have d4 := hR.r3.cell 0 _ rfl
    have f1 := hR.r1.fr 0
    have f2 := hR.r2.fr 0
    have f3 := hR.r3.fr 0
    have f4 := hR.r4.fr 0
    have HR := Lib.hid hR
    have HBl := Lib.hid hBl
    have HX := Lib.hid (show KpU (B + 1 + 1 + 1 + 1 + 1) W (W.setCell ⟨B + 1 + 1 + 1 + 1, 0, none⟩ (.int .i64 ((pre.length : Int) + 1))) from KpU.of_grown (gr_set _ _ _ _) (fun b h1 e1 => by cases e1; omega))
    have hbb : w.heap.size ≤ B := by omega
    clear hR hBl
    by_cases hk : (pre.length : Int) + 1 = nth
    · have HK := Lib.hid hk
      subst hk
      gi_wp2
      refine ⟨((KeepsOthers.setCell _ _ _).trans (KeepsOthers.setCell _ _ _)).trans ((KeepsOthers.setCell _ _ _).trans (KeepsOthers.setCell _ _ _)), ⟨rfl, _, _, ⟨pre, x, rfl, rfl, rfl, rfl⟩, ?_⟩, (by have h := below_set (b := B + 1 + 1 + 1) (i := 0) (v := .bool true) (below_set (b := B + 1 + 1) (i := 0) (v := .int .i64 (x.1.2 : Int)) (below_set (b := B + 1) (i := 0) (v := .int .i64 (x.1.1 : Int)) (below_set (b := B + 1 + 1 + 1 + 1) (i := 0) (v := .int .i64 ((pre.length : Int) + 1)) HBl.out (by omega)) (by omega)) (by omega)) (by omega); first | exact h | (rw [HB.out] at h; exact h))⟩
      rw [List.length_append, List.length_singleton]
      exact ((HR.out.s4.s1 _).s2 _).s3 true
    · have hkd : ((pre.length : Int) + 1 == nth) = false := by simpa using hk
      have HK := Lib.hid hk
      clear hk
      gi_wp2
      refine ⟨KeepsOthers.setCell _ _ _, HX.out, Lib.hid (fun k h => ?_), ?_, below_set HBl.out (by omega)⟩
      · rw [List.length_append, List.length_singleton] at h
        rcases Nat.lt_succ_iff_lt_or_eq.1 h with h1 | rfl
        · exact HPRE.out k h1
        · exact HK.out
      · rw [List.length_append, List.length_singleton]
        exact HR.out.s4
  case done =>
    rintro D ys W hD hys ⟨HPRE, hR, hBl⟩ hK
    have HFN := Lib.hid (show findL (findsL ps s.data.toList) nth = (0, 0, false) from find_no (by
      have hys' : ys.map (·.1) = findsL ps s.data.toList := hys
      rw [← hys', List.length_map]
      exact HPRE.out))
    have f1 := hR.r1.fr 0
    have f2 := hR.r2.fr 0
    have f3 := hR.r3.fr 0
    have HR := Lib.hid hR
    have HBl := Lib.hid hBl
    have HK := Lib.hid hK
    have c1 := hR.r1.cell 0 _ rfl
    have c2 := hR.r2.cell 0 _ rfl
    have c3 := hR.r3.cell 0 _ rfl
    clear hR hBl hys hK
    gi_wp2
    have hbb : w.heap.size ≤ B := by omega
    have hR1 := ((HR.out.s1 0).s2 0).s3 false
    have hB1 : Below w.heap.size w _ := below_set (b := B + 1 + 1 + 1) (i := 0) (v := .bool false) (below_set (b := B + 1 + 1) (i := 0) (v := .int .i64 0) (below_set (b := B + 1) (i := 0) (v := .int .i64 0) HBl.out (by omega)) (by omega)) (by omega)
    have hK1 := (((KeepsOthers.setCell W ⟨B + 1, 0, none⟩ (.int .i64 0)).trans (KeepsOthers.setCell _ ⟨B + 1 + 1, 0, none⟩ (.int .i64 0))).trans (KeepsOthers.setCell _ ⟨B + 1 + 1 + 1, 0, none⟩ (.bool false))).same D _ HK.out rfl
    refine ⟨by simp, .inl ⟨_, _, rfl, run_takeDeferred hK1, ?_⟩⟩
    have hR2 := hR1.own (grownBy_putObj' _ D (.deferred none)) (fun r e => by cases e; exact ⟨_, hK1, rfl⟩)
    refine ⟨_, results_box3 rfl _ _ _ _ _ _ _ _ rfl rfl rfl (hR2.r1.cell 0 _ rfl) (hR2.r2.cell 0 _ rfl) (hR2.r3.cell 0 _ rfl) (Tryd.isAgg3) (Tryd.isAgg3) (Tryd.isAgg4), ?_, gr_of_below (hB1.trans (belowK_b (w := w) (Nat.le_refl _) _ D _ (.deferred none) (by omega) hK1 rfl rfl)) (Nat.le_refl _)⟩
    unfold findV
    rw [HFN.out]
    rfl
  case stop =>
    rintro D cc pre W hD hpre ⟨⟨rfl, a, b, hfx, hR⟩, hBl⟩ hK
    have HFN := Lib.hid (show ∃ x y : Nat, a = (x : Int) ∧ b = (y : Int) ∧ findL (findsL ps s.data.toList) nth = (x, y, true) from by
      obtain ⟨p, x, rfl, rfl, rfl, rfl⟩ := hfx
      refine ⟨_, _, rfl, rfl, ?_⟩
      have hpre' : (p ++ [x]).map (·.1) <+: findsL ps s.data.toList := hpre
      rw [List.map_append] at hpre'
      have := find_yes hpre'
      rwa [List.length_map] at this)
    have HR := Lib.hid hR
    have HBK := Lib.hid (hBl.trans (belowK_b (w := w) (Nat.le_refl _) W D _ (.deferred none) (by omega) hK rfl rfl))
    have HK := Lib.hid hK
    clear hR hBl hfx hpre hK
    gi_wp2
    refine ⟨by simp, .inl ⟨_, _, rfl, run_takeDeferred HK.out, ?_⟩⟩
    have hR2 := HR.out.own (grownBy_putObj' W D (.deferred none)) (fun r e => by cases e; exact ⟨_, HK.out, rfl⟩)
    refine ⟨_, results_box3 rfl _ _ _ _ _ _ _ _ rfl rfl rfl (hR2.r1.cell 0 _ rfl) (hR2.r2.cell 0 _ rfl) (hR2.r3.cell 0 _ rfl) (Tryd.isAgg3) (Tryd.isAgg3) (Tryd.isAgg4), ?_, gr_of_below HBK.out (Nat.le_refl _)⟩
    obtain ⟨x, y, rfl, rfl, hf⟩ := HFN.out
    unfold findV
    rw [hf]
theorem pfind_any (v : Value) (ps : List Pc) (s : ByteArray) (nth : Int) (w : World) (ht : TabP w) (hp : Pcs w v ps) (hn : ps.length ≤ 1000000) (hs : s.size ≤ 1000000000000) (hsz : ∀ q ∈ ps, q.t.size ≤ 1000) :
    Calls Tryd.prog 25 #[v, .string s, .int .i64 nth] w fun e w' => e = .returned (findV (findsL ps s.data.toList) nth) ∧ w.grownBy w' none := by
  rcases hp with ⟨rfl, rfl⟩ | ⟨g, o, c, rfl, hb, hp⟩
  · exact pfind_at none 0 0 [] s nth w ht (.inl ⟨rfl, rfl⟩) hn hs hsz
  · exact pfind_at _ _ c ps s nth w ht (.inr ⟨g, o, c, rfl, hb, hp⟩) hn hs hsz
end Go.Proofs.YtaejnklgnegkhaaDoor
namespace Go.Proofs.YtaejnklgnegkhaaDoor
open Go.RowKit Go.Shelf Pt Sh
attribute [local go_sem] Oper.semAt_some

/-- The count of equal pairs so far: its variable. -/
def CP (w : World) (X : Nat) (k : Nat) (W : World) : Prop := Row W X [.int .i64 (k : Int)] 3 ∧ Below w.heap.size w W
def AllE (pre : List (UInt8 × UInt8)) : Prop := AllEq pre
theorem allE_snoc {pre : List (UInt8 × UInt8)} {x : UInt8 × UInt8} (h : AllE pre) (hx : x.1 = x.2) : AllE (pre ++ [x]) := by
  intro p hp
  rcases List.mem_append.1 hp with h1 | h1
  · exact h p h1
  · obtain rfl := List.mem_singleton.1 h1
    exact hx
/-- The pair that was not equal. -/
def PX (pre : List (UInt8 × UInt8)) (k : Nat) : Prop := ∃ p x, pre = p ++ [x] ∧ AllEq p ∧ x.1 ≠ x.2 ∧ p.length = k

theorem zip_twoP {a b : Nat} {x : UInt8 × UInt8} : (#[a, b] : Array Nat).zip (encP x) = #[(a, .int .u8 (x.1.toNat : Int)), (b, .int .u8 (x.2.toNat : Int))] := by simp [encP]
set_option maxRecDepth 100000 in
set_option maxHeartbeats 2000000 in
theorem eqF_any (B : Nat) (a b : ByteArray) (w : World) (hc1 : w.cell? ⟨B, 0, none⟩ = some (.string a)) (hc2 : w.cell? ⟨B + 1, 0, none⟩ = some (.string b)) (ha : a.size ≤ 1000000) :
    Calls Tryd.prog 105 #[.func (.func 123) #[] #[.pointer (some ⟨B, 0, none⟩), .pointer (some ⟨B + 1, 0, none⟩)]] w fun e w' => e = .returned (.int .i64 (eqn (pairsF a b) : Int)) ∧ w.grownBy w' none := by
  obtain ⟨X, hX⟩ : ∃ X, w.heap.size = X := ⟨_, rfl⟩
  have hBX : B + 1 < X := by rw [← hX]; exact World.block_lt_of_cell? w _ hc2
  obtain ⟨W0, hW0⟩ : ∃ W0, w.alloc (.cells #[.int .i64 0] 3) = W0 := ⟨_, rfl⟩
  have hs0 : W0.heap.size = X + 1 := by rw [← hW0]; simp [hX]
  have g0 : w.grownBy W0 none := by rw [← hW0]; exact gr_alloc _ _ _
  have HI0 := Lib.hid (show CP w X 0 W0 from ⟨by
    have r := (Row.new w [.int .i64 0] 3)
    simp only [List.toArray] at r
    rw [hW0, hX] at r
    exact r, ⟨g0.os, g0.tape, g0.output, g0.size, fun k hk => g0.block k hk (by simp)⟩⟩)
  have HST := Lib.hid (first_stops 4 B a b W0 (g0.cell hc1 (by simp)) (g0.cell hc2 (by simp)) ha)
  have HXX := Lib.hid hX
  have HW0 := Lib.hid hW0
  clear hc1 hc2
  refine (callsIn_wide (n := 5)).1 ?_
  refine callsIn_of_wp_marks Tryd.func105 rfl trivial ?_ rfl
  simp only [Tryd.ntmps105, List.size_toArray, List.length_cons, List.length_nil, Nat.reduceAdd, Nat.reduceSub, Array.replicate_succ, Array.replicate_zero, List.push_toArray, List.append_toArray, List.nil_append, List.cons_append]
  clear hW0 g0
  gi_wp2
  rw [HW0.out]
  refine wpIn_rangeFunc_ownF rfl (by omega) (gf := 123) (lb := #[.pointer (some ⟨B, 0, none⟩), .pointer (some ⟨B + 1, 0, none⟩)]) rfl trivial (enters_of Tryd.func123 (by kernel_rfl) rfl)
    HST.out KpD.trans (fun W l o o' _ hl ho _ => KpD.of_put hl ho) (Below.refl _ _) (fun _ => rfl)
    (fun pre W => Hid (AllE pre) ∧ Row W X [.int .i64 (pre.length : Int)] 3 ∧ Below w.heap.size w W)
    (fun c pre W => (c = .exit 0 ∧ ∃ k, PX pre k ∧ Row W X [.int .i64 (k : Int)] 3) ∧ Below w.heap.size w W)
    (OwnFrom.and (Own.from (fun _ _ _ _ hs hg hr => hs) _) (OwnFrom.and (Own.from (fun _ _ _ _ hs hg hr => hs.own hg hr) _) (ownFrom_below (Nat.le_refl _) (by omega))))
    (fun c => OwnFrom.and (Own.from (fun _ _ _ _ hs hg hr => ⟨hs.1, hs.2.elim fun k h => ⟨k, h.1, h.2.own hg hr⟩⟩) _) (ownFrom_below (Nat.le_refl _) (by omega)))
    ⟨Lib.hid (fun p h => by simp at h), HI0.out⟩
    (fun x => { tmps := #[.func (.func 123) #[] #[.pointer (some ⟨B, 0, none⟩), .pointer (some ⟨B + 1, 0, none⟩)], undef, .int .i64 0, .pointer (some ⟨X, 0, none⟩), .int .u8 (x.1.toNat : Int), .int .u8 (x.2.toNat : Int), .func (.func 123) #[] #[.pointer (some ⟨B, 0, none⟩), .pointer (some ⟨B + 1, 0, none⟩)], .int .u8 (x.1.toNat : Int), .int .u8 (x.2.toNat : Int), undef, undef, undef, undef, undef, undef], defers := [] }) ?assign ?body ?done ?stop
  case assign =>
    intro l x W K hK
    rw [zip_twoP]
    gi_wp2
    exact hK
  case body =>
    rintro l pre x W ⟨HPRE, hR, hBl⟩ hlt
    obtain ⟨x1, x2⟩ := x
    have d1 := hR.cell 0 _ rfl
    have d2 := hR.fr 0
    have HR := Lib.hid hR
    have HBl := Lib.hid hBl
    have HKX := Lib.hid (show KpD (B + 2) W (W.setCell ⟨X, 0, none⟩ (.int .i64 ((pre.length : Int) + 1))) from KpD.of_grown (gr_set _ _ _ _) (fun b h1 e1 => by cases e1; omega))
    clear hR hBl
    by_cases hx : x1 = x2
    · have HX := Lib.hid hx
      have hxb : ((x1.toNat : Int) == (x2.toNat : Int)) = true := by rw [hx]; simp
      have hxn : ((x1.toNat : Int) != (x2.toNat : Int)) = false := by rw [bne, hxb]; rfl
      clear hx
      gi_wp2
      refine ⟨KeepsOthers.setCell _ _ _, HKX.out, Lib.hid (allE_snoc HPRE.out HX.out), ?_, below_set HBl.out (by omega)⟩
      have := HR.out.set 0 (.int .i64 ((pre.length : Int) + 1))
      simpa using this
    · have HX := Lib.hid hx
      have hxb : ((x1.toNat : Int) == (x2.toNat : Int)) = false := by rw [beq_eq_false_iff_ne]; exact fun h => hx (UInt8.toNat_inj.1 (Int.ofNat.inj h))
      have hxn : ((x1.toNat : Int) != (x2.toNat : Int)) = true := by rw [bne, hxb]; rfl
      clear hx
      gi_wp2
      exact ⟨KeepsOthers.refl _, ⟨rfl, pre.length, ⟨pre, (x1, x2), rfl, HPRE.out, HX.out, rfl⟩, HR.out⟩, HBl.out⟩
  case done =>
    rintro D ys W hD hys ⟨HPRE, hR, hBl⟩ hK
    have HN := Lib.hid (show eqn (pairsF a b) = ys.length from by
      have e : ys = pairsF a b := hys
      rw [← e]
      exact eqn_all HPRE.out)
    have d1 := hR.cell 0 _ rfl
    have hBK := hBl.trans (belowK_b (w := w) (Nat.le_refl _) W D _ (.deferred none) (by omega) hK rfl rfl)
    have HK := Lib.hid hK
    have HBK := Lib.hid hBK
    clear hR hBl hys hBK hK
    gi_wp2
    refine ⟨by simp, .inl ⟨_, _, rfl, run_takeDeferred HK.out, ?_⟩⟩
    exact ⟨_, results_tmp rfl _ _ _, by rw [HN.out]; rfl, gr_of_below HBK.out (Nat.le_refl _)⟩
  case stop =>
    rintro D cc pre W hD hpre ⟨⟨rfl, k, hp, hR⟩, hBl⟩ hK
    have HN := Lib.hid (show eqn (pairsF a b) = k from by
      obtain ⟨p, x, rfl, h1, h2, h3⟩ := hp
      rw [eqn_stop h1 h2 hpre, h3])
    have d1 := hR.cell 0 _ rfl
    have hBK := hBl.trans (belowK_b (w := w) (Nat.le_refl _) W D _ (.deferred none) (by omega) hK rfl rfl)
    have HK := Lib.hid hK
    have HBK := Lib.hid hBK
    clear hR hBl hp hpre hBK hK
    gi_wp2
    refine ⟨by simp, .inl ⟨_, _, rfl, run_takeDeferred HK.out, ?_⟩⟩
    exact ⟨_, results_tmp rfl _ _ _, by rw [HN.out]; rfl, gr_of_below HBK.out (Nat.le_refl _)⟩
end Go.Proofs.YtaejnklgnegkhaaDoor
