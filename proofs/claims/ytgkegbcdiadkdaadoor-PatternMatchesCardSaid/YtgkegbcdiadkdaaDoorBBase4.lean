/- Contracts of the program and of the reference, part 4: Pr, Pn, Px, Po. -/
import Derived.Test.YtgkegbcdiadkdaaDoorBBase3
import Derived.BigQuiet
namespace Go.Proofs.YtgkegbcdiadkdaaDoor
namespace Pt

--BEGIN
theorem stp_iff {p : Pc} {s : List UInt8} {i j : Nat} : stp p s i j = true ↔ i ≤ j ∧ j ≤ s.length ∧ (if p.k = 0 then prt s i j = p.t.data.toList else p.a ≤ ((j - i : Nat) : Int) ∧ ((j - i : Nat) : Int) ≤ p.b ∧ allD (prt s i j) p.k = true) := by
  unfold stp
  rw [Bool.and_eq_true, Bool.and_eq_true, decide_eq_true_eq, decide_eq_true_eq, and_assoc]
  by_cases h : p.k = 0
  · rw [if_pos h, if_pos h, beq_iff_eq]
  · rw [if_neg h, if_neg h, Bool.and_eq_true, Bool.and_eq_true, decide_eq_true_eq, decide_eq_true_eq, and_assoc]
/-- A class that is in another one. -/
theorem belD_cont {c : Nat} {k k' : Int} (h : contD k' k = true) (hb : belD c k' = true) : belD c k = true := by
  unfold belD at *
  rw [Bool.and_eq_true] at *
  refine ⟨hb.1, ?_⟩
  have h1 := hb.2
  unfold contD at *
  simp only [Bool.or_eq_true, Bool.and_eq_true, beq_iff_eq] at *
  have h2 := clsD_le c
  omega
theorem allD_cont {l : List UInt8} {k k' : Int} (h : contD k' k = true) (ha : allD l k' = true) : allD l k = true := by
  unfold allD at *
  rw [List.all_eq_true] at *
  exact fun x hx => belD_cont h (ha x hx)
/-- What a piece contains. -/
theorem stp_stays {q : Pc} {c : Int} {s : List UInt8} {i j : Nat} (hs : staysD q.k q.t c = true) (h : stp q s i j = true) : allD (prt s i j) c = true := by
  obtain ⟨_, _, h3⟩ := stp_iff.1 h
  unfold staysD at hs
  by_cases hk : q.k = 0
  · rw [if_pos hk] at h3 hs
    rw [h3]; exact hs
  · rw [if_neg hk] at h3 hs
    exact allD_cont hs h3.2.2
theorem stp_lens {q : Pc} {s : List UInt8} {i j : Nat} (h : stp q s i j = true) : lenD q.k q.a q.t ≤ ((j - i : Nat) : Int) ∧ ((j - i : Nat) : Int) ≤ lenD q.k q.b q.t := by
  obtain ⟨h1, h2, h3⟩ := stp_iff.1 h
  unfold lenD
  by_cases hk : q.k = 0
  · rw [if_pos hk] at h3 ⊢
    have := congrArg List.length h3
    rw [prt_len h2] at this
    have e : q.t.data.toList.length = q.t.size := rfl
    rw [if_pos hk]
    omega
  · rw [if_neg hk] at h3 ⊢
    rw [if_neg hk]
    omega
/-- A piece that covers another one matches what that one matches. -/
theorem stp_cov {p q : Pc} {s : List UInt8} {i j : Nat} (hc : covD p.k p.a p.b p.t q.k q.a q.b q.t = true) (h : stp q s i j = true) : stp p s i j = true := by
  obtain ⟨h1, h2, h3⟩ := stp_iff.1 h
  rw [stp_iff]
  refine ⟨h1, h2, ?_⟩
  unfold covD at hc
  by_cases hk : p.k = 0
  · rw [if_pos hk, Bool.and_eq_true, decide_eq_true_eq, decide_eq_true_eq] at hc
    rw [if_pos hk]
    rw [if_pos hc.1, ← hc.2] at h3
    exact h3
  · rw [if_neg hk, Bool.and_eq_true, Bool.and_eq_true, decide_eq_true_eq, decide_eq_true_eq] at hc
    rw [if_neg hk]
    have hl := stp_lens h
    exact ⟨by omega, by omega, stp_stays hc.1.1 h⟩
theorem rch_each : ∀ {ps qs : List Pc} {s : List UInt8} {i j : Nat}, ps.length = qs.length → (∀ n (h1 : n < ps.length) (h2 : n < qs.length), covD ps[n].k ps[n].a ps[n].b ps[n].t qs[n].k qs[n].a qs[n].b qs[n].t = true) → rch qs s i j = true → rch ps s i j = true
  | [], [], _, _, _, _, _, h => h
  | p :: ps, q :: qs, s, i, j, hl, hc, h => by
    obtain ⟨m, h1, h2⟩ := rch_cons.1 h
    refine rch_cons.2 ⟨m, stp_cov (hc 0 (by simp) (by simp)) h1, rch_each (by simpa using hl) (fun n a b => ?_) h2⟩
    have := hc (n + 1) (by simp; omega) (by simp; omega)
    exact this
  | [], _ :: _, _, _, _, hl, _, _ => by simp at hl
  | _ :: _, [], _, _, _, hl, _, _ => by simp at hl
/-- The sums of the lengths. -/
def leastL (qs : List Pc) : Int := qs.foldl (fun n q => n + lenD q.k q.a q.t) 0
def mostL (qs : List Pc) : Int := qs.foldl (fun n q => n + lenD q.k q.b q.t) 0
theorem fold_add (f : Pc → Int) : ∀ (qs : List Pc) (a : Int), qs.foldl (fun n q => n + f q) a = a + qs.foldl (fun n q => n + f q) 0
  | [], a => by simp
  | q :: qs, a => by
    rw [List.foldl_cons, List.foldl_cons, fold_add f qs (a + f q), fold_add f qs (0 + f q)]
    omega
theorem rch_lens : ∀ {qs : List Pc} {s : List UInt8} {i j : Nat}, rch qs s i j = true → leastL qs ≤ ((j - i : Nat) : Int) ∧ ((j - i : Nat) : Int) ≤ mostL qs
  | [], s, i, j, h => by
    obtain ⟨rfl, _⟩ := rch_nil.1 h
    unfold leastL mostL; simp
  | q :: qs, s, i, j, h => by
    obtain ⟨m, h1, h2⟩ := rch_cons.1 h
    have a := stp_lens h1
    have b := rch_lens h2
    have c := stp_le h1
    have d := rch_le h2
    have e1 : leastL (q :: qs) = lenD q.k q.a q.t + leastL qs := by
      unfold leastL; rw [List.foldl_cons, fold_add (fun q => lenD q.k q.a q.t)]; omega
    have e2 : mostL (q :: qs) = lenD q.k q.b q.t + mostL qs := by
      unfold mostL; rw [List.foldl_cons, fold_add (fun q => lenD q.k q.b q.t)]; omega
    rw [e1, e2]
    omega
theorem rch_stays : ∀ {qs : List Pc} {c : Int} {s : List UInt8} {i j : Nat}, (∀ q ∈ qs, staysD q.k q.t c = true) → rch qs s i j = true → allD (prt s i j) c = true
  | [], c, s, i, j, _, h => by
    obtain ⟨rfl, _⟩ := rch_nil.1 h
    unfold prt allD; simp
  | q :: qs, c, s, i, j, hs, h => by
    obtain ⟨m, h1, h2⟩ := rch_cons.1 h
    rw [prt_cat (stp_le h1).1 (rch_le h2).1, allD_cat, stp_stays (hs q (by simp)) h1, rch_stays (fun q' hq => hs q' (by simp [hq])) h2]; rfl
/-- A run that covers all pieces of a pattern matches what that one matches. -/
theorem rch_all {p : Pc} {qs : List Pc} {s : List UInt8} {i j : Nat} (hk : p.k ≠ 0) (hs : ∀ q ∈ qs, staysD q.k q.t p.k = true) (h1 : p.a ≤ leastL qs) (h2 : min (mostL qs) 200 ≤ p.b) (hl : s.length ≤ 200) (h : rch qs s i j = true) : rch [p] s i j = true := by
  have a := rch_lens h
  have b := rch_le h
  refine rch_cons.2 ⟨j, stp_iff.2 ⟨b.1, b.2, ?_⟩, rch_nil.2 ⟨rfl, b.2⟩⟩
  rw [if_neg hk]
  refine ⟨by omega, ?_, rch_stays hs h⟩
  have : ((j - i : Nat) : Int) ≤ 200 := by omega
  omega

/-- The finds that the program takes: for each place in order its greatest end, if it lies behind the last find. -/
def findsP (g : Nat → Int) : Nat → Nat → Nat → List (Nat × Nat)
  | 0, _, _ => []
  | fuel + 1, b, place => if (b : Int) < place ∨ g b ≤ b then findsP g fuel (b + 1) place else (b, (g b).toNat) :: findsP g fuel (b + 1) (g b).toNat
/-- The finds that the reference takes: from place to place. -/
def findsR (g : Nat → Int) (n : Nat) : Nat → Nat → List (Nat × Nat)
  | 0, _ => []
  | fuel + 1, at_ => if n ≤ at_ then [] else if (at_ : Int) < g at_ then (at_, (g at_).toNat) :: findsR g n fuel (g at_).toNat else findsR g n fuel (at_ + 1)
/-- Places before the last find's end are passed over. -/
theorem findsP_skip (g : Nat → Int) : ∀ (d fuel b place : Nat), b + d = place → d ≤ fuel → findsP g fuel b place = findsP g (fuel - d) place place
  | 0, fuel, b, place, h, _ => by
    obtain rfl : b = place := by omega
    rfl
  | d + 1, fuel, b, place, h, hd => by
    obtain ⟨f, rfl⟩ : ∃ f, fuel = f + 1 := ⟨fuel - 1, by omega⟩
    have e : findsP g (f + 1) b place = findsP g f (b + 1) place := by
      show (if (b : Int) < place ∨ g b ≤ b then findsP g f (b + 1) place else _) = _
      rw [if_pos (.inl (by omega))]
    rw [e, findsP_skip g d f (b + 1) place (by omega) (by omega)]
    congr 1
    omega
theorem findsR_fuel (g : Nat → Int) (n : Nat) (hg : ∀ i, i ≤ n → g i ≤ n) : ∀ (d f1 f2 a : Nat), n - a ≤ d → d ≤ f1 → d ≤ f2 → findsR g n (f1 + 1) a = findsR g n (f2 + 1) a
  | d, f1, f2, a, hd, h1, h2 => by
    unfold findsR
    by_cases h : n ≤ a
    · rw [if_pos h, if_pos h]
    · rw [if_neg h, if_neg h]
      obtain ⟨d', rfl⟩ : ∃ d', d = d' + 1 := ⟨d - 1, by omega⟩
      obtain ⟨e1, rfl⟩ : ∃ e, f1 = e + 1 := ⟨f1 - 1, by omega⟩
      obtain ⟨e2, rfl⟩ : ∃ e, f2 = e + 1 := ⟨f2 - 1, by omega⟩
      have hga := hg a (by omega)
      by_cases h3 : (a : Int) < g a
      · rw [if_pos h3, if_pos h3, findsR_fuel g n hg d' e1 e2 (g a).toNat (by omega) (by omega) (by omega)]
      · rw [if_neg h3, if_neg h3, findsR_fuel g n hg d' e1 e2 (a + 1) (by omega) (by omega) (by omega)]
/-- Both take the same finds. -/
theorem finds_same (g : Nat → Int) (n : Nat) (hg : ∀ i, i ≤ n → g i ≤ n) : ∀ (d a : Nat), a + d = n → findsP g (d + 1) a a = findsR g n (d + 1) a
  | 0, a, h => by
    have hga := hg a (by omega)
    show (if (a : Int) < a ∨ g a ≤ a then findsP g 0 (a + 1) a else _) = (if n ≤ a then [] else _)
    rw [if_pos (.inr (by omega)), if_pos (by omega)]; rfl
  | d + 1, a, h => by
    have hga := hg a (by omega)
    show (if (a : Int) < a ∨ g a ≤ a then findsP g (d + 1) (a + 1) a else (a, (g a).toNat) :: findsP g (d + 1) (a + 1) (g a).toNat) = (if n ≤ a then [] else if (a : Int) < g a then (a, (g a).toNat) :: findsR g n (d + 1) (g a).toNat else findsR g n (d + 1) (a + 1))
    rw [if_neg (show ¬ n ≤ a by omega)]
    by_cases h3 : (a : Int) < g a
    · rw [if_neg (by omega), if_pos h3]
      have hs := findsP_skip g ((g a).toNat - (a + 1)) (d + 1) (a + 1) (g a).toNat (by omega) (by omega)
      rw [hs]
      have e : d + 1 - ((g a).toNat - (a + 1)) = (n - (g a).toNat) + 1 := by omega
      rw [e, finds_same g n hg (n - (g a).toNat) (g a).toNat (by omega), findsR_fuel g n hg (n - (g a).toNat) (n - (g a).toNat) d (g a).toNat (by omega) (by omega) (by omega)]
    · rw [if_pos (by omega), if_neg h3]
      have e : findsP g (d + 1) (a + 1) a = findsP g (d + 1) (a + 1) (a + 1) := by
        have hx : ∀ (f b p q : Nat), p ≤ b → q ≤ b → findsP g f b p = findsP g f b q := by
          intro f
          induction f with
          | zero => intro b p q _ _; rfl
          | succ f ih =>
            intro b p q hp hq
            show (if (b : Int) < p ∨ g b ≤ b then findsP g f (b + 1) p else (b, (g b).toNat) :: findsP g f (b + 1) (g b).toNat) = (if (b : Int) < q ∨ g b ≤ b then findsP g f (b + 1) q else (b, (g b).toNat) :: findsP g f (b + 1) (g b).toNat)
            by_cases h5 : g b ≤ b
            · rw [if_pos (.inr h5), if_pos (.inr h5)]
              exact ih (b + 1) p q (by omega) (by omega)
            · rw [if_neg (by omega), if_neg (by omega)]
        exact hx _ _ _ _ (by omega) (by omega)
      rw [e, finds_same g n hg d (a + 1) (by omega)]
termination_by d => d
decreasing_by all_goals omega
--END
end Pt
end Go.Proofs.YtgkegbcdiadkdaaDoor
namespace Go.Proofs.YtgkegbcdiadkdaaDoor
open Go.RowKit Pt

def covAt (ps qs : List Pc) (i : Nat) : Bool := match ps[i]?, qs[i]? with
  | some p, some q => covD p.k p.a p.b p.t q.k q.a q.b q.t
  | _, _ => false
theorem covAt_some {ps qs : List Pc} {i : Nat} (h : i < ps.length) (h' : i < qs.length) : covAt ps qs i = covD ps[i].k ps[i].a ps[i].b ps[i].t qs[i].k qs[i].a qs[i].b qs[i].t := by
  unfold covAt; rw [List.getElem?_eq_getElem h, List.getElem?_eq_getElem h']
/-- Each piece covers the piece at its place. -/
def eachD (ps qs : List Pc) : Bool := decide (ps.length = qs.length) && (List.range ps.length).all (covAt ps qs)
theorem each_len {ps qs : List Pc} (h : ¬ ps.length = qs.length) : eachD ps qs = false := by
  unfold eachD; rw [decide_eq_false h]; rfl
theorem each_no {ps qs : List Pc} {i : Nat} (h : i < ps.length) (hc : covAt ps qs i = false) : eachD ps qs = false := by
  unfold eachD
  rw [Bool.and_eq_false_iff]
  refine .inr (Bool.eq_false_iff.2 fun ha => ?_)
  rw [List.all_eq_true] at ha
  have := ha i (List.mem_range.2 h)
  rw [hc] at this; cases this
theorem each_yes {ps qs : List Pc} (h : ps.length = qs.length) (hc : ∀ i, i < ps.length → covAt ps qs i = true) : eachD ps qs = true := by
  unfold eachD
  rw [decide_eq_true h, Bool.true_and, List.all_eq_true]
  exact fun i hi => hc i (List.mem_range.1 hi)
theorem cells4 {W w : World} {g a : Nat} {v0 v1 v2 v3 : Value} (hb : g < W.heap.size) (hg : W.grownBy w none) (h : W.cell? ⟨g, a, none⟩ = some v0 ∧ W.cell? ⟨g, a + 1, none⟩ = some v1 ∧ W.cell? ⟨g, a + 2, none⟩ = some v2 ∧ W.cell? ⟨g, a + 3, none⟩ = some v3) : w.cell? ⟨g, a, none⟩ = some v0 ∧ w.cell? ⟨g, a + 1, none⟩ = some v1 ∧ w.cell? ⟨g, a + 2, none⟩ = some v2 ∧ w.cell? ⟨g, a + 3, none⟩ = some v3 := by
  have := (gcell hg).1
  rw [this _ _ hb, this _ _ hb, this _ _ hb, this _ _ hb]
  exact h
abbrev EqF (v u : Value) (w : World) (b : Bool) : Prop := Calls Tryd.prog 61 #[v, u, .func (Fn.func 62) #[] #[]] w fun e w' => e = .returned (.bool b) ∧ w.grownBy w' none
set_option maxRecDepth 100000 in
set_option maxHeartbeats 8000000 in
theorem eq_some (w : World) (g o c g' o' c' : Nat) (ps qs : List Pc) (hb : g < w.heap.size) (hp : PcsAt w g o ps) (hb' : g' < w.heap.size) (hq : PcsAt w g' o' qs) (hn : ps.length ≤ 1000000) (hsz : ∀ q ∈ qs, q.t.size ≤ 1000)
    (hz : ∀ p ∈ ps, ∀ q ∈ qs, p.k = 0 → q.k = 0 → p.a = q.a ∧ p.b = q.b) : EqF (.slice (some ⟨g, o, none⟩) ps.length c) (.slice (some ⟨g', o', none⟩) qs.length c') w (eachD ps qs) := by
  unfold EqF
  by_cases hl : ps.length = qs.length
  case neg =>
    have HE := Lib.hid (each_len hl)
    have hl1 : ¬ (ps.length : Int) = (qs.length : Int) := by omega
    clear hp hq hsz hz
    generalize ps.length = n at *
    generalize qs.length = m at *
    go_enter Tryd.func61, Tryd.ntmps61
    go_wp2
    go_ret
    exact ⟨by rw [HE.out]; rfl, gr_rfl w⟩
  obtain ⟨n, hnn⟩ : ∃ n, ps.length = n := ⟨_, rfl⟩
  have hnm : qs.length = n := by omega
  have HN := Lib.hid hnn
  have HM := Lib.hid hnm
  have HP := Lib.hid hp
  have HQ := Lib.hid hq
  have HSZ := Lib.hid hsz
  have HZ := Lib.hid hz
  rw [hnn] at hn ⊢
  rw [hnm]
  clear hnn hp hsz hz hq hl hnm
  go_enter Tryd.func61, Tryd.ntmps61
  go_wp2_with fail
  go_loopw [17] (fun i wr => ∃ j : Nat, j ≤ n ∧ i = .int .i64 (j : Int) ∧ w.grownBy wr none ∧ Hid (∀ k, k < j → covAt ps qs k = true)) (fun i _ => n - (intOf i).toNat)
  case atStart => exact ⟨0, Nat.zero_le _, rfl, gr_rfl w, Lib.hid (fun k h => by omega)⟩
  case round =>
    obtain ⟨j, hj, rfl, Gj, HA⟩ := hrel
    by_cases hlt : j < n
    · have hlq : j < ps.length := by rw [HN.out]; exact hlt
      have hlr : j < qs.length := by rw [HM.out]; exact hlt
      have hb1 : (j : Int) < (n : Int) := by omega
      have hk1 : (j : Int) + 1 ≤ 9223372036854775807 := by omega
      obtain ⟨c0, c1, c2, c3⟩ := (HP.out.kept hb Gj) j hlq
      have hpc := fun w => pcov_any ps[j].k ps[j].a ps[j].b ps[j].t qs[j].k qs[j].a qs[j].b qs[j].t w (by have := HSZ.out _ (List.getElem_mem hlr); omega) (HZ.out _ (List.getElem_mem hlq) _ (List.getElem_mem hlr))
      rw [← covAt_some hlq hlr] at hpc
      have HPC := Lib.hid hpc
      have HD := Lib.hid ((HQ.out.kept hb' Gj) j hlr)
      clear hpc
      generalize ps[j].k = pk at *
      generalize ps[j].a = pa at *
      generalize ps[j].b = pb at *
      generalize ps[j].t = pt at *
      generalize qs[j].k = qk at *
      generalize qs[j].a = qa at *
      generalize qs[j].b = qb at *
      generalize qs[j].t = qt at *
      have hbr : g' < wr.heap.size := Nat.lt_of_lt_of_le hb' Gj.size
      have G1 := gr_al (o := .cells ([.int .i64 qk, .int .i64 qa, .int .i64 qb, .string qt] : List Value).toArray 31) (gr_al (o := .cells ([.int .i64 pk, .int .i64 pa, .int .i64 pb, .string pt] : List Value).toArray 31) Gj)
      have R0 := (Row.new wr [.int .i64 pk, .int .i64 pa, .int .i64 pb, .string pt] 31).al (o := .cells ([.int .i64 qk, .int .i64 qa, .int .i64 qb, .string qt] : List Value).toArray 31)
      have R1 := Row.new (wr.alloc (.cells ([.int .i64 pk, .int .i64 pa, .int .i64 pb, .string pt] : List Value).toArray 31)) [.int .i64 qk, .int .i64 qa, .int .i64 qb, .string qt] 31
      obtain ⟨d0, d1, d2, d3⟩ := cells4 hbr (gr_alloc wr (.cells ([.int .i64 pk, .int .i64 pa, .int .i64 pb, .string pt] : List Value).toArray 31) none) HD.out
      have GG := Lib.hid G1
      obtain ⟨x0, x1, x2, x3⟩ : _ ∧ _ ∧ _ ∧ _ := ⟨R0.cell 0 _ rfl, R0.cell 1 _ rfl, R0.cell 2 _ rfl, R0.cell 3 _ rfl⟩
      obtain ⟨y0, y1, y2, y3⟩ : _ ∧ _ ∧ _ ∧ _ := ⟨R1.cell 0 _ rfl, R1.cell 1 _ rfl, R1.cell 2 _ rfl, R1.cell 3 _ rfl⟩
      clear G1 R0 R1
      go_wp2_with fail
      refine (HPC.out _).mono ?_
      rintro e w1 ⟨rfl, g1⟩
      have G2 := gr_then GG.out g1
      clear c0 c1 c2 c3 d0 d1 d2 d3 x0 x1 x2 x3 y0 y1 y2 y3 g1
      cases hq : covAt ps qs j
      · have HR := Lib.hid (each_no hlq hq)
        clear hq
        go_wp2
        go_ret
        exact ⟨by rw [HR.out]; rfl, G2⟩
      · have HC := Lib.hid hq
        clear hq
        go_wp2
        exact ⟨⟨j + 1, by omega, by go_num, G2, Lib.hid (fun k hk => by
          rcases Nat.lt_or_ge k j with h | h
          · exact HA.out k h
          · obtain rfl : k = j := by omega
            exact HC.out)⟩, by simp [intOf]; omega⟩
    · obtain rfl : j = n := by omega
      have HR := Lib.hid (each_yes (ps := ps) (qs := qs) (by rw [HN.out, HM.out]) (fun i hi => HA.out i (by rw [← HN.out]; exact hi)))
      go_wp2
      go_ret
      exact ⟨by rw [HR.out]; rfl, Gj⟩
set_option maxRecDepth 100000 in
theorem eq_nil_some (w : World) (g o c : Nat) (qs : List Pc) (h : 0 < qs.length) : EqF (.slice none 0 0) (.slice (some ⟨g, o, none⟩) qs.length c) w (eachD [] qs) := by
  unfold EqF
  have HE := Lib.hid (each_len (ps := []) (qs := qs) (by simp only [List.length_nil]; omega))
  generalize qs.length = m at *
  have hl1 : ¬ (0 : Int) = (m : Int) := by omega
  go_enter Tryd.func61, Tryd.ntmps61
  go_wp2
  go_ret
  exact ⟨by rw [HE.out]; rfl, gr_rfl w⟩
set_option maxRecDepth 100000 in
theorem eq_some_nil (w : World) (g o c : Nat) (ps : List Pc) (h : 0 < ps.length) : EqF (.slice (some ⟨g, o, none⟩) ps.length c) (.slice none 0 0) w (eachD ps []) := by
  unfold EqF
  have HE := Lib.hid (each_len (ps := ps) (qs := []) (by simp only [List.length_nil]; omega))
  generalize ps.length = m at *
  have hl1 : ¬ (m : Int) = 0 := by omega
  go_enter Tryd.func61, Tryd.ntmps61
  go_wp2
  go_ret
  exact ⟨by rw [HE.out]; rfl, gr_rfl w⟩
set_option maxRecDepth 100000 in
theorem eq_zero (w : World) (v u : Value) (hv : v = .slice none 0 0 ∨ ∃ a c, v = .slice a 0 c) (hu : u = .slice none 0 0 ∨ ∃ a c, u = .slice a 0 c) : EqF v u w true := by
  obtain ⟨a, c, rfl⟩ : ∃ a c, v = .slice a 0 c := by rcases hv with h | h; exact ⟨_, _, h⟩; exact h
  obtain ⟨a', c', rfl⟩ : ∃ a c, u = .slice a 0 c := by rcases hu with h | h; exact ⟨_, _, h⟩; exact h
  clear hv hu
  unfold EqF
  go_enter Tryd.func61, Tryd.ntmps61
  go_wp2_with fail
  go_loopw [17] (fun i wr => i = .int .i64 0 ∧ w = wr) (fun _ _ => 0)
  case atStart => exact ⟨rfl, rfl⟩
  case round =>
    obtain ⟨rfl, rfl⟩ := hrel
    go_wp2
    go_ret
    exact ⟨rfl, gr_rfl w⟩
theorem eq_any (w : World) (v u : Value) (ps qs : List Pc) (hp : Pcs w v ps) (hq : Pcs w u qs) (hn : ps.length ≤ 1000000) (hsz : ∀ q ∈ qs, q.t.size ≤ 1000)
    (hz : ∀ p ∈ ps, ∀ q ∈ qs, p.k = 0 → q.k = 0 → p.a = q.a ∧ p.b = q.b) : EqF v u w (eachD ps qs) := by
  rcases hp with ⟨rfl, rfl⟩ | ⟨g, o, c, rfl, hb, hp⟩
  · rcases hq with ⟨rfl, rfl⟩ | ⟨g', o', c', rfl, hb', hq⟩
    · exact eq_zero w _ _ (.inl rfl) (.inl rfl)
    · rcases Nat.eq_zero_or_pos qs.length with h | h
      · obtain rfl := List.eq_nil_of_length_eq_zero h
        exact eq_zero w _ _ (.inl rfl) (.inr ⟨_, _, rfl⟩)
      · exact eq_nil_some w g' o' c' qs h
  · rcases hq with ⟨rfl, rfl⟩ | ⟨g', o', c', rfl, hb', hq⟩
    · rcases Nat.eq_zero_or_pos ps.length with h | h
      · obtain rfl := List.eq_nil_of_length_eq_zero h
        exact eq_zero w _ _ (.inr ⟨_, _, rfl⟩) (.inl rfl)
      · exact eq_some_nil w g o c ps h
    · exact eq_some w g o c g' o' c' ps qs hb hp hb' hq hn hsz hz
set_option maxRecDepth 100000 in
theorem peach_any (w : World) (v u : Value) (ps qs : List Pc) (hp : Pcs w v ps) (hq : Pcs w u qs) (hn : ps.length ≤ 1000000) (hsz : ∀ q ∈ qs, q.t.size ≤ 1000)
    (hz : ∀ p ∈ ps, ∀ q ∈ qs, p.k = 0 → q.k = 0 → p.a = q.a ∧ p.b = q.b) : Calls Tryd.prog 46 #[v, u] w fun e w' => e = .returned (.bool (eachD ps qs)) ∧ w.grownBy w' none := by
  have hw := eq_any w v u ps qs hp hq hn hsz hz
  unfold EqF at hw
  have HW := Lib.hid hw
  clear hw hp hq hn hsz hz
  go_enter Tryd.func46, Tryd.ntmps46
  go_wp2_with fail
  refine HW.out.mono ?_
  rintro e w1 ⟨rfl, g1⟩
  go_wp2
  go_ret
  exact ⟨rfl, g1⟩
end Go.Proofs.YtgkegbcdiadkdaaDoor
namespace Go.Proofs.YtgkegbcdiadkdaaDoor
open Go.RowKit Go.Shelf Pt
attribute [local go_sem] Oper.semAt_some

theorem infoI : (Tryd.prog.info? 3).map (fun i => (i.zero, i.size, i.bytes)) = some (some (.int .i64 0), 1, 8) := by kernel_rfl
abbrev ppt (g : Nat) : Value := .pointer (some ⟨g, 0, none⟩)
/-- The box of the table and the table. -/
structure GI (w W : World) (B G L : Nat) (f : Nat → Int) : Prop where
  box : Row W B [.slice (some ⟨G, 0, none⟩) (L + 1) (L + 1)] 22
  tab : Row W G (tabC f L) 3
  gr : w.grownBy W none
  bg : G < B
  lo : w.heap.size ≤ G
theorem GI.grown {w W W' : World} {B G L : Nat} {f : Nat → Int} (h : GI w W B G L f) (hg : W.grownBy W' none) : GI w W' B G L f :=
  ⟨h.box.kept hg, h.tab.kept hg, gr_then h.gr hg, h.bg, h.lo⟩
theorem GI.set {w W : World} {B G L : Nat} {f : Nat → Int} (h : GI w W B G L f) (e : Nat) (z : Int) : GI w (W.setCell ⟨G, e, none⟩ (.int .i64 z)) B G L (fun j => if j = e then z else f j) :=
  ⟨h.box.other (by have := h.bg; omega), by rw [← tab_set]; exact h.tab.set e _, gr_setn h.gr h.lo, h.bg, h.lo⟩
theorem GI.congr {w W : World} {B G L : Nat} {f g : Nat → Int} (h : GI w W B G L f) (hfg : ∀ j, j ≤ L → f j = g j) : GI w W B G L g :=
  ⟨h.box, by rw [← tab_congr hfg]; exact h.tab, h.gr, h.bg, h.lo⟩

/-- The greatest of what the places hold that have come. -/
def fm {L : Nat} (f : Nat → Int) (pre : List (Upto L)) : Int := pre.foldl (fun acc x => max acc (f x.1)) (-1)
theorem fm_snoc {L : Nat} {f : Nat → Int} {pre : List (Upto L)} {x : Upto L} : fm f (pre ++ [x]) = max (fm f pre) (f x.1) := by
  unfold fm; rw [List.foldl_append]; rfl
theorem fm_ends {L : Nat} {f : Nat → Int} {p : Pc} {ps : List Pc} {s : List UInt8} {e : Nat} {ys : List (Upto L)} (h : ys.map (·.1) = endsL p s e) (hf : ∀ m, e ≤ m → f m = gr ps s m) : fm f ys = gr (p :: ps) s e := by
  rw [gr_cons, ← h, List.foldl_map]
  unfold fm
  have key : ∀ (l : List (Upto L)) (a : Int), (∀ x ∈ l, f x.1 = gr ps s x.1) → l.foldl (fun acc x => max acc (f x.1)) a = l.foldl (fun acc x => max acc (gr ps s x.1)) a := by
    intro l
    induction l with
    | nil => intro a _; rfl
    | cons x l ih => intro a hl; rw [List.foldl_cons, List.foldl_cons, hl x (by simp)]; exact ih _ (fun y hy => hl y (by simp [hy]))
  exact key ys _ fun x hx => hf x.1 (stp_le (mem_endsL.1 (by rw [← h]; exact List.mem_map_of_mem (f := (·.1)) hx))).1
theorem Row.own {W W' : World} {row : Option Nat} {b : Nat} {cs : List Value} {t : TypeId} (h : Row W b cs t) (hg : W.grownBy W' row) (hr : ∀ r, row = some r → ∃ o : Obj, W.heap[r]? = some o ∧ o.isCells = false) : Row W' b cs t := by
  refine (hg.block b (Array.getElem?_eq_some_iff.1 h).1 ?_).trans h
  intro e
  obtain ⟨o, ho, hc⟩ := hr b e.symm
  unfold Row at h
  rw [h] at ho
  obtain rfl := Option.some.inj ho
  simp [Obj.isCells] at hc
theorem Row.below {w W : World} {b n : Nat} {cs : List Value} {t : TypeId} (h : Row w b cs t) (hb : Below n w W) (hn : b < n) : Row W b cs t := by
  unfold Row at *; rw [hb.block b hn]; exact h
theorem gr_below2 {w W0 W : World} {n : Nat} (h : w.grownBy W0 none) (hb : Below n W0 W) (hn : w.heap.size ≤ n) : w.grownBy W none :=
  ⟨hb.os.trans h.os, hb.tape.trans h.tape, hb.output.trans h.output, Nat.le_trans h.size hb.size, fun k hk _ => (hb.block k (by omega)).trans (h.block k hk (by simp))⟩
theorem right_ab {k a b : Int} {t : ByteArray} (h : rightP k a b t = true) : 0 ≤ a ∧ a ≤ 1000 ∧ b ≤ 1000 ∧ 0 ≤ b := by
  unfold rightP at h
  by_cases hk : k = 0
  · rw [if_pos hk] at h
    simp only [Bool.and_eq_true, decide_eq_true_eq] at h
    omega
  · rw [if_neg hk] at h
    simp only [Bool.and_eq_true, decide_eq_true_eq] at h
    omega
set_option maxRecDepth 100000 in
set_option maxHeartbeats 2000000 in
theorem great_at (a0 : Option Addr) (g o c : Nat) (ps : List Pc) (s : ByteArray) (w : World) (hp : ps.length = 0 ∨ (a0 = some ⟨g, o, none⟩ ∧ g < w.heap.size ∧ PcsAt w g o ps)) (hn : ps.length ≤ 1000000) (hs : s.size ≤ 1000) (hr : ∀ q ∈ ps, rightP q.k q.a q.b q.t = true) (hsz : ∀ q ∈ ps, q.t.size ≤ 1000) :
    Calls Tryd.prog 41 #[.slice a0 ps.length c, .string s] w fun e w' => ∃ G, e = .returned (.slice (some ⟨G, 0, none⟩) (s.size + 1) (s.size + 1)) ∧ Row w' G (tabC (gr ps s.data.toList) s.size) 3 ∧ w.grownBy w' none ∧ w.heap.size ≤ G := by
  obtain ⟨i0, hi, hz0, hz1, hz2⟩ := info_parts infoI
  obtain ⟨L, hL⟩ : ∃ L, s.size = L := ⟨_, rfl⟩
  obtain ⟨n, hnn⟩ : ∃ n, ps.length = n := ⟨_, rfl⟩
  have HL := Lib.hid hL
  have HN := Lib.hid hnn
  have HP := Lib.hid hp
  have HR := Lib.hid hr
  have HS := Lib.hid hsz
  rw [hL] at hs ⊢
  rw [hnn] at hn ⊢
  obtain ⟨w1, hmk, hown, hg1⟩ := run_make_full (P := Tryd.prog) w 0 22 3 i0 (.int .i64 0) 1 Tryd.underlying22 hi hz0 hz1 .i64 .i64 (L + 1) (by rw [hz2]; omega) (by unfold maxLen; omega) (Nat.zero_le _)
  rw [show ((L + 1 : Nat) : Int) = (L : Int) + 1 from rfl] at hmk
  have HT := Lib.hid (tab_made hown)
  have HG1 := Lib.hid hg1
  obtain ⟨G, hG⟩ : ∃ G, w.heap.size = G := ⟨_, rfl⟩
  have hG1 : G < w1.heap.size := by rw [← hG]; exact HT.out.lt
  have HGG := Lib.hid hG
  rw [hG] at hmk HT
  clear hown hnn hp hr hsz hg1 hG
  refine (callsIn_wide (n := 5)).1 ?_
  refine callsIn_of_wp_marks Tryd.func41 rfl trivial ?_ rfl
  simp only [Tryd.ntmps41, List.size_toArray, List.length_cons, List.length_nil, Nat.reduceAdd, Nat.reduceSub, Array.replicate_succ, Array.replicate_zero, List.push_toArray, List.append_toArray, List.nil_append, List.cons_append]
  gi_wp2
  have hI0 : GI w (w1.alloc (.cells #[.slice (some ⟨G, 0, none⟩) (L + 1) (L + 1)] 22)) w1.heap.size G L (fun _ => 0) :=
    ⟨Row.new w1 [_] _, HT.out.al, gr_then HG1.out (gr_alloc _ _ _), hG1, by rw [HGG.out]; exact Nat.le_refl _⟩
  obtain ⟨B, hB⟩ : ∃ B, w1.heap.size = B := ⟨_, rfl⟩
  rw [hB] at hI0 ⊢
  obtain ⟨W0, hW0⟩ : ∃ W0, w1.alloc (.cells #[.slice (some ⟨G, 0, none⟩) (L + 1) (L + 1)] 22) = W0 := ⟨_, rfl⟩
  rw [hW0] at hI0 ⊢
  have HI0 := Lib.hid hI0
  clear hI0 hW0 hmk HT HG1 hG1 hi hz0 hz1 hz2 hB
  gi_loopw [18] (fun i wr => ∃ j : Nat, j ≤ L + 1 ∧ i = .int .i64 (j : Int) ∧ Hid (GI w wr B G L (fun k => if k < j then (k : Int) else 0))) (fun i _ => L + 1 - (intOf i).toNat)
  case atStart => exact ⟨0, Nat.zero_le _, rfl, HI0⟩
  case round =>
    obtain ⟨j, hj, rfl, HI⟩ := hrel
    have c1 := HI.out.box.cell 0 _ rfl
    by_cases hlt : j ≤ L
    · have c2 := HI.out.tab.cell j _ (tab_get hlt)
      have c3 := HI.out.tab.fr j
      have hj1 : (j : Int) < (L : Int) + 1 := by omega
      gi_wp2
      refine ⟨⟨j + 1, by omega, by simp, Lib.hid ((HI.out.set j _).congr fun k hk => ?_)⟩, ?_⟩
      · by_cases h1 : k = j
        · rw [if_pos h1, if_pos (by omega), h1]
        · rw [if_neg h1]
          by_cases h2 : k < j
          · rw [if_pos h2, if_pos (by omega)]
          · rw [if_neg h2, if_neg (by omega)]
      · simp only [intOf]; omega
    · have hj1 : ¬ (j : Int) < (L : Int) + 1 := by omega
      obtain rfl : j = L + 1 := by omega
      have HI2 : Hid (GI w wr B G L (gr (ps.drop (n - 0)) s.data.toList)) := Lib.hid (HI.out.congr fun k hk => by
        rw [if_pos (by omega), Nat.sub_zero, ← HN.out, List.drop_length]; rfl)
      clear HI HI0 hlt hj hj1
      gi_wp2
      refine wpIn_loop (fun a' w' => ∃ (ds : List Deferred) (u7 u8 u9 u10 u28 u29 u30 u31 u32 u33 u34 u35 u36 u37 u38 u39 u40 u41 u42 u43 u44 u45 u46 u47 u48 u49 u50 u51 u52 u53 u54 u55 u56 u57 u58 u59 u60 : Value), (∃ i : Nat, i ≤ n ∧ u28 = .int .i64 (i : Int) ∧ Hid (GI w w' B G L (gr (ps.drop (n - i)) s.data.toList)) ∧ Hid (Marks G w' ds)) ∧ a' = { tmps := #[.slice a0 n c, .string s, undef, undef, .slice none 0 0, .pointer (some ⟨B, 0, none⟩), u6, u7, u8, u9, u10, undef, .string s, .int .i64 (L : Int), .int .i64 ((L : Int) + 1), .slice (some ⟨G, 0, none⟩) (L + 1) (L + 1), .slice (some ⟨G, 0, none⟩) (L + 1) (L + 1), .int .i64 ((L : Int) + 1), .int .i64 ((L + 1 : Nat) : Int), .bool false, u20, u21, u22, u23, u24, u25, .slice a0 n c, .int .i64 (n : Int), u28, u29, u30, u31, u32, u33, u34, u35, u36, u37, u38, u39, u40, u41, u42, u43, u44, u45, u46, u47, u48, u49, u50, u51, u52, u53, u54, u55, u56, u57, u58, u59, u60, undef], defers := ds }) (fun a' _ => n - (intOf (a'.tmps.getD 28 undef)).toNat) ?_ ?_
      · exact ⟨[], _, _, _, _, _, _, _, _, _, _, _, _, _, _, _, _, _, _, _, _, _, _, _, _, _, _, _, _, _, _, _, _, _, _, _, _, _, ⟨0, Nat.zero_le _, rfl, HI2, Lib.hid trivial⟩, rfl⟩
      clear HI2 c1
      rintro _ w2 ⟨ds, u7, u8, u9, u10, u28, u29, u30, u31, u32, u33, u34, u35, u36, u37, u38, u39, u40, u41, u42, u43, u44, u45, u46, u47, u48, u49, u50, u51, u52, u53, u54, u55, u56, u57, u58, u59, u60, ⟨i, hi, rfl, HI, HM⟩, rfl⟩
      have c1 := HI.out.box.cell 0 _ rfl
      by_cases hlt : i < n
      · have hlti : (i : Int) < (n : Int) := by omega
        obtain ⟨m, hm⟩ : ∃ m, n = i + 1 + m := ⟨n - (i + 1), by omega⟩
        have hx : (n : Int) - 1 - (i : Int) = (m : Int) := by omega
        have hmn : (m : Int) < (n : Int) := by omega
        have hml : m < ps.length := by rw [HN.out]; omega
        have HQS := Lib.hid (show ps.drop (n - i - 1) = ps[m] :: ps.drop (n - i) from by
          rw [show n - i - 1 = m from by omega, show n - i = m + 1 from by omega]; exact List.drop_eq_getElem_cons hml)
        have HRQ := Lib.hid (HR.out ps[m] (List.getElem_mem hml))
        have HSQ := Lib.hid (HS.out ps[m] (List.getElem_mem hml))
        obtain ⟨rfl, hb, hp⟩ : a0 = some ⟨g, o, none⟩ ∧ g < w.heap.size ∧ PcsAt w g o ps := by
          rcases HP.out with h | h
          · rw [HN.out] at h; omega
          · exact h
        have HPM := Lib.hid (hp m hml)
        obtain ⟨p0, p1, p2, p3⟩ := cells4 hb HI.out.gr HPM.out
        have HMN := Lib.hid hm
        clear HPM hm hp
        generalize ps[m] = q at *
        clear HP HR HS
        obtain ⟨q0, q1, q2, q3⟩ := q
        simp only at p0 p1 p2 p3
        have hIa := HI.out.grown (gr_alloc w2 (.cells #[.int .i64 q0, .int .i64 q1, .int .i64 q2, .string q3] 31) none)
        have hPa := Row.new w2 [.int .i64 q0, .int .i64 q1, .int .i64 q2, .string q3] 31
        have HMa := Lib.hid (HM.out.grown (gr_alloc w2 (.cells #[.int .i64 q0, .int .i64 q1, .int .i64 q2, .string q3] 31) none))
        have c2 := hIa.box.cell 0 _ rfl
        obtain ⟨P, hP⟩ : ∃ P, w2.heap.size = P := ⟨_, rfl⟩
        obtain ⟨qs, hqs⟩ : ∃ qs, ps.drop (n - i) = qs := ⟨_, rfl⟩
        have HPP := Lib.hid (And.intro hP (And.intro hqs hi))
        have HGP := Lib.hid (show G < P from by have := HI.out.box.lt; have := HI.out.bg; omega)
        rw [hqs] at HQS hIa
        rw [hP] at hPa
        have HIa := Lib.hid hIa
        have HPa := Lib.hid hPa
        clear hIa hPa hqs hi HI HM
        gi_wp2
        obtain ⟨wa, hwa⟩ : ∃ wa, w2.alloc (.cells #[.int .i64 q0, .int .i64 q1, .int .i64 q2, .string q3] 31) = wa := ⟨_, rfl⟩
        rw [hwa] at HIa HPa HMa c2 ⊢
        clear hP hwa c1 p0 p1 p2 p3 hx hmn hml hlti
        refine wpIn_loop (fun a' w' => ∃ (ds : List Deferred) (u9 u10 u41 u42 u43 u44 u45 u46 u47 u48 u49 u50 u51 u52 u53 u54 u55 u56 u57 u58 u59 : Value), (∃ e : Nat, e ≤ L + 1 ∧ u41 = .int .i64 (e : Int) ∧ Hid (GI w w' B G L (fun j => if j < e then gr (⟨q0, q1, q2, q3⟩ :: qs) s.data.toList j else gr qs s.data.toList j)) ∧ Hid (Marks G w' ds) ∧ Hid (Row w' P [.int .i64 q0, .int .i64 q1, .int .i64 q2, .string q3] 31)) ∧ a' = { tmps := #[.slice (some ⟨g, o, none⟩) n c, .string s, undef, undef, .slice none 0 0, .pointer (some ⟨B, 0, none⟩), u6, .int .i64 (i : Int), .pointer (some ⟨P, 0, none⟩), u9, u10, undef, .string s, .int .i64 (L : Int), .int .i64 ((L : Int) + 1), .slice (some ⟨G, 0, none⟩) (L + 1) (L + 1), .slice (some ⟨G, 0, none⟩) (L + 1) (L + 1), .int .i64 ((L : Int) + 1), .int .i64 ((L : Int) + 1), .bool false, u20, u21, u22, u23, u24, u25, .slice (some ⟨g, o, none⟩) n c, .int .i64 (n : Int), .int .i64 (i : Int), .bool true, .int .i64 (i : Int), .slice (some ⟨g, o, none⟩) n c, .slice (some ⟨g, o, none⟩) n c, .int .i64 (n : Int), .int .i64 ((n : Int) - 1), .int .i64 (i : Int), .int .i64 (m : Int), .pointer (some ⟨g, o + m * 4, none⟩), .agg #[.int .i64 q0, .int .i64 q1, .int .i64 q2, .string q3], .slice (some ⟨G, 0, none⟩) (L + 1) (L + 1), .int .i64 ((L : Int) + 1), u41, u42, u43, u44, u45, u46, u47, u48, u49, u50, u51, u52, u53, u54, u55, u56, u57, u58, u59, u60, undef], defers := ds }) (fun a' _ => L + 1 - (intOf (a'.tmps.getD 41 undef)).toNat) ?_ ?_
        · exact ⟨ds, _, _, _, _, _, _, _, _, _, _, _, _, _, _, _, _, _, _, _, _, _, ⟨0, Nat.zero_le _, rfl, Lib.hid (HIa.out.congr fun j _ => by rw [if_neg (by omega)]), HMa, HPa⟩, rfl⟩
        clear HIa HPa HMa c2
        rintro _ w3 ⟨ds, u9, u10, u41, u42, u43, u44, u45, u46, u47, u48, u49, u50, u51, u52, u53, u54, u55, u56, u57, u58, u59, ⟨e, he, rfl, HI, HM, HPC⟩, rfl⟩
        have c1 := HI.out.box.cell 0 _ rfl
        obtain ⟨p0, p1, p2, p3⟩ := And.intro (HPC.out.cell 0 _ rfl) (And.intro (HPC.out.cell 1 _ rfl) (And.intro (HPC.out.cell 2 _ rfl) (HPC.out.cell 3 _ rfl)))
        by_cases hle : e ≤ L
        · have hle1 : (e : Int) < (L : Int) + 1 := by omega
          obtain ⟨wb, hwb⟩ : ∃ wb, w3.alloc (.cells #[.int .i64 (-1)] 3) = wb := ⟨_, rfl⟩
          have gb : w3.grownBy wb none := by rw [← hwb]; exact gr_alloc _ _ _
          have HLb := Lib.hid (show Row wb w3.heap.size [.int .i64 (-1)] 3 from by rw [← hwb]; exact Row.new w3 [_] _)
          have HIb := Lib.hid (HI.out.grown gb)
          have HMb := Lib.hid (HM.out.grown gb)
          have HPb := Lib.hid (HPC.out.kept gb)
          have HEN := Lib.hid (endsOf_any q0 q1 q2 q3 s e)
          obtain ⟨Q, hQ⟩ : ∃ Q, w3.heap.size = Q := ⟨_, rfl⟩
          have hQb : wb.heap.size = Q + 1 := by rw [← hwb, World.size_alloc, hQ]
          have HGb := Lib.hid gb
          obtain ⟨b0, b1, b2, b3⟩ := And.intro (HPb.out.cell 0 _ rfl) (And.intro (HPb.out.cell 1 _ rfl) (And.intro (HPb.out.cell 2 _ rfl) (HPb.out.cell 3 _ rfl)))
          clear gb c1 p0 p1 p2 p3
          rw [hQ] at HLb
          gi_wp2
          refine ⟨trivial, (callsIn_wide.2 (HEN.out wb)).mono ?_⟩
          rintro e' w' ⟨rfl, rfl⟩
          rw [hQb]
          clear HEN b0 b1 b2 b3
          obtain ⟨W0, hW0⟩ : ∃ W0, ((wb.alloc (.cells #[.int .i64 q0, .int .i64 q1, .int .i64 q2, .string q3] 31)).alloc (.cells #[.string s] 9)).alloc (.cells #[.int .i64 (e : Int)] 3) = W0 := ⟨_, rfl⟩
          have hsz0 : W0.heap.size = Q + 4 := by rw [← hW0]; simp [hQb]
          have g0 : wb.grownBy W0 none := by rw [← hW0]; exact gr_then (gr_then (gr_alloc _ _ _) (gr_alloc _ _ _)) (gr_alloc _ _ _)
          have HE4 := Lib.hid (show E4 W0 (Q + 1) ⟨q0, q1, q2, q3⟩ s e from by
            have r1 := Row.new wb [.int .i64 q0, .int .i64 q1, .int .i64 q2, .string q3] 31
            have r2 := Row.new (wb.alloc (.cells #[.int .i64 q0, .int .i64 q1, .int .i64 q2, .string q3] 31)) [.string s] 9
            have r3 := Row.new ((wb.alloc (.cells #[.int .i64 q0, .int .i64 q1, .int .i64 q2, .string q3] 31)).alloc (.cells #[.string s] 9)) [.int .i64 (e : Int)] 3
            rw [World.size_alloc] at r2
            rw [World.size_alloc, World.size_alloc] at r3
            rw [hQb] at r1 r2 r3
            have k1 := r1.kept (gr_then (gr_alloc _ (.cells #[.string s] 9) none) (gr_alloc _ (.cells #[.int .i64 (e : Int)] 3) none))
            have k2 := r2.kept (gr_alloc _ (.cells #[.int .i64 (e : Int)] 3) none)
            simp only [List.toArray] at k1 k2 r3
            rw [hW0] at k1 k2 r3
            exact ⟨k1.cell 0 _ rfl, k1.cell 1 _ rfl, k1.cell 2 _ rfl, k1.cell 3 _ rfl, k2.cell 0 _ rfl, r3.cell 0 _ rfl⟩)
          have HI0 := Lib.hid (HIb.out.grown g0)
          have HM0 := Lib.hid (HMb.out.grown g0)
          have HP0 := Lib.hid (HPb.out.kept g0)
          have HL0 := Lib.hid (HLb.out.kept g0)
          have HG0 := Lib.hid g0
          rw [hW0]
          clear hW0 g0 hwb
          gi_wp2
          have hBQ : B < Q := by have := HI.out.box.lt; omega
          have hGQ : G < Q := by have := HI.out.bg; omega
          have hGw := HGG.out
          have HEI := Lib.hid he
          have HSZ := Lib.hid hsz0
          obtain ⟨F, hF⟩ : ∃ F : Nat → Int, (fun j => if j < e then gr (⟨q0, q1, q2, q3⟩ :: qs) s.data.toList j else gr qs s.data.toList j) = F := ⟨_, rfl⟩
          have HFF := Lib.hid hF
          rw [hF] at HI0 HIb HI
          clear hF
          have hab := right_ab HRQ.out
          refine wpIn_rangeFunc_ownF rfl (by omega) (gf := 74) (lb := #[.pointer (some ⟨Q + 1, 0, none⟩), .pointer (some ⟨Q + 1 + 1, 0, none⟩), .pointer (some ⟨Q + 1 + 1 + 1, 0, none⟩)]) rfl trivial (enters_of Tryd.func74 (by kernel_rfl) rfl)
            (endsOf_stops 4 (Q + 1) ⟨q0, q1, q2, q3⟩ s e W0 HE4.out (by rw [HL.out]; exact hle) (by rw [HL.out]; omega) hab.1 hab.2.1 hab.2.2.1 hab.2.2.2 HSQ.out) KpE.trans (fun W l o o' hl ho _ _ => KpE.of_grown (grownBy_putObj' W l o') (fun b h1 h2 e1 => by cases e1; omega)) (Below.refl _ _) (fun _ => rfl)
            (fun pre W => Row W Q [.int .i64 (fm F pre)] 3 ∧ Below Q W0 W)
            (fun _ _ _ => False)
            (OwnFrom.and (Own.from (fun _ _ _ _ hs hg hr => hs.own hg hr) _) (ownFrom_below (Nat.le_of_lt (by omega)) (by omega)))
            (fun _ _ _ _ _ hs _ _ => hs)
            ⟨HL0.out, Below.refl _ _⟩
            (fun x => { tmps := #[.slice (some ⟨g, o, none⟩) n c, .string s, undef, undef, .slice none 0 0, .pointer (some ⟨B, 0, none⟩), u6, .int .i64 (i : Int), .pointer (some ⟨P, 0, none⟩), .int .i64 (e : Int), .pointer (some ⟨Q, 0, none⟩), .int .i64 (x.1 : Int), .string s, .int .i64 (L : Int), .int .i64 ((L : Int) + 1), .slice (some ⟨G, 0, none⟩) (L + 1) (L + 1), .slice (some ⟨G, 0, none⟩) (L + 1) (L + 1), .int .i64 ((L : Int) + 1), .int .i64 ((L : Int) + 1), .bool false, u20, u21, u22, u23, u24, u25, .slice (some ⟨g, o, none⟩) n c, .int .i64 (n : Int), .int .i64 (i : Int), .bool true, .int .i64 (i : Int), .slice (some ⟨g, o, none⟩) n c, .slice (some ⟨g, o, none⟩) n c, .int .i64 (n : Int), .int .i64 ((n : Int) - 1), .int .i64 (i : Int), .int .i64 (m : Int), .pointer (some ⟨g, o + m * 4, none⟩), .agg #[.int .i64 q0, .int .i64 q1, .int .i64 q2, .string q3], .slice (some ⟨G, 0, none⟩) (L + 1) (L + 1), .int .i64 ((L : Int) + 1), .int .i64 (e : Int), .bool true, .int .i64 (e : Int), .agg #[.int .i64 q0, .int .i64 q1, .int .i64 q2, .string q3], .string s, .int .i64 (e : Int), .func (.func 74) #[] #[.pointer (some ⟨Q + 1, 0, none⟩), .pointer (some ⟨Q + 1 + 1, 0, none⟩), .pointer (some ⟨Q + 1 + 1 + 1, 0, none⟩)], .int .i64 (x.1 : Int), u49, u50, u51, u52, u53, u54, u55, u56, u57, u58, u59, u60, undef], defers := [] }) ?assign ?body ?done ?stop
          case assign =>
            intro l x W K hK
            gi_wp2
            exact hK
          case body =>
            rintro l pre ⟨x, hx⟩ W ⟨hR, hBl⟩ hlt2
            have hxL : x ≤ L := by rw [← HL.out]; exact hx
            have hxL1 : (x : Int) < (L : Int) + 1 := by omega
            have d1 : W.cell? ⟨B, 0, none⟩ = some (.slice (some ⟨G, 0, none⟩) (L + 1) (L + 1)) := by rw [hBl.cell (p := ⟨B, 0, none⟩) hBQ]; exact HI0.out.box.cell 0 _ rfl
            have d2 : W.cell? ⟨G, x, none⟩ = some (.int .i64 (F x)) := by rw [hBl.cell (p := ⟨G, x, none⟩) hGQ]; exact HI0.out.tab.cell x _ (tab_get hxL)
            have d3 := hR.cell 0 _ rfl
            have d4 := hR.fr 0
            have HRR := Lib.hid hR
            have HBL := Lib.hid hBl
            clear hR hBl
            have HFIN := Lib.hid (show KeepsOthers W (W.setCell ⟨Q, 0, none⟩ (.int .i64 (max (fm F pre) (F x)))).drew ∧ KpE (Q + 1) W (W.setCell ⟨Q, 0, none⟩ (.int .i64 (max (fm F pre) (F x)))).drew ∧ Row (W.setCell ⟨Q, 0, none⟩ (.int .i64 (max (fm F pre) (F x)))).drew Q [.int .i64 (fm F (pre ++ [⟨x, hx⟩]))] 3 ∧ Below Q W0 (W.setCell ⟨Q, 0, none⟩ (.int .i64 (max (fm F pre) (F x)))).drew from by
              refine ⟨(KeepsOthers.setCell _ _ _).trans (KeepsOthers.drew _), KpE.trans (KpE.of_grown (gr_set _ _ _ _) (fun b h1 h2 e1 => by cases e1; omega)) (KpE.of_grown (gr_drewN _ 1 none) (fun _ _ _ => by simp)), ?_, (HBL.out.setCell (p := ⟨Q, 0, none⟩) (Nat.le_refl _) _).drew⟩
              rw [fm_snoc]
              exact (HRR.out.set 0 _).dr)
            have hmx : Tryd.prog.follows .mixedOrders = true := by kernel_rfl
            gi_wp2
            gi_region_with_o (fail)
            all_goals gi_wp2
            all_goals exact HFIN.out
          case done =>
            rintro D ys W hD hys ⟨hR, hBl⟩ hK
            have hfm : fm F ys = gr (⟨q0, q1, q2, q3⟩ :: qs) s.data.toList e := fm_ends hys fun m1 hm1 => by rw [← HFF.out]; exact if_neg (by omega)
            rw [hfm] at hR
            have d1 : W.cell? ⟨B, 0, none⟩ = some (.slice (some ⟨G, 0, none⟩) (L + 1) (L + 1)) := by rw [hBl.cell (p := ⟨B, 0, none⟩) hBQ]; exact HI0.out.box.cell 0 _ rfl
            have HIW := Lib.hid (show GI w W B G L F from ⟨HI0.out.box.below hBl hBQ, HI0.out.tab.below hBl hGQ, gr_below2 HI0.out.gr hBl (by omega), HI0.out.bg, HI0.out.lo⟩)
            have HMW := Lib.hid (Marks.cons (D := D) (HM.out.of_blocks fun k h1 h2 _ => by
              have h3 := (Array.getElem?_eq_some_iff.1 h2).1
              rw [hQ] at h3
              rw [hBl.block k h3, (gr_then HGb.out HG0.out).block k (by rw [hQ]; exact h3) (by simp)]) (by omega) hK (fun d hd e1 => by
                obtain ⟨D', h1, _, h3⟩ := HM.out.mem hd
                have h4 := (Array.getElem?_eq_some_iff.1 h3).1
                rw [h1] at e1
                cases e1
                omega))
            have HPW := Lib.hid (HP0.out.below hBl (by have := HPC.out.lt; omega))
            have d2 := HIW.out.tab.fr e
            have d3 := hR.cell 0 _ rfl
            have d4 := HIW.out.tab.cell e _ (tab_get hle)
            clear hR hBl hfm hys hK
            gi_wp2
            refine ⟨?_, by simp only [intOf]; simp; omega⟩
            (repeat apply Exists.intro)
            refine ⟨?_, rfl⟩
            refine ⟨e + 1, by omega, by simp, Lib.hid ((HIW.out.set e _).congr fun j _ => ?_), Lib.hid (HMW.out.set HIW.out.tab), Lib.hid (HPW.out.other (by have := HGP.out; omega))⟩
            rw [← HFF.out]
            dsimp only
            by_cases h1 : j = e
            · subst h1; rw [if_pos rfl, if_pos (by omega)]
            · rw [if_neg h1]
              by_cases h2 : j < e
              · rw [if_pos h2, if_pos (by omega)]
              · rw [if_neg h2, if_neg (by omega)]
          case stop =>
            rintro D c pre W _ _ h _
            exact h.elim
        · have hle1 : ¬ (e : Int) < (L : Int) + 1 := by omega
          obtain rfl : e = L + 1 := by omega
          have HI' := Lib.hid (show GI w w3 B G L (gr (ps.drop (n - (i + 1))) s.data.toList) from by
            rw [show n - (i + 1) = n - i - 1 from by omega, HQS.out]
            exact HI.out.congr fun j hj => by rw [if_pos (by omega)])
          clear HI HPC p0 p1 p2 p3 hle hle1
          gi_wp2
          refine ⟨?_, by simp only [intOf]; simp; omega⟩
          (repeat apply Exists.intro)
          refine ⟨?_, rfl⟩
          exact ⟨i + 1, by omega, by simp, HI', HM⟩
      · obtain rfl : i = n := by omega
        have HT := Lib.hid (show Row w2 G (tabC (gr ps s.data.toList) L) 3 from by
          have := HI.out.tab
          rwa [Nat.sub_self, List.drop_zero] at this)
        have hlti : ¬ (i : Int) < (i : Int) := by omega
        clear hlt hlti
        gi_wp2
        refine leaves_marks (lo := G) (by rw [HGG.out]; exact Nat.le_refl _) ds w2 HM.out HI.out.gr fun W' hg' hr' => ?_
        exact ⟨_, results_tmp rfl _ _ _, G, rfl, hr' _ _ _ HT.out, hg', Nat.le_of_eq HGG.out⟩
theorem great_any (v : Value) (ps : List Pc) (s : ByteArray) (w : World) (hp : Pcs w v ps) (hn : ps.length ≤ 1000000) (hs : s.size ≤ 1000) (hr : ∀ q ∈ ps, rightP q.k q.a q.b q.t = true) (hsz : ∀ q ∈ ps, q.t.size ≤ 1000) :
    Calls Tryd.prog 41 #[v, .string s] w fun e w' => ∃ G, e = .returned (.slice (some ⟨G, 0, none⟩) (s.size + 1) (s.size + 1)) ∧ Row w' G (tabC (gr ps s.data.toList) s.size) 3 ∧ w.grownBy w' none ∧ w.heap.size ≤ G := by
  rcases hp with ⟨rfl, rfl⟩ | ⟨g, o, c, rfl, hb, hp⟩
  · exact great_at none 0 0 0 [] s w (.inl rfl) hn hs hr hsz
  · exact great_at _ g o c ps s w (.inr ⟨rfl, hb, hp⟩) hn hs hr hsz
end Go.Proofs.YtgkegbcdiadkdaaDoor
namespace Go.Proofs.YtgkegbcdiadkdaaDoor
open Go.RowKit Pt

theorem len_le {k a b : Int} {t : ByteArray} (hr : rightP k a b t = true) (hs : t.size ≤ 1000) : (0 ≤ lenD k a t ∧ lenD k a t ≤ 1000) ∧ 0 ≤ lenD k b t ∧ lenD k b t ≤ 1000 := by
  unfold rightP at hr
  unfold lenD
  by_cases hk : k = 0
  · rw [if_pos hk, if_pos hk]; omega
  · rw [if_neg hk, if_neg hk]
    rw [if_neg hk, Bool.and_eq_true, decide_eq_true_eq] at hr
    omega
theorem least_next {qs : List Pc} {j : Nat} (h : j < qs.length) : leastL (qs.take (j + 1)) = leastL (qs.take j) + lenD qs[j].k qs[j].a qs[j].t := by
  unfold leastL
  rw [← List.take_append_getElem h, List.foldl_append]; rfl
theorem most_next {qs : List Pc} {j : Nat} (h : j < qs.length) : mostL (qs.take (j + 1)) = mostL (qs.take j) + lenD qs[j].k qs[j].b qs[j].t := by
  unfold mostL
  rw [← List.take_append_getElem h, List.foldl_append]; rfl
/-- One run covers all pieces. -/
def allCov (p : Pc) (qs : List Pc) : Bool := decide (p.k ≠ 0) && (qs.all (fun q => staysD q.k q.t p.k) && (decide (p.a ≤ leastL qs) && decide (min (mostL qs) 200 ≤ p.b)))
theorem allCov_lit {p : Pc} {qs : List Pc} (h : p.k = 0) : allCov p qs = false := by unfold allCov; rw [h]; rfl
theorem allCov_no {p : Pc} {qs : List Pc} {j : Nat} (h : j < qs.length) (hs : staysD qs[j].k qs[j].t p.k = false) : allCov p qs = false := by
  unfold allCov
  rw [show qs.all (fun q => staysD q.k q.t p.k) = false from Bool.eq_false_iff.2 fun ha => by
    rw [List.all_eq_true] at ha
    have := ha _ (List.getElem_mem h)
    rw [hs] at this; cases this]
  simp
theorem allCov_yes {p : Pc} {qs : List Pc} (hk : p.k ≠ 0) (hs : ∀ i (h : i < qs.length), staysD qs[i].k qs[i].t p.k = true) : allCov p qs = (decide (p.a ≤ leastL qs) && decide (min (mostL qs) 200 ≤ p.b)) := by
  unfold allCov
  rw [decide_eq_true hk, show qs.all (fun q => staysD q.k q.t p.k) = true from List.all_eq_true.2 fun q hq => by
    obtain ⟨i, hi, rfl⟩ := List.getElem_of_mem hq
    exact hs i hi]
  rfl
set_option maxRecDepth 100000 in
set_option maxHeartbeats 8000000 in
theorem all_some (w : World) (g o c g' o' c' : Nat) (p : Pc) (qs : List Pc) (hb : g < w.heap.size) (hp : PcsAt w g o [p]) (hb' : g' < w.heap.size) (hq : PcsAt w g' o' qs) (hn : qs.length ≤ 1000000) (hsz : ∀ q ∈ qs, q.t.size ≤ 1000)
    (hr : ∀ q ∈ qs, rightP q.k q.a q.b q.t = true) : Calls Tryd.prog 47 #[.slice (some ⟨g, o, none⟩) 1 c, .slice (some ⟨g', o', none⟩) qs.length c'] w fun e w' => e = .returned (.bool (allCov p qs)) ∧ w.grownBy w' none := by
  obtain ⟨n, hnn⟩ : ∃ n, qs.length = n := ⟨_, rfl⟩
  have HN := Lib.hid hnn
  have HP := Lib.hid (hp 0 (by simp))
  have HQ := Lib.hid hq
  have HSZ := Lib.hid hsz
  have HRR := Lib.hid hr
  have HLIT := Lib.hid (fun (h : p.k = 0) => allCov_lit (qs := qs) h)
  have HNO := Lib.hid (fun (j : Nat) (h : j < qs.length) (hs : staysD qs[j].k qs[j].t p.k = false) => allCov_no (p := p) h hs)
  have HYES := Lib.hid (fun (hk : p.k ≠ 0) hs => allCov_yes (p := p) (qs := qs) hk hs)
  rw [hnn] at hn ⊢
  generalize allCov p qs = R at *
  obtain ⟨p0, p1, p2, p3⟩ := p
  obtain ⟨c0, c1, c2, c3⟩ := HP.out
  simp only [List.getElem_cons_zero, Nat.zero_mul, Nat.add_zero] at c0 c1 c2 c3
  have HC := Lib.hid (And.intro c0 (And.intro c1 (And.intro c2 c3)))
  have HPL := Lib.hid (plit_any p0 p1 p2 p3)
  clear hnn hp hsz hr hq HP
  go_enter Tryd.func47, Tryd.ntmps47
  go_wp2_with fail
  refine (HPL.out _).mono ?_
  rintro e w1 ⟨rfl, g1⟩
  clear c0 c1 c2 c3
  cases hk : (p0 == 0)
  case true =>
    have hk0 : p0 = 0 := by simpa using hk
    have HL := Lib.hid (HLIT.out hk0)
    clear hk hk0
    go_wp2
    go_ret
    exact ⟨by rw [HL.out]; rfl, g1⟩
  have HK := Lib.hid (show p0 ≠ 0 from by simpa using hk)
  clear hk
  go_wp2_with fail
  go_loopw [5, 6, 22] (fun a b i wr => ∃ j : Nat, j ≤ n ∧ i = .int .i64 (j : Int) ∧ a = .int .i64 (leastL (qs.take j)) ∧ b = .int .i64 (mostL (qs.take j)) ∧ (0 ≤ leastL (qs.take j) ∧ leastL (qs.take j) ≤ 1000 * (j : Int)) ∧ (0 ≤ mostL (qs.take j) ∧ mostL (qs.take j) ≤ 1000 * (j : Int)) ∧ w.grownBy wr none ∧ Hid (∀ k (h : k < qs.length), k < j → staysD qs[k].k qs[k].t p0 = true)) (fun _ _ i _ => n - (intOf i).toNat)
  case atStart => exact ⟨0, Nat.zero_le _, rfl, rfl, rfl, ⟨Int.le_refl _, Int.le_refl _⟩, ⟨Int.le_refl _, Int.le_refl _⟩, g1, Lib.hid (fun k h h' => by omega)⟩
  case round =>
    clear g1
    obtain ⟨j, hj, rfl, rfl, rfl, hA, hB, Gj, HA⟩ := hrel
    by_cases hlt : j < n
    · have hlr : j < qs.length := by rw [HN.out]; exact hlt
      have hb1 : (j : Int) < (n : Int) := by omega
      have hk1 : (j : Int) + 1 ≤ 9223372036854775807 := by omega
      have hl := len_le (HRR.out _ (List.getElem_mem hlr)) (HSZ.out _ (List.getElem_mem hlr))
      have hst := HSZ.out _ (List.getElem_mem hlr)
      have HNX := Lib.hid (And.intro (least_next hlr) (most_next hlr))
      have hno := HNO.out j hlr
      have hha := fun h => HA.out j hlr h
      have HPS := Lib.hid (fun w => pstays_any qs[j].k qs[j].a qs[j].b qs[j].t p0 w (by omega))
      have HLN := Lib.hid (plen_any qs[j].k qs[j].a qs[j].b qs[j].t)
      have HNO2 := Lib.hid hno
      have HST := Lib.hid (fun (h : staysD qs[j].k qs[j].t p0 = true) (k : Nat) (hk : k < qs.length) (hkj : k < j + 1) => show staysD qs[k].k qs[k].t p0 = true from by
        rcases Nat.lt_or_ge k j with h' | h'
        · exact HA.out k hk h'
        · obtain rfl : k = j := by omega
          exact h)
      obtain ⟨d0, d1, d2, d3⟩ := (HQ.out.kept hb' Gj) j hlr
      clear hno hha hst
      generalize qs[j].k = qk at *
      generalize qs[j].a = qa at *
      generalize qs[j].b = qb at *
      generalize qs[j].t = qt at *
      have hgr : g < wr.heap.size := Nat.lt_of_lt_of_le hb Gj.size
      obtain ⟨c0, c1, c2, c3⟩ := cells4 hgr (gr_alloc wr (.cells ([.int .i64 qk, .int .i64 qa, .int .i64 qb, .string qt] : List Value).toArray 31) none) (cells4 hb Gj HC.out)
      have R0 := Row.new wr [.int .i64 qk, .int .i64 qa, .int .i64 qb, .string qt] 31
      have G0 := gr_al (o := .cells ([.int .i64 qk, .int .i64 qa, .int .i64 qb, .string qt] : List Value).toArray 31) Gj
      obtain ⟨x0, x1, x2, x3⟩ : _ ∧ _ ∧ _ ∧ _ := ⟨R0.cell 0 _ rfl, R0.cell 1 _ rfl, R0.cell 2 _ rfl, R0.cell 3 _ rfl⟩
      have hsz0 := (gr_alloc wr (.cells ([.int .i64 qk, .int .i64 qa, .int .i64 qb, .string qt] : List Value).toArray 31) none)
      go_wp2_with fail
      go_region_with (go_at_call 63; refine (HPS.out _).mono ?_; rintro e w2 ⟨rfl, g2⟩)
      all_goals
        have R2 := R0.dr.kept g2
        have G2 := gr_then (gr_dr G0) g2
        have z0 := R2.cell 0 _ rfl
        have z1 := R2.cell 1 _ rfl
        have z2 := R2.cell 2 _ rfl
        have z3 := R2.cell 3 _ rfl
        clear c0 c1 c2 c3 x0 x1 x2 x3 d0 d1 d2 d3 R0 G0 g2 hsz0 hk1 hb1
        cases hs : staysD qk qt p0
        · have HR := Lib.hid (HNO2.out hs)
          clear hs z0 z1 z2 z3
          go_wp2_with fail
          go_ret
          exact ⟨by rw [HR.out]; rfl, G2⟩
        · have HS := Lib.hid (HST.out hs)
          clear hs
          go_wp2_with fail
          refine (HLN.out _).mono ?_
          rintro e w3 ⟨rfl, g3⟩
          have G3 := gr_then G2 g3
          clear z0 z1 z2 z3 R2 G2 g3
          have h1 := HNX.out.1
          have h2 := HNX.out.2
          have HX := Lib.hid (And.intro h1 h2)
          clear h1 h2
          generalize lenD qk qa qt = la at *
          generalize lenD qk qb qt = lb at *
          obtain ⟨⟨a0, a1⟩, b0, b1⟩ := hl
          obtain ⟨A, eA⟩ : ∃ A, leastL (qs.take j) = A := ⟨_, rfl⟩
          obtain ⟨B, eB⟩ : ∃ B, mostL (qs.take j) = B := ⟨_, rfl⟩
          rw [eA] at hA ⊢
          rw [eB] at hB ⊢
          have HE := Lib.hid (And.intro eA eB)
          clear eA eB
          have hA0 := hA.1
          have hB0 := hB.1
          have hA1 : A ≤ 1000000000 := by omega
          have hB1 : B ≤ 1000000000 := by omega
          have HAB := Lib.hid (And.intro hA hB)
          clear hA hB
          obtain ⟨J, hJ⟩ : ∃ J, (j : Int) = J := ⟨_, rfl⟩
          have hJ0 : 0 ≤ J := by omega
          have hJ1 : J + 1 ≤ 9223372036854775807 := by omega
          rw [hJ]
          have HJ := Lib.hid hJ
          clear hJ
          go_wp2
          exact ⟨⟨j + 1, by omega, by rw [← HJ.out]; go_num, by rw [HX.out.1, HE.out.1], by rw [HX.out.2, HE.out.2], by have := HAB.out; rw [HX.out.1, HE.out.1]; omega, by have := HAB.out; rw [HX.out.2, HE.out.2]; omega, G3, Lib.hid HS.out⟩, by have hq := HJ.out; simp only [intOf]; omega⟩
    · obtain rfl : j = n := by omega
      have hfull : qs.take j = qs := List.take_of_length_le (by rw [HN.out]; exact Nat.le_refl _)
      rw [hfull] at hA hB ⊢
      have HY := Lib.hid (HYES.out HK.out (fun i hi => HA.out i hi (by rw [← HN.out]; exact hi)))
      obtain ⟨c0, c1, c2, c3⟩ := cells4 hb Gj HC.out
      generalize leastL qs = A at *
      generalize mostL qs = B at *
      by_cases h1 : p1 ≤ A
      · go_wp2
        go_ret
        exact ⟨by rw [HY.out, decide_eq_true h1]; rfl, Gj⟩
      · go_wp2
        go_ret
        exact ⟨by rw [HY.out, decide_eq_false (by omega : ¬ p1 ≤ A)]; rfl, Gj⟩
end Go.Proofs.YtgkegbcdiadkdaaDoor
