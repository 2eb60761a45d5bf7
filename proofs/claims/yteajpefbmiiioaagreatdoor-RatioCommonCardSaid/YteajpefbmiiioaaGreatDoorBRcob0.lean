/- The law of the claim at the level of the call, and its row: Rcg, Rch, Rci, Rck, Rcl, RowQ, RowL, RclRow. -/
import Derived.Test.YteajpefbmiiioaaGreatDoorBRcoa0
import Derived.Deep.Upon
namespace Go.Proofs.YteajpefbmiiioaaGreatDoor
open Go.RowKit Mth Go.Lib

/-- A list of right numbers: nil where there is none. -/
def ListOf (v : Value) (w : World) (qs : List Rat) : Prop := (v = .slice none 0 0 ∧ qs = []) ∨ ∃ g c, v = .slice (some ⟨g, 0, none⟩) qs.length c ∧ Rats w g 0 qs
theorem ListOf.kept {v : Value} {w w1 : World} {qs : List Rat} (h : ListOf v w qs) (hg : w.grownBy w1 none) : ListOf v w1 qs := by
  rcases h with h | ⟨g, c, h1, h2⟩
  · exact .inl h
  · exact .inr ⟨g, c, h1, h2.kept hg⟩
theorem NatsOf.kept {v : Value} {w w1 : World} {ns : List Nat} (h : NatsOf v w ns) (hg : w.grownBy w1 none) : NatsOf v w1 ns := by
  rcases h with h | ⟨g, c, h1, h2⟩
  · exact .inl h
  · exact .inr ⟨g, c, h1, h2.kept hg⟩
/-- The cells of a list of numbers. -/
def ratV (qs : List Rat) : List Value := qs.flatMap fun q => [.bool (decide (q.num < 0)), .string (S q.num.natAbs), .string (S q.den)]
theorem ratV_snoc (qs : List Rat) (q : Rat) : ratV (qs ++ [q]) = ratV qs ++ [.bool (decide (q.num < 0)), .string (S q.num.natAbs), .string (S q.den)] := by simp [ratV]
theorem ratV_len (qs : List Rat) : (ratV qs).length = qs.length * 3 := by
  induction qs with
  | nil => rfl
  | cons q l ih => show ([_, _, _] ++ ratV l).length = _; rw [List.length_append, ih, List.length_cons]; simp; omega
theorem ratV_get : ∀ (qs : List Rat) (i : Nat) (h : i < qs.length), (ratV qs)[i * 3]? = some (.bool (decide (qs[i].num < 0))) ∧ (ratV qs)[i * 3 + 1]? = some (.string (S qs[i].num.natAbs)) ∧ (ratV qs)[i * 3 + 2]? = some (.string (S qs[i].den))
  | [], i, h => absurd h (by simp)
  | q :: l, 0, _ => ⟨rfl, rfl, rfl⟩
  | q :: l, i + 1, h => by
    have ih := ratV_get l i (by simpa using h)
    have e : ratV (q :: l) = .bool (decide (q.num < 0)) :: .string (S q.num.natAbs) :: .string (S q.den) :: ratV l := rfl
    rw [e, show (i + 1) * 3 = i * 3 + 3 from by omega, show i * 3 + 3 + 1 = i * 3 + 1 + 3 from by omega, show i * 3 + 3 + 2 = i * 3 + 2 + 3 from by omega]
    exact ih
theorem ratV_one (qs : List Rat) : ∀ u ∈ ratV qs, u.oneCell' = true := by
  intro u hu
  unfold ratV at hu
  rw [List.mem_flatMap] at hu
  obtain ⟨q, _, hq⟩ := hu
  simp only [List.mem_cons, List.not_mem_nil, or_false] at hq
  rcases hq with rfl | rfl | rfl <;> rfl
theorem addr0 (g i : Nat) : (⟨g, 0, none⟩ : Addr).add i = ⟨g, i, none⟩ := by simp [Addr.add]; exact fun h => h.symm
theorem rats_cells {w : World} {g : Nat} {cs : List Value} {qs : List Rat} {rest : List Value} (hcs : cs = ratV qs ++ rest) (h : ∀ j u, cs[j]? = some u → w.cell? ((⟨g, 0, none⟩ : Addr).add j) = some u) : Rats w g 0 qs := by
  intro i hi
  obtain ⟨h0, h1, h2⟩ := ratV_get qs i hi
  have hl := ratV_len qs
  have get : ∀ j u, j < qs.length * 3 → (ratV qs)[j]? = some u → w.cell? ⟨g, 0 + j, none⟩ = some u := by
    intro j u hj hu
    have := h j u (by rw [hcs, List.getElem?_append_left (by omega)]; exact hu)
    rw [addr0] at this
    rw [Nat.zero_add]; exact this
  refine ⟨get _ _ (by omega) h0, ?_, ?_⟩
  · have := get _ _ (by omega) h1
    rwa [← Nat.add_assoc] at this
  · have := get _ _ (by omega) h2
    rwa [← Nat.add_assoc] at this
theorem listOf_own {w : World} {base : Nat} {v : Value} {qs : List Rat} (h : w.ownsRow base 49 3 v qs.length (ratV qs)) : ListOf v w qs := by
  rcases h.2 with ⟨h1, h2⟩ | ⟨g, cap, cur, h1, _⟩
  · refine .inl ⟨h1, ?_⟩
    cases qs with
    | nil => rfl
    | cons a l => simp at h2
  · exact .inr ⟨g, cap, h1, rats_cells (rest := []) (by simp) (h.cells (g := g) (by rw [h1]; rfl))⟩
/-- Same of lists that hold the same. -/
theorem rsame_zero (p p' : Option Addr) (c c' : Nat) (w : World) : Gives 63 #[.slice p 0 c, .slice p' 0 c'] w (.bool true) := by
  go_enter Tryz.func63, Tryz.ntmps63
  go_wp2
  go_loopw [5] (fun u wr => u = .int .i64 0 ∧ wr = w) (fun _ _ => 0)
  case atStart => exact ⟨rfl, rfl⟩
  case round =>
    obtain ⟨rfl, rfl⟩ := hrel
    go_wp2
    go_ret
    exact ⟨rfl, gr_rfl _⟩
theorem rsame_of {v v' : Value} {ns : List Nat} {w : World} (h : NatsOf v w ns) (h' : NatsOf v' w ns) (hn : ns.length ≤ 1000000) : Gives 63 #[v, v'] w (.bool true) := by
  rcases h with ⟨rfl, rfl⟩ | ⟨g, c, rfl, h1⟩
  · rcases h' with ⟨rfl, _⟩ | ⟨g', c', rfl, _⟩
    · exact rsame_zero _ _ _ _ w
    · exact rsame_zero _ _ _ _ w
  · rcases h' with ⟨rfl, rfl⟩ | ⟨g', c', rfl, h2⟩
    · exact rsame_zero _ _ _ _ w
    · exact rsamen_some g 0 c g' 0 c' ns w h1 h2 hn
/-- Cells of triples of numbers. -/
def Trip (w : World) (b o n : Nat) (F : Nat → Int × Int × Int) : Prop := ∀ i, i < n → w.cell? ⟨b, o + i * 3, none⟩ = some (.int .i64 (F i).1) ∧ w.cell? ⟨b, o + i * 3 + 1, none⟩ = some (.int .i64 (F i).2.1) ∧ w.cell? ⟨b, o + i * 3 + 2, none⟩ = some (.int .i64 (F i).2.2)
theorem Trip.kept {w w1 : World} {b o n : Nat} {F : Nat → Int × Int × Int} (h : Trip w b o n F) (hg : w.grownBy w1 none) : Trip w1 b o n F := fun i hi => by
  obtain ⟨h0, h1, h2⟩ := h i hi
  exact ⟨hg.cell h0 (by simp), hg.cell h1 (by simp), hg.cell h2 (by simp)⟩
def I64 (z : Int) : Prop := -9223372036854775808 ≤ z ∧ z ≤ 9223372036854775807
theorem rlist_zero (p : Option Addr) (c : Nat) (w : World) : Gives 60 #[.slice p 0 c] w (.slice none 0 0) := by
  go_enter Tryz.func60, Tryz.ntmps60
  go_wp2
  go_loopw [3, 4] (fun v u wr => v = .slice none 0 0 ∧ u = .int .i64 0 ∧ wr = w) (fun _ _ _ => 0)
  case atStart => exact ⟨rfl, rfl, rfl⟩
  case round =>
    obtain ⟨rfl, rfl, rfl⟩ := hrel
    go_wp2
    go_ret
    exact ⟨rfl, gr_rfl _⟩
set_option maxHeartbeats 4000000 in
set_option maxRecDepth 100000 in
theorem rlist_any (b o n c : Nat) (F : Nat → Int × Int × Int) (w : World) (h : Trip w b o n F) (hF : ∀ i, i < n → I64 (F i).1 ∧ I64 (F i).2.1 ∧ I64 (F i).2.2) (_hn : n ≤ 9223372036854775807) :
    Calls Tryz.prog 60 #[.slice (some ⟨b, o, none⟩) n c] w fun e w' => ∃ v, e = .returned v ∧ ∃ qs, ListOf v w' qs ∧ (∀ q ∈ qs, Bd 16 q) ∧ qs.length ≤ 12 ∧ w.grownBy w' none := by
  have HR := Lib.hid h
  have HF := Lib.hid hF
  clear h hF
  go_enter Tryz.func60, Tryz.ntmps60
  go_wp2
  go_loopw [3, 4] (fun v u wr => ∃ qs : List Rat, qs.length ≤ n ∧ qs.length ≤ 12 ∧ u = .int .i64 (qs.length : Int) ∧ wr.ownsRow w.heap.size 49 3 v qs.length (ratV qs) ∧ (∀ q ∈ qs, Bd 16 q) ∧ w.grownBy wr none) (fun _ u _ => n - (RowKit.intOf u).toNat)
  case atStart => exact ⟨[], by simp, by simp, rfl, World.ownsRow_nil _ _ _ _, by simp, gr_rfl _⟩
  case round =>
    obtain ⟨qs, hq1, hq2, rfl, hown, hbd, G1⟩ := hrel
    have HOWN := Lib.hid hown
    have HBD := Lib.hid hbd
    clear hown hbd
    obtain ⟨j, hj⟩ : ∃ j, qs.length = j := ⟨_, rfl⟩
    have HJ := Lib.hid hj
    rw [hj] at hq1 hq2 ⊢
    clear hj
    by_cases hlt : j < n
    · have hb1 : (j : Int) < (n : Int) := by omega
      by_cases h12 : j < 12
      · have hb2 : (j : Int) < 12 := by omega
        obtain ⟨c0, c1, c2⟩ := HR.out.kept G1 j hlt
        obtain ⟨i0, i1, i2⟩ := HF.out j hlt
        obtain ⟨q, bq, mq⟩ := madeq_any (F j).1 (F j).2.1 (F j).2.2 i0 i1 i2
        unfold MadeQ at mq
        unfold RV RW at mq
        have HQ := Lib.hid mq
        have HBQ := Lib.hid bq
        clear mq bq i0 i1 i2
        generalize (F j).1 = f0 at *
        generalize (F j).2.1 = f1 at *
        generalize (F j).2.2 = f2 at *
        have hk1 : (j : Int) + 1 ≤ 9223372036854775807 := by omega
        go_wp2_with fail
        refine (HQ.out _).mono ?_
        rintro e w2 ⟨rfl, g2⟩
        have G2 := gr_then G1 g2
        have ho2 : w2.ownsRow w.heap.size 49 3 u3 j (ratV qs) := by rw [← HJ.out]; exact HOWN.out.kept g2 (by cases Value.ownBlock u3 <;> simp)
        obtain ⟨v', w6, hap, hown6, G6⟩ := app_rat w w2 u3 j (ratV qs) (decide (q.num < 0)) (S q.num.natAbs) (S q.den) ho2 (by omega) G2
        have HO6 := Lib.hid hown6
        clear hown6 ho2 g2 G2 c0 c1 c2
        go_wp2_with (at_builtin; refine wpList_call_append rfl (.tmp 15) (.tmp 21) 64 rfl _ _ rfl rfl _ _ hap ?_)
        exact ⟨⟨qs ++ [q], by simp; have := HJ.out; omega, by simp; have := HJ.out; omega, by simp [HJ.out], by
          rw [ratV_snoc, List.length_append, HJ.out]; exact HO6.out, by
          intro p hp
          rcases List.mem_append.1 hp with hp | hp
          · exact HBD.out p hp
          · simp only [List.mem_cons, List.not_mem_nil, or_false] at hp; subst hp; exact HBQ.out, G6⟩, by simp [RowKit.intOf]; omega⟩
      · have hb2 : ¬ (j : Int) < 12 := by omega
        have HG := Lib.hid G1
        clear G1
        go_wp2
        go_ret
        exact ⟨_, rfl, qs, listOf_own HOWN.out, HBD.out, by have := HJ.out; omega, HG.out⟩
    · have hb1 : ¬ (j : Int) < (n : Int) := by omega
      have HG := Lib.hid G1
      clear G1
      go_wp2
      go_ret
      exact ⟨_, rfl, qs, listOf_own (by rw [HJ.out]; have := HOWN.out; rw [HJ.out] at this; exact this), HBD.out, by have := HJ.out; omega, HG.out⟩
end Go.Proofs.YteajpefbmiiioaaGreatDoor
namespace Go.Proofs.YteajpefbmiiioaaGreatDoor
open Go.RowKit Mth Go.Lib

/-- The absolute value. -/
def absQ (q : Rat) : Rat := { num := (q.num.natAbs : Int), den := q.den, den_nz := q.den_nz, reduced := by simpa using q.reduced }
theorem absQ_rv (q : Rat) : RV (absQ q) = RW false q.num.natAbs q.den := by
  unfold RV absQ
  have h : decide (((q.num.natAbs : Int)) < 0) = false := by rw [decide_eq_false_iff_not]; omega
  show RW (decide (((q.num.natAbs : Int)) < 0)) (((q.num.natAbs : Int)).natAbs) q.den = _
  rw [h, Int.natAbs_natCast]
theorem absQ_neg (q : Rat) : decide ((absQ q).num < 0) = false := by
  show decide (((q.num.natAbs : Int)) < 0) = false
  rw [decide_eq_false_iff_not]; omega
theorem absQ_bd {k : Nat} {q : Rat} (h : Bd k q) : Bd k (absQ q) := by
  refine ⟨?_, h.2⟩
  show ((q.num.natAbs : Int)).natAbs < _
  rw [Int.natAbs_natCast]; exact h.1
theorem split_neg : ∀ qs : List Rat, (∀ q ∈ qs, decide (q.num < 0) = false) ∨ ∃ l p r, qs = l ++ p :: r ∧ (∀ q ∈ l, decide (q.num < 0) = false) ∧ decide (p.num < 0) = true
  | [] => .inl (by simp)
  | q :: qs => by
    cases h : decide (q.num < 0)
    · rcases split_neg qs with h2 | ⟨l, p, r, rfl, h3, h4⟩
      · refine .inl fun x hx => ?_
        rcases List.mem_cons.1 hx with rfl | hx
        · exact h
        · exact h2 x hx
      · refine .inr ⟨q :: l, p, r, rfl, fun x hx => ?_, h4⟩
        rcases List.mem_cons.1 hx with rfl | hx
        · exact h
        · exact h3 x hx
    · exact .inr ⟨[], q, qs, rfl, by simp, h⟩
/-- The list of a function's results is what Common gives. -/
def ResC (f : Nat) (v : Value) (w : World) (D : ByteArray) (o : Bool) (ns : List Nat) : Prop := Calls Tryz.prog f #[v] w fun e w2 => ∃ nv, e = .returned (.tuple #[.string D, nv, .bool o]) ∧ NatsOf nv w2 ns ∧ w.grownBy w2 none
def BothC (v : Value) (w : World) : Prop := ∃ (D : ByteArray) (o : Bool) (ns : List Nat), ns.length ≤ 1000 ∧ (∀ w', w.grownBy w' none → ResC 61 v w' D o ns) ∧ (∀ w', w.grownBy w' none → ResC 62 v w' D o ns)
theorem BothC.kept {v : Value} {w w1 : World} (h : BothC v w) (hg : w.grownBy w1 none) : BothC v w1 := by
  obtain ⟨D, o, ns, h1, h2, h3⟩ := h
  exact ⟨D, o, ns, h1, fun w' g => h2 w' (gr_then hg g), fun w' g => h3 w' (gr_then hg g)⟩
/-- Neither gives a denominator. -/
theorem resC_no {f : Nat} {v : Value} {w : World} (h : Gives f #[v] w noCommon) : ResC f v w ⟨#[]⟩ false [] := h.mono (by
  rintro e w2 ⟨rfl, hg⟩
  exact ⟨.slice none 0 0, rfl, .inl ⟨rfl, rfl⟩, hg⟩)
theorem bothC_good {v : Value} {w : World} {qs : List Rat} (h : ListOf v w qs) (hs : ∀ q ∈ qs, decide (q.num < 0) = false) (hb : ∀ q ∈ qs, Bd 16 q) (hn : qs.length ≤ 15) : BothC v w := by
  rcases h with ⟨rfl, rfl⟩ | ⟨g, c, rfl, hr⟩
  · refine ⟨S 1, true, [], by simp, fun w' _ => (commonq_nil w').mono ?_, fun w' _ => (rcommon_nil w').mono ?_⟩
    · rintro e w2 ⟨m, rfl, hg⟩
      exact ⟨_, rfl, .inr ⟨m, 0, rfl, fun _ h => absurd h (by simp)⟩, hg⟩
    · rintro e w2 ⟨rfl, hg⟩
      exact ⟨_, rfl, .inl ⟨rfl, rfl⟩, hg⟩
  · refine ⟨S (qs.foldl lcmQ 1), true, qs.map (scaleQ (qs.foldl lcmQ 1)), by rw [List.length_map]; omega, fun w' hg => (commonq_any qs 16 g 0 c w' (hr.kept hg) hs hb (by decide) (by omega)).mono ?_, fun w' hg => (rcommon_good qs 16 g c w' (hr.kept hg) hs hb (by decide) hn).mono ?_⟩
    · rintro e w2 ⟨m, rfl, hB, _, hg2⟩
      exact ⟨_, rfl, .inr ⟨m, qs.length, by rw [List.length_map], hB.nums⟩, hg2⟩
    · rintro e w2 ⟨nv, rfl, hN, hg2⟩
      exact ⟨_, rfl, hN, hg2⟩
theorem bothC_neg {v : Value} {w : World} {qs l r : List Rat} {p : Rat} (h : ListOf v w qs) (e : qs = l ++ p :: r) (hs : ∀ q ∈ l, decide (q.num < 0) = false) (hp : decide (p.num < 0) = true) (hb : ∀ q ∈ qs, Bd 16 q) (hn : qs.length ≤ 15) : BothC v w := by
  subst e
  have hlen : (l ++ p :: r).length = l.length + (r.length + 1) := by rw [List.length_append, List.length_cons]
  rcases h with ⟨_, h0⟩ | ⟨g, c, rfl, hr⟩
  · simp at h0
  · refine ⟨⟨#[]⟩, false, [], by simp, fun w' hg => resC_no (common_neg l r p 16 g c w' (hr.kept hg) hb hs hp (by decide) (by omega)), fun w' hg => resC_no ?_⟩
    have hr' := hr.kept hg
    have hgp : (l ++ p :: r)[l.length]'(by omega) = p := by simp
    obtain ⟨c0, c1, c2⟩ := hr' l.length (by omega)
    rw [hgp, Nat.zero_add] at c0 c1 c2
    rw [hp] at c0
    have hrt := fun w => rright_rv p 16 w (hb p (by simp)) (by decide)
    unfold RV RW at hrt
    rw [hp] at hrt
    exact rcommon_bad l true _ _ 16 g c _ w' (fun i hi => by
      have := hr' i (by omega)
      rwa [List.getElem_append_left hi] at this) hs (fun q hq => hb q (by simp [hq])) (by decide) (by omega) (by omega) (by omega) c0 c1 c2 (.inr ⟨hrt, rfl⟩)
theorem bothC_list {v : Value} {w : World} {qs : List Rat} (h : ListOf v w qs) (hb : ∀ q ∈ qs, Bd 16 q) (hn : qs.length ≤ 15) : BothC v w := by
  rcases split_neg qs with hs | ⟨l, p, r, e, hs, hp⟩
  · exact bothC_good h hs hb hn
  · exact bothC_neg h e hs hp hb hn
/-- A list that ends with any number. -/
theorem bothC_raw {w : World} {qs : List Rat} {g c : Nat} {a : Bool} {x y : ByteArray} (hr : Rats w g 0 qs) (hs : ∀ q ∈ qs, decide (q.num < 0) = false) (hb : ∀ q ∈ qs, Bd 16 q) (hn : qs.length ≤ 12) (hx : x.size ≤ 10) (hy : y.size ≤ 10)
    (hx0 : w.cell? ⟨g, qs.length * 3, none⟩ = some (.bool a)) (hx1 : w.cell? ⟨g, qs.length * 3 + 1, none⟩ = some (.string x)) (hx2 : w.cell? ⟨g, qs.length * 3 + 2, none⟩ = some (.string y)) : BothC (.slice (some ⟨g, 0, none⟩) (qs.length + 1) c) w := by
  rcases right_dec a x y hx hy with ⟨q, bq, hq⟩ | ⟨h1, h2⟩
  · unfold RV RW at hq
    simp only [Value.agg.injEq, Array.mk.injEq, List.cons.injEq, Value.bool.injEq, Value.string.injEq, and_true] at hq
    obtain ⟨rfl, rfl, rfl⟩ := hq
    refine bothC_list (qs := qs ++ [q]) (.inr ⟨g, c, by simp, fun i hi => ?_⟩) (fun p hp => ?_) (by simp; omega)
    · rcases Nat.lt_or_ge i qs.length with h | h
      · have := hr i h
        rwa [List.getElem_append_left h]
      · obtain rfl : i = qs.length := by simp at hi; omega
        have e : (qs ++ [q])[qs.length]'hi = q := by simp
        rw [e, Nat.zero_add]
        exact ⟨hx0, hx1, hx2⟩
    · rcases List.mem_append.1 hp with hp | hp
      · exact hb p hp
      · simp only [List.mem_cons, List.not_mem_nil, or_false] at hp; subst hp; exact bq
  · refine ⟨⟨#[]⟩, false, [], by simp, fun w' hg => resC_no (common_wrong qs a x y 16 g c w' (hr.kept hg) hb (by decide) (by omega) h1 (hg.cell hx0 (by simp)) (hg.cell hx1 (by simp)) (hg.cell hx2 (by simp))), fun w' hg => resC_no (rcommon_bad qs a x y 16 g c _ w' (hr.kept hg) hs hb (by decide) (by omega) (by omega) (by omega) (hg.cell hx0 (by simp)) (hg.cell hx1 (by simp)) (hg.cell hx2 (by simp)) (.inl h2))⟩
/-- Each denominator divides the common one. -/
theorem dvd_lcmQ (m : Nat) (q : Rat) : m ∣ lcmQ m q ∧ q.den ∣ lcmQ m q := by
  have e : lcmQ m q = Nat.lcm m q.den := by
    unfold lcmQ Nat.lcm
    rw [Nat.mul_div_assoc _ (Nat.gcd_dvd_right m q.den)]
  rw [e]
  exact ⟨Nat.dvd_lcm_left _ _, Nat.dvd_lcm_right _ _⟩
theorem dvd_fold : ∀ (qs : List Rat) (m : Nat), m ∣ qs.foldl lcmQ m ∧ ∀ q ∈ qs, q.den ∣ qs.foldl lcmQ m
  | [], m => ⟨Nat.dvd_refl _, by simp⟩
  | p :: qs, m => by
    obtain ⟨h1, h2⟩ := dvd_fold qs (lcmQ m p)
    obtain ⟨h3, h4⟩ := dvd_lcmQ m p
    refine ⟨Nat.dvd_trans h3 h1, fun q hq => ?_⟩
    rcases List.mem_cons.1 hq with rfl | hq
    · exact Nat.dvd_trans h4 h1
    · exact h2 q hq
theorem scale_back {q : Rat} {D : Nat} (h : q.den ∣ D) (hD : D ≠ 0) (hq : decide (q.num < 0) = false) : mkRat (sg false (scaleQ D q)) D = q := by
  obtain ⟨t, rfl⟩ := h
  have ht : t ≠ 0 := by rintro rfl; simp at hD
  have e1 : scaleQ (q.den * t) q = q.num.natAbs * t := by
    unfold scaleQ
    rw [Nat.mul_div_cancel_left _ q.den_pos]
  rw [e1]
  have h0 : ¬ q.num < 0 := by simpa using hq
  have e2 : sg false (q.num.natAbs * t) = q.num * (t : Int) := by
    unfold sg
    simp
    rw [Int.natAbs_of_nonneg (by omega)]
  rw [e2, Rat.mkRat_mul_right ht]
  exact Rat.mkRat_self q
end Go.Proofs.YteajpefbmiiioaaGreatDoor
namespace Go.Proofs.YteajpefbmiiioaaGreatDoor
open Go.RowKit Mth Go.Lib

theorem Three.keptS {w w1 : World} {b p : Nat} {x y z : Value} {t : TypeId} (h : Three w b x y z t) (hg : w.grownBy w1 (some p)) (hne : b ≠ p) : Three w1 b x y z t := by
  unfold Three at *
  rw [hg.block b (Array.getElem?_eq_some_iff.1 h).1 (by intro e; exact hne (by simpa using e))]; exact h
theorem Three.keptO {w w1 : World} {b : Nat} {r : Option Nat} {x y z : Value} {t : TypeId} (h : Three w b x y z t) (hg : w.grownBy w1 r) (hne : r ≠ some b) : Three w1 b x y z t := by
  unfold Three at *
  rw [hg.block b (Array.getElem?_eq_some_iff.1 h).1 (fun e => hne e.symm)]; exact h
theorem own_ne {w : World} {base : Nat} {e : TypeId} {size : Nat} {v : Value} {n b : Nat} {xs : List Value} (h : w.ownsRow base e size v n xs) (hb : w.heap.size ≤ b) : v.ownBlock ≠ some b := fun e => by
  have := (h.lt b e).2
  omega
/-- append of a list of numbers to an empty one that the call has made. -/
theorem app_list (W w1 : World) (e c : Nat) (gv : Value) (qs : List Rat) (hown : w1.ownsRow W.heap.size 49 3 (.slice (some ⟨e, 0, none⟩) 0 c) 0 []) (hl : ListOf gv w1 qs) (hn : qs.length ≤ 12) (hg : W.grownBy w1 none) :
    ∃ v' w', (Builtin.append_ #[64, 64] 64 #[.slice (some ⟨e, 0, none⟩) 0 c, gv]).run Tryz.prog w1 = .ok v' w' ∧ w'.ownsRow W.heap.size 49 3 v' qs.length (ratV qs) ∧ W.grownBy w' none ∧ (∀ b x y z t, Three w1 b x y z t → b ≠ e → Three w' b x y z t ∧ v'.ownBlock ≠ some b) := by
  obtain ⟨i0, hi, hz0, hz1, hz2⟩ := info_parts infoR
  have he : W.heap.size ≤ e := own_base hown e rfl
  rcases hl with ⟨rfl, rfl⟩ | ⟨g, c', rfl, hr⟩
  · refine ⟨.slice (some ⟨e, 0, none⟩) 0 c, w1, run_append_nothing w1 64 64 64 49 i0 Tryz.underlying64 hi _ 0 c (Nat.zero_le _) _ (Src.ofNil _ Tryz.underlying64 0), hown, hg, fun b x y z t h hne => ⟨h, fun e => hne (by simpa [Value.ownBlock] using e.symm)⟩⟩
  · obtain ⟨v', w', h1, h2, h3, _, h5⟩ := run_append_own_at (P := Tryz.prog) w1 W.heap.size 64 64 49 i0 (.agg #[.bool false, .string ⟨#[]⟩, .string ⟨#[]⟩]) 3 40 Tryz.underlying64 hi hz0 hz1 hz2 rfl (by decide) (.slice (some ⟨e, 0, none⟩) 0 c) 0 [] hown ⟨g, 0, none⟩ qs.length c' (ratV qs) (ratV_len qs) (fun j u hj => by
      rw [addr0]
      have hjl : j < qs.length * 3 := by
        have := (List.getElem?_eq_some_iff.1 hj).1
        rw [ratV_len] at this; exact this
      obtain ⟨d0, d1, d2⟩ := hr (j / 3) (by omega)
      obtain ⟨e0, e1, e2⟩ := ratV_get qs (j / 3) (by omega)
      rw [Nat.zero_add] at d0 d1 d2
      rcases (show j = j / 3 * 3 ∨ j = j / 3 * 3 + 1 ∨ j = j / 3 * 3 + 2 by omega) with h | h | h
      · rw [h, e0] at hj; rw [h]; rw [d0]; exact hj
      · rw [h, e1] at hj; rw [h]; rw [d1]; exact hj
      · rw [h, e2] at hj; rw [h]; rw [d2]; exact hj) (ratV_one qs) (by unfold maxLen; omega) (by omega) hg.size
    rw [Nat.zero_add, List.nil_append] at h2
    refine ⟨v', w', h1, h2, gr_own hg h3 (own_base hown), fun b x y z t h hne => ⟨h.keptS h3 hne, fun e => ?_⟩⟩
    have hlt := h.lt
    rcases h5 with h5 | h5
    · rw [h5] at e; exact hne (by simpa [Value.ownBlock] using e.symm)
    · rw [h5] at e; simp at e; omega
/-- append of one number that stands in a block. -/
theorem app_one (W w1 : World) (v : Value) (n r c : Nat) (xs : List Value) (a : Bool) (x y : ByteArray) (hown : w1.ownsRow W.heap.size 49 3 v n xs) (hr : Three w1 r (.bool a) (.string x) (.string y) 49) (hn : n ≤ 1000) (hg : W.grownBy w1 none) :
    ∃ v' w', (Builtin.append_ #[64, 64] 64 #[v, .slice (some ⟨r, 0, none⟩) 1 c]).run Tryz.prog w1 = .ok v' w' ∧ w'.ownsRow W.heap.size 49 3 v' (n + 1) (xs ++ [.bool a, .string x, .string y]) ∧ W.grownBy w' none ∧ (∀ b x y z t, Three w1 b x y z t → v.ownBlock ≠ some b → Three w' b x y z t ∧ v'.ownBlock ≠ some b) := by
  obtain ⟨i0, hi, hz0, hz1, hz2⟩ := info_parts infoR
  obtain ⟨v', w', h1, h2, h3, _, h5⟩ := run_append_own_at (P := Tryz.prog) w1 W.heap.size 64 64 49 i0 (.agg #[.bool false, .string ⟨#[]⟩, .string ⟨#[]⟩]) 3 40 Tryz.underlying64 hi hz0 hz1 hz2 rfl (by decide) v n xs hown ⟨r, 0, none⟩ 1 c [.bool a, .string x, .string y] rfl (fun j u hj => by
      rw [addr0]
      match j, hj with
      | 0, hj => rw [hr.c0]; exact hj
      | 1, hj => rw [hr.c1]; exact hj
      | 2, hj => rw [hr.c2]; exact hj
      | j + 3, hj => simp at hj) (by simp [Value.oneCell']) (by unfold maxLen; omega) (by omega) hg.size
  refine ⟨v', w', h1, h2, gr_own hg h3 (own_base hown), fun b x y z t h hne => ⟨h.keptO h3 hne, fun e => ?_⟩⟩
  have hlt := h.lt
  rcases h5 with h5 | h5
  · rw [h5] at e; exact hne e
  · rw [h5] at e; simp at e; omega
theorem own_new (W w : World) (h : W.grownBy w none) : (w.alloc (.cells #[] 49)).ownsRow W.heap.size 49 3 (.slice (some ⟨w.heap.size, 0, none⟩) 0 0) 0 [] := World.ownsRow_made w #[] 0 h.size (by decide) rfl
theorem own_drew {w : World} {base : Nat} {e : TypeId} {size : Nat} {v : Value} {n : Nat} {xs : List Value} (h : w.ownsRow base e size v n xs) : w.drew.ownsRow base e size v n xs := h
/-- The third list: numbers, and any number behind them. -/
theorem third_of {w : World} {base : Nat} {v : Value} {qs : List Rat} {a : Bool} {x y : ByteArray} (h : w.ownsRow base 49 3 v (qs.length + 1) (ratV qs ++ [.bool a, .string x, .string y])) :
    ∃ g c, v = .slice (some ⟨g, 0, none⟩) (qs.length + 1) c ∧ Rats w g 0 qs ∧ w.cell? ⟨g, qs.length * 3, none⟩ = some (.bool a) ∧ w.cell? ⟨g, qs.length * 3 + 1, none⟩ = some (.string x) ∧ w.cell? ⟨g, qs.length * 3 + 2, none⟩ = some (.string y) := by
  rcases h.2 with ⟨_, h2⟩ | ⟨g, cap, cur, h1, _⟩
  · omega
  · have hc := h.cells (g := g) (by rw [h1]; rfl)
    have hl := ratV_len qs
    have get : ∀ j u, (ratV qs ++ [Value.bool a, .string x, .string y])[j]? = some u → w.cell? ⟨g, j, none⟩ = some u := fun j u hu => by
      have := hc j u hu
      rwa [addr0] at this
    refine ⟨g, cap, h1, rats_cells rfl hc, get _ _ ?_, get _ _ ?_, get _ _ ?_⟩
    · rw [List.getElem?_append_right (by omega), hl, Nat.sub_self]; rfl
    · rw [List.getElem?_append_right (by omega), hl, Nat.add_sub_cancel_left]; rfl
    · rw [List.getElem?_append_right (by omega), hl, Nat.add_sub_cancel_left]; rfl
/-- The three lists, and what the third one holds. -/
def Fin3 (wf : World) (zb : Nat) (av gv v3 : Value) (qs : List Rat) (a : Bool) (x y : ByteArray) : Prop := Three wf zb av gv v3 68 ∧ ∃ g c, v3 = .slice (some ⟨g, 0, none⟩) (qs.length + 1) c ∧ Rats wf g 0 qs ∧ wf.cell? ⟨g, qs.length * 3, none⟩ = some (.bool a) ∧ wf.cell? ⟨g, qs.length * 3 + 1, none⟩ = some (.string x) ∧ wf.cell? ⟨g, qs.length * 3 + 2, none⟩ = some (.string y)
section
variable {w2 : World} {base zb : Nat} {av gv v3 o1 o2 o3 : Value} {qs : List Rat} {a : Bool} {x y : ByteArray}
theorem fin_A (h : w2.ownsRow base 49 3 v3 (qs.length + 1) (ratV qs ++ [.bool a, .string x, .string y])) : Fin3 (w2.alloc (.cells #[av, gv, v3] 68)) w2.heap.size av gv v3 qs a x y :=
  ⟨Three.new w2 av gv v3 _, third_of (h.alloc _)⟩
theorem fin_B (h : w2.ownsRow base 49 3 v3 (qs.length + 1) (ratV qs ++ [.bool a, .string x, .string y])) (hT : Three w2 zb o1 o2 o3 68) (hne : v3.ownBlock ≠ some zb) : Fin3 (((w2.setCell ⟨zb, 0, none⟩ av).setCell ⟨zb, 1, none⟩ gv).setCell ⟨zb, 2, none⟩ v3) zb av gv v3 qs a x y :=
  ⟨hT.all av gv v3, third_of (((h.kept (gr_set w2 zb 0 av) (.inr hne)).kept (gr_set _ zb 1 gv) (.inr hne)).kept (gr_set _ zb 2 v3) (.inr hne))⟩
end
end Go.Proofs.YteajpefbmiiioaaGreatDoor
namespace Go.Proofs.YteajpefbmiiioaaGreatDoor
open Go.RowKit Mth Go.Lib

/-- Three lists, of each of which both Common give the same. -/
def Lists3 (zb : Nat) (w : World) : Prop := ∀ i, i < 3 → ∃ (p : Option Addr) (n c : Nat), w.cell? ⟨zb, i, none⟩ = some (.slice p n c) ∧ BothC (.slice p n c) w
theorem Lists3.kept {zb : Nat} {w w1 : World} (h : Lists3 zb w) (hg : w.grownBy w1 none) : Lists3 zb w1 := fun i hi => by
  obtain ⟨p, n, c, h1, h2⟩ := h i hi
  exact ⟨p, n, c, hg.cell h1 (by simp), h2.kept hg⟩
theorem lists3_of {zb : Nat} {w : World} {pa pb pc : Option Addr} {na nb nc ca cb cc : Nat} (h : Three w zb (.slice pa na ca) (.slice pb nb cb) (.slice pc nc cc) 68) (h1 : BothC (.slice pa na ca) w) (h2 : BothC (.slice pb nb cb) w) (h3 : BothC (.slice pc nc cc) w) : Lists3 zb w := by
  intro i hi
  rcases (show i = 0 ∨ i = 1 ∨ i = 2 by omega) with rfl | rfl | rfl
  · exact ⟨_, _, _, h.c0, h1⟩
  · exact ⟨_, _, _, h.c1, h2⟩
  · exact ⟨_, _, _, h.c2, h3⟩
theorem common_of {v : Value} {w : World} {qs : List Rat} (h : ListOf v w qs) (hs : ∀ q ∈ qs, decide (q.num < 0) = false) (hb : ∀ q ∈ qs, Bd 16 q) (hn : qs.length ≤ 15) :
    Calls Tryz.prog 61 #[v] w fun e w' => ∃ m, e = .returned (.tuple #[.string (S (qs.foldl lcmQ 1)), .slice (some ⟨m, 0, none⟩) qs.length qs.length, .bool true]) ∧ Nums w' m 0 (qs.map (scaleQ (qs.foldl lcmQ 1))) ∧ w.grownBy w' none := by
  rcases h with ⟨rfl, rfl⟩ | ⟨g, c, rfl, hr⟩
  · refine (commonq_nil w).mono ?_
    rintro e w2 ⟨m, rfl, hg⟩
    exact ⟨m, rfl, fun _ h => absurd h (by simp), hg⟩
  · refine (commonq_any qs 16 g 0 c w hr hs hb (by decide) (by omega)).mono ?_
    rintro e w2 ⟨m, rfl, hB, _, hg⟩
    exact ⟨m, rfl, hB.nums, hg⟩
theorem sum_of {v : Value} {w : World} {qs : List Rat} (h : ListOf v w qs) (hb : ∀ q ∈ qs, Bd 16 q) (hn : qs.length ≤ 12) : Gives 59 #[v] w (RV (qs.foldl (· + ·) 0)) := by
  rcases h with ⟨rfl, rfl⟩ | ⟨g, c, rfl, hr⟩
  · exact sumlist_nil w
  · exact sumlist_any qs 16 g 0 c w hr hb (by omega) (by decide) (by omega)
/-- Make gives the number back. -/
theorem make_back (qs : List Rat) (i : Nat) (hi : i < qs.length) (w : World) (hs : ∀ q ∈ qs, decide (q.num < 0) = false) (hb : ∀ q ∈ qs, Bd 16 q) (hn : qs.length ≤ 12) :
    Gives 53 #[.bool false, .string (S (scaleQ (qs.foldl lcmQ 1) qs[i])), .string (S (qs.foldl lcmQ 1))] w (.tuple #[RV qs[i], .bool true]) := by
  have hm : qs[i] ∈ qs := List.getElem_mem hi
  have hD := fold_lt qs 1 1 (by decide) hb
  have hp := fold_pos qs 1 (by decide)
  have hd := (dvd_fold qs 1).2 _ hm
  have h1 : qs.foldl lcmQ 1 < 256 ^ 209 := lt_le256 (k := 209) hD (by omega)
  have h2 : scaleQ (qs.foldl lcmQ 1) qs[i] < 256 ^ (16 + 209) := lt_mul256 (hb _ hm).1 (Nat.lt_of_le_of_lt (Nat.div_le_self _ _) h1)
  have := make_yes false (scaleQ (qs.foldl lcmQ 1) qs[i]) (qs.foldl lcmQ 1) 225 w (by omega) h2 (lt_le256 (k := 225) h1 (by decide)) (by decide)
  rw [scale_back hd (by omega) (hs _ hm)] at this
  exact this
theorem add_next (qs : List Rat) (i : Nat) (hi : i < qs.length) (w : World) (hb : ∀ q ∈ qs, Bd 16 q) (hn : qs.length ≤ 12) :
    Gives 41 #[RV ((qs.take i).foldl (· + ·) 0), RV qs[i]] w (RV ((qs.take (i + 1)).foldl (· + ·) 0)) := by
  have h0 : Bd 1 (0 : Rat) := bd1 (by decide) (by decide)
  have h1 := bd_fold (k := 16) (qs.take i) 0 1 h0 (fun q hq => hb q (List.mem_of_mem_take hq))
  have hl : (qs.take i).length ≤ 12 := by rw [List.length_take]; omega
  have h2 : Bd 220 ((qs.take i).foldl (· + ·) 0) := bd_mono h1 (by omega)
  have := addq_any _ qs[i] 220 w h2 (bd_mono (hb _ (List.getElem_mem hi)) (by decide)) (by decide)
  rw [show (qs.take i).foldl (· + ·) 0 + qs[i] = (qs.take (i + 1)).foldl (· + ·) 0 from by rw [← List.take_append_getElem hi, List.foldl_append]; rfl] at this
  exact this
/-- An argument that is a list of triples of numbers. -/
def ListArg (W : World) (lv : Value) : Prop := ∃ (p : Option Addr) (n c : Nat), lv = .slice p n c ∧ (n = 0 ∨ ∃ (b o : Nat) (F : Nat → Int × Int × Int), p = some ⟨b, o, none⟩ ∧ Trip W b o n F ∧ (∀ i, i < n → I64 (F i).1 ∧ I64 (F i).2.1 ∧ I64 (F i).2.2) ∧ n ≤ 9223372036854775807)
theorem rlist_of {W w : World} {lv : Value} (h : ListArg W lv) (hg : W.grownBy w none) :
    Calls Tryz.prog 60 #[lv] w fun e w' => ∃ v, e = .returned v ∧ ∃ qs, ListOf v w' qs ∧ (∀ q ∈ qs, Bd 16 q) ∧ qs.length ≤ 12 ∧ w.grownBy w' none := by
  obtain ⟨p, n, c, rfl, rfl | ⟨b, o, F, rfl, h1, h2, h3⟩⟩ := h
  · refine (rlist_zero p c w).mono ?_
    rintro e w' ⟨rfl, g⟩
    exact ⟨_, rfl, [], .inl ⟨rfl, rfl⟩, by simp, by simp, g⟩
  · exact rlist_any b o n c F w (h1.kept hg) h2 h3
theorem listOf_slice {v : Value} {w : World} {qs : List Rat} (h : ListOf v w qs) : ∃ p c, v = .slice p qs.length c ∧ (qs.length = 0 ∨ ∃ g, p = some ⟨g, 0, none⟩ ∧ Rats w g 0 qs) := by
  rcases h with ⟨rfl, rfl⟩ | ⟨g, c, rfl, hr⟩
  · exact ⟨none, 0, rfl, .inl rfl⟩
  · exact ⟨_, c, rfl, .inr ⟨g, rfl, hr⟩⟩
theorem abs_snoc {qs : List Rat} {j : Nat} (hlt : j < qs.length) : ratV ((qs.take (j + 1)).map absQ) = ratV ((qs.take j).map absQ) ++ [.bool false, .string (S qs[j].num.natAbs), .string (S qs[j].den)] := by
  rw [← List.take_append_getElem hlt, List.map_append]
  show ratV ((qs.take j).map absQ ++ [absQ qs[j]]) = _
  rw [ratV_snoc, absQ_neg]
  rfl
end Go.Proofs.YteajpefbmiiioaaGreatDoor
namespace Go.Proofs.YteajpefbmiiioaaGreatDoor
open Go.RowKit Mth Go.Lib

set_option maxHeartbeats 16000000 in
set_option maxRecDepth 100000 in
theorem commonl_true (lv : Value) (ra : Bool) (rx ry : ByteArray) (W : World) (htab : Tab W) (hl : ListArg W lv) :
    Gives 12 #[lv, .agg #[.bool ra, .string rx, .string ry]] W (.bool true) := by
  have HS0 := Lib.hid (sanityq_true)
  have HT := Lib.hid htab
  have HL := Lib.hid hl
  clear htab hl
  have A0 := Three.new W (.bool ra) (.string rx) (.string ry) 49
  have G0 := Lib.hid (gr_al (o := .cells #[.bool ra, .string rx, .string ry] 49) (gr_rfl W))
  obtain ⟨m1, hm1⟩ : ∃ m : Nat, min rx.size 10 = m := ⟨_, rfl⟩
  obtain ⟨m2, hm2⟩ : ∃ m : Nat, min ry.size 10 = m := ⟨_, rfl⟩
  have i1 : min (rx.size : Int) 10 = (m1 : Int) := by omega
  have i2 : min (ry.size : Int) 10 = (m2 : Int) := by omega
  have i3 : (m1 : Int) ≤ (rx.size : Int) := by omega
  have i4 : (m2 : Int) ≤ (ry.size : Int) := by omega
  obtain ⟨x, hx⟩ : ∃ x, rx.extract 0 m1 = x := ⟨_, rfl⟩
  obtain ⟨y, hy⟩ : ∃ y, ry.extract 0 m2 = y := ⟨_, rfl⟩
  have HX := Lib.hid (show x.size ≤ 10 by rw [← hx, ByteArray.size_extract]; omega)
  have HY := Lib.hid (show y.size ≤ 10 by rw [← hy, ByteArray.size_extract]; omega)
  clear hm1 hm2
  go_enter Tryz.func12, Tryz.ntmps12
  go_wp2_with fail
  refine (HS0.out _ (tab_gr HT.out G0.out)).mono ?_
  rintro e w1 ⟨rfl, g1⟩
  have A1 := A0.kept g1
  have G1 := Lib.hid (gr_then G0.out g1)
  have c0 := A1.c0
  have c1 := A1.c1
  have c2 := A1.c2
  have f1 := A1.fr 1
  have f2 := A1.fr 2
  have A2 := (A1.s1 (.string x)).s2 (.string y)
  have G2 := Lib.hid (gr_setn (g := W.heap.size) (i := 2) (v := .string y) (gr_setn (g := W.heap.size) (i := 1) (v := .string x) G1.out (Nat.le_refl _)) (Nat.le_refl _))
  clear g1 A0 G0 A1
  go_wp2_with fail
  refine (rlist_of HL.out G2.out).mono ?_
  rintro e w2 ⟨av, rfl, qs, hlo, hbd, hqn, g2⟩
  have A3 := A2.kept g2
  have G3 := Lib.hid (gr_then G2.out g2)
  clear g2 A2 G2 c0 c1 c2 f1 f2 i1 i2 i3 i4 hx hy
  have HBD := Lib.hid hbd
  clear hbd
  have HLO := Lib.hid hlo
  obtain ⟨pa, ca, rfl, hpa⟩ := listOf_slice hlo
  have HPA := Lib.hid hpa
  clear hlo hpa
  obtain ⟨n, hn⟩ : ∃ n, qs.length = n := ⟨_, rfl⟩
  have HN := Lib.hid hn
  rw [hn] at hqn ⊢
  clear hn
  generalize W.heap.size = b0 at *
  go_wp2_with fail
  go_loopw [7, 8] (fun v u wr => ∃ j : Nat, j ≤ n ∧ u = .int .i64 (j : Int) ∧ wr.ownsRow w2.heap.size 49 3 v j (ratV ((qs.take j).map absQ)) ∧ w2.grownBy wr none) (fun _ u _ => n - (RowKit.intOf u).toNat)
  case atStart => exact ⟨0, Nat.zero_le _, rfl, World.ownsRow_nil _ _ _ _, gr_rfl _⟩
  case round =>
    obtain ⟨j, hj, rfl, hown, G4⟩ := hrel
    by_cases hlt : j < n
    · have hlq : j < qs.length := by rw [HN.out]; exact hlt
      have hpp := HPA.out
      rcases hpp with h0 | ⟨g, rfl, hr⟩
      · omega
      obtain ⟨c0, c1, c2⟩ := hr.kept G4 j hlq
      rw [Nat.zero_add] at c0 c1 c2
      have hb1 : (j : Int) < (n : Int) := by omega
      have hk1 : (j : Int) + 1 ≤ 9223372036854775807 := by omega
      have HSN := Lib.hid (abs_snoc hlq)
      generalize decide (qs[j].num < 0) = sg at *
      generalize S qs[j].num.natAbs = sn at *
      generalize S qs[j].den = sd at *
      have HOWN := Lib.hid hown
      clear hown hr
      have hoX := HOWN.out.alloc (.cells #[.bool false, .string sn, .string sd] 49)
      have gX : w2.grownBy (wr.alloc (.cells #[.bool false, .string sn, .string sd] 49)) none := gr_al G4
      obtain ⟨v', w6, hap, hown6, G6⟩ := app_rat w2 (wr.alloc (.cells #[.bool false, .string sn, .string sd] 49)) u7 j (ratV ((qs.take j).map absQ)) false sn sd hoX (by omega) gX
      rw [show (wr.alloc (.cells #[.bool false, .string sn, .string sd] 49)).heap.size = wr.heap.size + 1 from by simp] at hap
      have HO6 := Lib.hid hown6
      clear hown6 hoX gX G4
      go_wp2_with (at_builtin; refine wpList_call_append rfl (.tmp 55) (.tmp 57) 64 rfl _ _ rfl rfl _ _ hap ?_)
      exact ⟨⟨j + 1, by omega, by go_num, by rw [HSN.out]; exact HO6.out, G6⟩, by simp [RowKit.intOf]; omega⟩
    · obtain rfl : j = n := by omega
      have hnn := HN.out
      rw [List.take_of_length_le (by omega)] at hown
      have hgl : (qs.map absQ).length = j := by rw [List.length_map]; exact hnn
      have hgo : ListOf u7 wr (qs.map absQ) := listOf_own (by rw [hgl]; exact hown)
      have hgb : ∀ q ∈ qs.map absQ, Bd 16 q := fun q hq => by
        obtain ⟨p, hp, rfl⟩ := List.mem_map.1 hq
        exact absQ_bd (HBD.out p hp)
      have hgs : ∀ q ∈ qs.map absQ, decide (q.num < 0) = false := fun q hq => by
        obtain ⟨p, hp, rfl⟩ := List.mem_map.1 hq
        exact absQ_neg p
      have HBA := Lib.hid (bothC_list (HLO.out.kept G4) HBD.out (by omega))
      rw [hnn] at HBA
      generalize qs.map absQ = gs at *
      obtain ⟨pg, cg, hgv, hpg⟩ := listOf_slice hgo
      rw [hgl] at hgv hpg
      subst hgv
      have HGO := Lib.hid hgo
      have HPG := Lib.hid hpg
      have HGB := Lib.hid hgb
      have HGS := Lib.hid hgs
      have HGL := Lib.hid hgl
      have A4 := A3.kept G4
      have HG3W := Lib.hid (gr_then G3.out G4)
      clear hown hgo hpg hgb hgs hgl hnn HLO HPA A3 G3 G4 HBD HN
      have rw0 := A4.c0
      have rw1 := A4.c1
      have rw2 := A4.c2
      go_wp2_with fail
      go_cut [10] from 59 to 67 (fun u wx => ∃ (zb : Nat) (v3 : Value), u = .pointer (some ⟨zb, 0, none⟩) ∧ Fin3 wx zb (.slice pa j ca) (.slice pg j cg) v3 gs ra x y ∧ wr.grownBy wx none)
      case first =>
        have p1 := own_new wr wr (gr_rfl wr)
        have k1 : wr.grownBy (wr.alloc (.cells #[] 49)).drew none := gr_dr (gr_al (o := (.cells #[] 49)) (gr_rfl wr))
        obtain ⟨v1, w1a, r1, o1, g1, s1⟩ := app_list wr (wr.alloc (.cells #[] 49)).drew (wr.heap.size) 0 (.slice pg j cg) gs (own_drew (p1)) (HGO.out.kept k1) (by rw [HGL.out]; omega) k1
        have sz1 := g1.size
        have h1_0 := Three.new w1a (.bool ra) (.string x) (.string y) 49
        obtain ⟨V1_0, W1_0, R1_0, O1_0, K1_0, S1_0⟩ := app_one wr (w1a.alloc (.cells #[.bool ra, .string x, .string y] 49)) v1 gs.length (w1a.heap.size) 1 (ratV gs) ra x y ((o1).alloc (.cells #[.bool ra, .string x, .string y] 49)) (h1_0) (by rw [HGL.out]; omega) (gr_al (o := (.cells #[.bool ra, .string x, .string y] 49)) (g1))
        obtain ⟨x1_0, y1_0, e1_0, _⟩ := third_of O1_0
        rw [HGL.out] at e1_0
        subst e1_0
        have h1_1 := Three.new w1a (.bool ra) (.string x) (.string y) 49
        obtain ⟨V1_1, W1_1, R1_1, O1_1, K1_1, S1_1⟩ := app_one wr ((w1a.alloc (.cells #[.bool ra, .string x, .string y] 49)).alloc (.cells #[.slice none 0 0, .slice none 0 0, .slice none 0 0] 68)) v1 gs.length (w1a.heap.size) 1 (ratV gs) ra x y (((o1).alloc (.cells #[.bool ra, .string x, .string y] 49)).alloc (.cells #[.slice none 0 0, .slice none 0 0, .slice none 0 0] 68)) ((h1_1).alloc (.cells #[.slice none 0 0, .slice none 0 0, .slice none 0 0] 68)) (by rw [HGL.out]; omega) (gr_al (o := (.cells #[.slice none 0 0, .slice none 0 0, .slice none 0 0] 68)) (gr_al (o := (.cells #[.bool ra, .string x, .string y] 49)) (g1)))
        obtain ⟨x1_1, y1_1, e1_1, _⟩ := third_of O1_1
        rw [HGL.out] at e1_1
        subst e1_1
        have z1_1 := Three.new (w1a.alloc (.cells #[.bool ra, .string x, .string y] 49)) (.slice none 0 0) (.slice none 0 0) (.slice none 0 0) 68
        rw [show (w1a.alloc (.cells #[.bool ra, .string x, .string y] 49)).heap.size = w1a.heap.size + 1 from by simp] at z1_1
        obtain ⟨TZ1_1, NZ1_1⟩ := S1_1 _ _ _ _ _ (z1_1) (own_ne o1 (by omega))
        have h1_2 := Three.new (w1a.alloc (.cells #[.slice none 0 0, .slice none 0 0, .slice none 0 0] 68)) (.bool ra) (.string x) (.string y) 49
        rw [show (w1a.alloc (.cells #[.slice none 0 0, .slice none 0 0, .slice none 0 0] 68)).heap.size = w1a.heap.size + 1 from by simp] at h1_2
        obtain ⟨V1_2, W1_2, R1_2, O1_2, K1_2, S1_2⟩ := app_one wr ((w1a.alloc (.cells #[.slice none 0 0, .slice none 0 0, .slice none 0 0] 68)).alloc (.cells #[.bool ra, .string x, .string y] 49)) v1 gs.length (w1a.heap.size + 1) 1 (ratV gs) ra x y (((o1).alloc (.cells #[.slice none 0 0, .slice none 0 0, .slice none 0 0] 68)).alloc (.cells #[.bool ra, .string x, .string y] 49)) (h1_2) (by rw [HGL.out]; omega) (gr_al (o := (.cells #[.bool ra, .string x, .string y] 49)) (gr_al (o := (.cells #[.slice none 0 0, .slice none 0 0, .slice none 0 0] 68)) (g1)))
        obtain ⟨x1_2, y1_2, e1_2, _⟩ := third_of O1_2
        rw [HGL.out] at e1_2
        subst e1_2
        have z1_2 := Three.new w1a (.slice none 0 0) (.slice none 0 0) (.slice none 0 0) 68
        obtain ⟨TZ1_2, NZ1_2⟩ := S1_2 _ _ _ _ _ ((z1_2).alloc (.cells #[.bool ra, .string x, .string y] 49)) (own_ne o1 (by omega))
        have p2 := own_new wr wr (gr_rfl wr)
        have k2 : wr.grownBy ((wr.alloc (.cells #[] 49)).alloc (.cells #[.bool ra, .string x, .string y] 49)).drew none := gr_dr (gr_al (o := (.cells #[.bool ra, .string x, .string y] 49)) (gr_al (o := (.cells #[] 49)) (gr_rfl wr)))
        obtain ⟨v2, w2a, r2, o2, g2, s2⟩ := app_list wr ((wr.alloc (.cells #[] 49)).alloc (.cells #[.bool ra, .string x, .string y] 49)).drew (wr.heap.size) 0 (.slice pg j cg) gs (own_drew ((p2).alloc (.cells #[.bool ra, .string x, .string y] 49))) (HGO.out.kept k2) (by rw [HGL.out]; omega) k2
        have sz2 := g2.size
        have tR2 := Three.new (wr.alloc (.cells #[] 49)) (.bool ra) (.string x) (.string y) 49
        rw [show (wr.alloc (.cells #[] 49)).heap.size = wr.heap.size + 1 from by simp] at tR2
        obtain ⟨uR2, qR2⟩ := s2 _ _ _ _ _ (Three.drew (tR2)) (by omega)
        obtain ⟨V2_0, W2_0, R2_0, O2_0, K2_0, S2_0⟩ := app_one wr w2a v2 gs.length (wr.heap.size + 1) 1 (ratV gs) ra x y (o2) (uR2) (by rw [HGL.out]; omega) (g2)
        obtain ⟨x2_0, y2_0, e2_0, _⟩ := third_of O2_0
        rw [HGL.out] at e2_0
        subst e2_0
        obtain ⟨V2_1, W2_1, R2_1, O2_1, K2_1, S2_1⟩ := app_one wr (w2a.alloc (.cells #[.slice none 0 0, .slice none 0 0, .slice none 0 0] 68)) v2 gs.length (wr.heap.size + 1) 1 (ratV gs) ra x y ((o2).alloc (.cells #[.slice none 0 0, .slice none 0 0, .slice none 0 0] 68)) ((uR2).alloc (.cells #[.slice none 0 0, .slice none 0 0, .slice none 0 0] 68)) (by rw [HGL.out]; omega) (gr_al (o := (.cells #[.slice none 0 0, .slice none 0 0, .slice none 0 0] 68)) (g2))
        obtain ⟨x2_1, y2_1, e2_1, _⟩ := third_of O2_1
        rw [HGL.out] at e2_1
        subst e2_1
        have z2_1 := Three.new w2a (.slice none 0 0) (.slice none 0 0) (.slice none 0 0) 68
        obtain ⟨TZ2_1, NZ2_1⟩ := S2_1 _ _ _ _ _ (z2_1) (own_ne o2 (by omega))
        have p3 := own_new wr (wr.alloc (.cells #[.bool ra, .string x, .string y] 49)) (gr_al (o := (.cells #[.bool ra, .string x, .string y] 49)) (gr_rfl wr))
        rw [show (wr.alloc (.cells #[.bool ra, .string x, .string y] 49)).heap.size = wr.heap.size + 1 from by simp] at p3
        have k3 : wr.grownBy ((wr.alloc (.cells #[.bool ra, .string x, .string y] 49)).alloc (.cells #[] 49)).drew none := gr_dr (gr_al (o := (.cells #[] 49)) (gr_al (o := (.cells #[.bool ra, .string x, .string y] 49)) (gr_rfl wr)))
        obtain ⟨v3, w3a, r3, o3, g3, s3⟩ := app_list wr ((wr.alloc (.cells #[.bool ra, .string x, .string y] 49)).alloc (.cells #[] 49)).drew (wr.heap.size + 1) 0 (.slice pg j cg) gs (own_drew (p3)) (HGO.out.kept k3) (by rw [HGL.out]; omega) k3
        have sz3 := g3.size
        have tR3 := Three.new wr (.bool ra) (.string x) (.string y) 49
        obtain ⟨uR3, qR3⟩ := s3 _ _ _ _ _ (Three.drew ((tR3).alloc (.cells #[] 49))) (by omega)
        obtain ⟨V3_0, W3_0, R3_0, O3_0, K3_0, S3_0⟩ := app_one wr w3a v3 gs.length (wr.heap.size) 1 (ratV gs) ra x y (o3) (uR3) (by rw [HGL.out]; omega) (g3)
        obtain ⟨x3_0, y3_0, e3_0, _⟩ := third_of O3_0
        rw [HGL.out] at e3_0
        subst e3_0
        obtain ⟨V3_1, W3_1, R3_1, O3_1, K3_1, S3_1⟩ := app_one wr (w3a.alloc (.cells #[.slice none 0 0, .slice none 0 0, .slice none 0 0] 68)) v3 gs.length (wr.heap.size) 1 (ratV gs) ra x y ((o3).alloc (.cells #[.slice none 0 0, .slice none 0 0, .slice none 0 0] 68)) ((uR3).alloc (.cells #[.slice none 0 0, .slice none 0 0, .slice none 0 0] 68)) (by rw [HGL.out]; omega) (gr_al (o := (.cells #[.slice none 0 0, .slice none 0 0, .slice none 0 0] 68)) (g3))
        obtain ⟨x3_1, y3_1, e3_1, _⟩ := third_of O3_1
        rw [HGL.out] at e3_1
        subst e3_1
        have z3_1 := Three.new w3a (.slice none 0 0) (.slice none 0 0) (.slice none 0 0) 68
        obtain ⟨TZ3_1, NZ3_1⟩ := S3_1 _ _ _ _ _ (z3_1) (own_ne o3 (by omega))
        have p4 := own_new wr wr (gr_rfl wr)
        have k4 : wr.grownBy ((wr.alloc (.cells #[] 49)).alloc (.cells #[.slice none 0 0, .slice none 0 0, .slice none 0 0] 68)).drew none := gr_dr (gr_al (o := (.cells #[.slice none 0 0, .slice none 0 0, .slice none 0 0] 68)) (gr_al (o := (.cells #[] 49)) (gr_rfl wr)))
        obtain ⟨v4, w4a, r4, o4, g4, s4⟩ := app_list wr ((wr.alloc (.cells #[] 49)).alloc (.cells #[.slice none 0 0, .slice none 0 0, .slice none 0 0] 68)).drew (wr.heap.size) 0 (.slice pg j cg) gs (own_drew ((p4).alloc (.cells #[.slice none 0 0, .slice none 0 0, .slice none 0 0] 68))) (HGO.out.kept k4) (by rw [HGL.out]; omega) k4
        have sz4 := g4.size
        have tZ4 := Three.new (wr.alloc (.cells #[] 49)) (.slice none 0 0) (.slice none 0 0) (.slice none 0 0) 68
        rw [show (wr.alloc (.cells #[] 49)).heap.size = wr.heap.size + 1 from by simp] at tZ4
        obtain ⟨uZ4, qZ4⟩ := s4 _ _ _ _ _ (Three.drew (tZ4)) (by omega)
        have h4_0 := Three.new w4a (.bool ra) (.string x) (.string y) 49
        obtain ⟨V4_0, W4_0, R4_0, O4_0, K4_0, S4_0⟩ := app_one wr (w4a.alloc (.cells #[.bool ra, .string x, .string y] 49)) v4 gs.length (w4a.heap.size) 1 (ratV gs) ra x y ((o4).alloc (.cells #[.bool ra, .string x, .string y] 49)) (h4_0) (by rw [HGL.out]; omega) (gr_al (o := (.cells #[.bool ra, .string x, .string y] 49)) (g4))
        obtain ⟨x4_0, y4_0, e4_0, _⟩ := third_of O4_0
        rw [HGL.out] at e4_0
        subst e4_0
        obtain ⟨TZ4_0, NZ4_0⟩ := S4_0 _ _ _ _ _ ((uZ4).alloc (.cells #[.bool ra, .string x, .string y] 49)) qZ4
        have p5 := own_new wr (wr.alloc (.cells #[.slice none 0 0, .slice none 0 0, .slice none 0 0] 68)) (gr_al (o := (.cells #[.slice none 0 0, .slice none 0 0, .slice none 0 0] 68)) (gr_rfl wr))
        rw [show (wr.alloc (.cells #[.slice none 0 0, .slice none 0 0, .slice none 0 0] 68)).heap.size = wr.heap.size + 1 from by simp] at p5
        have k5 : wr.grownBy ((wr.alloc (.cells #[.slice none 0 0, .slice none 0 0, .slice none 0 0] 68)).alloc (.cells #[] 49)).drew none := gr_dr (gr_al (o := (.cells #[] 49)) (gr_al (o := (.cells #[.slice none 0 0, .slice none 0 0, .slice none 0 0] 68)) (gr_rfl wr)))
        obtain ⟨v5, w5a, r5, o5, g5, s5⟩ := app_list wr ((wr.alloc (.cells #[.slice none 0 0, .slice none 0 0, .slice none 0 0] 68)).alloc (.cells #[] 49)).drew (wr.heap.size + 1) 0 (.slice pg j cg) gs (own_drew (p5)) (HGO.out.kept k5) (by rw [HGL.out]; omega) k5
        have sz5 := g5.size
        have tZ5 := Three.new wr (.slice none 0 0) (.slice none 0 0) (.slice none 0 0) 68
        obtain ⟨uZ5, qZ5⟩ := s5 _ _ _ _ _ (Three.drew ((tZ5).alloc (.cells #[] 49))) (by omega)
        have h5_0 := Three.new w5a (.bool ra) (.string x) (.string y) 49
        obtain ⟨V5_0, W5_0, R5_0, O5_0, K5_0, S5_0⟩ := app_one wr (w5a.alloc (.cells #[.bool ra, .string x, .string y] 49)) v5 gs.length (w5a.heap.size) 1 (ratV gs) ra x y ((o5).alloc (.cells #[.bool ra, .string x, .string y] 49)) (h5_0) (by rw [HGL.out]; omega) (gr_al (o := (.cells #[.bool ra, .string x, .string y] 49)) (g5))
        obtain ⟨x5_0, y5_0, e5_0, _⟩ := third_of O5_0
        rw [HGL.out] at e5_0
        subst e5_0
        obtain ⟨TZ5_0, NZ5_0⟩ := S5_0 _ _ _ _ _ ((uZ5).alloc (.cells #[.bool ra, .string x, .string y] 49)) qZ5
        have p6 := own_new wr wr (gr_rfl wr)
        have k6 : wr.grownBy (((wr.alloc (.cells #[] 49)).alloc (.cells #[.bool ra, .string x, .string y] 49)).alloc (.cells #[.slice none 0 0, .slice none 0 0, .slice none 0 0] 68)).drew none := gr_dr (gr_al (o := (.cells #[.slice none 0 0, .slice none 0 0, .slice none 0 0] 68)) (gr_al (o := (.cells #[.bool ra, .string x, .string y] 49)) (gr_al (o := (.cells #[] 49)) (gr_rfl wr))))
        obtain ⟨v6, w6a, r6, o6, g6, s6⟩ := app_list wr (((wr.alloc (.cells #[] 49)).alloc (.cells #[.bool ra, .string x, .string y] 49)).alloc (.cells #[.slice none 0 0, .slice none 0 0, .slice none 0 0] 68)).drew (wr.heap.size) 0 (.slice pg j cg) gs (own_drew (((p6).alloc (.cells #[.bool ra, .string x, .string y] 49)).alloc (.cells #[.slice none 0 0, .slice none 0 0, .slice none 0 0] 68))) (HGO.out.kept k6) (by rw [HGL.out]; omega) k6
        have sz6 := g6.size
        have tR6 := Three.new (wr.alloc (.cells #[] 49)) (.bool ra) (.string x) (.string y) 49
        rw [show (wr.alloc (.cells #[] 49)).heap.size = wr.heap.size + 1 from by simp] at tR6
        obtain ⟨uR6, qR6⟩ := s6 _ _ _ _ _ (Three.drew ((tR6).alloc (.cells #[.slice none 0 0, .slice none 0 0, .slice none 0 0] 68))) (by omega)
        have tZ6 := Three.new ((wr.alloc (.cells #[] 49)).alloc (.cells #[.bool ra, .string x, .string y] 49)) (.slice none 0 0) (.slice none 0 0) (.slice none 0 0) 68
        rw [show ((wr.alloc (.cells #[] 49)).alloc (.cells #[.bool ra, .string x, .string y] 49)).heap.size = wr.heap.size + 1 + 1 from by simp] at tZ6
        obtain ⟨uZ6, qZ6⟩ := s6 _ _ _ _ _ (Three.drew (tZ6)) (by omega)
        obtain ⟨V6_0, W6_0, R6_0, O6_0, K6_0, S6_0⟩ := app_one wr w6a v6 gs.length (wr.heap.size + 1) 1 (ratV gs) ra x y (o6) (uR6) (by rw [HGL.out]; omega) (g6)
        obtain ⟨x6_0, y6_0, e6_0, _⟩ := third_of O6_0
        rw [HGL.out] at e6_0
        subst e6_0
        obtain ⟨TZ6_0, NZ6_0⟩ := S6_0 _ _ _ _ _ (uZ6) qZ6
        have p7 := own_new wr wr (gr_rfl wr)
        have k7 : wr.grownBy (((wr.alloc (.cells #[] 49)).alloc (.cells #[.slice none 0 0, .slice none 0 0, .slice none 0 0] 68)).alloc (.cells #[.bool ra, .string x, .string y] 49)).drew none := gr_dr (gr_al (o := (.cells #[.bool ra, .string x, .string y] 49)) (gr_al (o := (.cells #[.slice none 0 0, .slice none 0 0, .slice none 0 0] 68)) (gr_al (o := (.cells #[] 49)) (gr_rfl wr))))
        obtain ⟨v7, w7a, r7, o7, g7, s7⟩ := app_list wr (((wr.alloc (.cells #[] 49)).alloc (.cells #[.slice none 0 0, .slice none 0 0, .slice none 0 0] 68)).alloc (.cells #[.bool ra, .string x, .string y] 49)).drew (wr.heap.size) 0 (.slice pg j cg) gs (own_drew (((p7).alloc (.cells #[.slice none 0 0, .slice none 0 0, .slice none 0 0] 68)).alloc (.cells #[.bool ra, .string x, .string y] 49))) (HGO.out.kept k7) (by rw [HGL.out]; omega) k7
        have sz7 := g7.size
        have tZ7 := Three.new (wr.alloc (.cells #[] 49)) (.slice none 0 0) (.slice none 0 0) (.slice none 0 0) 68
        rw [show (wr.alloc (.cells #[] 49)).heap.size = wr.heap.size + 1 from by simp] at tZ7
        obtain ⟨uZ7, qZ7⟩ := s7 _ _ _ _ _ (Three.drew ((tZ7).alloc (.cells #[.bool ra, .string x, .string y] 49))) (by omega)
        have tR7 := Three.new ((wr.alloc (.cells #[] 49)).alloc (.cells #[.slice none 0 0, .slice none 0 0, .slice none 0 0] 68)) (.bool ra) (.string x) (.string y) 49
        rw [show ((wr.alloc (.cells #[] 49)).alloc (.cells #[.slice none 0 0, .slice none 0 0, .slice none 0 0] 68)).heap.size = wr.heap.size + 1 + 1 from by simp] at tR7
        obtain ⟨uR7, qR7⟩ := s7 _ _ _ _ _ (Three.drew (tR7)) (by omega)
        obtain ⟨V7_0, W7_0, R7_0, O7_0, K7_0, S7_0⟩ := app_one wr w7a v7 gs.length (wr.heap.size + 1 + 1) 1 (ratV gs) ra x y (o7) (uR7) (by rw [HGL.out]; omega) (g7)
        obtain ⟨x7_0, y7_0, e7_0, _⟩ := third_of O7_0
        rw [HGL.out] at e7_0
        subst e7_0
        obtain ⟨TZ7_0, NZ7_0⟩ := S7_0 _ _ _ _ _ (uZ7) qZ7
        have p8 := own_new wr (wr.alloc (.cells #[.bool ra, .string x, .string y] 49)) (gr_al (o := (.cells #[.bool ra, .string x, .string y] 49)) (gr_rfl wr))
        rw [show (wr.alloc (.cells #[.bool ra, .string x, .string y] 49)).heap.size = wr.heap.size + 1 from by simp] at p8
        have k8 : wr.grownBy (((wr.alloc (.cells #[.bool ra, .string x, .string y] 49)).alloc (.cells #[] 49)).alloc (.cells #[.slice none 0 0, .slice none 0 0, .slice none 0 0] 68)).drew none := gr_dr (gr_al (o := (.cells #[.slice none 0 0, .slice none 0 0, .slice none 0 0] 68)) (gr_al (o := (.cells #[] 49)) (gr_al (o := (.cells #[.bool ra, .string x, .string y] 49)) (gr_rfl wr))))
        obtain ⟨v8, w8a, r8, o8, g8, s8⟩ := app_list wr (((wr.alloc (.cells #[.bool ra, .string x, .string y] 49)).alloc (.cells #[] 49)).alloc (.cells #[.slice none 0 0, .slice none 0 0, .slice none 0 0] 68)).drew (wr.heap.size + 1) 0 (.slice pg j cg) gs (own_drew ((p8).alloc (.cells #[.slice none 0 0, .slice none 0 0, .slice none 0 0] 68))) (HGO.out.kept k8) (by rw [HGL.out]; omega) k8
        have sz8 := g8.size
        have tR8 := Three.new wr (.bool ra) (.string x) (.string y) 49
        obtain ⟨uR8, qR8⟩ := s8 _ _ _ _ _ (Three.drew (((tR8).alloc (.cells #[] 49)).alloc (.cells #[.slice none 0 0, .slice none 0 0, .slice none 0 0] 68))) (by omega)
        have tZ8 := Three.new ((wr.alloc (.cells #[.bool ra, .string x, .string y] 49)).alloc (.cells #[] 49)) (.slice none 0 0) (.slice none 0 0) (.slice none 0 0) 68
        rw [show ((wr.alloc (.cells #[.bool ra, .string x, .string y] 49)).alloc (.cells #[] 49)).heap.size = wr.heap.size + 1 + 1 from by simp] at tZ8
        obtain ⟨uZ8, qZ8⟩ := s8 _ _ _ _ _ (Three.drew (tZ8)) (by omega)
        obtain ⟨V8_0, W8_0, R8_0, O8_0, K8_0, S8_0⟩ := app_one wr w8a v8 gs.length (wr.heap.size) 1 (ratV gs) ra x y (o8) (uR8) (by rw [HGL.out]; omega) (g8)
        obtain ⟨x8_0, y8_0, e8_0, _⟩ := third_of O8_0
        rw [HGL.out] at e8_0
        subst e8_0
        obtain ⟨TZ8_0, NZ8_0⟩ := S8_0 _ _ _ _ _ (uZ8) qZ8
        have p9 := own_new wr ((wr.alloc (.cells #[.bool ra, .string x, .string y] 49)).alloc (.cells #[.slice none 0 0, .slice none 0 0, .slice none 0 0] 68)) (gr_al (o := (.cells #[.slice none 0 0, .slice none 0 0, .slice none 0 0] 68)) (gr_al (o := (.cells #[.bool ra, .string x, .string y] 49)) (gr_rfl wr)))
        rw [show ((wr.alloc (.cells #[.bool ra, .string x, .string y] 49)).alloc (.cells #[.slice none 0 0, .slice none 0 0, .slice none 0 0] 68)).heap.size = wr.heap.size + 1 + 1 from by simp] at p9
        have k9 : wr.grownBy (((wr.alloc (.cells #[.bool ra, .string x, .string y] 49)).alloc (.cells #[.slice none 0 0, .slice none 0 0, .slice none 0 0] 68)).alloc (.cells #[] 49)).drew none := gr_dr (gr_al (o := (.cells #[] 49)) (gr_al (o := (.cells #[.slice none 0 0, .slice none 0 0, .slice none 0 0] 68)) (gr_al (o := (.cells #[.bool ra, .string x, .string y] 49)) (gr_rfl wr))))
        obtain ⟨v9, w9a, r9, o9, g9, s9⟩ := app_list wr (((wr.alloc (.cells #[.bool ra, .string x, .string y] 49)).alloc (.cells #[.slice none 0 0, .slice none 0 0, .slice none 0 0] 68)).alloc (.cells #[] 49)).drew (wr.heap.size + 1 + 1) 0 (.slice pg j cg) gs (own_drew (p9)) (HGO.out.kept k9) (by rw [HGL.out]; omega) k9
        have sz9 := g9.size
        have tR9 := Three.new wr (.bool ra) (.string x) (.string y) 49
        obtain ⟨uR9, qR9⟩ := s9 _ _ _ _ _ (Three.drew (((tR9).alloc (.cells #[.slice none 0 0, .slice none 0 0, .slice none 0 0] 68)).alloc (.cells #[] 49))) (by omega)
        have tZ9 := Three.new (wr.alloc (.cells #[.bool ra, .string x, .string y] 49)) (.slice none 0 0) (.slice none 0 0) (.slice none 0 0) 68
        rw [show (wr.alloc (.cells #[.bool ra, .string x, .string y] 49)).heap.size = wr.heap.size + 1 from by simp] at tZ9
        obtain ⟨uZ9, qZ9⟩ := s9 _ _ _ _ _ (Three.drew ((tZ9).alloc (.cells #[] 49))) (by omega)
        obtain ⟨V9_0, W9_0, R9_0, O9_0, K9_0, S9_0⟩ := app_one wr w9a v9 gs.length (wr.heap.size) 1 (ratV gs) ra x y (o9) (uR9) (by rw [HGL.out]; omega) (g9)
        obtain ⟨x9_0, y9_0, e9_0, _⟩ := third_of O9_0
        rw [HGL.out] at e9_0
        subst e9_0
        obtain ⟨TZ9_0, NZ9_0⟩ := S9_0 _ _ _ _ _ (uZ9) qZ9
        have p10 := own_new wr (wr.alloc (.cells #[.slice none 0 0, .slice none 0 0, .slice none 0 0] 68)) (gr_al (o := (.cells #[.slice none 0 0, .slice none 0 0, .slice none 0 0] 68)) (gr_rfl wr))
        rw [show (wr.alloc (.cells #[.slice none 0 0, .slice none 0 0, .slice none 0 0] 68)).heap.size = wr.heap.size + 1 from by simp] at p10
        have k10 : wr.grownBy (((wr.alloc (.cells #[.slice none 0 0, .slice none 0 0, .slice none 0 0] 68)).alloc (.cells #[] 49)).alloc (.cells #[.bool ra, .string x, .string y] 49)).drew none := gr_dr (gr_al (o := (.cells #[.bool ra, .string x, .string y] 49)) (gr_al (o := (.cells #[] 49)) (gr_al (o := (.cells #[.slice none 0 0, .slice none 0 0, .slice none 0 0] 68)) (gr_rfl wr))))
        obtain ⟨v10, w10a, r10, o10, g10, s10⟩ := app_list wr (((wr.alloc (.cells #[.slice none 0 0, .slice none 0 0, .slice none 0 0] 68)).alloc (.cells #[] 49)).alloc (.cells #[.bool ra, .string x, .string y] 49)).drew (wr.heap.size + 1) 0 (.slice pg j cg) gs (own_drew ((p10).alloc (.cells #[.bool ra, .string x, .string y] 49))) (HGO.out.kept k10) (by rw [HGL.out]; omega) k10
        have sz10 := g10.size
        have tZ10 := Three.new wr (.slice none 0 0) (.slice none 0 0) (.slice none 0 0) 68
        obtain ⟨uZ10, qZ10⟩ := s10 _ _ _ _ _ (Three.drew (((tZ10).alloc (.cells #[] 49)).alloc (.cells #[.bool ra, .string x, .string y] 49))) (by omega)
        have tR10 := Three.new ((wr.alloc (.cells #[.slice none 0 0, .slice none 0 0, .slice none 0 0] 68)).alloc (.cells #[] 49)) (.bool ra) (.string x) (.string y) 49
        rw [show ((wr.alloc (.cells #[.slice none 0 0, .slice none 0 0, .slice none 0 0] 68)).alloc (.cells #[] 49)).heap.size = wr.heap.size + 1 + 1 from by simp] at tR10
        obtain ⟨uR10, qR10⟩ := s10 _ _ _ _ _ (Three.drew (tR10)) (by omega)
        obtain ⟨V10_0, W10_0, R10_0, O10_0, K10_0, S10_0⟩ := app_one wr w10a v10 gs.length (wr.heap.size + 1 + 1) 1 (ratV gs) ra x y (o10) (uR10) (by rw [HGL.out]; omega) (g10)
        obtain ⟨x10_0, y10_0, e10_0, _⟩ := third_of O10_0
        rw [HGL.out] at e10_0
        subst e10_0
        obtain ⟨TZ10_0, NZ10_0⟩ := S10_0 _ _ _ _ _ (uZ10) qZ10
        have p11 := own_new wr ((wr.alloc (.cells #[.slice none 0 0, .slice none 0 0, .slice none 0 0] 68)).alloc (.cells #[.bool ra, .string x, .string y] 49)) (gr_al (o := (.cells #[.bool ra, .string x, .string y] 49)) (gr_al (o := (.cells #[.slice none 0 0, .slice none 0 0, .slice none 0 0] 68)) (gr_rfl wr)))
        rw [show ((wr.alloc (.cells #[.slice none 0 0, .slice none 0 0, .slice none 0 0] 68)).alloc (.cells #[.bool ra, .string x, .string y] 49)).heap.size = wr.heap.size + 1 + 1 from by simp] at p11
        have k11 : wr.grownBy (((wr.alloc (.cells #[.slice none 0 0, .slice none 0 0, .slice none 0 0] 68)).alloc (.cells #[.bool ra, .string x, .string y] 49)).alloc (.cells #[] 49)).drew none := gr_dr (gr_al (o := (.cells #[] 49)) (gr_al (o := (.cells #[.bool ra, .string x, .string y] 49)) (gr_al (o := (.cells #[.slice none 0 0, .slice none 0 0, .slice none 0 0] 68)) (gr_rfl wr))))
        obtain ⟨v11, w11a, r11, o11, g11, s11⟩ := app_list wr (((wr.alloc (.cells #[.slice none 0 0, .slice none 0 0, .slice none 0 0] 68)).alloc (.cells #[.bool ra, .string x, .string y] 49)).alloc (.cells #[] 49)).drew (wr.heap.size + 1 + 1) 0 (.slice pg j cg) gs (own_drew (p11)) (HGO.out.kept k11) (by rw [HGL.out]; omega) k11
        have sz11 := g11.size
        have tZ11 := Three.new wr (.slice none 0 0) (.slice none 0 0) (.slice none 0 0) 68
        obtain ⟨uZ11, qZ11⟩ := s11 _ _ _ _ _ (Three.drew (((tZ11).alloc (.cells #[.bool ra, .string x, .string y] 49)).alloc (.cells #[] 49))) (by omega)
        have tR11 := Three.new (wr.alloc (.cells #[.slice none 0 0, .slice none 0 0, .slice none 0 0] 68)) (.bool ra) (.string x) (.string y) 49
        rw [show (wr.alloc (.cells #[.slice none 0 0, .slice none 0 0, .slice none 0 0] 68)).heap.size = wr.heap.size + 1 from by simp] at tR11
        obtain ⟨uR11, qR11⟩ := s11 _ _ _ _ _ (Three.drew ((tR11).alloc (.cells #[] 49))) (by omega)
        obtain ⟨V11_0, W11_0, R11_0, O11_0, K11_0, S11_0⟩ := app_one wr w11a v11 gs.length (wr.heap.size + 1) 1 (ratV gs) ra x y (o11) (uR11) (by rw [HGL.out]; omega) (g11)
        obtain ⟨x11_0, y11_0, e11_0, _⟩ := third_of O11_0
        rw [HGL.out] at e11_0
        subst e11_0
        obtain ⟨TZ11_0, NZ11_0⟩ := S11_0 _ _ _ _ _ (uZ11) qZ11
        have cz1_1_0 := TZ1_1.c0
        have fz1_1_0 := TZ1_1.fr 0
        have cz1_1_1 := TZ1_1.c1
        have fz1_1_1 := TZ1_1.fr 1
        have cz1_1_2 := TZ1_1.c2
        have fz1_1_2 := TZ1_1.fr 2
        have cz1_2_0 := TZ1_2.c0
        have fz1_2_0 := TZ1_2.fr 0
        have cz1_2_1 := TZ1_2.c1
        have fz1_2_1 := TZ1_2.fr 1
        have cz1_2_2 := TZ1_2.c2
        have fz1_2_2 := TZ1_2.fr 2
        have cz2_1_0 := TZ2_1.c0
        have fz2_1_0 := TZ2_1.fr 0
        have cz2_1_1 := TZ2_1.c1
        have fz2_1_1 := TZ2_1.fr 1
        have cz2_1_2 := TZ2_1.c2
        have fz2_1_2 := TZ2_1.fr 2
        have cz3_1_0 := TZ3_1.c0
        have fz3_1_0 := TZ3_1.fr 0
        have cz3_1_1 := TZ3_1.c1
        have fz3_1_1 := TZ3_1.fr 1
        have cz3_1_2 := TZ3_1.c2
        have fz3_1_2 := TZ3_1.fr 2
        have cz4_0_0 := TZ4_0.c0
        have fz4_0_0 := TZ4_0.fr 0
        have cz4_0_1 := TZ4_0.c1
        have fz4_0_1 := TZ4_0.fr 1
        have cz4_0_2 := TZ4_0.c2
        have fz4_0_2 := TZ4_0.fr 2
        have cz5_0_0 := TZ5_0.c0
        have fz5_0_0 := TZ5_0.fr 0
        have cz5_0_1 := TZ5_0.c1
        have fz5_0_1 := TZ5_0.fr 1
        have cz5_0_2 := TZ5_0.c2
        have fz5_0_2 := TZ5_0.fr 2
        have cz6_0_0 := TZ6_0.c0
        have fz6_0_0 := TZ6_0.fr 0
        have cz6_0_1 := TZ6_0.c1
        have fz6_0_1 := TZ6_0.fr 1
        have cz6_0_2 := TZ6_0.c2
        have fz6_0_2 := TZ6_0.fr 2
        have cz7_0_0 := TZ7_0.c0
        have fz7_0_0 := TZ7_0.fr 0
        have cz7_0_1 := TZ7_0.c1
        have fz7_0_1 := TZ7_0.fr 1
        have cz7_0_2 := TZ7_0.c2
        have fz7_0_2 := TZ7_0.fr 2
        have cz8_0_0 := TZ8_0.c0
        have fz8_0_0 := TZ8_0.fr 0
        have cz8_0_1 := TZ8_0.c1
        have fz8_0_1 := TZ8_0.fr 1
        have cz8_0_2 := TZ8_0.c2
        have fz8_0_2 := TZ8_0.fr 2
        have cz9_0_0 := TZ9_0.c0
        have fz9_0_0 := TZ9_0.fr 0
        have cz9_0_1 := TZ9_0.c1
        have fz9_0_1 := TZ9_0.fr 1
        have cz9_0_2 := TZ9_0.c2
        have fz9_0_2 := TZ9_0.fr 2
        have cz10_0_0 := TZ10_0.c0
        have fz10_0_0 := TZ10_0.fr 0
        have cz10_0_1 := TZ10_0.c1
        have fz10_0_1 := TZ10_0.fr 1
        have cz10_0_2 := TZ10_0.c2
        have fz10_0_2 := TZ10_0.fr 2
        have cz11_0_0 := TZ11_0.c0
        have fz11_0_0 := TZ11_0.fr 0
        have cz11_0_1 := TZ11_0.c1
        have fz11_0_1 := TZ11_0.fr 1
        have cz11_0_2 := TZ11_0.c2
        have fz11_0_2 := TZ11_0.fr 2
        have hK : ∀ w', wr.grownBy w' none → (w'.cell? ⟨b0, 0, none⟩ = some (.bool ra) ∧ w'.cell? ⟨b0, 1, none⟩ = some (.string x) ∧ w'.cell? ⟨b0, 2, none⟩ = some (.string y)) := fun w' g => ⟨g.cell rw0 (by simp), g.cell rw1 (by simp), g.cell rw2 (by simp)⟩
        have HK := Lib.hid hK
        clear hK rw0 rw1 rw2
        clear p1 k1 h1_0 h1_1 z1_1 h1_2 z1_2 p2 k2 tR2 z2_1 p3 k3 tR3 z3_1 p4 k4 tZ4 h4_0 p5 k5 tZ5 h5_0 p6 k6 tR6 tZ6 p7 k7 tZ7 tR7 p8 k8 tR8 tZ8 p9 k9 tR9 tZ9 p10 k10 tZ10 tR10 p11 k11 tZ11 tR11 uR2 qR2 uR3 qR3 uZ4 qZ4 uZ5 qZ5 uR6 qR6 uZ6 qZ6 uZ7 qZ7 uR7 qR7 uR8 qR8 uZ8 qZ8 uR9 qR9 uZ9 qZ9 uZ10 qZ10 uR10 qR10 uZ11 qZ11 uR11 qR11 o1 s1 o2 s2 o3 s3 o4 s4 o5 s5 o6 s6 o7 s7 o8 s8 o9 s9 o10 s10 o11 s11 S1_0 S1_1 S1_2 S2_0 S2_1 S3_0 S3_1 S4_0 S5_0 S6_0 S7_0 S8_0 S9_0 S10_0 S11_0
        have HO1_0 := Lib.hid O1_0
        have HO2_0 := Lib.hid O2_0
        have HO3_0 := Lib.hid O3_0
        have HO1_1 := Lib.hid O1_1
        have HTZ1_1 := Lib.hid TZ1_1
        have HNZ1_1 := Lib.hid NZ1_1
        have HO1_2 := Lib.hid O1_2
        have HTZ1_2 := Lib.hid TZ1_2
        have HNZ1_2 := Lib.hid NZ1_2
        have HO2_1 := Lib.hid O2_1
        have HTZ2_1 := Lib.hid TZ2_1
        have HNZ2_1 := Lib.hid NZ2_1
        have HO3_1 := Lib.hid O3_1
        have HTZ3_1 := Lib.hid TZ3_1
        have HNZ3_1 := Lib.hid NZ3_1
        have HO4_0 := Lib.hid O4_0
        have HTZ4_0 := Lib.hid TZ4_0
        have HNZ4_0 := Lib.hid NZ4_0
        have HO5_0 := Lib.hid O5_0
        have HTZ5_0 := Lib.hid TZ5_0
        have HNZ5_0 := Lib.hid NZ5_0
        have HO6_0 := Lib.hid O6_0
        have HTZ6_0 := Lib.hid TZ6_0
        have HNZ6_0 := Lib.hid NZ6_0
        have HO7_0 := Lib.hid O7_0
        have HTZ7_0 := Lib.hid TZ7_0
        have HNZ7_0 := Lib.hid NZ7_0
        have HO8_0 := Lib.hid O8_0
        have HTZ8_0 := Lib.hid TZ8_0
        have HNZ8_0 := Lib.hid NZ8_0
        have HO9_0 := Lib.hid O9_0
        have HTZ9_0 := Lib.hid TZ9_0
        have HNZ9_0 := Lib.hid NZ9_0
        have HO10_0 := Lib.hid O10_0
        have HTZ10_0 := Lib.hid TZ10_0
        have HNZ10_0 := Lib.hid NZ10_0
        have HO11_0 := Lib.hid O11_0
        have HTZ11_0 := Lib.hid TZ11_0
        have HNZ11_0 := Lib.hid NZ11_0
        clear O1_0 O2_0 O3_0 O1_1 TZ1_1 NZ1_1 O1_2 TZ1_2 NZ1_2 O2_1 TZ2_1 NZ2_1 O3_1 TZ3_1 NZ3_1 O4_0 TZ4_0 NZ4_0 O5_0 TZ5_0 NZ5_0 O6_0 TZ6_0 NZ6_0 O7_0 TZ7_0 NZ7_0 O8_0 TZ8_0 NZ8_0 O9_0 TZ9_0 NZ9_0 O10_0 TZ10_0 NZ10_0 O11_0 TZ11_0 NZ11_0
        go_region_held3 (fun w' => w'.cell? ⟨b0, 0, none⟩ = some (.bool ra) ∧ w'.cell? ⟨b0, 1, none⟩ = some (.string x) ∧ w'.cell? ⟨b0, 2, none⟩ = some (.string y)) ((refine HK.out _ ?_; repeat (first | (with_reducible assumption) | (with_reducible exact gr_rfl _) | (with_reducible refine gr_al ?_) | (with_reducible refine gr_dr ?_) | (refine gr_setn ?_ (by first | omega | (simp; omega)))))) (first
          | (refine step_append_run rfl (.tmp 61) (.tmp 62) 64 rfl (.slice (some ⟨wr.heap.size, 0, none⟩) 0 0) (.slice pg j cg) v1 w1a rfl rfl (by with_reducible exact r1) ?_)
          | (refine step_append_run rfl (.tmp 61) (.tmp 62) 64 rfl (.slice (some ⟨wr.heap.size, 0, none⟩) 0 0) (.slice pg j cg) v2 w2a rfl rfl (by with_reducible exact r2) ?_)
          | (refine step_append_run rfl (.tmp 61) (.tmp 62) 64 rfl (.slice (some ⟨wr.heap.size + 1, 0, none⟩) 0 0) (.slice pg j cg) v3 w3a rfl rfl (by with_reducible exact r3) ?_)
          | (refine step_append_run rfl (.tmp 61) (.tmp 62) 64 rfl (.slice (some ⟨wr.heap.size, 0, none⟩) 0 0) (.slice pg j cg) v4 w4a rfl rfl (by with_reducible exact r4) ?_)
          | (refine step_append_run rfl (.tmp 61) (.tmp 62) 64 rfl (.slice (some ⟨wr.heap.size + 1, 0, none⟩) 0 0) (.slice pg j cg) v5 w5a rfl rfl (by with_reducible exact r5) ?_)
          | (refine step_append_run rfl (.tmp 61) (.tmp 62) 64 rfl (.slice (some ⟨wr.heap.size, 0, none⟩) 0 0) (.slice pg j cg) v6 w6a rfl rfl (by with_reducible exact r6) ?_)
          | (refine step_append_run rfl (.tmp 61) (.tmp 62) 64 rfl (.slice (some ⟨wr.heap.size, 0, none⟩) 0 0) (.slice pg j cg) v7 w7a rfl rfl (by with_reducible exact r7) ?_)
          | (refine step_append_run rfl (.tmp 61) (.tmp 62) 64 rfl (.slice (some ⟨wr.heap.size + 1, 0, none⟩) 0 0) (.slice pg j cg) v8 w8a rfl rfl (by with_reducible exact r8) ?_)
          | (refine step_append_run rfl (.tmp 61) (.tmp 62) 64 rfl (.slice (some ⟨wr.heap.size + 1 + 1, 0, none⟩) 0 0) (.slice pg j cg) v9 w9a rfl rfl (by with_reducible exact r9) ?_)
          | (refine step_append_run rfl (.tmp 61) (.tmp 62) 64 rfl (.slice (some ⟨wr.heap.size + 1, 0, none⟩) 0 0) (.slice pg j cg) v10 w10a rfl rfl (by with_reducible exact r10) ?_)
          | (refine step_append_run rfl (.tmp 61) (.tmp 62) 64 rfl (.slice (some ⟨wr.heap.size + 1 + 1, 0, none⟩) 0 0) (.slice pg j cg) v11 w11a rfl rfl (by with_reducible exact r11) ?_)
          | (refine step_append_run rfl (.tmp 63) (.tmp 65) 64 rfl v1 (.slice (some ⟨w1a.heap.size, 0, none⟩) 1 1) (.slice (some ⟨x1_0, 0, none⟩) (j + 1) y1_0) W1_0 rfl rfl (by with_reducible exact R1_0) ?_)
          | (refine step_append_run rfl (.tmp 63) (.tmp 65) 64 rfl v1 (.slice (some ⟨w1a.heap.size, 0, none⟩) 1 1) (.slice (some ⟨x1_1, 0, none⟩) (j + 1) y1_1) W1_1 rfl rfl (by with_reducible exact R1_1) ?_)
          | (refine step_append_run rfl (.tmp 63) (.tmp 65) 64 rfl v1 (.slice (some ⟨w1a.heap.size + 1, 0, none⟩) 1 1) (.slice (some ⟨x1_2, 0, none⟩) (j + 1) y1_2) W1_2 rfl rfl (by with_reducible exact R1_2) ?_)
          | (refine step_append_run rfl (.tmp 63) (.tmp 65) 64 rfl v2 (.slice (some ⟨wr.heap.size + 1, 0, none⟩) 1 1) (.slice (some ⟨x2_0, 0, none⟩) (j + 1) y2_0) W2_0 rfl rfl (by with_reducible exact R2_0) ?_)
          | (refine step_append_run rfl (.tmp 63) (.tmp 65) 64 rfl v2 (.slice (some ⟨wr.heap.size + 1, 0, none⟩) 1 1) (.slice (some ⟨x2_1, 0, none⟩) (j + 1) y2_1) W2_1 rfl rfl (by with_reducible exact R2_1) ?_)
          | (refine step_append_run rfl (.tmp 63) (.tmp 65) 64 rfl v3 (.slice (some ⟨wr.heap.size, 0, none⟩) 1 1) (.slice (some ⟨x3_0, 0, none⟩) (j + 1) y3_0) W3_0 rfl rfl (by with_reducible exact R3_0) ?_)
          | (refine step_append_run rfl (.tmp 63) (.tmp 65) 64 rfl v3 (.slice (some ⟨wr.heap.size, 0, none⟩) 1 1) (.slice (some ⟨x3_1, 0, none⟩) (j + 1) y3_1) W3_1 rfl rfl (by with_reducible exact R3_1) ?_)
          | (refine step_append_run rfl (.tmp 63) (.tmp 65) 64 rfl v4 (.slice (some ⟨w4a.heap.size, 0, none⟩) 1 1) (.slice (some ⟨x4_0, 0, none⟩) (j + 1) y4_0) W4_0 rfl rfl (by with_reducible exact R4_0) ?_)
          | (refine step_append_run rfl (.tmp 63) (.tmp 65) 64 rfl v5 (.slice (some ⟨w5a.heap.size, 0, none⟩) 1 1) (.slice (some ⟨x5_0, 0, none⟩) (j + 1) y5_0) W5_0 rfl rfl (by with_reducible exact R5_0) ?_)
          | (refine step_append_run rfl (.tmp 63) (.tmp 65) 64 rfl v6 (.slice (some ⟨wr.heap.size + 1, 0, none⟩) 1 1) (.slice (some ⟨x6_0, 0, none⟩) (j + 1) y6_0) W6_0 rfl rfl (by with_reducible exact R6_0) ?_)
          | (refine step_append_run rfl (.tmp 63) (.tmp 65) 64 rfl v7 (.slice (some ⟨wr.heap.size + 1 + 1, 0, none⟩) 1 1) (.slice (some ⟨x7_0, 0, none⟩) (j + 1) y7_0) W7_0 rfl rfl (by with_reducible exact R7_0) ?_)
          | (refine step_append_run rfl (.tmp 63) (.tmp 65) 64 rfl v8 (.slice (some ⟨wr.heap.size, 0, none⟩) 1 1) (.slice (some ⟨x8_0, 0, none⟩) (j + 1) y8_0) W8_0 rfl rfl (by with_reducible exact R8_0) ?_)
          | (refine step_append_run rfl (.tmp 63) (.tmp 65) 64 rfl v9 (.slice (some ⟨wr.heap.size, 0, none⟩) 1 1) (.slice (some ⟨x9_0, 0, none⟩) (j + 1) y9_0) W9_0 rfl rfl (by with_reducible exact R9_0) ?_)
          | (refine step_append_run rfl (.tmp 63) (.tmp 65) 64 rfl v10 (.slice (some ⟨wr.heap.size + 1 + 1, 0, none⟩) 1 1) (.slice (some ⟨x10_0, 0, none⟩) (j + 1) y10_0) W10_0 rfl rfl (by with_reducible exact R10_0) ?_)
          | (refine step_append_run rfl (.tmp 63) (.tmp 65) 64 rfl v11 (.slice (some ⟨wr.heap.size + 1, 0, none⟩) 1 1) (.slice (some ⟨x11_0, 0, none⟩) (j + 1) y11_0) W11_0 rfl rfl (by with_reducible exact R11_0) ?_))
        all_goals
          clear r1 r2 r3 r4 r5 r6 r7 r8 r9 r10 r11 R1_0 R1_1 R1_2 R2_0 R2_1 R3_0 R3_1 R4_0 R5_0 R6_0 R7_0 R8_0 R9_0 R10_0 R11_0
          go_wp2_with fail
          go_meet
          refine ⟨_, ?_, rfl, ?_, ?_⟩
          rotate_left
          · first
              | (with_reducible exact fin_A HO1_0.out)
              | (with_reducible exact fin_A HO2_0.out)
              | (with_reducible exact fin_A HO3_0.out)
              | (with_reducible exact fin_B HO1_1.out HTZ1_1.out HNZ1_1.out)
              | (with_reducible exact fin_B HO1_2.out HTZ1_2.out HNZ1_2.out)
              | (with_reducible exact fin_B HO2_1.out HTZ2_1.out HNZ2_1.out)
              | (with_reducible exact fin_B HO3_1.out HTZ3_1.out HNZ3_1.out)
              | (with_reducible exact fin_B HO4_0.out HTZ4_0.out HNZ4_0.out)
              | (with_reducible exact fin_B HO5_0.out HTZ5_0.out HNZ5_0.out)
              | (with_reducible exact fin_B HO6_0.out HTZ6_0.out HNZ6_0.out)
              | (with_reducible exact fin_B HO7_0.out HTZ7_0.out HNZ7_0.out)
              | (with_reducible exact fin_B HO8_0.out HTZ8_0.out HNZ8_0.out)
              | (with_reducible exact fin_B HO9_0.out HTZ9_0.out HNZ9_0.out)
              | (with_reducible exact fin_B HO10_0.out HTZ10_0.out HNZ10_0.out)
              | (with_reducible exact fin_B HO11_0.out HTZ11_0.out HNZ11_0.out)
          · (repeat (first | (with_reducible assumption) | (with_reducible refine gr_al ?_) | (refine gr_setn ?_ (by omega))))
      case rest =>
        obtain ⟨zb, v3, rfl, ⟨T10, g3, c3, rfl, hr3, hx0, hx1, hx2⟩, G5⟩ := hcut
        rename_i wx
        have hl3 := bothC_raw (c := c3) hr3 HGS.out HGB.out (by rw [HGL.out]; omega) HX.out HY.out hx0 hx1 hx2
        rw [HGL.out] at hl3 T10
        have L3 := lists3_of T10 (HBA.out.kept G5) (bothC_good (HGO.out.kept G5) HGS.out HGB.out (by rw [HGL.out]; omega)) hl3
        have HL3 := Lib.hid L3
        have HG5 := Lib.hid G5
        clear T10 hr3 hx0 hx1 hx2 hl3 L3 HBA G5 A4 rw0 rw1 rw2
        go_wp2_with fail
        go_loopw [11] (fun u wq => ∃ i : Nat, i ≤ 3 ∧ u = .int .i64 (i : Int) ∧ Lists3 zb wq ∧ wr.grownBy wq none) (fun u _ => 3 - (RowKit.intOf u).toNat)
        case atStart => exact ⟨0, by omega, rfl, HL3.out, HG5.out⟩
        case round =>
          clear HL3 HG5
          obtain ⟨i, hi, rfl, HL3, G6⟩ := hrel
          by_cases hlt3 : i < 3
          · obtain ⟨p1, n1, k1, ct, D, o, ns, hnl, hb1, hb2⟩ := HL3 i hlt3
            have HL3' := Lib.hid HL3
            have HB1 := Lib.hid (hb1 _ (gr_rfl _))
            have HB2 := Lib.hid hb2
            have HCT := Lib.hid ct
            unfold ResC at HB1 HB2
            clear hb1 hb2 HL3
            go_wp2_with fail
            refine HB1.out.mono ?_
            rintro e v1 ⟨nv1, rfl, hN1, g1⟩
            have d1 := g1.cell HCT.out (by simp)
            have HN1 := Lib.hid hN1
            have HGA := Lib.hid g1
            clear ct g1 hN1
            go_wp2_with fail
            refine (HB2.out _ HGA.out).mono ?_
            rintro e v2 ⟨nv2, rfl, hN2, g2⟩
            have HSM := Lib.hid (rsame_of (HN1.out.kept g2) hN2 (by omega))
            have HGB2 := Lib.hid (gr_then HGA.out g2)
            clear d1 g2 hN2
            go_wp2_with fail
            refine HSM.out.mono ?_
            rintro e v5 ⟨rfl, g5⟩
            have HGC := Lib.hid (gr_then HGB2.out g5)
            clear g5
            go_wp2
            exact ⟨⟨i + 1, by omega, by go_num, HL3'.out.kept HGC.out, gr_then G6 HGC.out⟩, by simp [RowKit.intOf]; omega⟩
          · obtain rfl : i = 3 := by omega
            have HG6 := Lib.hid G6
            have hco := common_of (HGO.out.kept G6) HGS.out HGB.out (by rw [HGL.out]; omega)
            obtain ⟨D, hD⟩ : ∃ D, gs.foldl lcmQ 1 = D := ⟨_, rfl⟩
            rw [hD, HGL.out] at hco
            have HCO := Lib.hid hco
            have HDD := Lib.hid hD
            clear HL3 G6 hco hD
            go_wp2_with fail
            refine HCO.out.mono ?_
            rintro e w7 ⟨nb, rfl, hnm, g7⟩
            have HNM := Lib.hid hnm
            have HG7 := Lib.hid (gr_then HG6.out g7)
            have hz0 : ∀ w, Gives 56 #[.int .i64 0] w (RV 0) := fun w => ofq_nat 0 w (by decide)
            have HZ := Lib.hid hz0
            clear g7 hnm hz0
            obtain ⟨za, zx, zy, hz⟩ : ∃ a x y, RV 0 = .agg #[.bool a, .string x, .string y] := ⟨_, _, _, rfl⟩
            have HZE := Lib.hid hz
            rw [hz] at HZ
            clear hz
            go_wp2_with fail
            refine (HZ.out _).mono ?_
            rintro e w8 ⟨rfl, g8⟩
            have HNM8 := Lib.hid (HNM.out.kept g8)
            have HG8 := Lib.hid (gr_then HG7.out g8)
            have TS : RB (w8.alloc (.cells #[.bool za, .string zx, .string zy] 49)) w8.heap.size 0 := by
              have h := HZE.out
              unfold RV RW at h
              simp only [Value.agg.injEq, Array.mk.injEq, List.cons.injEq, Value.bool.injEq, Value.string.injEq, and_true] at h
              obtain ⟨rfl, rfl, rfl⟩ := h
              exact Three.new w8 _ _ _ _
            have HTS := Lib.hid TS
            clear g8 TS
            go_wp2_with fail
            go_loopw [22] (fun u wq => ∃ i : Nat, i ≤ j ∧ u = .int .i64 (i : Int) ∧ RB wq w8.heap.size ((gs.take i).foldl (· + ·) 0) ∧ w8.grownBy wq none) (fun u _ => j - (RowKit.intOf u).toNat)
            case atStart => exact ⟨0, by omega, rfl, HTS.out, gr_al (gr_rfl _)⟩
            case round =>
              clear HTS
              obtain ⟨i, hi, rfl, TQ, G9⟩ := hrel
              by_cases hltj : i < j
              · have hig : i < gs.length := by rw [HGL.out]; exact hltj
                have hpp := HPG.out
                rcases hpp with h0 | ⟨gb, rfl, hrg⟩
                · omega
                have hwg := gr_then HG8.out G9
                obtain ⟨c0, c1, c2⟩ := hrg.kept hwg i hig
                rw [Nat.zero_add] at c0 c1 c2
                have hni := (HNM8.out.kept G9) i (by rw [List.length_map]; exact hig)
                rw [Nat.zero_add, List.getElem_map] at hni
                have hmk := fun w => make_back gs i hig w HGS.out HGB.out (by rw [HGL.out]; omega)
                have had := fun w => add_next gs i hig w HGB.out (by rw [HGL.out]; omega)
                rw [HDD.out] at hmk
                have hb1 : (i : Int) < (j : Int) := by omega
                have hk1 : (i : Int) + 1 ≤ 9223372036854775807 := by omega
                obtain ⟨sm, hsm⟩ : ∃ sm, (gs.take i).foldl (· + ·) 0 = sm := ⟨_, rfl⟩
                obtain ⟨sn, hsn⟩ : ∃ sn, (gs.take (i + 1)).foldl (· + ·) 0 = sn := ⟨_, rfl⟩
                rw [hsm, hsn] at had
                rw [hsm] at TQ
                have HSN := Lib.hid hsn
                unfold RV RW at hmk had
                have HMK := Lib.hid hmk
                have HAD := Lib.hid had
                have hbs : b0 = b0 := rfl
                clear hmk had hsm hsn hrg hbs
                generalize S (scaleQ D gs[i]) = sc at *
                generalize decide (gs[i].num < 0) = qa at *
                generalize S gs[i].num.natAbs = qx at *
                generalize S gs[i].den = qy at *
                have HC0 := Lib.hid c0
                have HC1 := Lib.hid c1
                have HC2 := Lib.hid c2
                have HTQ := Lib.hid TQ
                have HG9 := Lib.hid G9
                clear c0 c1 c2 TQ G9 hwg
                go_wp2_with fail
                refine (HMK.out _).mono ?_
                rintro e w10 ⟨rfl, g10⟩
                have gA := gr_al (o := .cells #[.bool qa, .string qx, .string qy] 49) g10
                have TX := (Three.new w10 (.bool qa) (.string qx) (.string qy) 49).drew
                have TQ := (HTQ.out.kept gA).drew
                have d0 : (w10.alloc (.cells #[.bool qa, .string qx, .string qy] 49)).drew.cell? ⟨gb, i * 3, none⟩ = some (.bool qa) := gA.cell HC0.out (by simp)
                have d1 : (w10.alloc (.cells #[.bool qa, .string qx, .string qy] 49)).drew.cell? ⟨gb, i * 3 + 1, none⟩ = some (.string qx) := gA.cell HC1.out (by simp)
                have d2 : (w10.alloc (.cells #[.bool qa, .string qx, .string qy] 49)).drew.cell? ⟨gb, i * 3 + 2, none⟩ = some (.string qy) := gA.cell HC2.out (by simp)
                have x0 := TX.c0
                have x1 := TX.c1
                have x2 := TX.c2
                have HGX := Lib.hid (gr_dr (gr_then HG9.out gA))
                clear g10 gA hni HC0 HC1 HC2 HG9 HTQ
                go_wp2_with fail
                go_region_held3 (fun w' => w'.cell? ⟨w10.heap.size, 0, none⟩ = some (.bool qa) ∧ w'.cell? ⟨w10.heap.size, 1, none⟩ = some (.string qx) ∧ w'.cell? ⟨w10.heap.size, 2, none⟩ = some (.string qy) ∧ w'.cell? ⟨gb, i * 3, none⟩ = some (.bool qa) ∧ w'.cell? ⟨gb, i * 3 + 1, none⟩ = some (.string qx) ∧ w'.cell? ⟨gb, i * 3 + 2, none⟩ = some (.string qy)) (first | exact ⟨x0, x1, x2, d0, d1, d2⟩ | go_keep) (fail)
                have TX' := TX
                have q0 := TQ.c0
                have q1 := TQ.c1
                have q2 := TQ.c2
                clear d0 d1 d2
                go_wp2_with fail
                refine (HAD.out _).mono ?_
                rintro e w11 ⟨rfl, g11⟩
                have TQ2 := TQ.kept g11
                have a0 := TQ2.c0
                have a1 := TQ2.c1
                have a2 := TQ2.c2
                have b3 := TQ2.fr 0
                have b4 := TQ2.fr 1
                have b5 := TQ2.fr 2
                have TQ3 := TQ2.all (.bool (decide (sn.num < 0))) (.string (S sn.num.natAbs)) (.string (S sn.den))
                have HTQ3 := Lib.hid TQ3
                have HGY := Lib.hid (gr_set3 (b := w8.heap.size) (gr_then HGX.out g11) (Nat.le_refl _) (.bool (decide (sn.num < 0))) (.string (S sn.num.natAbs)) (.string (S sn.den)))
                clear g11 TQ3 x0 x1 x2 q0 q1 q2 TX TX' TQ
                go_wp2
                exact ⟨⟨i + 1, by omega, by go_num, by rw [HSN.out]; exact HTQ3.out, HGY.out⟩, by simp [RowKit.intOf]; omega⟩
              · obtain rfl : i = j := by omega
                have hgl2 := HGL.out
                rw [List.take_of_length_le (by omega)] at TQ
                have hsu := fun (w : World) (hg : w8.grownBy w none) => sum_of (HGO.out.kept (gr_then HG8.out hg)) HGB.out (by omega)
                obtain ⟨sm, hsm⟩ : ∃ sm, gs.foldl (· + ·) 0 = sm := ⟨_, rfl⟩
                rw [hsm] at TQ
                unfold RB at TQ
                simp only [hsm] at hsu
                unfold RV RW at hsu
                have HSU := Lib.hid hsu
                clear hsu hsm hgl2
                generalize decide (sm.num < 0) = qa at *
                generalize S sm.num.natAbs = qx at *
                generalize S sm.den = qy at *
                have G10 := gr_dr G9
                have TQD := Three.drew TQ
                clear G9 TQ
                go_wp2_with fail
                go_region_held3 (fun w' => w'.cell? ⟨w8.heap.size, 0, none⟩ = some (.bool qa) ∧ w'.cell? ⟨w8.heap.size, 1, none⟩ = some (.string qx) ∧ w'.cell? ⟨w8.heap.size, 2, none⟩ = some (.string qy)) (first | exact ⟨Three.c0 (by assumption), Three.c1 (by assumption), Three.c2 (by assumption)⟩ | go_keep)
                  (first
                  | (go_at_call 59; refine (HSU.out _ (by assumption)).mono ?_; rintro e v9 ⟨rfl, g9⟩; have TQ9 : Three v9 w8.heap.size (.bool qa) (.string qx) (.string qy) 49 := Three.kept (by assumption) g9; have GG : w8.grownBy v9 none := gr_then (by assumption) g9))
                all_goals
                  have HGG := Lib.hid (gr_then HG3W.out (gr_then HG8.out GG))
                  go_wp2
                  go_ret
                  exact ⟨rfl, HGG.out⟩
end Go.Proofs.YteajpefbmiiioaaGreatDoor
namespace Go.Proofs.YteajpefbmiiioaaGreatDoor
open Go.ChangeShapes Go.WideShapes Go.ChangeAt Go.RowKit Mth

theorem wf_i64 {n : Int} (h : (Lit.int .i64 n).wf = true) : -9223372036854775808 ≤ n ∧ n ≤ 9223372036854775807 := by
  have a1 : IntKind.i64.min = -9223372036854775808 := rfl
  have a2 : IntKind.i64.max = 9223372036854775807 := rfl
  simpa [Lit.wf, a1, a2] using h
set_option maxRecDepth 100000 in
/-- An argument that is an array of 3 numbers. -/
theorem arr3_arg {P : Program} {k : IntKind} {t e : TypeId} (ht : P.underlying t = some (.array 3 e)) (he : P.underlying e = some (.int k)) (hc : P.cellsOf t = 3) (hce : P.cellsOf e = 1) {H : Type} {enc : TypeId × Value → H} {W : World} {base : Nat} {v : Value} {d : DataW H} {p : List MemPlace} (hok : Value.okWide P W .any base t v) (h : DataW.Trod enc P W 0 (fun _ => true) true t v d p) : ∃ a0 a1 a2 : Int, v = .agg #[.int k a0, .int k a1, .int k a2] ∧ (Lit.int k a0).wf = true ∧ (Lit.int k a1).wf = true ∧ (Lit.int k a2).wf = true := by
  simp only [Value.okWide, ht] at hok
  obtain ⟨cs, rfl, hsz, _⟩ := hok
  obtain ⟨fuel, hf⟩ := h
  rw [hc] at hsz
  obtain ⟨x0, x1, x2, rfl⟩ : ∃ x0 x1 x2, cs = #[x0, x1, x2] := by
    rcases cs with ⟨l⟩
    match l, hsz with
    | [x0, x1, x2], _ => exact ⟨x0, x1, x2, rfl⟩
  obtain ⟨xs, m, _, _, _, hlen, hf2⟩ := DataW.trod_array ht hf
  have h0 := hf2 0 (by decide)
  have h1 := hf2 1 (by decide)
  have h2 := hf2 2 (by decide)
  rw [hce] at h0 h1 h2
  match xs, hlen with
  | [y0, y1, y2], _ =>
    obtain ⟨a0, e0, _, w0⟩ := DataW.trod_int he (x := y0) (by simpa using h0)
    obtain ⟨a1, e1, _, w1⟩ := DataW.trod_int he (x := y1) (by simpa using h1)
    obtain ⟨a2, e2, _, w2⟩ := DataW.trod_int he (x := y2) (by simpa using h2)
    simp [Value.cells] at e0 e1 e2
    exact ⟨a0, a1, a2, by rw [e0, e1, e2], w0, w1, w2⟩
end Go.Proofs.YteajpefbmiiioaaGreatDoor
namespace Go.Proofs.YteajpefbmiiioaaGreatDoor
open Go.ChangeShapes Go.WideShapes Go.ChangeAt Go.RowKit Mth

theorem spot_none {w : World} {a : Addr} {v : Value} (h : w.cell? a = some v) : a.spot = none := by
  unfold World.cell? at h
  split at h
  · split at h
    · cases h
    · rename_i hs; simpa using hs
  · cases h
theorem add_add (b o i : Nat) : ((⟨b, o, none⟩ : Addr).add i) = ⟨b, o + i, none⟩ := by
  unfold Addr.add
  split
  · rename_i h; subst h; rfl
  · rfl
theorem trips_arg {P : Program} {t e ei : TypeId} (ht : P.underlying t = some (.slice e)) (he : P.underlying e = some (.array 3 ei)) (hei : P.underlying ei = some (.int .i64)) (hce : P.cellsOf e = 3) (hcei : P.cellsOf ei = 1) {H : Type} {enc : TypeId × Value → H} {W : World} {base : Nat} {v : Value} {d : DataW H} {p : List MemPlace} (hok : Value.okWide P W .any base t v) (h : DataW.Trod enc P W 0 (fun _ => true) true t v d p) : ListArg W v := by
  obtain ⟨a0, len, cap, rfl⟩ := okWide_slice ht hok
  obtain ⟨fuel, hf⟩ := h
  rcases DataW.trod_slice ht hf with ⟨hcs, _⟩ | ⟨a, len', cap', elems, rest, n, _, hcs, _, _, hl, hm, hlen, hel, _, _⟩
  · simp [Value.cells] at hcs
    obtain ⟨rfl, rfl, rfl⟩ := hcs
    exact ⟨none, 0, 0, rfl, .inl rfl⟩
  · simp [Value.cells] at hcs
    obtain ⟨rfl, rfl, rfl⟩ := hcs
    refine ⟨some a, len, cap, rfl, ?_⟩
    by_cases h0 : len = 0
    · exact .inl h0
    right
    have each : ∀ i, i < len → ∃ z0 z1 z2 : Int, W.cell? (a.add (i * 3)) = some (.int .i64 z0) ∧ W.cell? ((a.add (i * 3)).add 1) = some (.int .i64 z1) ∧ W.cell? ((a.add (i * 3)).add 2) = some (.int .i64 z2) ∧ I64 z0 ∧ I64 z1 ∧ I64 z2 := by
      intro i hi
      have hb := hel i hi
      rw [hce, List.getElem?_eq_getElem (by omega), Option.bind_eq_some_iff] at hb
      obtain ⟨cs, hcs, hy⟩ := hb
      obtain ⟨_, hcl, hcell⟩ := World.cells?_some hcs
      obtain ⟨xs, m, _, _, _, hxl, hf2⟩ := DataW.trod_array he hy
      have h0 := hf2 0 (by decide)
      have h1 := hf2 1 (by decide)
      have h2 := hf2 2 (by decide)
      rw [hcei] at h0 h1 h2
      match xs, hxl, cs, hcl with
      | [y0, y1, y2], _, [x0, x1, x2], _ =>
        obtain ⟨z0, e0, _, w0⟩ := DataW.trod_int hei (x := y0) (by simpa using h0)
        obtain ⟨z1, e1, _, w1⟩ := DataW.trod_int hei (x := y1) (by simpa using h1)
        obtain ⟨z2, e2, _, w2⟩ := DataW.trod_int hei (x := y2) (by simpa using h2)
        simp at e0 e1 e2
        subst e0 e1 e2
        have c0 := hcell 0 (by decide)
        have c1 := hcell 1 (by decide)
        have c2 := hcell 2 (by decide)
        refine ⟨z0, z1, z2, ?_, c1, c2, wf_i64 w0, wf_i64 w1, wf_i64 w2⟩
        have e : (a.add (i * 3)).add 0 = a.add (i * 3) := by simp [Addr.add]
        rw [e] at c0
        exact c0
    have hsp : a.spot = none := by
      obtain ⟨z0, _, _, h1, _⟩ := each 0 (by omega)
      have : a.add (0 * 3) = a := by simp [Addr.add]
      rw [this] at h1
      exact spot_none h1
    obtain ⟨b, o, s⟩ := a
    dsimp only at hsp
    subst hsp
    have hF : ∃ F : Nat → Int × Int × Int, ∀ i, i < len → W.cell? ⟨b, o + i * 3, none⟩ = some (.int .i64 (F i).1) ∧ W.cell? ⟨b, o + i * 3 + 1, none⟩ = some (.int .i64 (F i).2.1) ∧ W.cell? ⟨b, o + i * 3 + 2, none⟩ = some (.int .i64 (F i).2.2) ∧ I64 (F i).1 ∧ I64 (F i).2.1 ∧ I64 (F i).2.2 := by
      have hx : ∀ i, ∃ f : Int × Int × Int, i < len → W.cell? ⟨b, o + i * 3, none⟩ = some (.int .i64 f.1) ∧ W.cell? ⟨b, o + i * 3 + 1, none⟩ = some (.int .i64 f.2.1) ∧ W.cell? ⟨b, o + i * 3 + 2, none⟩ = some (.int .i64 f.2.2) ∧ I64 f.1 ∧ I64 f.2.1 ∧ I64 f.2.2 := by
        intro i
        by_cases hi : i < len
        · obtain ⟨z0, z1, z2, h1, h2, h3, h4⟩ := each i hi
          rw [add_add] at h1 h2 h3
          rw [add_add] at h2 h3
          exact ⟨(z0, z1, z2), fun _ => ⟨h1, h2, h3, h4⟩⟩
        · exact ⟨(0, 0, 0), fun h => absurd h hi⟩
      exact ⟨fun i => Classical.choose (hx i), fun i hi => Classical.choose_spec (hx i) hi⟩
    obtain ⟨F, hF⟩ := hF
    exact ⟨b, o, F, rfl, fun i hi => ⟨(hF i hi).1, (hF i hi).2.1, (hF i hi).2.2.1⟩, fun i hi => (hF i hi).2.2.2, by unfold maxLen at hm; omega⟩
set_option maxRecDepth 100000 in
theorem rat_arg {H : Type} {enc : TypeId × Value → H} {W : World} {base : Nat} {v : Value} {d : DataW H} {p : List MemPlace} (hok : Value.okWide Tryz.prog W .any base 49 v) (h : DataW.Trod enc Tryz.prog W 0 (fun _ => true) true 49 v d p) : ∃ (a : Bool) (x y : ByteArray), v = .agg #[.bool a, .string x, .string y] := by
  have hc : Tryz.prog.cellsOf 49 = 3 := by kernel_rfl
  have hc1 : Tryz.prog.cellsOf 4 = 1 := by kernel_rfl
  have hc2 : Tryz.prog.cellsOf 24 = 1 := by kernel_rfl
  simp only [Value.okWide, Tryz.underlying49] at hok
  obtain ⟨cs, rfl, hsz, _⟩ := hok
  obtain ⟨fuel, hf⟩ := h
  rw [hc] at hsz
  obtain ⟨x0, x1, x2, rfl⟩ : ∃ x0 x1 x2, cs = #[x0, x1, x2] := by
    rcases cs with ⟨l⟩
    match l, hsz with
    | [x0, x1, x2], _ => exact ⟨x0, x1, x2, rfl⟩
  obtain ⟨xs, m, _, _, _, hlen, hf2⟩ := DataW.trod_struct Tryz.underlying49 hf
  have h0 : DataW.trod enc Tryz.prog W 0 (fun _ => true) true m 4 (List.take (Tryz.prog.cellsOf 4) (List.drop 0 (Value.agg #[x0, x1, x2]).cells.toList)) = xs[0]? := hf2 0 _ rfl
  have h1 : DataW.trod enc Tryz.prog W 0 (fun _ => true) true m 24 (List.take (Tryz.prog.cellsOf 24) (List.drop 1 (Value.agg #[x0, x1, x2]).cells.toList)) = xs[1]? := hf2 1 _ rfl
  have h2 : DataW.trod enc Tryz.prog W 0 (fun _ => true) true m 24 (List.take (Tryz.prog.cellsOf 24) (List.drop 2 (Value.agg #[x0, x1, x2]).cells.toList)) = xs[2]? := hf2 2 _ rfl
  rw [hc1] at h0
  rw [hc2] at h1 h2
  match xs, hlen with
  | [y0, y1, y2], _ =>
    obtain ⟨b, e0, _⟩ := DataW.trod_bool Tryz.underlying4 (x := y0) (by simpa using h0)
    obtain ⟨a1, e1, _, _⟩ := DataW.trod_string Tryz.underlying24 (x := y1) (by simpa using h1)
    obtain ⟨a2, e2, _, _⟩ := DataW.trod_string Tryz.underlying24 (x := y2) (by simpa using h2)
    simp [Value.cells] at e0 e1 e2
    exact ⟨b, a1, a2, by rw [e0, e1, e2]⟩
end Go.Proofs.YteajpefbmiiioaaGreatDoor
namespace Go.Proofs.YteajpefbmiiioaaGreatDoor
open Go.ChangeShapes Go.WideShapes Go.ChangeAt Go.RowKit Mth

set_option maxRecDepth 1000000 in
theorem commonl_laid (os : Os) (args : Array Value) : laidMet Tryz.prog Rows.ratioCommonRow.laid ((laidWorld os).forCall (fun _ _ => 0) ⟨#[], args, []⟩).memory :=
  have h : LaidIn Tryz.prog ((laidWorld os).forCall (fun _ _ => 0) ⟨#[], args, []⟩).memory Rows.ratioCommonRow.laid [4, 5, 2] :=
    LaidIn.of_run [4, 5, 2] 8 (by kernel_rfl) (by kernel_rfl) (by kernel_rfl) (by kernel_rfl)
  h.met
theorem commonl_tab {w : World} (h : laidMet Tryz.prog Rows.ratioCommonRow.laid w) : Tab w :=
  Lib.tabIs_of_head (g := 2) (t := 178) (e := 96) (n := 20) (by kernel_rfl) (by kernel_rfl) (by kernel_rfl) (by kernel_rfl) (by kernel_rfl) (by kernel_rfl) (show laidMet Tryz.prog [("internal/strconv.uint64pow10", Lib.tabData .u64 Lib.pow10Tab)] w from h.tail.tail)

set_option maxRecDepth 1000000 in
set_option maxHeartbeats 4000000 in
theorem commonl_lifted (os : Os) (started : os.Started) (H : Type) (enc : TypeId × Value → H) :
    ReturnsInHanded {} Tryz.checked os 12 .any (fun w args => (Rows.ratioCommonSpec.pre enc Tryz.prog Tryz.f12 Rows.ratioCommonRow.domain false w args ∧ laidMet Tryz.prog Rows.ratioCommonRow.laid w) ∧ sizedMet enc Tryz.prog Tryz.f12 (OpenSpec.ofChange Rows.ratioCommonSpec) false w args)
      (Rows.ratioCommonSpec.post enc Tryz.prog Tryz.f12 false true false false) := by
  refine returnsInHanded_of_change_and (C := Tryz.checked) (X := fun w _ => laidMet Tryz.prog Rows.ratioCommonRow.laid w) (fun _ _ _ hh h => h.of_heap hh) own0 started (by kernel_rfl) Tryz.func12
    (ChangeSpec.witness_at (enc := enc) (C := Tryz.checked) (os := os) (X := fun w _ => laidMet Tryz.prog Rows.ratioCommonRow.laid w) false (laidWorld os) #[.slice none 0 0, .agg #[.bool false, .string ⟨#[]⟩, .string ⟨#[]⟩]] 8 rfl (by kernel_rfl) (by kernel_rfl) (by kernel_rfl) (by kernel_rfl) (by kernel_rfl) (commonl_laid os _)) ?_
  intro W base args ds gs before hval0 hW hcnd0 _ hL _
  have hval : ∀ (j : Nat) t v, Tryz.f12.params[j]? = some t → args[j]? = some v → Value.okWide Tryz.prog W .any base t v := hval0
  have hW' := hW
  obtain ⟨p, q, hA0, hV, rfl, hfz, hnd⟩ := hW
  have hA : DataW.TrodAll enc Tryz.prog W 0 (fun _ => true) true Tryz.f12.params.toList args.toList ds p := hA0
  rw [Tryz.params12] at hA hval
  obtain ⟨v0, v1, d0, d1, p0, p1, rfl, rfl, rfl, h0, h1⟩ := trodAll_two hA
  obtain ⟨rfl, rfl⟩ := trodVars_none hV
  clear hA0 hval0 hA
  simp only [List.append_nil] at hW'
  have k0 := hval 0 66 v0 rfl rfl
  have k1 := hval 1 49 v1 rfl rfl
  have m0 := trips_arg Tryz.underlying66 Tryz.underlying47 Tryz.underlying3 (by kernel_rfl) (by kernel_rfl) k0 h0
  obtain ⟨n1_0, n1_1, n1_2, rfl⟩ := rat_arg k1 h1
  refine (commonl_true v0 n1_0 n1_1 n1_2 W (commonl_tab hL) m0).mono fun e W' ⟨he, hg⟩ => ?_
  subst he
  have hb : Below W.heap.size W W' := gr_low hg (Nat.le_refl _)
  have hlt : ∀ x ∈ p0 ++ p1, x.block < W.heap.size := fun x hx => by simpa using hW'.lt x hx
  have hl0 : ∀ x ∈ p0, x.block < W.heap.size := fun x hx => hlt x (by simp [hx])
  have hl1 : ∀ x ∈ p1, x.block < W.heap.size := fun x hx => hlt x (by simp [hx])
  refine ⟨_, rfl, _, _, _, [], p0 ++ p1, [], hW', ?_, ?_, rfl, hb.frame _, fun h => by cases h⟩
  · exact trodAll_mk1 (shut_bool Tryz.underlying4 true)
  · have h3 := trodAll_mk2 (Below.trod laidOut0 (by kernel_rfl) (of_decide_eq_true (by kernel_rfl)) h0 hb hl0) (Below.trod laidOut0 (by kernel_rfl) (of_decide_eq_true (by kernel_rfl)) h1 hb hl1)
    exact h3

theorem commonl_row : Rows.RatioCommonSaid :=
  OpenClaim.holds_of_wide 12 Tryz.f12 rfl rfl rfl rfl rfl rfl rfl ⟨rfl, rfl, rfl, rfl, rfl⟩ rfl rfl rfl rfl rfl (by kernel_rfl) Tryz.func12 (by kernel_rfl)
    (of_decide_eq_true (by kernel_rfl)) (by unfold Func.isWrapper; first | (rw [if_pos (by decide +kernel)]; kernel_rfl) | (rw [if_neg (by decide +kernel)]; exact ⟨rfl, rfl⟩))
    (fun os started H enc _ => commonl_lifted os started H enc)
end Go.Proofs.YteajpefbmiiioaaGreatDoor
