/- Contracts of the program and of the reference, part 3: Dc, Dd, De, Dr, MthT, Dt, Du. -/
import Derived.Test.YtmlmjhlakpgagaaDoorBRing2
import Derived.Test.YtmlmjhlakpgagaaDoorShelf
import Derived.Deep.RegionHeld3
import Derived.Deep.DeepCutAuto
import Derived.Lib.LaidTab
import Derived.Lib.ItoaMem
namespace Go.Proofs.YtmlmjhlakpgagaaDoor
open Go.RowKit Mth Dm

theorem compare_any (x y : Int) (w : World) :
    Calls Tryd.prog 45 #[.int .i64 x, .int .i64 y] w fun e w' => e = .returned (.int .i64 (cmpI x y)) ∧ w = w' := by
  refine (Tryd.cmp_Compare_int x y w).mono ?_
  rintro e w' ⟨rfl, rfl⟩
  refine ⟨?_, rfl⟩
  unfold Lib.compareInt cmpI
  rfl
theorem or2_any (g : Nat) (x y : Int) (w : World) (h0 : w.cell? ⟨g, 0, none⟩ = some (.int .i64 x)) (h1 : w.cell? ⟨g, 1, none⟩ = some (.int .i64 y)) :
    Calls Tryd.prog 44 #[.slice (some ⟨g, 0, none⟩) 2 2] w fun e w' => e = .returned (.int .i64 (if x ≠ 0 then x else y)) ∧ w = w' := by
  by_cases hx : x = 0
  · subst hx
    rw [if_neg (by simp)]
    by_cases hy : y = 0
    · subst hy
      go_enter Tryd.func44, Tryd.ntmps44
      go_wp2
      go_loop [8] (fun u => ∃ i : Nat, i ≤ 2 ∧ u = .int .i64 i) (fun u => 2 - (intOf u).toNat)
      case atStart => exact ⟨0, by omega, rfl⟩
      case round =>
        obtain ⟨i, hi, rfl⟩ := hrel
        rcases (show i = 0 ∨ i = 1 ∨ i = 2 by omega) with rfl | rfl | rfl
        · go_wp2
          exact ⟨⟨1, by omega, by go_num⟩, by simp [intOf]⟩
        · go_wp2
          exact ⟨⟨2, by omega, by go_num⟩, by simp [intOf]⟩
        · go_wp2
          go_ret
          exact ⟨rfl, rfl⟩
    · have hyb : (y != 0) = true := by rw [bne_iff_ne]; exact hy
      go_enter Tryd.func44, Tryd.ntmps44
      go_wp2
      go_loop [8] (fun u => ∃ i : Nat, i ≤ 1 ∧ u = .int .i64 i) (fun u => 2 - (intOf u).toNat)
      case atStart => exact ⟨0, by omega, rfl⟩
      case round =>
        obtain ⟨i, hi, rfl⟩ := hrel
        rcases (show i = 0 ∨ i = 1 by omega) with rfl | rfl
        · go_wp2
          exact ⟨⟨1, by omega, by go_num⟩, by simp [intOf]⟩
        · go_wp2
          go_ret
          exact ⟨rfl, rfl⟩
  · have hxb : (x != 0) = true := by rw [bne_iff_ne]; exact hx
    rw [if_pos hx]
    go_enter Tryd.func44, Tryd.ntmps44
    go_wp2
    go_loop [8] (fun u => u = .int .i64 0) (fun u => 2 - (intOf u).toNat)
    case atStart => rfl
    case round =>
      subst hrel
      go_wp2
      go_ret
      exact ⟨rfl, rfl⟩
theorem P10_eq (k : Nat) : ((P10 k : Nat) : Int) = (10 : Int) ^ k := P10_int k
set_option maxRecDepth 100000 in
theorem cmp_any (n s m t : Int) (w : World) :
    Calls Tryd.prog 24 #[.agg #[.int .i64 n, .int .i64 s], .agg #[.int .i64 m, .int .i64 t]] w fun e w' => e = .returned (.int .i64 (cmpD (valD n s) (valD m t))) ∧ w.grownBy w' none := by
  have ha := rt_val n s
  have hb := rt_val m t
  have hp := cmpD_parts ha.sc hb.sc
  have hva := fun w => value_any n s w
  have hvb := fun w => value_any m t w
  generalize valD n s = a at *
  generalize valD m t = b at *
  obtain ⟨an, sa⟩ := a
  obtain ⟨bn, sb⟩ := b
  have hpa := fun w => parts_any an sa w ha.lo ha.hi ha.sc
  have hpb := fun w => parts_any bn sb w hb.lo hb.hi hb.sc
  rw [P10_eq, P10_eq] at hpa hpb
  dsimp only at hp hva hvb
  generalize an.tdiv (10 ^ sa) = x1 at *
  generalize an.tmod (10 ^ sa) * 10 ^ (6 - sa) = x2 at *
  generalize bn.tdiv (10 ^ sb) = y1 at *
  generalize bn.tmod (10 ^ sb) * 10 ^ (6 - sb) = y2 at *
  have HP := Lib.hid hp
  have HVA := Lib.hid hva
  have HVB := Lib.hid hvb
  have HPA := Lib.hid hpa
  have HPB := Lib.hid hpb
  clear hp hva hvb hpa hpb ha hb
  go_enter Tryd.func24, Tryd.ntmps24
  go_wp2_with fail
  refine (HVA.out _).mono ?_
  rintro e w1 ⟨rfl, g1⟩
  have hT := (Two.new1 w (.cells #[.int .i64 n, .int .i64 s] 23) (.int .i64 m) (.int .i64 t) 23).kept g1
  have G := Lib.hid (gr_two g1)
  clear g1
  go_wp2_with fail
  refine (HPA.out _).mono ?_
  rintro e w2 ⟨rfl, g2⟩
  have hT := hT.kept g2
  have G := Lib.hid (gr_then G.out g2)
  clear g2
  have hc0 := hT.c0
  have hc1 := hT.c1
  go_wp2_with fail
  refine (HVB.out _).mono ?_
  rintro e w3 ⟨rfl, g3⟩
  have G := Lib.hid (gr_then G.out g3)
  clear g3
  go_wp2_with fail
  refine (HPB.out _).mono ?_
  rintro e w4 ⟨rfl, g4⟩
  have G := Lib.hid (gr_then G.out g4)
  clear g4
  go_wp2_with fail
  refine (compare_any _ _ _).mono ?_
  rintro e w5 ⟨rfl, rfl⟩
  go_wp2_with fail
  refine (compare_any _ _ _).mono ?_
  rintro e w5 ⟨rfl, rfl⟩
  go_wp2_with fail
  have hN := Two.new w4 (.int .i64 (cmpI x1 y1)) (.int .i64 (cmpI x2 y2)) 3
  refine (or2_any _ _ _ _ hN.c0 hN.c1).mono ?_
  rintro e w5 ⟨rfl, rfl⟩
  rw [← HP.out]
  go_wp2
  go_ret
  exact ⟨rfl, gr_then G.out (gr_alloc _ _ none)⟩
/-- What unitsOf gives. -/
def UC (n : Int) (s m : Nat) (x : Int) (p : Bool) : Prop := ∀ w, Calls Tryd.prog 40 #[.agg #[.int .i64 n, .int .i64 (s : Int)], .int .i64 m] w fun e w' => e = .returned (.tuple #[.int .i64 x, .bool p]) ∧ w.grownBy w' none
theorem uc_small {n : Int} {p : Nat} (hp : 0 < p) (h : ¬ n.natAbs > 2000000000000000 / p) : -2000000000000000 ≤ n * (p : Int) ∧ n * (p : Int) ≤ 2000000000000000 := by
  have h1 : (n * (p : Int)).natAbs ≤ 2000000000000000 := by
    rw [Int.natAbs_mul, Int.natAbs_natCast]; exact (Nat.le_div_iff_mul_le hp).1 (by omega)
  omega
theorem add_cases {a b : Int × Nat} (ha : Dm.Rt a) (hb : Dm.Rt b) :
    (∃ X Y, UC a.1 a.2 (max a.2 b.2) X true ∧ UC b.1 b.2 (max a.2 b.2) Y true ∧ -2000000000000000 ≤ X ∧ X ≤ 2000000000000000 ∧ -2000000000000000 ≤ Y ∧ Y ≤ 2000000000000000 ∧ addD a b = fitD (X + Y) (max a.2 b.2)) ∨
    (∃ x p, UC a.1 a.2 (max a.2 b.2) 0 false ∧ UC b.1 b.2 (max a.2 b.2) x p ∧ addD a b = (0, 0, false)) ∨
    (∃ x, UC a.1 a.2 (max a.2 b.2) x true ∧ UC b.1 b.2 (max a.2 b.2) 0 false ∧ addD a b = (0, 0, false)) := by
  have h6 := ha.sc
  have h7 := hb.sc
  obtain ⟨mm, hmm⟩ : ∃ mm, mm = max a.2 b.2 := ⟨_, rfl⟩
  rw [← hmm]
  have hA1 := fun w h => unitsOf_no a.1 a.2 mm w ha.lo ha.hi (by omega) (by omega) h
  have hA2 := fun w h => unitsOf_yes a.1 a.2 mm w ha.lo ha.hi (by omega) (by omega) h
  have hB1 := fun w h => unitsOf_no b.1 b.2 mm w hb.lo hb.hi (by omega) (by omega) h
  have hB2 := fun w h => unitsOf_yes b.1 b.2 mm w hb.lo hb.hi (by omega) (by omega) h
  by_cases cA : a.1.natAbs > 2000000000000000 / P10 (mm - a.2)
  · right; left
    have hr : addD a b = (0, 0, false) := addD_big ha hb (by rw [← hmm]; exact cA)
    by_cases cB : b.1.natAbs > 2000000000000000 / P10 (mm - b.2)
    · exact ⟨_, _, fun w => hA1 w cA, fun w => hB1 w cB, hr⟩
    · exact ⟨_, _, fun w => hA1 w cA, fun w => hB2 w cB, hr⟩
  · by_cases cB : b.1.natAbs > 2000000000000000 / P10 (mm - b.2)
    · right; right
      exact ⟨_, fun w => hA2 w cA, fun w => hB1 w cB, by rw [addD_comm]; exact addD_big hb ha (by rw [Nat.max_comm, ← hmm]; exact cB)⟩
    · left
      obtain ⟨a1, a2⟩ := uc_small (P10_pos _) cA
      obtain ⟨b1, b2⟩ := uc_small (P10_pos _) cB
      refine ⟨_, _, fun w => hA2 w cA, fun w => hB2 w cB, a1, a2, b1, b2, ?_⟩
      rw [P10_eq, P10_eq]; unfold addD; rw [← hmm]
set_option maxHeartbeats 4000000 in
set_option maxRecDepth 100000 in
theorem add_any (n s m t : Int) (w : World) :
    Calls Tryd.prog 20 #[.agg #[.int .i64 n, .int .i64 s], .agg #[.int .i64 m, .int .i64 t]] w fun e w' => e = .returned (dres (addD (valD n s) (valD m t))) ∧ w.grownBy w' none := by
  have ha := rt_val n s
  have hb := rt_val m t
  have hva := fun w => value_any n s w
  have hvb := fun w => value_any m t w
  generalize valD n s = a at *
  generalize valD m t = b at *
  obtain ⟨an, sa⟩ := a
  obtain ⟨bn, sb⟩ := b
  dsimp only at hva hvb
  have HVA := Lib.hid hva
  have HVB := Lib.hid hvb
  have hT0 := (Two.new w (.int .i64 n) (.int .i64 s) 23).alloc (.cells #[.int .i64 m, .int .i64 t] 23)
  have hT0 := hT0.alloc (.cells #[.int .i64 0, .int .i64 0] 23)
  have hT1 := (Two.new1 w (.cells #[.int .i64 n, .int .i64 s] 23) (.int .i64 m) (.int .i64 t) 23).alloc (.cells #[.int .i64 0, .int .i64 0] 23)
  have hT2 := Two.new2 w (.cells #[.int .i64 n, .int .i64 s] 23) (.cells #[.int .i64 m, .int .i64 t] 23) (.int .i64 0) (.int .i64 0) 23
  have hT0 := hT0.drew
  have hT1 := hT1.drew
  have hT2 := hT2.drew
  have g0 := gr_three (a := w) (b := (((w.alloc (.cells #[.int .i64 n, .int .i64 s] 23)).alloc (.cells #[.int .i64 m, .int .i64 t] 23)).alloc (.cells #[.int .i64 0, .int .i64 0] 23)).drew) (gr_drew _ _)
  clear hva hvb
  go_enter Tryd.func20, Tryd.ntmps20
  go_wp2_with fail
  go_cut [] from 11 to 14 (fun wx => Two wx w.heap.size (.int .i64 an) (.int .i64 sa) 23 ∧ Two wx (w.heap.size + 1) (.int .i64 bn) (.int .i64 sb) 23 ∧ Two wx (w.heap.size + 1 + 1) (.int .i64 0) (.int .i64 0) 23 ∧ w.grownBy wx none)
  case first =>
    have c00 := hT0.c0
    have c01 := hT0.c1
    have c10 := hT1.c0
    have c11 := hT1.c1
    go_region_with (first
      | (go_at_call_of 39 (Value.agg #[.int .i64 n, .int .i64 s]); refine (HVA.out _).mono ?_; rintro e wa ⟨rfl, ga⟩; have hA0 := Two.kept (b := w.heap.size) (x := .int .i64 n) (y := .int .i64 s) (by assumption) ga; have hA1 := Two.kept (b := w.heap.size + 1) (x := .int .i64 m) (y := .int .i64 t) (by assumption) ga; have hA2 := Two.kept (b := w.heap.size + 1 + 1) (x := .int .i64 0) (y := .int .i64 0) (by assumption) ga; have gA := gr_then (a := w) (by assumption) ga; have dA0 := hA0.c0; have dA1 := hA0.c1; have dA2 := hA1.c0; have dA3 := hA1.c1; have fA0 := hA0.fr 0; have fA1 := hA0.fr 1; have fA2 := hA1.fr 0; have fA3 := hA1.fr 1)
      | (go_at_call_of 39 (Value.agg #[.int .i64 m, .int .i64 t]); refine (HVB.out _).mono ?_; rintro e wb ⟨rfl, gb⟩; have hB0 := Two.kept (b := w.heap.size) (x := .int .i64 n) (y := .int .i64 s) (by assumption) gb; have hB1 := Two.kept (b := w.heap.size + 1) (x := .int .i64 m) (y := .int .i64 t) (by assumption) gb; have hB2 := Two.kept (b := w.heap.size + 1 + 1) (x := .int .i64 0) (y := .int .i64 0) (by assumption) gb; have gB := gr_then (a := w) (by assumption) gb; have dB0 := hB0.c0; have dB1 := hB0.c1; have dB2 := hB1.c0; have dB3 := hB1.c1; have fB0 := hB0.fr 0; have fB1 := hB0.fr 1; have fB2 := hB1.fr 0; have fB3 := hB1.fr 1))
    all_goals
      go_wp2
      go_meet
      exact ⟨((Two.set2 (by assumption) _ _).other (by omega)).other (by omega), Two.set2 ((Two.other (x := .int .i64 m) (y := .int .i64 t) (t := 23) (by assumption) (by omega)).other (by omega)) _ _, (((Two.other (x := .int .i64 0) (y := .int .i64 0) (t := 23) (by assumption) (by omega)).other (by omega)).other (by omega)).other (by omega), gr_setn (gr_setn (gr_setn (gr_setn (by assumption) (by omega)) (by omega)) (by omega)) (by omega)⟩
  case rest =>
    obtain ⟨hU0, hU1, hU2, hG⟩ := hcut
    clear hT0 hT1 hT2 g0 HVA HVB
    obtain ⟨mm, hmm⟩ : ∃ mm, mm = max sa sb := ⟨_, rfl⟩
    have hs6 := ha.sc
    have hs7 := hb.sc
    dsimp only at hs6 hs7
    have hm6 : mm ≤ 6 := by omega
    have hx : max (sa : Int) (sb : Int) = (mm : Int) := by omega
    have hsa : sa ≤ mm := by omega
    have hsb : sb ≤ mm := by omega
    have hcs := add_cases ha hb
    dsimp only at hcs
    rw [← hmm] at hcs
    clear hmm ha hb
    have c00 := hU0.c0
    have c01 := hU0.c1
    have c10 := hU1.c0
    have c11 := hU1.c1
    rcases hcs with ⟨X, Y, hA, hB, a1, a2, b1, b2, hadd⟩ | ⟨x, p, hA, hB, hadd⟩ | ⟨x, hA, hB, hadd⟩
    · have HR := Lib.hid hadd
      have HA := Lib.hid hA
      have HB := Lib.hid hB
      clear hadd hA hB
      go_wp2_with fail
      refine (HA.out _).mono ?_
      rintro e w2 ⟨rfl, g2⟩
      have hU1 := hU1.kept g2
      have hU2 := hU2.kept g2
      have G := Lib.hid (gr_then hG g2)
      have d10 := hU1.c0
      have d11 := hU1.c1
      clear g2
      go_wp2_with fail
      refine (HB.out _).mono ?_
      rintro e w3 ⟨rfl, g3⟩
      have hU2 := hU2.kept g3
      have G := Lib.hid (gr_then G.out g3)
      clear g3
      go_wp2_with fail
      refine (make_at _ (X + Y) _ mm _ rfl rfl (by omega) (by omega) (by omega)).mono ?_
      rintro e w4 ⟨rfl, g4⟩
      have hU2 := hU2.kept g4
      have G := Lib.hid (gr_then G.out g4)
      have d20 := hU2.c0
      have d21 := hU2.c1
      have f20 := hU2.fr 0
      have f21 := hU2.fr 1
      clear g4
      unfold dres
      go_wp2
      exact bodyPost_ret (v := dres (fitD (X + Y) mm)) (by simp [results, Tryd.results20, go_sem, d20, d21, dres]) rfl ⟨by rw [HR.out], gr_setn (gr_setn G.out (by omega)) (by omega)⟩
    all_goals
      have HR := Lib.hid hadd
      have HA := Lib.hid hA
      have HB := Lib.hid hB
      clear hadd hA hB
      go_wp2_with fail
      refine (HA.out _).mono ?_
      rintro e w2 ⟨rfl, g2⟩
      have hU1 := hU1.kept g2
      have hU2 := hU2.kept g2
      have G := Lib.hid (gr_then hG g2)
      have d10 := hU1.c0
      have d11 := hU1.c1
      clear g2
      go_wp2_with fail
      refine (HB.out _).mono ?_
      rintro e w3 ⟨rfl, g3⟩
      have hU2 := hU2.kept g3
      have G := Lib.hid (gr_then G.out g3)
      have d20 := hU2.c0
      have d21 := hU2.c1
      have f20 := hU2.fr 0
      have f21 := hU2.fr 1
      clear g3
      go_wp2
      exact bodyPost_ret (v := .tuple #[.agg #[.int .i64 0, .int .i64 0], .bool false]) (by simp [results, Tryd.results20, go_sem, d20, d21]) rfl ⟨by rw [HR.out]; rfl, gr_setn (gr_setn G.out (by omega)) (by omega)⟩
end Go.Proofs.YtmlmjhlakpgagaaDoor
namespace Go.Proofs.YtmlmjhlakpgagaaDoor
open Go.RowKit Mth Dm

/-- The variable decimal.primes as it is laid. -/
abbrev PrV (w : World) : Prop := Lib.TabIs Tryd.prog w "concord/decimal.primes" .i64 [2, 5]
theorem tabis_grown {w w' : World} {name : String} {k : IntKind} {zs : List Int} (h : Lib.TabIs Tryd.prog w name k zs) (hg : w.grownBy w' none) : Lib.TabIs Tryd.prog w' name k zs := by
  unfold Lib.TabIs World.var? at *
  cases hq : Tryd.prog.globalNamed name with
  | none => simp [hq] at h
  | some g =>
    simp only [hq, Option.bind_some] at h ⊢
    have hlt : g < w.heap.size := by
      rcases Nat.lt_or_ge g w.heap.size with h' | h'
      · exact h'
      · rw [Array.getElem?_eq_none h'] at h; simp at h
    rw [hg.block g hlt (by simp)]
    exact h
theorem prv_nm : Tryd.prog.globalNamed "concord/decimal.primes" = some 0 := by kernel_rfl
theorem prv_cells {w : World} (h : PrV w) : w.cell? ⟨0, 0, none⟩ = some (.int .i64 2) ∧ w.cell? ⟨0, 1, none⟩ = some (.int .i64 5) := ⟨h.cell prv_nm 0 (by decide), h.cell prv_nm 1 (by decide)⟩

structure CInv (P : Int) (S : Nat) (x y : Int) (s : Nat) : Prop where
  can : Dm.Can P S x y s
  x1 : -1000000000000000 ≤ x
  x2 : x ≤ 1000000000000000
  y1 : -1000000000000000 ≤ y
  y2 : y ≤ 1000000000000000
  lx : s = 0 ∨ x % 10 ≠ 0
  ly : s = 0 ∨ y % 10 ≠ 0
theorem CInv.two {P : Int} {S : Nat} {x y : Int} {s : Nat} (h : CInv P S x y (s + 1)) (h2 : x % 2 = 0) (h5 : y % 5 = 0) : CInv P S (x / 2) (y / 5) s := by
  have a := h.x1; have b := h.x2; have c := h.y1; have d := h.y2; have e := h.lx; have f := h.ly
  refine ⟨?_, by omega, by omega, by omega, by omega, by omega, by omega⟩
  apply Dm.Can.two
  have hc := h.can
  rwa [show 2 * (x / 2) = x from by omega, show 5 * (y / 5) = y from by omega]
theorem CInv.five {P : Int} {S : Nat} {x y : Int} {s : Nat} (h : CInv P S x y (s + 1)) (h2 : y % 2 = 0) (h5 : x % 5 = 0) : CInv P S (x / 5) (y / 2) s := by
  have a := h.x1; have b := h.x2; have c := h.y1; have d := h.y2; have e := h.lx; have f := h.ly
  refine ⟨?_, by omega, by omega, by omega, by omega, by omega, by omega⟩
  apply Dm.Can.comm
  apply Dm.Can.two
  have hc := h.can.comm
  rwa [show 2 * (y / 2) = y from by omega, show 5 * (x / 5) = x from by omega]
theorem strip_bound (s : Nat) (v : Int) (h1 : -1000000000000000 ≤ v) (h2 : v ≤ 1000000000000000) : -1000000000000000 ≤ (strip s v).1 ∧ (strip s v).1 ≤ 1000000000000000 := by
  induction s generalizing v with
  | zero => exact ⟨h1, h2⟩
  | succ s ih =>
    simp only [strip]; split
    · exact ih _ (by omega) (by omega)
    · exact ⟨h1, h2⟩
theorem CInv.start {x y : Int} (S : Nat) (x1 : -1000000000000000 ≤ x) (x2 : x ≤ 1000000000000000) (y1 : -1000000000000000 ≤ y) (y2 : y ≤ 1000000000000000) :
    CInv (x * y) S (strip S x).1 (strip (strip S x).2 y).1 (strip (strip S x).2 y).2 := by
  obtain ⟨a, b⟩ := strip_bound S x x1 x2
  obtain ⟨c, d⟩ := strip_bound (strip S x).2 y y1 y2
  have h1 := strip_le (strip S x).2 y
  refine ⟨((Dm.Can.start x y S).left.comm.left).comm, a, b, c, d, ?_, ?_⟩
  · rcases strip_done S x with h | h
    · left; omega
    · exact .inr h
  · exact strip_done _ _
theorem tm_zero {x : Int} {k : Int} (h : x % k = 0) : (x.tmod k == 0) = true := by
  rw [beq_iff_eq, ← Int.dvd_iff_tmod_eq_zero, Int.dvd_iff_emod_eq_zero]; exact h
theorem tm_not {x : Int} {k : Int} (h : x % k ≠ 0) : (x.tmod k == 0) = false := by
  rw [beq_eq_false_iff_ne, ne_eq, ← Int.dvd_iff_tmod_eq_zero, Int.dvd_iff_emod_eq_zero]; exact h
theorem td_exact {x : Int} {k : Int} (h : x % k = 0) : x.tdiv k = x / k := Int.tdiv_eq_ediv_of_dvd (Int.dvd_of_emod_eq_zero h)

set_option maxHeartbeats 2000000 in
set_option maxRecDepth 100000 in
theorem cancelled_any (x y : Int) (S : Nat) (w : World) (hv : PrV w) (hS : S ≤ 12) (x1 : -1000000000000000 ≤ x) (x2 : x ≤ 1000000000000000) (y1 : -1000000000000000 ≤ y) (y2 : y ≤ 1000000000000000) :
    Calls Tryd.prog 46 #[.int .i64 x, .int .i64 y, .int .i64 S] w fun e w' => ∃ (x' y' : Int) (s' : Nat), e = .returned (.tuple #[.int .i64 x', .int .i64 y', .int .i64 (s' : Int)]) ∧ CInv (x * y) S x' y' s' ∧ (s' = 0 ∨ (x' * y') % 10 ≠ 0) ∧ w.grownBy w' none := by
  have hst := CInv.start S x1 x2 y1 y2
  have hz1 := fun w => zeros_any x S (by omega) w (by omega) (by omega)
  have hle1 := strip_le S x
  have hz2 := fun w => zeros_any y (strip S x).2 (by omega) w (by omega) (by omega)
  generalize strip S x = p at *
  obtain ⟨px, ps⟩ := p
  dsimp only at hst hz1 hz2 hle1
  generalize strip ps y = q at *
  obtain ⟨qy, qs⟩ := q
  dsimp only at hst hz1 hz2
  generalize hP : x * y = P at hst
  have HZ1 := Lib.hid hz1
  have HZ2 := Lib.hid hz2
  have HST := Lib.hid hst
  obtain ⟨p0, p1⟩ := prv_cells hv
  have i0 : ∀ w, (Instr.index 39 (.agg #[.int .i64 2, .int .i64 5]) (.int .i64 0)).run Tryd.prog w = .ok (.int .i64 2) w := fun _ => by kernel_rfl
  have i1 : ∀ w, (Instr.index 39 (.agg #[.int .i64 2, .int .i64 5]) (.int .i64 1)).run Tryd.prog w = .ok (.int .i64 5) w := fun _ => by kernel_rfl
  have HV := Lib.hid hv
  clear hz1 hz2 hst hv hP
  go_enter Tryd.func46, Tryd.ntmps46
  go_wp2_with fail
  refine (HZ1.out _).mono ?_
  rintro e w1 ⟨rfl, rfl⟩
  go_wp2_with fail
  refine (HZ2.out _).mono ?_
  rintro e w1 ⟨rfl, rfl⟩
  go_wp2
  go_loopw [0, 1, 2, 25] (fun u v z ii wr => ∃ (i : Nat) (x y : Int) (s : Nat), i ≤ 2 ∧ s ≤ 12 ∧ ii = .int .i64 i ∧ u = .int .i64 x ∧ v = .int .i64 y ∧ z = .int .i64 s ∧ w.grownBy wr none ∧ Hid (CInv P S x y s ∧ (1 ≤ i → s = 0 ∨ ¬ (x % 2 = 0 ∧ y % 5 = 0)) ∧ (2 ≤ i → s = 0 ∨ ¬ (x % 5 = 0 ∧ y % 2 = 0)))) (fun _ _ _ ii _ => 2 - (intOf ii).toNat)
  case atStart => exact ⟨0, px, qy, qs, by omega, by have := HST.out.can.1; omega, rfl, rfl, rfl, rfl, World.grownBy.refl _ _, Lib.hid ⟨HST.out, fun h => by omega, fun h => by omega⟩⟩
  case round =>
    obtain ⟨i, x, y, s, hi, hs12, rfl, rfl, rfl, rfl, hg, HI⟩ := hrel
    have hp0 := hg.cell p0 (by simp)
    have hp1 := hg.cell p1 (by simp)
    rcases (show i = 0 ∨ i = 1 ∨ i = 2 by omega) with rfl | rfl | rfl
    · have hiv := HI.out.1
      have HI := Lib.hid hiv
      clear hiv

      go_wp2
      go_loopw [0, 1, 2] (fun u v z wr => ∃ (x y : Int) (s : Nat), s ≤ 12 ∧ u = .int .i64 x ∧ v = .int .i64 y ∧ z = .int .i64 s ∧ w.grownBy wr none ∧ Hid (CInv P S x y s)) (fun _ _ z _ => (intOf z).toNat)
      case atStart => exact ⟨x, y, s, hs12, rfl, rfl, rfl, hg, HI⟩
      case round =>
        obtain ⟨x, y, s, hs12, rfl, rfl, rfl, hg, HI⟩ := hrel
        have hinv := HI.out
        by_cases h0 : s = 0
        · subst h0
          have HJ := Lib.hid hinv
          have hp1 := hg.cell p1 (by simp)
          have hp0 := hg.cell p0 (by simp)
          clear hinv
          go_wp2
          refine ⟨⟨1, x, y, 0, by omega, by omega, by go_num, rfl, rfl, rfl, hg, Lib.hid (And.intro HJ.out (And.intro (fun _ => .inl rfl) (fun h => by omega)))⟩, by simp [intOf]⟩
        · have h0' : 0 < s := by omega
          by_cases hx : x % 2 = 0
          · by_cases hy : y % 5 = 0
            · obtain ⟨k, rfl⟩ : ∃ k, s = k + 1 := ⟨s - 1, by omega⟩
              have HN := Lib.hid (CInv.two hinv hx hy)
              have t1 := tm_zero hx
              have t2 := tm_zero hy
              have HD1 := Lib.hid (show wrap64 (x.tdiv 2) = x / 2 by rw [td_exact hx]; have := hinv.x1; have := hinv.x2; unfold wrap64; omega)
              have HD2 := Lib.hid (show wrap64 (y.tdiv 5) = y / 5 by rw [td_exact hy]; have := hinv.y1; have := hinv.y2; unfold wrap64; omega)
              clear hinv hx hy h0
              go_wp2
              go_quiet (fail)
              go_wp2
              refine ⟨⟨x / 2, y / 5, k, by omega, by rw [HD1.out], by rw [HD2.out], rfl, gr_then hg (gr_drewN _ _ none), HN⟩, by simp [intOf]⟩
            · have t1 := tm_zero hx
              have t2 := tm_not hy
              have HN := Lib.hid (show s = 0 ∨ ¬ (x % 2 = 0 ∧ y % 5 = 0) from .inr fun h => hy h.2)
              have HJ := Lib.hid hinv
              clear hinv hx hy h0
              go_wp2
              exact ⟨⟨1, x, y, s, by omega, hs12, rfl, rfl, rfl, rfl, hg, Lib.hid ⟨HJ.out, fun _ => HN.out, fun h => by omega⟩⟩, by simp [intOf]⟩
          · have t1 := tm_not hx
            have HN := Lib.hid (show s = 0 ∨ ¬ (x % 2 = 0 ∧ y % 5 = 0) from .inr fun h => hx h.1)
            have HJ := Lib.hid hinv
            clear hinv hx h0
            go_wp2
            exact ⟨⟨1, x, y, s, by omega, hs12, rfl, rfl, rfl, rfl, hg, Lib.hid ⟨HJ.out, fun _ => HN.out, fun h => by omega⟩⟩, by simp [intOf]⟩
    · have hiv := And.intro HI.out.1 (HI.out.2.1 (by omega))
      have HI := Lib.hid hiv
      clear hiv

      go_wp2
      go_loopw [0, 1, 2] (fun u v z wr => ∃ (x y : Int) (s : Nat), s ≤ 12 ∧ u = .int .i64 x ∧ v = .int .i64 y ∧ z = .int .i64 s ∧ w.grownBy wr none ∧ Hid (CInv P S x y s ∧ (s = 0 ∨ ¬ (x % 2 = 0 ∧ y % 5 = 0)))) (fun _ _ z _ => (intOf z).toNat)
      case atStart => exact ⟨x, y, s, hs12, rfl, rfl, rfl, hg, HI⟩
      case round =>
        obtain ⟨x, y, s, hs12, rfl, rfl, rfl, hg, HI⟩ := hrel
        have hinv := HI.out
        by_cases h0 : s = 0
        · subst h0
          have HJ := Lib.hid hinv
          have hp1 := hg.cell p1 (by simp)
          have hp0 := hg.cell p0 (by simp)
          clear hinv
          go_wp2
          refine ⟨⟨2, x, y, 0, by omega, by omega, by go_num, rfl, rfl, rfl, hg, Lib.hid (And.intro HJ.out.1 (And.intro (fun _ => .inl rfl) (fun _ => .inl rfl)))⟩, by simp [intOf]⟩
        · have h0' : 0 < s := by omega
          by_cases hx : x % 5 = 0
          · by_cases hy : y % 2 = 0
            · obtain ⟨k, rfl⟩ : ∃ k, s = k + 1 := ⟨s - 1, by omega⟩
              have HN := Lib.hid (And.intro (CInv.five hinv.1 hy hx) (show k = 0 ∨ ¬ (x / 5 % 2 = 0 ∧ y / 2 % 5 = 0) by have := hinv.2; omega))
              have t1 := tm_zero hx
              have t2 := tm_zero hy
              have HD1 := Lib.hid (show wrap64 (x.tdiv 5) = x / 5 by rw [td_exact hx]; have := hinv.1.x1; have := hinv.1.x2; unfold wrap64; omega)
              have HD2 := Lib.hid (show wrap64 (y.tdiv 2) = y / 2 by rw [td_exact hy]; have := hinv.1.y1; have := hinv.1.y2; unfold wrap64; omega)
              clear hinv hx hy h0
              go_wp2
              go_quiet (fail)
              go_wp2
              refine ⟨⟨x / 5, y / 2, k, by omega, by rw [HD1.out], by rw [HD2.out], rfl, gr_then hg (gr_drewN _ _ none), HN⟩, by simp [intOf]⟩
            · have t1 := tm_zero hx
              have t2 := tm_not hy
              have HN := Lib.hid (show s = 0 ∨ ¬ (x % 5 = 0 ∧ y % 2 = 0) from .inr fun h => hy h.2)
              have HJ := Lib.hid hinv
              clear hinv hx hy h0
              go_wp2
              exact ⟨⟨2, x, y, s, by omega, hs12, rfl, rfl, rfl, rfl, hg, Lib.hid ⟨HJ.out.1, fun _ => HJ.out.2, fun _ => HN.out⟩⟩, by simp [intOf]⟩
          · have t1 := tm_not hx
            have HN := Lib.hid (show s = 0 ∨ ¬ (x % 5 = 0 ∧ y % 2 = 0) from .inr fun h => hx h.1)
            have HJ := Lib.hid hinv
            clear hinv hx h0
            go_wp2
            exact ⟨⟨2, x, y, s, by omega, hs12, rfl, rfl, rfl, rfl, hg, Lib.hid ⟨HJ.out.1, fun _ => HJ.out.2, fun _ => HN.out⟩⟩, by simp [intOf]⟩
    · have hiv := HI.out
      have HF := Lib.hid (last_mul hiv.1.lx hiv.1.ly (hiv.2.1 (by omega)) (hiv.2.2 (by omega)))
      have HJ := Lib.hid hiv.1
      clear hiv
      go_wp2
      go_ret3
      exact ⟨x, y, s, rfl, HJ.out, HF.out, hg⟩
theorem cancelled_at (x y z : Int) (S : Nat) (w : World) (hv : PrV w) (hz : z = (S : Int)) (hS : S ≤ 12) (x1 : -1000000000000000 ≤ x) (x2 : x ≤ 1000000000000000) (y1 : -1000000000000000 ≤ y) (y2 : y ≤ 1000000000000000) :
    Calls Tryd.prog 46 #[.int .i64 x, .int .i64 y, .int .i64 z] w fun e w' => ∃ (x' y' : Int) (s' : Nat), e = .returned (.tuple #[.int .i64 x', .int .i64 y', .int .i64 (s' : Int)]) ∧ CInv (x * y) S x' y' s' ∧ (s' = 0 ∨ (x' * y') % 10 ≠ 0) ∧ w.grownBy w' none := by
  subst hz; exact cancelled_any x y S w hv hS x1 x2 y1 y2
end Go.Proofs.YtmlmjhlakpgagaaDoor
namespace Go.Proofs.YtmlmjhlakpgagaaDoor
open Go.RowKit Mth Dm

theorem sub_any (n s m t : Int) (w : World) (h1 : -9223372036854775808 ≤ m) (h2 : m ≤ 9223372036854775807) :
    Calls Tryd.prog 22 #[.agg #[.int .i64 n, .int .i64 s], .agg #[.int .i64 m, .int .i64 t]] w fun e w' => e = .returned (dres (subD (valD n s) (valD m t))) ∧ w.grownBy w' none := by
  by_cases hmin : m = -9223372036854775808
  · have hneg : wrap64 (-m) = m := by unfold wrap64; omega
    have hv : valD m t = (0, 0) := valD_wrong (by rw [Bool.eq_false_iff]; intro h; rw [rightD_iff] at h; omega)
    have ha := fun w => add_any n s m t w
    rw [hv] at ha ⊢
    rw [show subD (valD n s) (0, 0) = addD (valD n s) (0, 0) from rfl]
    generalize addD (valD n s) (0, 0) = r at ha ⊢
    have HA := Lib.hid ha
    clear ha hv h1 h2 hmin
    go_enter Tryd.func22, Tryd.ntmps22
    go_wp2_with fail
    refine (HA.out _).mono ?_
    rintro e w1 ⟨rfl, g1⟩
    have hT := (Two.new2 w (.cells #[.int .i64 n, .int .i64 s] 23) (.cells #[.int .i64 m, .int .i64 t] 23) (.int .i64 0) (.int .i64 0) 23).kept g1
    have G := Lib.hid (gr_three g1)
    have d0 := hT.c0
    have d1 := hT.c1
    have f0 := hT.fr 0
    have f1 := hT.fr 1
    clear g1
    unfold dres
    go_wp2
    exact bodyPost_ret (v := dres r) (by simp [results, Tryd.results22, go_sem, d0, d1, dres]) rfl ⟨rfl, gr_setn (gr_setn G.out (by omega)) (by omega)⟩
  · have hn := valD_neg m t
    have ha := fun w => add_any n s (-m) t w
    rw [hn] at ha
    rw [show addD (valD n s) (-(valD m t).1, (valD m t).2) = subD (valD n s) (valD m t) from rfl] at ha
    generalize subD (valD n s) (valD m t) = r at ha ⊢
    have HA := Lib.hid ha
    have hlo : -9223372036854775807 ≤ m := by omega
    clear ha hn hmin
    go_enter Tryd.func22, Tryd.ntmps22
    go_wp2_with fail
    refine (HA.out _).mono ?_
    rintro e w1 ⟨rfl, g1⟩
    have hT := (Two.new2 w (.cells #[.int .i64 n, .int .i64 s] 23) (.cells #[.int .i64 m, .int .i64 t] 23) (.int .i64 0) (.int .i64 0) 23).kept g1
    have G := Lib.hid (gr_three g1)
    have d0 := hT.c0
    have d1 := hT.c1
    have f0 := hT.fr 0
    have f1 := hT.fr 1
    clear g1
    unfold dres
    go_wp2
    exact bodyPost_ret (v := dres r) (by simp [results, Tryd.results22, go_sem, d0, d1, dres]) rfl ⟨rfl, gr_setn (gr_setn G.out (by omega)) (by omega)⟩

set_option maxHeartbeats 4000000 in
set_option maxRecDepth 100000 in
theorem mul_any (n s m t : Int) (w : World) (hv : PrV w) :
    Calls Tryd.prog 26 #[.agg #[.int .i64 n, .int .i64 s], .agg #[.int .i64 m, .int .i64 t]] w fun e w' => e = .returned (dres (mulD (valD n s) (valD m t))) ∧ w.grownBy w' none := by
  have ha := rt_val n s
  have hb := rt_val m t
  have hva := fun w => value_any n s w
  have hvb := fun w => value_any m t w
  generalize valD n s = a at *
  generalize valD m t = b at *
  obtain ⟨an, sa⟩ := a
  obtain ⟨bn, sb⟩ := b
  dsimp only at hva hvb
  have HVA := Lib.hid hva
  have HVB := Lib.hid hvb
  have hT0 := (Two.new w (.int .i64 n) (.int .i64 s) 23).alloc (.cells #[.int .i64 m, .int .i64 t] 23)
  have hT0 := hT0.alloc (.cells #[.int .i64 0, .int .i64 0] 23)
  have hT1 := (Two.new1 w (.cells #[.int .i64 n, .int .i64 s] 23) (.int .i64 m) (.int .i64 t) 23).alloc (.cells #[.int .i64 0, .int .i64 0] 23)
  have hT2 := Two.new2 w (.cells #[.int .i64 n, .int .i64 s] 23) (.cells #[.int .i64 m, .int .i64 t] 23) (.int .i64 0) (.int .i64 0) 23
  have hT0 := hT0.drew
  have hT1 := hT1.drew
  have hT2 := hT2.drew
  have g0 := gr_three (a := w) (b := (((w.alloc (.cells #[.int .i64 n, .int .i64 s] 23)).alloc (.cells #[.int .i64 m, .int .i64 t] 23)).alloc (.cells #[.int .i64 0, .int .i64 0] 23)).drew) (gr_drew _ _)
  clear hva hvb
  go_enter Tryd.func26, Tryd.ntmps26
  go_wp2_with fail
  go_cut [] from 9 to 12 (fun wx => Two wx w.heap.size (.int .i64 an) (.int .i64 sa) 23 ∧ Two wx (w.heap.size + 1) (.int .i64 bn) (.int .i64 sb) 23 ∧ Two wx (w.heap.size + 1 + 1) (.int .i64 0) (.int .i64 0) 23 ∧ w.grownBy wx none)
  case first =>
    have c00 := hT0.c0
    have c01 := hT0.c1
    have c10 := hT1.c0
    have c11 := hT1.c1
    go_region_with (first
      | (go_at_call_of 39 (Value.agg #[.int .i64 n, .int .i64 s]); refine (HVA.out _).mono ?_; rintro e wa ⟨rfl, ga⟩; have hA0 := Two.kept (b := w.heap.size) (x := .int .i64 n) (y := .int .i64 s) (by assumption) ga; have hA1 := Two.kept (b := w.heap.size + 1) (x := .int .i64 m) (y := .int .i64 t) (by assumption) ga; have hA2 := Two.kept (b := w.heap.size + 1 + 1) (x := .int .i64 0) (y := .int .i64 0) (by assumption) ga; have gA := gr_then (a := w) (by assumption) ga; have dA0 := hA0.c0; have dA1 := hA0.c1; have dA2 := hA1.c0; have dA3 := hA1.c1; have fA0 := hA0.fr 0; have fA1 := hA0.fr 1; have fA2 := hA1.fr 0; have fA3 := hA1.fr 1)
      | (go_at_call_of 39 (Value.agg #[.int .i64 m, .int .i64 t]); refine (HVB.out _).mono ?_; rintro e wb ⟨rfl, gb⟩; have hB0 := Two.kept (b := w.heap.size) (x := .int .i64 n) (y := .int .i64 s) (by assumption) gb; have hB1 := Two.kept (b := w.heap.size + 1) (x := .int .i64 m) (y := .int .i64 t) (by assumption) gb; have hB2 := Two.kept (b := w.heap.size + 1 + 1) (x := .int .i64 0) (y := .int .i64 0) (by assumption) gb; have gB := gr_then (a := w) (by assumption) gb; have dB0 := hB0.c0; have dB1 := hB0.c1; have dB2 := hB1.c0; have dB3 := hB1.c1; have fB0 := hB0.fr 0; have fB1 := hB0.fr 1; have fB2 := hB1.fr 0; have fB3 := hB1.fr 1))
    all_goals
      go_wp2
      go_meet
      exact ⟨((Two.set2 (by assumption) _ _).other (by omega)).other (by omega), Two.set2 ((Two.other (x := .int .i64 m) (y := .int .i64 t) (t := 23) (by assumption) (by omega)).other (by omega)) _ _, (((Two.other (x := .int .i64 0) (y := .int .i64 0) (t := 23) (by assumption) (by omega)).other (by omega)).other (by omega)).other (by omega), gr_setn (gr_setn (gr_setn (gr_setn (by assumption) (by omega)) (by omega)) (by omega)) (by omega)⟩
  case rest =>
    obtain ⟨hU0, hU1, hU2, hG⟩ := hcut
    clear hT0 hT1 hT2 g0 HVA HVB
    have hg1 := hG
    have hp := tabis_grown hv hG
    have hc := fun w hv => cancelled_at an bn ((sa : Int) + sb) (sa + sb) w hv (by omega) (by have := ha.sc; have := hb.sc; dsimp only at *; omega) ha.lo ha.hi hb.lo hb.hi
    have HC := Lib.hid hc
    have c00 := hU0.c0
    have c01 := hU0.c1
    have c10 := hU1.c0
    have c11 := hU1.c1
    have hs6 := ha.sc
    have hs7 := hb.sc
    dsimp only at hs6 hs7
    clear hc ha hb
    go_wp2_with fail
    refine (HC.out _ hp).mono ?_
    rintro e w2 ⟨x, y, s', rfl, hci, hlast, g2⟩
    have hU2 := hU2.kept g2
    have G := Lib.hid (gr_then hG g2)
    have hfit : mulD (an, sa) (bn, sb) = fitD (x * y) s' := hci.can.fit
    have hs12 : s' ≤ 12 := by have := hci.can.1; omega
    have y1 := hci.y1
    have y2 := hci.y2
    have x1 := hci.x1
    have x2 := hci.x2
    have HAx := Lib.hid (fun w => abs_any x w (by omega) (by omega))
    have HAy := Lib.hid (fun w => abs_any y w (by omega) (by omega))
    have HF := Lib.hid hfit
    have HL := Lib.hid hlast
    clear hfit hlast hci g2 hG hg1 hp
    by_cases hx : x = 0
    · have hxb : (x != 0) = false := by rw [bne_eq_false_iff_eq]; exact hx
      have hzz : x * y = 0 := by rw [hx, Int.zero_mul]
      have HZ := Lib.hid hzz
      have hxy1 : 0 ≤ x * y := by omega
      have hxy2 : x * y ≤ 0 := by omega
      clear hx hzz
      go_wp2_with fail
      refine (make_at _ (x * y) _ s' _ rfl rfl (by omega) (by omega) (by omega)).mono ?_
      rintro e w4 ⟨rfl, g4⟩
      have hU2 := hU2.kept g4
      have G := Lib.hid (gr_then G.out g4)
      have d20 := hU2.c0
      have d21 := hU2.c1
      have f20 := hU2.fr 0
      have f21 := hU2.fr 1
      clear g4
      unfold dres
      go_wp2
      exact bodyPost_ret (v := dres (fitD (x * y) s')) (by simp [results, Tryd.results26, go_sem, d20, d21, dres]) rfl ⟨by rw [HF.out], gr_setn (gr_setn G.out (by omega)) (by omega)⟩
    · have hxb : (x != 0) = true := by rw [bne_iff_ne]; exact hx
      have hxp : 0 < x.natAbs := by omega
      by_cases hbig : y.natAbs > 1000000000000000 / x.natAbs
      · have hres : mulD (an, sa) (bn, sb) = (0, 0, false) := by rw [HF.out]; exact fitD_big HL.out (abs_mul_big hx hbig)
        have HR := Lib.hid hres
        have hd : decide ((1000000000000000 / ((x.natAbs : Nat) : Int)) < ((y.natAbs : Nat) : Int)) = true := by
          apply decide_eq_true; rw [cast_div1]; omega
        clear hres hx hbig
        generalize hxa : x.natAbs = xa at *
        generalize hya : y.natAbs = ya at *
        have HX := Lib.hid hxa
        have HY := Lib.hid hya
        clear hxa hya
        have d20 := hU2.c0
        have d21 := hU2.c1
        have f20 := hU2.fr 0
        have f21 := hU2.fr 1
        go_wp2_with fail
        refine (HAy.out _).mono ?_
        rintro e w3 ⟨rfl, rfl⟩
        go_wp2_with fail
        refine (HAx.out _).mono ?_
        rintro e w3 ⟨rfl, rfl⟩
        go_wp2
        exact bodyPost_ret (v := .tuple #[.agg #[.int .i64 0, .int .i64 0], .bool false]) (by simp [results, Tryd.results26, go_sem, d20, d21]) rfl ⟨by rw [HR.out]; rfl, gr_setn (gr_setn G.out (by omega)) (by omega)⟩
      · obtain ⟨xy1, xy2⟩ := abs_mul_small (x := x) (y := y) (fun _ => by omega)
        have hd : decide ((1000000000000000 / ((x.natAbs : Nat) : Int)) < ((y.natAbs : Nat) : Int)) = false := by
          apply decide_eq_false; rw [cast_div1]; omega
        clear hx hbig
        generalize hxa : x.natAbs = xa at *
        generalize hya : y.natAbs = ya at *
        have HX := Lib.hid hxa
        have HY := Lib.hid hya
        clear hxa hya
        go_wp2_with fail
        refine (HAy.out _).mono ?_
        rintro e w3 ⟨rfl, rfl⟩
        go_wp2_with fail
        refine (HAx.out _).mono ?_
        rintro e w3 ⟨rfl, rfl⟩
        go_wp2_with fail
        refine (make_at _ (x * y) _ s' _ rfl rfl (by omega) (by omega) (by omega)).mono ?_
        rintro e w4 ⟨rfl, g4⟩
        have hU2 := hU2.kept g4
        have G := Lib.hid (gr_then G.out g4)
        have d20 := hU2.c0
        have d21 := hU2.c1
        have f20 := hU2.fr 0
        have f21 := hU2.fr 1
        clear g4
        unfold dres
        go_wp2
        exact bodyPost_ret (v := dres (fitD (x * y) s')) (by simp [results, Tryd.results26, go_sem, d20, d21, dres]) rfl ⟨by rw [HF.out], gr_setn (gr_setn G.out (by omega)) (by omega)⟩
end Go.Proofs.YtmlmjhlakpgagaaDoor
namespace Go.Proofs.YtmlmjhlakpgagaaDoor
open Go.RowKit Mth Dm

theorem P10_half {j : Nat} (h : 0 < j) : P10 j = 2 * (5 * P10 (j - 1)) := by
  rw [show j = (j - 1) + 1 from by omega, P10_succ, Nat.add_sub_cancel]; omega
theorem round_out (n s k : Int) (w : World) (h : k < 0 ∨ 6 < k) :
    Calls Tryd.prog 28 #[.agg #[.int .i64 n, .int .i64 s], .int .i64 k] w fun e w' => e = .returned (dres (0, 0, false)) ∧ w.grownBy w' none := by
  have hT := Two.new1 w (.cells #[.int .i64 n, .int .i64 s] 23) (.int .i64 0) (.int .i64 0) 23
  have g := gr_then (gr_alloc w (.cells #[.int .i64 n, .int .i64 s] 23) none) (gr_alloc _ (.cells #[.int .i64 0, .int .i64 0] 23) none)
  have d0 := hT.c0
  have d1 := hT.c1
  have G := Lib.hid g
  clear g
  have hk : k < 0 ∨ (¬ k < 0 ∧ 6 < k) := by omega
  clear h
  rcases hk with h | ⟨h, h2⟩
  all_goals
    go_enter Tryd.func28, Tryd.ntmps28
    go_wp2
    exact bodyPost_ret (v := .tuple #[.agg #[.int .i64 0, .int .i64 0], .bool false]) (by simp [results, Tryd.results28, go_sem, d0, d1]) rfl ⟨rfl, G.out⟩
set_option maxRecDepth 100000 in
theorem round_in (n s : Int) (k : Nat) (w : World) (hk : k ≤ 6) :
    Calls Tryd.prog 28 #[.agg #[.int .i64 n, .int .i64 s], .int .i64 k] w fun e w' => e = .returned (dres (roundD (valD n s) k)) ∧ w.grownBy w' none := by
  have ha := rt_val n s
  have hva := fun w => value_any n s w
  generalize valD n s = a at *
  obtain ⟨an, sa⟩ := a
  dsimp only at hva
  have h1 := ha.lo
  have h2 := ha.hi
  have h6 := ha.sc
  dsimp only at h1 h2 h6
  have HVA := Lib.hid hva
  have T0 := (Two.new w (.int .i64 n) (.int .i64 s) 23).alloc (.cells #[.int .i64 0, .int .i64 0] 23)
  have T1 := Two.new1 w (.cells #[.int .i64 n, .int .i64 s] 23) (.int .i64 0) (.int .i64 0) 23
  clear hva ha
  by_cases hle : sa ≤ k
  · have hr : roundD (an, sa) (k : Int) = (an, sa, true) := by unfold roundD; rw [if_pos ⟨by omega, by omega⟩, if_pos (by dsimp only; omega)]
    rw [hr]
    clear hr
    go_enter Tryd.func28, Tryd.ntmps28
    go_wp2_with fail
    refine (HVA.out _).mono ?_
    rintro e w1 ⟨rfl, g1⟩
    have T0 := T0.kept g1
    have T1 := T1.kept g1
    have G := Lib.hid (gr_two g1)
    have d0 := T1.c0
    have d1 := T1.c1
    have f0 := T1.fr 0
    have f1 := T1.fr 1
    have c0 := T0.c0
    have c1 := T0.c1
    have e0 := T0.fr 0
    have e1 := T0.fr 1
    clear g1
    go_wp2
    exact bodyPost_ret (v := .tuple #[.agg #[.int .i64 an, .int .i64 (sa : Int)], .bool true]) (by simp [results, Tryd.results28, go_sem, d0, d1]) rfl ⟨rfl, gr_setn (gr_setn (gr_setn (gr_setn G.out (by omega)) (by omega)) (by omega)) (by omega)⟩
  · have hlt : k < sa := by omega
    have hr : roundD (an, sa) (k : Int) = fitD (roundI an (P10 (sa - k))) k := by
      unfold roundD
      rw [if_pos ⟨by omega, by omega⟩, if_neg (by dsimp only; omega)]
      rfl
    have hb := roundI_abs an (P10 (sa - k)) (P10_pos _)
    have hpot := fun w => pot_at ((sa : Int) - k) (sa - k) (by omega) (by omega) w
    have hhalf := P10_half (j := sa - k) (by omega)
    have hp6 := P10_le6 (k := sa - k) (by omega)
    generalize P10 (sa - k) = p at *
    obtain ⟨h, hh⟩ : ∃ h, h = 5 * P10 (sa - k - 1) := ⟨_, rfl⟩
    rw [← hh] at hhalf
    have hh0 : 0 < h := by rw [hh]; have := P10_pos (sa - k - 1); omega
    have HR := Lib.hid hr
    have HP := Lib.hid hpot
    have HH := Lib.hid hhalf
    have HB := Lib.hid hb
    have hp2 : (p : Int) / 2 = (h : Int) := by omega
    have hp0 : 0 < p := by omega
    clear hr hpot hh hhalf hb hle
    by_cases hneg : an < 0
    · obtain ⟨m, rfl⟩ : ∃ m : Nat, an = -(m : Int) := ⟨an.natAbs, by omega⟩
      have hrd := round_neg m h hh0
      rw [← HH.out] at hrd
      have HRD := Lib.hid hrd
      have hm0 : 0 < m := by omega
      clear hrd
      go_enter Tryd.func28, Tryd.ntmps28
      go_wp2_with fail
      refine (HVA.out _).mono ?_
      rintro e w1 ⟨rfl, g1⟩
      have T0 := T0.kept g1
      have T1 := T1.kept g1
      have G := Lib.hid (gr_two g1)
      have c0 := T0.c0
      have c1 := T0.c1
      have e0 := T0.fr 0
      have e1 := T0.fr 1
      clear g1
      go_wp2_with fail
      refine (HP.out _).mono ?_
      rintro e w2 ⟨rfl, rfl⟩
      go_wp2_with fail
      refine (make_at _ (roundI (-(m : Int)) p) _ k _ HRD.out rfl (by omega) (by have := HB.out; omega) (by have := HB.out; omega)).mono ?_
      rintro e w3 ⟨rfl, g3⟩
      have T1 := ((T1.other (b' := w.heap.size) (i := 0) (v := .int .i64 ((-(m : Int)))) (by omega)).other (b' := w.heap.size) (i := 1) (v := .int .i64 (sa : Int)) (by omega)).kept g3
      have G := Lib.hid (gr_then (gr_setn (gr_setn (i := 0) (v := .int .i64 ((-(m : Int)))) G.out (Nat.le_refl _)) (Nat.le_refl _)) g3)
      have d0 := T1.c0
      have d1 := T1.c1
      have f0 := T1.fr 0
      have f1 := T1.fr 1
      clear g3
      unfold dres
      go_wp2
      exact bodyPost_ret (v := dres (fitD (roundI (-(m : Int)) p) k)) (by simp [results, Tryd.results28, go_sem, d0, d1, dres]) rfl ⟨by rw [HR.out], gr_setn (gr_setn G.out (by omega)) (by omega)⟩
    · obtain ⟨m, rfl⟩ := Int.eq_ofNat_of_zero_le (show 0 ≤ an by omega)
      have hrd := round_pos m h
      rw [← HH.out] at hrd
      have HRD := Lib.hid (show ((m : Int) + (h : Int)) / (p : Int) = roundI (m : Int) p by rw [← hrd, Int.tdiv_eq_ediv_of_nonneg (by omega)])
      clear hrd hneg
      go_enter Tryd.func28, Tryd.ntmps28
      go_wp2_with fail
      refine (HVA.out _).mono ?_
      rintro e w1 ⟨rfl, g1⟩
      have T0 := T0.kept g1
      have T1 := T1.kept g1
      have G := Lib.hid (gr_two g1)
      have c0 := T0.c0
      have c1 := T0.c1
      have e0 := T0.fr 0
      have e1 := T0.fr 1
      clear g1
      go_wp2_with fail
      refine (HP.out _).mono ?_
      rintro e w2 ⟨rfl, rfl⟩
      go_wp2_with fail
      refine (make_at _ (roundI (m : Int) p) _ k _ HRD.out rfl (by omega) (by have := HB.out; omega) (by have := HB.out; omega)).mono ?_
      rintro e w3 ⟨rfl, g3⟩
      have T1 := ((T1.other (b' := w.heap.size) (i := 0) (v := .int .i64 ((m : Int))) (by omega)).other (b' := w.heap.size) (i := 1) (v := .int .i64 (sa : Int)) (by omega)).kept g3
      have G := Lib.hid (gr_then (gr_setn (gr_setn (i := 0) (v := .int .i64 ((m : Int))) G.out (Nat.le_refl _)) (Nat.le_refl _)) g3)
      have d0 := T1.c0
      have d1 := T1.c1
      have f0 := T1.fr 0
      have f1 := T1.fr 1
      clear g3
      unfold dres
      go_wp2
      exact bodyPost_ret (v := dres (fitD (roundI (m : Int) p) k)) (by simp [results, Tryd.results28, go_sem, d0, d1, dres]) rfl ⟨by rw [HR.out], gr_setn (gr_setn G.out (by omega)) (by omega)⟩
theorem round_any (n s k : Int) (w : World) :
    Calls Tryd.prog 28 #[.agg #[.int .i64 n, .int .i64 s], .int .i64 k] w fun e w' => e = .returned (dres (roundD (valD n s) k)) ∧ w.grownBy w' none := by
  by_cases h : 0 ≤ k ∧ k ≤ 6
  · obtain ⟨j, rfl⟩ := Int.eq_ofNat_of_zero_le h.1
    exact round_in n s j w (by omega)
  · rw [show roundD (valD n s) k = (0, 0, false) from by unfold roundD; rw [if_neg h]]
    exact round_out n s k w (by omega)
end Go.Proofs.YtmlmjhlakpgagaaDoor
namespace Go.Proofs.YtmlmjhlakpgagaaDoor
namespace Mth
open Go.Lib

def isDg (c : UInt8) : Bool := decide (48 ≤ c.toNat) && decide (c.toNat ≤ 57)
/-- The number of decimal digits. -/
def dnum (l : List UInt8) : Nat := l.foldl (fun a d => 10 * a + (d.toNat - 48)) 0
theorem dnum_nil : dnum [] = 0 := rfl
theorem dnum_snoc (l : List UInt8) (d : UInt8) : dnum (l ++ [d]) = 10 * dnum l + (d.toNat - 48) := by simp [dnum]
theorem dfoldl (l : List UInt8) : ∀ a : Nat, l.foldl (fun a d => 10 * a + (d.toNat - 48)) a = a * 10 ^ l.length + dnum l := by
  induction l with
  | nil => intro a; simp [dnum]
  | cons d l ih =>
    intro a
    show List.foldl (fun a d => 10 * a + (d.toNat - 48)) (10 * a + (d.toNat - 48)) l = a * 10 ^ (l.length + 1) + List.foldl (fun a d => 10 * a + (d.toNat - 48)) (10 * 0 + (d.toNat - 48)) l
    rw [ih, ih, Nat.pow_succ, Nat.add_mul, Nat.mul_zero, Nat.zero_add]
    rw [show 10 * a * 10 ^ l.length = a * (10 ^ l.length * 10) from by rw [Nat.mul_comm 10 a, Nat.mul_assoc, Nat.mul_comm 10]]
    omega
theorem dnum_append (l r : List UInt8) : dnum (l ++ r) = dnum l * 10 ^ r.length + dnum r := by
  simp only [dnum, List.foldl_append]
  exact dfoldl r _
theorem dnum_lt (l : List UInt8) (h : l.all isDg = true) : dnum l < 10 ^ l.length := by
  induction hn : l.length generalizing l with
  | zero =>
    obtain rfl : l = [] := List.eq_nil_of_length_eq_zero hn
    simp [dnum]
  | succ n ih =>
    rcases List.eq_nil_or_concat l with rfl | ⟨l', d, rfl⟩
    · simp at hn
    · simp only [List.concat_eq_append] at *
      rw [List.all_append, Bool.and_eq_true] at h
      have h1 := ih l' h.1 (by simpa using hn)
      have h2 : d.toNat ≤ 57 := by
        have := h.2
        simp [isDg] at this; exact this.2
      rw [dnum_snoc, Nat.pow_succ]
      omega
theorem dnum_dec (n : Nat) : dnum (decDigits n) = n := by
  induction n using Nat.strongRecOn with
  | _ n ih =>
    rw [decDigits]
    split
    · rename_i h
      simp only [dnum, List.foldl_cons, List.foldl_nil]
      have : (UInt8.ofNat (48 + n)).toNat = 48 + n := by simp; omega
      rw [this]; omega
    · rename_i h
      rw [dnum_snoc, ih _ (by omega)]
      have : (UInt8.ofNat (48 + n % 10)).toNat = 48 + n % 10 := by simp; omega
      rw [this]; omega
theorem dec_all (n : Nat) : (decDigits n).all isDg = true := by
  induction n using Nat.strongRecOn with
  | _ n ih =>
    rw [decDigits]
    split
    · rename_i h
      have : (UInt8.ofNat (48 + n)).toNat = 48 + n := by simp; omega
      simp only [List.all_cons, List.all_nil, Bool.and_true, isDg, this, Bool.and_eq_true, decide_eq_true_eq]; omega
    · rename_i h
      rw [List.all_append, ih _ (by omega)]
      have : (UInt8.ofNat (48 + n % 10)).toNat = 48 + n % 10 := by simp; omega
      simp only [List.all_cons, List.all_nil, Bool.and_true, Bool.true_and, isDg, this, Bool.and_eq_true, decide_eq_true_eq]; omega
theorem dec_head (n : Nat) : (decDigits n = [48] ∧ n = 0) ∨ (decDigits n).head? ≠ some 48 ∧ decDigits n ≠ [] := by
  induction n using Nat.strongRecOn with
  | _ n ih =>
    rw [decDigits]
    split
    · rename_i h
      rcases Nat.eq_zero_or_pos n with h0 | h0
      · left; subst h0; exact ⟨rfl, rfl⟩
      · right
        refine ⟨?_, by simp⟩
        simp only [List.head?_cons, ne_eq, Option.some.injEq]
        intro e
        have := congrArg UInt8.toNat e
        have e2 : (UInt8.ofNat (48 + n)).toNat = 48 + n := by simp; omega
        rw [e2] at this
        have e3 : (48 : UInt8).toNat = 48 := rfl
        omega
    · rename_i h
      right
      rcases ih (n / 10) (by omega) with ⟨_, h2⟩ | ⟨h1, h2⟩
      · omega
      · refine ⟨?_, by simp⟩
        rw [List.head?_append]
        cases hh : (decDigits (n / 10)).head? with
        | none => exact absurd (List.head?_eq_none_iff.1 hh) h2
        | some x => rw [hh] at h1; simpa using h1
theorem dec_pos (n : Nat) : 0 < (decDigits n).length := by
  rcases dec_head n with ⟨h, _⟩ | ⟨_, h⟩
  · rw [h]; decide
  · rcases Nat.eq_zero_or_pos (decDigits n).length with h0 | h0
    · exact absurd (List.eq_nil_of_length_eq_zero h0) h
    · exact h0
theorem dec_le (n k : Nat) (hk : 0 < k) (h : n < 10 ^ k) : (decDigits n).length ≤ k := by
  induction k generalizing n with
  | zero => omega
  | succ k ih =>
    rw [decDigits]
    split
    · simp
    · rename_i h10
      rw [List.length_append, List.length_singleton]
      rcases Nat.eq_zero_or_pos k with h0 | h0
      · subst h0; simp at h; omega
      · have := ih (n / 10) h0 (by rw [Nat.pow_succ] at h; omega)
        omega
end Mth
end Go.Proofs.YtmlmjhlakpgagaaDoor
namespace Go.Proofs.YtmlmjhlakpgagaaDoor
namespace Dm
open Go.Lib Mth

theorem dec_big {n : Nat} (h : 10 ≤ n) : decDigits n = decDigits (n / 10) ++ [UInt8.ofNat (48 + n % 10)] := by rw [decDigits, dif_neg (by omega)]
/-- The last s digits of a number. -/
def padN : Nat → Nat → List UInt8
  | 0, _ => []
  | s + 1, n => padN s (n / 10) ++ [UInt8.ofNat (48 + n % 10)]
theorem padN_len (s n : Nat) : (padN s n).length = s := by
  induction s generalizing n with
  | zero => rfl
  | succ s ih => simp [padN, ih]
theorem padN_zero (s : Nat) : padN s 0 = List.replicate s 48 := by
  induction s with
  | zero => rfl
  | succ s ih => rw [padN, Nat.zero_div, ih, List.replicate_succ']; rfl
theorem dec_split {s n : Nat} (h : 10 ^ s ≤ n) : decDigits n = decDigits (n / 10 ^ s) ++ padN s n := by
  induction s generalizing n with
  | zero => simp [padN]
  | succ s ih =>
    have hp : 0 < 10 ^ s := Nat.pow_pos (by decide)
    rw [Nat.pow_succ] at h
    rw [dec_big (by omega), ih (n := n / 10) (by omega), padN, List.append_assoc, Nat.div_div_eq_div_mul, Nat.pow_succ, Nat.mul_comm 10]
theorem pad_split {s n : Nat} (h : n < 10 ^ s) (h0 : 0 < s) : List.replicate (s - (decDigits n).length) 48 ++ decDigits n = padN s n := by
  induction s generalizing n with
  | zero => omega
  | succ s ih =>
    by_cases hn : n < 10
    · rw [decDigits_one (by omega), padN, show n / 10 = 0 from by omega, padN_zero, show n % 10 = n from by omega]
      simp
    · rcases Nat.eq_zero_or_pos s with rfl | hs
      · simp at h; omega
      · rw [Nat.pow_succ] at h
        rw [dec_big (by omega), padN, ← ih (n := n / 10) (by omega) hs, List.append_assoc, List.length_append]
        simp
/-- The digits with zeros in front, so that there is one before the point. -/
theorem whole_split (s n : Nat) : List.replicate (s + 1 - (decDigits n).length) 48 ++ decDigits n = decDigits (n / 10 ^ s) ++ padN s n := by
  rcases Nat.lt_or_ge n (10 ^ s) with h | h
  · rw [Nat.div_eq_of_lt h, decDigits_one (i := 0) (by omega)]
    rcases Nat.eq_zero_or_pos s with h0 | h0
    · subst h0
      have : n = 0 := by simpa using h
      subst this
      rw [decDigits_one (by omega)]; rfl
    · have hl := dec_le n s h0 h
      rw [show s + 1 - (decDigits n).length = (s - (decDigits n).length) + 1 from by omega, List.replicate_succ, List.cons_append, pad_split h h0]; rfl
  · rw [dec_split h]
    have h1 := dec_pos (n / 10 ^ s)
    rw [List.length_append, padN_len, show s + 1 - ((decDigits (n / 10 ^ s)).length + s) = 0 from by omega]; rfl
theorem padN_mod (s n m : Nat) (h : n % 10 ^ s = m % 10 ^ s) : padN s n = padN s m := by
  induction s generalizing n m with
  | zero => rfl
  | succ s ih =>
    rw [Nat.pow_succ, Nat.mul_comm] at h
    have h1 := congrArg (· % 10) h
    simp only [Nat.mod_mul_right_mod] at h1
    have h2 : n / 10 % 10 ^ s = m / 10 % 10 ^ s := by
      have := congrArg (· / 10) h
      simpa only [Nat.mod_mul_right_div_self] using this
    rw [padN, padN, ih _ _ h2, h1]
/-- The text of a decimal. -/
def textD (a : Int × Nat) : List UInt8 := (if a.1 < 0 then [45] else []) ++ (decDigits (a.1.natAbs / 10 ^ a.2) ++ (if a.2 = 0 then [] else 46 :: padN a.2 a.1.natAbs))
/-- What the reference puts behind the point. -/
theorem rest_text (s n : Nat) : decDigits (10 ^ s + n % 10 ^ s) = 49 :: padN s n := by
  have hp : 0 < 10 ^ s := Nat.pow_pos (by decide)
  have hm := Nat.mod_lt n hp
  rw [dec_split (s := s) (by omega), show (10 ^ s + n % 10 ^ s) / 10 ^ s = 1 from by rw [Nat.add_div_left _ hp, Nat.div_eq_of_lt hm], decDigits_one (by omega), padN_mod s (10 ^ s + n % 10 ^ s) n (by rw [Nat.add_mod_left, Nat.mod_mod])]
  rfl
theorem dec_len17 {n : Nat} (h : n ≤ 1000000000000000) : (decDigits n).length ≤ 16 := dec_le n 16 (by decide) (Nat.lt_of_le_of_lt h (by decide))
theorem text_len {a : Int × Nat} (h : Rt a) : (textD a).length ≤ 25 := by
  have h1 := h.lo
  have h2 := h.hi
  have h3 := h.sc
  have h4 := dec_len17 (n := a.1.natAbs / 10 ^ a.2) (Nat.le_trans (Nat.div_le_self _ _) (by omega))
  unfold textD
  simp only [List.length_append]
  have h5 : (if a.1 < 0 then ([45] : List UInt8) else []).length ≤ 1 := by split <;> simp
  have h6 : (if a.2 = 0 then ([] : List UInt8) else 46 :: padN a.2 a.1.natAbs).length ≤ 7 := by
    split
    · simp
    · rw [List.length_cons, padN_len]; omega
  omega
end Dm
end Go.Proofs.YtmlmjhlakpgagaaDoor
namespace Go.Proofs.YtmlmjhlakpgagaaDoor
open Go.RowKit Mth Dm

theorem gr_grow (w : World) (k : Nat) (os : Array Obj) (r : Option Nat) : w.grownBy (Go.Sort.grow (w.drewN k) os) r :=
  ⟨rfl, rfl, rfl, by simp, fun j hj _ => by rw [Go.Sort.heap_grow_old _ _ (by simpa using hj)]; rfl⟩
abbrev Tab (w : World) : Prop := Lib.TabIs Tryd.prog w "internal/strconv.uint64pow10" .u64 Lib.pow10Tab
theorem itoa_any (n : Nat) (hn : n ≤ 1000000000000000) (w : World) (ht : Tab w) :
    Calls Tryd.prog 54 #[.int .i64 (n : Int)] w fun e w' => e = .returned (.string ⟨(Lib.decDigits n).toArray⟩) ∧ w.grownBy w' none := by
  refine (Tryd.strconv_Itoa (n : Int) (by omega) (by omega) w ht).mono ?_
  rintro e w' ⟨rfl, k, os, rfl⟩
  rw [Lib.itoa_nonneg]
  exact ⟨rfl, gr_grow _ _ _ _⟩
theorem ba_eq {a b : ByteArray} (h : a.data.toList = b.data.toList) : a = b := by
  cases a with | mk x => cases b with | mk y => cases x; cases y; simp at h; subst h; rfl
theorem ext_take (s : ByteArray) (p : Nat) : (s.extract 0 p).data.toList = s.data.toList.take p := by simp [ByteArray.data_extract, List.extract]
set_option maxHeartbeats 1000000 in
set_option maxRecDepth 100000 in
theorem text_any (n s : Int) (w : World) (ht : Tab w) : Gives 30 #[.agg #[.int .i64 n, .int .i64 s]] w (.string ⟨(textD (valD n s)).toArray⟩) := by
  have hrt := rt_val n s
  have hva := fun w => value_any n s w
  generalize valD n s = a at *
  obtain ⟨an, sa⟩ := a
  dsimp only at hva
  have h1 := hrt.lo
  have h2 := hrt.hi
  have h6 := hrt.sc
  dsimp only at h1 h2 h6
  have T0 := Two.new w (.int .i64 n) (.int .i64 s) 23
  have habs := fun w => abs_any an w (by omega) (by omega)
  have hws := whole_split sa an.natAbs
  have hio := fun w ht => itoa_any an.natAbs (by omega) w ht
  have hdl := dec_len17 (n := an.natAbs) (by omega)
  generalize hD : Lib.decDigits an.natAbs = D at *
  have HVA := Lib.hid hva
  have HAB := Lib.hid habs
  have HIO := Lib.hid hio
  have HWS := Lib.hid hws
  generalize hN : an.natAbs = N at *
  have HNN := Lib.hid hN
  have hN1 : N ≤ 1000000000000000 := by omega
  have HT := Lib.hid ht
  have HD := Lib.hid hD
  clear hva habs hio hws hD hN ht hrt
  have hcw : wrap64 ((sa : Int) + 1 - (D.length : Int)) = (sa : Int) + 1 - (D.length : Int) := by unfold wrap64; omega
  have hsz0 : (⟨D.toArray⟩ : ByteArray).data.toList = List.replicate 0 48 ++ D := rfl
  have HSZ := Lib.hid hsz0
  clear hsz0
  have hsg : (an < 0 ∧ ∃ sg : List UInt8, sg = [45]) ∨ (¬ an < 0 ∧ ∃ sg : List UInt8, sg = []) := by
    by_cases h : an < 0
    · exact .inl ⟨h, _, rfl⟩
    · exact .inr ⟨h, _, rfl⟩
  rcases hsg with ⟨hneg, sg, hsgl⟩ | ⟨hneg, sg, hsgl⟩
  all_goals
    have HSG := Lib.hid (show (if an < 0 then ([45] : List UInt8) else []) = sg by rw [hsgl]; first | rw [if_pos hneg] | rw [if_neg hneg])
    have HSGL := Lib.hid hsgl
    clear hsgl
    go_enter Tryd.func30, Tryd.ntmps30
    go_wp2_with fail
    refine (HVA.out _).mono ?_
    rintro e w1 ⟨rfl, g1⟩
    have T0a := (T0.kept g1).set2 (.int .i64 an) (.int .i64 (sa : Int))
    have T0b := T0.kept g1
    have c0 := T0b.c0
    have c1 := T0b.c1
    have f0 := T0b.fr 0
    have f1 := T0b.fr 1
    have GG := (gr_setn (i := 1) (g := w.heap.size) (v := .int .i64 (sa : Int)) (gr_setn (i := 0) (g := w.heap.size) (v := .int .i64 an) (gr_then (gr_alloc w (.cells #[.int .i64 n, .int .i64 s] 23) none) g1) (Nat.le_refl _)) (Nat.le_refl _))
    have G := Lib.hid GG
    clear g1 GG
    go_wp2_with fail
    refine (HAB.out _).mono ?_
    rintro e w2 ⟨rfl, rfl⟩
    go_wp2_with fail
    refine (HIO.out _ (tabis_grown HT.out G.out)).mono ?_
    rintro e w2 ⟨rfl, g2⟩
    have T1 := T0a.kept g2
    have G2 := Lib.hid (gr_then G.out g2)
    have d0 := T1.c0
    have d1 := T1.c1
    clear g2 c0 c1 f0 f1
    go_wp2_with fail
    go_loop [4, 21] (fun u v => ∃ (i : Nat) (str : ByteArray), i ≤ sa + 1 - D.length ∧ v = .int .i64 i ∧ u = .string str ∧ Hid (str.data.toList = List.replicate i 48 ++ D)) (fun _ v => (sa + 1 - D.length) - (intOf v).toNat)
    case atStart => exact ⟨0, ⟨D.toArray⟩, by omega, rfl, rfl, HSZ⟩
    case round =>
      obtain ⟨i, str, hi, rfl, rfl, HS⟩ := hrel
      have hsz : str.size = i + D.length := by rw [← len_toList, HS.out]; simp
      by_cases hlt : i < sa + 1 - D.length
      · have hci : (i : Int) < (sa : Int) + 1 - (D.length : Int) := by omega
        have hs60 : str.size ≤ 60 := by omega
        clear hsz
        go_wp2
        refine ⟨⟨i + 1, (⟨#[48]⟩ : ByteArray) ++ str, by omega, by go_num, rfl, Lib.hid ?_⟩, by simp [intOf]; omega⟩
        rw [ByteArray.data_append, Array.toList_append, HS.out, List.replicate_succ]; rfl
      · have hci : ¬ (i : Int) < (sa : Int) + 1 - (D.length : Int) := by omega
        have hie : i = sa + 1 - D.length := by omega
        have hfin := HS.out
        rw [hie, HWS.out] at hfin
        obtain ⟨p, hp⟩ : ∃ p, p = (Lib.decDigits (N / 10 ^ sa)).length := ⟨_, rfl⟩
        have hps : str.size = p + sa := by rw [← len_toList, hfin, List.length_append, padN_len, hp]
        have htk : str.data.toList.take p = Lib.decDigits (N / 10 ^ sa) := by rw [hfin, hp]; simp
        have hdr : str.data.toList.drop p = padN sa N := by rw [hfin, hp]; simp
        have HTK := Lib.hid htk
        have HDR := Lib.hid hdr
        have HF := Lib.hid hfin
        have HPS := Lib.hid hps
        have hpp : (str.size : Int) - (sa : Int) = (p : Int) := by omega
        have hple : p ≤ str.size := by omega
        have hsz40 : str.size ≤ 60 := by omega
        clear hsz hie hfin hp htk hdr hps hi hlt
        by_cases h0 : sa = 0
        · subst h0
          go_wp2
          go_ret
          refine ⟨?_, G2.out⟩
          apply congrArg (fun z : ByteArray => Ending.returned (.string z))
          apply ba_eq
          have hf := HF.out
          have hs := HSG.out
          rw [HSGL.out] at hs
          show _ = textD (an, 0)
          unfold textD
          dsimp only
          rw [hs, HNN.out, if_pos rfl, List.append_nil]
          simp only [padN, List.append_nil] at hf
          rw [← hf]
          simp
        · have h0b : ((sa : Int) == 0) = false := by rw [beq_eq_false_iff_ne]; omega
          have hq0 : (0 : Int) ≤ (p : Int) := by omega
          have hq1 : (p : Int) ≤ (str.size : Int) := by omega
          go_wp2
          go_quiet (fail)
          go_wp2
          go_ret
          refine ⟨?_, gr_then G2.out (gr_drewN _ _ none)⟩
          apply congrArg (fun z : ByteArray => Ending.returned (.string z))
          apply ba_eq
          have hs := HSG.out
          rw [HSGL.out] at hs
          show _ = textD (an, sa)
          unfold textD
          dsimp only
          rw [hs, HNN.out, if_neg h0]
          simp only [ByteArray.data_append, Array.toList_append]
          rw [Lib.extract_to_end, ext_take, HTK.out, HDR.out]
          simp
end Go.Proofs.YtmlmjhlakpgagaaDoor
