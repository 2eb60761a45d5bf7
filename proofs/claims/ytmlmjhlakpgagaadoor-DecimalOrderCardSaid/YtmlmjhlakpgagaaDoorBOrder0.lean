/- The law of the claim at the level of the call, and its row: Order, OrderRow. -/
import Derived.Test.YtmlmjhlakpgagaaDoorBRing9
namespace Go.Proofs.YtmlmjhlakpgagaaDoor
open Go.RowKit Mth Dm

abbrev GC (n s m t r : Int) : Prop := ∀ w, Gives 24 #[.agg #[.int .i64 n, .int .i64 s], .agg #[.int .i64 m, .int .i64 t]] w (.int .i64 r)
abbrev GR (n s k : Int) (r : Int × Nat × Bool) : Prop := ∀ w, Gives 28 #[.agg #[.int .i64 n, .int .i64 s], .int .i64 k] w (dres r)
theorem order_case {n0 n1 n2 : Int} {s0 s1 s2 : Nat} (hR0 : Dm.Rt (n0, s0)) (hR1 : Dm.Rt (n1, s1)) (hR2 : Dm.Rt (n2, s2)) (k : Int) (hk : 0 ≤ k ∧ k ≤ 6) :
    ∃ (c01 c10 c12 c02 c34 c56 : Int) (n3 : Int) (s3 : Nat) (b3 : Bool) (n4 : Int) (s4 : Nat) (b4 : Bool) (n5 : Int) (s5 : Nat) (n6 : Int) (s6 : Nat),
      GC n0 s0 n1 s1 c01 ∧ GC n1 s1 n0 s0 c10 ∧ GC n1 s1 n2 s2 c12 ∧ GC n0 s0 n2 s2 c02 ∧ GC n3 s3 n4 s4 c34 ∧ GC n5 s5 n6 s6 c56
      ∧ G2 20 n0 s0 n2 s2 (n3, s3, b3) ∧ G2 20 n1 s1 n2 s2 (n4, s4, b4) ∧ GR n0 s0 k (n5, s5, true) ∧ GR n1 s1 k (n6, s6, true)
      ∧ c10 = -c01 ∧ (c01 = -1 ∨ c01 = 0 ∨ c01 = 1) ∧ (c56 = -1 ∨ c56 = 0 ∨ c56 = 1) ∧ (c01 = 0 ↔ n0 = n1 ∧ s0 = s1) ∧ (c01 ≤ 0 → c12 ≤ 0 → c02 ≤ 0) ∧ (b3 = true → b4 = true → c34 = c01) ∧ 0 ≤ c56 * c01 := by
  have hF := order_facts hR0 hR1 hR2
  have hro := order_round hR0 hR1 hk
  have ho0 := round_ok hR0 hk
  have ho1 := round_ok hR1 hk
  have hv0 := hR0.val
  have hv1 := hR1.val
  have hv2 := hR2.val
  have r3 : Rt ((addD (n0, s0) (n2, s2)).1, (addD (n0, s0) (n2, s2)).2.1) := rt_fit _ _
  have r4 : Rt ((addD (n1, s1) (n2, s2)).1, (addD (n1, s1) (n2, s2)).2.1) := rt_fit _ _
  have r5 := round_rt hR0 k
  have r6 := round_rt hR1 k
  have hv3 := r3.val
  have hv4 := r4.val
  have hv5 := r5.val
  have hv6 := r6.val
  dsimp only at hv0 hv1 hv2 hv3 hv4 hv5 hv6
  have key : ∀ a b, cmpD a b = -1 ∨ cmpD a b = 0 ∨ cmpD a b = 1 := fun a b => by
    have := cmpI_range (V a) (V b)
    rw [cmpD_V]; omega
  refine ⟨cmpD (n0, s0) (n1, s1), cmpD (n1, s1) (n0, s0), cmpD (n1, s1) (n2, s2), cmpD (n0, s0) (n2, s2), cmpD ((addD (n0, s0) (n2, s2)).1, (addD (n0, s0) (n2, s2)).2.1) ((addD (n1, s1) (n2, s2)).1, (addD (n1, s1) (n2, s2)).2.1), cmpD ((roundD (n0, s0) k).1, (roundD (n0, s0) k).2.1) ((roundD (n1, s1) k).1, (roundD (n1, s1) k).2.1), (addD (n0, s0) (n2, s2)).1, (addD (n0, s0) (n2, s2)).2.1, (addD (n0, s0) (n2, s2)).2.2, (addD (n1, s1) (n2, s2)).1, (addD (n1, s1) (n2, s2)).2.1, (addD (n1, s1) (n2, s2)).2.2, (roundD (n0, s0) k).1, (roundD (n0, s0) k).2.1, (roundD (n1, s1) k).1, (roundD (n1, s1) k).2.1,
    fun w => gives_of (cmp_any n0 s0 n1 s1 w) (by rw [hv0, hv1]),
    fun w => gives_of (cmp_any n1 s1 n0 s0 w) (by rw [hv0, hv1]),
    fun w => gives_of (cmp_any n1 s1 n2 s2 w) (by rw [hv1, hv2]),
    fun w => gives_of (cmp_any n0 s0 n2 s2 w) (by rw [hv0, hv2]),
    fun w => gives_of (cmp_any _ _ _ _ w) (by rw [hv3, hv4]),
    fun w => gives_of (cmp_any _ _ _ _ w) (by rw [hv5, hv6]),
    fun w _ => gives_of (add_any n0 s0 n2 s2 w) (by rw [hv0, hv2]),
    fun w _ => gives_of (add_any n1 s1 n2 s2 w) (by rw [hv1, hv2]),
    fun w => gives_of (round_any n0 s0 k w) (by rw [hv0]; exact congrArg dres (of_ok ho0)),
    fun w => gives_of (round_any n1 s1 k w) (by rw [hv1]; exact congrArg dres (of_ok ho1)),
    hF.swap, key _ _, key _ _, ?_, hF.trans, hF.add, hro⟩
  rw [hF.zero, Prod.mk.injEq]
set_option maxHeartbeats 16000000 in
set_option maxRecDepth 100000 in
theorem order_true (q0 q1 q2 q3 q4 q5 : Int) (sc : Nat) (W : World) (hd : EV W) (_h0 : -9223372036854775808 ≤ q0 ∧ q0 ≤ 9223372036854775807) (_h1 : -9223372036854775808 ≤ q1 ∧ q1 ≤ 9223372036854775807) (_h2 : -9223372036854775808 ≤ q2 ∧ q2 ≤ 9223372036854775807) (_h3 : -9223372036854775808 ≤ q3 ∧ q3 ≤ 9223372036854775807) (_h4 : -9223372036854775808 ≤ q4 ∧ q4 ≤ 9223372036854775807) (_h5 : -9223372036854775808 ≤ q5 ∧ q5 ≤ 9223372036854775807) (hsc : sc ≤ 255) :
    Gives 9 #[.agg #[.int .i64 q0, .int .i64 q1, .int .i64 q2, .int .i64 q3, .int .i64 q4, .int .i64 q5], .int .u8 (sc : Int)] W (.bool true) := by
  have hM0 := fun w => made_any q0 q1 w
  have hR0 := made_rt q0 q1
  generalize madeD q0 q1 = x0 at hM0 hR0
  have hM1 := fun w => made_any q2 q3 w
  have hR1 := made_rt q2 q3
  generalize madeD q2 q3 = x1 at hM1 hR1
  have hM2 := fun w => made_any q4 q5 w
  have hR2 := made_rt q4 q5
  generalize madeD q4 q5 = x2 at hM2 hR2
  obtain ⟨n0, s0⟩ := x0
  obtain ⟨n1, s1⟩ := x1
  obtain ⟨n2, s2⟩ := x2
  have hk7 : 0 ≤ (sc : Int) % 7 ∧ (sc : Int) % 7 ≤ 6 := by omega
  obtain ⟨c01, c10, c12, c02, c34, c56, n3, s3, b3, n4, s4, b4, n5, s5, n6, s6, hC01, hC10, hC12, hC02, hC34, hC56, hAC, hBC, hRA, hRB, hsw, ht01, ht56, hzero, htr, had, hmn⟩ := order_case hR0 hR1 hR2 ((sc : Int) % 7) hk7
  have HM0 := Lib.hid hM0
  have HM1 := Lib.hid hM1
  have HM2 := Lib.hid hM2
  have HC01 := Lib.hid hC01
  have HC10 := Lib.hid hC10
  have HC12 := Lib.hid hC12
  have HC02 := Lib.hid hC02
  have HC34 := Lib.hid hC34
  have HC56 := Lib.hid hC56
  have HAC := Lib.hid hAC
  have HBC := Lib.hid hBC
  have HRA := Lib.hid hRA
  have HRB := Lib.hid hRB
  have HZERO := Lib.hid hzero
  have HTR := Lib.hid htr
  have HAD := Lib.hid had
  have HMN := Lib.hid hmn
  have HT01 := Lib.hid ht01
  have HT56 := Lib.hid ht56
  have HSW := Lib.hid hsw
  have HD := Lib.hid hd
  clear hd hR0 hR1 hR2 hM0 hM1 hM2 hC01 hC10 hC12 hC02 hC34 hC56 hAC hBC hRA hRB hzero htr had hmn ht01 ht56 hsw
  go_enter Tryd.func9, Tryd.ntmps9
  go_wp2_with fail
  have g0 := gr_alloc W (.cells #[.int .i64 q0, .int .i64 q1, .int .i64 q2, .int .i64 q3, .int .i64 q4, .int .i64 q5] 47) none
  have RQ : Row (W.alloc (.cells #[.int .i64 q0, .int .i64 q1, .int .i64 q2, .int .i64 q3, .int .i64 q4, .int .i64 q5] 47)) W.heap.size (six q0 q1 q2 q3 q4 q5) 47 := Row.new W _ _
  refine (sanity_any _ (HD.out.grown g0)).mono ?_
  rintro e w1 ⟨rfl, g1⟩
  have RQ := RQ.kept g1
  have RL : Row (w1.alloc (.cells #[.int .i64 0, .int .i64 0, .int .i64 0, .int .i64 0, .int .i64 0, .int .i64 0] 48)) w1.heap.size (six 0 0 0 0 0 0) 48 := Row.new w1 _ _
  have G := Lib.hid (gr_then (gr_then g0 g1) (gr_alloc w1 (.cells #[.int .i64 0, .int .i64 0, .int .i64 0, .int .i64 0, .int .i64 0, .int .i64 0] 48) none))
  have RQ := RQ.alloc (.cells #[.int .i64 0, .int .i64 0, .int .i64 0, .int .i64 0, .int .i64 0, .int .i64 0] 48)
  have c0 := RQ.cell 0 _ rfl
  have c1 := RQ.cell 1 _ rfl
  have c2 := RQ.cell 2 _ rfl
  have c3 := RQ.cell 3 _ rfl
  have c4 := RQ.cell 4 _ rfl
  have c5 := RQ.cell 5 _ rfl
  go_wp2_with fail
  clear c0 c1 c2 c3 c4 c5 RQ
  go_loopw [19] (fun u wr => Fill W w1.heap.size (n0, s0) (n1, s1) (n2, s2) u wr) (fun u _ => 3 - (intOf u).toNat)
  case atStart => exact ⟨.inl ⟨rfl, RL⟩, G.out⟩
  case round =>
    clear RL G
    obtain ⟨hrel, hg⟩ := hrel
    have hb1 : W.heap.size ≤ w1.heap.size := by have := g1.size; simp at this; omega
    rcases hrel with ⟨rfl, RW⟩ | ⟨rfl, RW⟩ | ⟨rfl, RW⟩ | ⟨rfl, RW⟩
    · have hix := idx0 q0 q1 q2 q3 q4 q5 wr
      go_wp2_with fail
      refine (HM0.out _).mono ?_
      rintro e w3 ⟨rfl, g3⟩
      have R3 := (RW.alloc (.cells #[.int .i64 q0, .int .i64 q1] 39)).kept g3
      have h0 := R3.cell 0 _ rfl
      have h1 := R3.cell 1 _ rfl
      have f0 := R3.fr 0
      have f1 := R3.fr 1
      have gg := gr_then (gr_then hg (gr_alloc wr (.cells #[.int .i64 q0, .int .i64 q1] 39) none)) g3
      go_wp2
      exact ⟨⟨.inr (.inl ⟨rfl, (R3.set 0 _).set 1 _⟩), gr_setn (gr_setn gg hb1) hb1⟩, by simp [intOf]⟩
    · have hix := idx1 q0 q1 q2 q3 q4 q5 wr
      go_wp2_with fail
      refine (HM1.out _).mono ?_
      rintro e w3 ⟨rfl, g3⟩
      have R3 := (RW.alloc (.cells #[.int .i64 q2, .int .i64 q3] 39)).kept g3
      have h0 := R3.cell 2 _ rfl
      have h1 := R3.cell 3 _ rfl
      have f0 := R3.fr 2
      have f1 := R3.fr 3
      have gg := gr_then (gr_then hg (gr_alloc wr (.cells #[.int .i64 q2, .int .i64 q3] 39) none)) g3
      go_wp2
      exact ⟨⟨.inr (.inr (.inl ⟨rfl, (R3.set 2 _).set 3 _⟩)), gr_setn (gr_setn gg hb1) hb1⟩, by simp [intOf]⟩
    · have hix := idx2 q0 q1 q2 q3 q4 q5 wr
      go_wp2_with fail
      refine (HM2.out _).mono ?_
      rintro e w3 ⟨rfl, g3⟩
      have R3 := (RW.alloc (.cells #[.int .i64 q4, .int .i64 q5] 39)).kept g3
      have h0 := R3.cell 4 _ rfl
      have h1 := R3.cell 5 _ rfl
      have f0 := R3.fr 4
      have f1 := R3.fr 5
      have gg := gr_then (gr_then hg (gr_alloc wr (.cells #[.int .i64 q4, .int .i64 q5] 39) none)) g3
      go_wp2
      exact ⟨⟨.inr (.inr (.inr ⟨rfl, (R3.set 4 _).set 5 _⟩)), gr_setn (gr_setn gg hb1) hb1⟩, by simp [intOf]⟩
    · go_wp2_with fail
      have c0 : wr.cell? ⟨w1.heap.size, 0, none⟩ = some (.int .i64 n0) := RW.cell 0 _ rfl
      have c1 : wr.cell? ⟨w1.heap.size, 1, none⟩ = some (.int .i64 (s0 : Int)) := RW.cell 1 _ rfl
      have c2 : wr.cell? ⟨w1.heap.size, 2, none⟩ = some (.int .i64 n1) := RW.cell 2 _ rfl
      have c3 : wr.cell? ⟨w1.heap.size, 3, none⟩ = some (.int .i64 (s1 : Int)) := RW.cell 3 _ rfl
      have c4 : wr.cell? ⟨w1.heap.size, 4, none⟩ = some (.int .i64 n2) := RW.cell 4 _ rfl
      have c5 : wr.cell? ⟨w1.heap.size, 5, none⟩ = some (.int .i64 (s2 : Int)) := RW.cell 5 _ rfl
      go_cut [9, 10, 11] from 31 to 36 (fun p q r wx => ∃ a b c : Nat, p = .pointer (some ⟨a, 0, none⟩) ∧ q = .pointer (some ⟨b, 0, none⟩) ∧ r = .pointer (some ⟨c, 0, none⟩) ∧ Two wx a (.int .i64 n0) (.int .i64 (s0 : Int)) 23 ∧ Two wx b (.int .i64 n1) (.int .i64 (s1 : Int)) 23 ∧ Two wx c (.int .i64 n2) (.int .i64 (s2 : Int)) 23 ∧ W.grownBy wx none)
      case first =>
        have HG := Lib.hid hg
        clear RW hg
        have hK : ∀ w', wr.grownBy w' none → (w'.cell? ⟨w1.heap.size, 0, none⟩ = some (.int .i64 n0) ∧ w'.cell? ⟨w1.heap.size, 1, none⟩ = some (.int .i64 (s0 : Int)) ∧ w'.cell? ⟨w1.heap.size, 2, none⟩ = some (.int .i64 n1) ∧ w'.cell? ⟨w1.heap.size, 3, none⟩ = some (.int .i64 (s1 : Int)) ∧ w'.cell? ⟨w1.heap.size, 4, none⟩ = some (.int .i64 n2) ∧ w'.cell? ⟨w1.heap.size, 5, none⟩ = some (.int .i64 (s2 : Int))) := fun w' h => ⟨h.cell c0 (by simp), h.cell c1 (by simp), h.cell c2 (by simp), h.cell c3 (by simp), h.cell c4 (by simp), h.cell c5 (by simp)⟩
        clear c0 c1 c2 c3 c4 c5
        have HK := Lib.hid hK
        clear hK
        go_region_held3 (fun w' => w'.cell? ⟨w1.heap.size, 0, none⟩ = some (.int .i64 n0) ∧ w'.cell? ⟨w1.heap.size, 1, none⟩ = some (.int .i64 (s0 : Int)) ∧ w'.cell? ⟨w1.heap.size, 2, none⟩ = some (.int .i64 n1) ∧ w'.cell? ⟨w1.heap.size, 3, none⟩ = some (.int .i64 (s1 : Int)) ∧ w'.cell? ⟨w1.heap.size, 4, none⟩ = some (.int .i64 n2) ∧ w'.cell? ⟨w1.heap.size, 5, none⟩ = some (.int .i64 (s2 : Int))) ((refine HK.out _ ?_; repeat (first | (with_reducible exact gr_rfl _) | refine gr_al ?_ | refine gr_dr ?_ | (refine gr_setn ?_ (by simp))))) (fail)
        all_goals
          go_wp2_with fail
          go_meet
          refine ⟨_, _, _, rfl, rfl, rfl, ?_, ?_, ?_, gr_dr (gr_al (gr_al (gr_al HG.out)))⟩
          all_goals
            first
              | exact ((Two.new wr _ _ _).alloc _).alloc _
              | exact (Two.new1 wr _ _ _ _).alloc _
              | exact Two.new2 wr _ _ _ _ _
      case rest =>
        obtain ⟨ba, bb, bc, rfl, rfl, rfl, T9, T10, T11, G⟩ := hcut
        have za9 := T9.c0
        have zb9 := T9.c1
        have za10 := T10.c0
        have zb10 := T10.c1
        go_wp2_with fail
        refine (HC01.out _).mono ?_
        rintro e v0 ⟨rfl, gn⟩
        clear za9 zb9 za10 zb10
        have T9 := T9.kept gn
        have T10 := T10.kept gn
        have T11 := T11.kept gn
        have G := gr_then G gn
        clear gn
        go_upto_region 10 with fail
        go_cut [61] from 40 to 61 (fun v wx => v = .bool false ∧ Two wx ba (.int .i64 n0) (.int .i64 (s0 : Int)) 23 ∧ Two wx bb (.int .i64 n1) (.int .i64 (s1 : Int)) 23 ∧ Two wx bc (.int .i64 n2) (.int .i64 (s2 : Int)) 23 ∧ W.grownBy wx none)
        case first =>
          have ht := HT01.out
          have hz := HZERO.out
          have hs := HSW.out
          have hcase : (c01 = 0 ∧ c10 = 0 ∧ n0 = n1 ∧ s0 = s1) ∨ (c01 = -1 ∧ c10 = 1 ∧ ((n0 == n1) = false ∨ (n0 = n1 ∧ ((s0 : Int) == (s1 : Int)) = false))) ∨ (c01 = 1 ∧ c10 = -1 ∧ ((n0 == n1) = false ∨ (n0 = n1 ∧ ((s0 : Int) == (s1 : Int)) = false))) := by
            have hne : c01 ≠ 0 → ((n0 == n1) = false ∨ (n0 = n1 ∧ ((s0 : Int) == (s1 : Int)) = false)) := fun h => by
              rw [beq_eq_false_iff_ne, beq_eq_false_iff_ne]
              by_cases e : n0 = n1
              · refine .inr ⟨e, fun e2 => h (hz.2 ⟨e, by omega⟩)⟩
              · exact .inl e
            rcases ht with h | h | h
            · exact .inr (.inl ⟨h, by omega, hne (by omega)⟩)
            · exact .inl ⟨h, by omega, hz.1 h⟩
            · exact .inr (.inr ⟨h, by omega, hne (by omega)⟩)
          clear ht hz hs HZERO HSW HT01
          rcases hcase with ⟨rfl, rfl, rfl, rfl⟩ | ⟨rfl, rfl, hne | ⟨rfl, hne⟩⟩ | ⟨rfl, rfl, hne | ⟨rfl, hne⟩⟩
          all_goals
            have za9 := T9.c0
            have zb9 := T9.c1
            have za10 := T10.c0
            have zb10 := T10.c1
            go_wp2_with fail
            refine (HC10.out _).mono ?_
            rintro e v1 ⟨rfl, gn⟩
            clear za9 zb9 za10 zb10
            have T9 := T9.kept gn
            have T10 := T10.kept gn
            have T11 := T11.kept gn
            have G := gr_then G gn
            clear gn
            have za9 := T9.c0
            have zb9 := T9.c1
            have za10 := T10.c0
            have zb10 := T10.c1
            go_wp2_with fail; go_meet; exact ⟨rfl, T9, T10, T11, G⟩
        case rest =>
          clear T9 T10 T11 G
          obtain ⟨rfl, T9, T10, T11, G⟩ := hcut
          go_upto_region 12 with fail
          go_cut [75] from 62 to 75 (fun v wx => v = .bool false ∧ Two wx ba (.int .i64 n0) (.int .i64 (s0 : Int)) 23 ∧ Two wx bb (.int .i64 n1) (.int .i64 (s1 : Int)) 23 ∧ Two wx bc (.int .i64 n2) (.int .i64 (s2 : Int)) 23 ∧ W.grownBy wx none)
          case first =>
            have ht := HT01.out
            have htr := HTR.out
            clear HTR HT01
            rcases (show 0 < c01 ∨ c01 ≤ 0 by omega) with hc1 | hc1
            · clear ht htr; go_wp2_with fail; go_meet; exact ⟨rfl, T9, T10, T11, G⟩
            · have hle := htr hc1
              have HLE := Lib.hid hle
              clear htr hle ht
              have za10 := T10.c0
              have zb10 := T10.c1
              have za11 := T11.c0
              have zb11 := T11.c1
              go_wp2_with fail
              refine (HC12.out _).mono ?_
              rintro e v10 ⟨rfl, gn⟩
              clear za10 zb10 za11 zb11
              have T9 := T9.kept gn
              have T10 := T10.kept gn
              have T11 := T11.kept gn
              have G := gr_then G gn
              clear gn
              rcases Int.lt_or_le 0 c12 with hc | hc
              · go_wp2_with fail; go_meet; exact ⟨rfl, T9, T10, T11, G⟩
              · have hc02 := HLE.out hc
                have hd02 : decide (0 < c02) = false := by rw [decide_eq_false_iff_not]; omega
                have za9 := T9.c0
                have zb9 := T9.c1
                have za11 := T11.c0
                have zb11 := T11.c1
                go_wp2_with fail
                refine (HC02.out _).mono ?_
                rintro e v11 ⟨rfl, gn⟩
                clear za9 zb9 za11 zb11
                have T9 := T9.kept gn
                have T10 := T10.kept gn
                have T11 := T11.kept gn
                have G := gr_then G gn
                clear gn
                go_wp2_with fail; go_meet; exact ⟨rfl, T9, T10, T11, G⟩
          case rest =>
            clear T9 T10 T11 G
            obtain ⟨rfl, T9, T10, T11, G⟩ := hcut
            have za9 := T9.c0
            have zb9 := T9.c1
            have za11 := T11.c0
            have zb11 := T11.c1
            go_wp2_with fail
            refine (HAC.out _ (HD.out.grown G).p).mono ?_
            rintro e v20 ⟨rfl, gn⟩
            clear za9 zb9 za11 zb11
            have T9 := T9.kept gn
            have T10 := T10.kept gn
            have T11 := T11.kept gn
            have G := gr_then G gn
            clear gn
            have lW20 : W.heap.size ≤ v20.heap.size := G.size
            have l9_13 := T9.lt
            have l10_13 := T10.lt
            have l11_13 := T11.lt
            have T9 := T9.alloc (.cells #[.int .i64 n3, .int .i64 (s3 : Int)] 23)
            have T10 := T10.alloc (.cells #[.int .i64 n3, .int .i64 (s3 : Int)] 23)
            have T11 := T11.alloc (.cells #[.int .i64 n3, .int .i64 (s3 : Int)] 23)
            have T13 := Two.new v20 (.int .i64 n3) (.int .i64 (s3 : Int)) 23
            have G := gr_then G (gr_alloc v20 (.cells #[.int .i64 n3, .int .i64 (s3 : Int)] 23) none)
            unfold dres
            dsimp only
            have za10 := T10.c0
            have zb10 := T10.c1
            have za11 := T11.c0
            have zb11 := T11.c1
            go_wp2_with fail
            refine (HBC.out _ (HD.out.grown G).p).mono ?_
            rintro e v21 ⟨rfl, gn⟩
            clear za10 zb10 za11 zb11
            have T9 := T9.kept gn
            have T10 := T10.kept gn
            have T11 := T11.kept gn
            have T13 := T13.kept gn
            have G := gr_then G gn
            clear gn
            have lW21 : W.heap.size ≤ v21.heap.size := G.size
            have l9_15 := T9.lt
            have l10_15 := T10.lt
            have l11_15 := T11.lt
            have l13_15 := T13.lt
            have T9 := T9.alloc (.cells #[.int .i64 n4, .int .i64 (s4 : Int)] 23)
            have T10 := T10.alloc (.cells #[.int .i64 n4, .int .i64 (s4 : Int)] 23)
            have T11 := T11.alloc (.cells #[.int .i64 n4, .int .i64 (s4 : Int)] 23)
            have T13 := T13.alloc (.cells #[.int .i64 n4, .int .i64 (s4 : Int)] 23)
            have T15 := Two.new v21 (.int .i64 n4) (.int .i64 (s4 : Int)) 23
            have G := gr_then G (gr_alloc v21 (.cells #[.int .i64 n4, .int .i64 (s4 : Int)] 23) none)
            unfold dres
            dsimp only
            have had := HAD.out
            go_upto_region 16 with fail
            go_cut [98] from 88 to 98 (fun v wx => v = .bool false ∧ Two wx ba (.int .i64 n0) (.int .i64 (s0 : Int)) 23 ∧ Two wx bb (.int .i64 n1) (.int .i64 (s1 : Int)) 23 ∧ Two wx bc (.int .i64 n2) (.int .i64 (s2 : Int)) 23 ∧ Two wx v20.heap.size (.int .i64 n3) (.int .i64 (s3 : Int)) 23 ∧ Two wx v21.heap.size (.int .i64 n4) (.int .i64 (s4 : Int)) 23 ∧ W.grownBy wx none)
            case first =>
              have za13 := T13.c0
              have zb13 := T13.c1
              have za15 := T15.c0
              have zb15 := T15.c1
              cases b3
              · clear had; go_wp2_with fail; go_meet; exact ⟨rfl, T9, T10, T11, T13, T15, G⟩
              cases b4
              · clear had; go_wp2_with fail; go_meet; exact ⟨rfl, T9, T10, T11, T13, T15, G⟩
              obtain rfl := had rfl rfl
              clear had
              clear za13 zb13 za15 zb15
              have za13 := T13.c0
              have zb13 := T13.c1
              have za15 := T15.c0
              have zb15 := T15.c1
              go_wp2_with fail
              refine (HC34.out _).mono ?_
              rintro e v22 ⟨rfl, gn⟩
              clear za13 zb13 za15 zb15
              have T9 := T9.kept gn
              have T10 := T10.kept gn
              have T11 := T11.kept gn
              have T13 := T13.kept gn
              have T15 := T15.kept gn
              have G := gr_then G gn
              clear gn
              go_wp2_with fail; go_meet; exact ⟨rfl, T9, T10, T11, T13, T15, G⟩
            case rest =>
              clear T9 T10 T11 T13 T15 G had
              obtain ⟨rfl, T9, T10, T11, T13, T15, G⟩ := hcut
              have za9 := T9.c0
              have zb9 := T9.c1
              go_wp2_with fail
              refine (HRA.out _).mono ?_
              rintro e v30 ⟨rfl, gn⟩
              clear za9 zb9
              have T9 := T9.kept gn
              have T10 := T10.kept gn
              have T11 := T11.kept gn
              have T13 := T13.kept gn
              have T15 := T15.kept gn
              have G := gr_then G gn
              clear gn
              have e0 := T13.c0
              have e1 := T13.c1
              have f0 := T13.fr 0
              have f1 := T13.fr 1
              unfold dres
              dsimp only
              clear T9 T11
              have T10 := (T10.other (b' := v20.heap.size) (i := 0) (v := .int .i64 n5) (by omega)).other (b' := v20.heap.size) (i := 1) (v := .int .i64 (s5 : Int)) (by omega)
              have T15 := (T15.other (b' := v20.heap.size) (i := 0) (v := .int .i64 n5) (by omega)).other (b' := v20.heap.size) (i := 1) (v := .int .i64 (s5 : Int)) (by omega)
              have T13 := T13.set2 (.int .i64 n5) (.int .i64 (s5 : Int))
              have G := gr_setn (g := v20.heap.size) (i := 1) (v := .int .i64 (s5 : Int)) (gr_setn (g := v20.heap.size) (i := 0) (v := .int .i64 n5) G (by omega)) (by omega)
              have za10 := T10.c0
              have zb10 := T10.c1
              go_wp2_with fail
              refine (HRB.out _).mono ?_
              rintro e v31 ⟨rfl, gn⟩
              clear za10 zb10
              have T10 := T10.kept gn
              have T13 := T13.kept gn
              have T15 := T15.kept gn
              have G := gr_then G gn
              clear gn
              clear e0 e1 f0 f1
              have e0 := T15.c0
              have e1 := T15.c1
              have f0 := T15.fr 0
              have f1 := T15.fr 1
              unfold dres
              dsimp only
              have T10 := (T10.other (b' := v21.heap.size) (i := 0) (v := .int .i64 n6) (by omega)).other (b' := v21.heap.size) (i := 1) (v := .int .i64 (s6 : Int)) (by omega)
              have T13 := (T13.other (b' := v21.heap.size) (i := 0) (v := .int .i64 n6) (by omega)).other (b' := v21.heap.size) (i := 1) (v := .int .i64 (s6 : Int)) (by omega)
              have T15 := T15.set2 (.int .i64 n6) (.int .i64 (s6 : Int))
              have G := gr_setn (g := v21.heap.size) (i := 1) (v := .int .i64 (s6 : Int)) (gr_setn (g := v21.heap.size) (i := 0) (v := .int .i64 n6) G (by omega)) (by omega)
              have ht01 := HT01.out
              have ht56 := HT56.out
              have hmn := HMN.out
              have za13 := T13.c0
              have zb13 := T13.c1
              have za15 := T15.c0
              have zb15 := T15.c1
              go_wp2_with fail
              refine (HC56.out _).mono ?_
              rintro e v32 ⟨rfl, gn⟩
              clear za13 zb13 za15 zb15
              have T10 := T10.kept gn
              have T13 := T13.kept gn
              have T15 := T15.kept gn
              have G := gr_then G gn
              clear gn
              rcases ht01 with rfl | rfl | rfl <;> rcases ht56 with rfl | rfl | rfl
              all_goals first | (exfalso; revert hmn; decide) | (clear hmn; go_wp2; go_ret; exact ⟨rfl, G⟩)
end Go.Proofs.YtmlmjhlakpgagaaDoor
namespace Go.Proofs.YtmlmjhlakpgagaaDoor
open Go.ChangeShapes Go.WideShapes Go.ChangeAt Go.RowKit Mth

set_option maxRecDepth 1000000 in
set_option maxHeartbeats 4000000 in
theorem order_lifted (os : Os) (started : os.Started) (H : Type) (enc : TypeId × Value → H) :
    ReturnsInHanded {} Tryd.checked os 9 .any (fun w args => (Rows.decimalOrderSpec.pre enc Tryd.prog Tryd.f9 Rows.decimalOrderRow.domain false w args ∧ laidMet Tryd.prog Rows.decimalOrderRow.laid w) ∧ sizedMet enc Tryd.prog Tryd.f9 (OpenSpec.ofChange Rows.decimalOrderSpec) false w args)
      (Rows.decimalOrderSpec.post enc Tryd.prog Tryd.f9 false true false false) := by
  refine returnsInHanded_of_change_and (C := Tryd.checked) (X := fun w _ => laidMet Tryd.prog Rows.decimalOrderRow.laid w) (fun _ _ _ hh h => h.of_heap hh) own0 started (by kernel_rfl) Tryd.func9
    (ChangeSpec.witness_at (enc := enc) (C := Tryd.checked) (os := os) (X := fun w _ => laidMet Tryd.prog Rows.decimalOrderRow.laid w) false (laidWorld os) #[.agg #[.int .i64 0, .int .i64 0, .int .i64 0, .int .i64 0, .int .i64 0, .int .i64 0], .int .u8 0] 8 rfl (by kernel_rfl) (by kernel_rfl) (by kernel_rfl) (by kernel_rfl) (by kernel_rfl) (laid_at os _)) ?_
  intro W base args ds gs before hval0 hW hcnd0 _ hL _
  have hval : ∀ (j : Nat) t v, Tryd.f9.params[j]? = some t → args[j]? = some v → Value.okWide Tryd.prog W .any base t v := hval0
  have hW' := hW
  obtain ⟨p, q, hA0, hV, rfl, hfz, hnd⟩ := hW
  have hA : DataW.TrodAll enc Tryd.prog W 0 (fun _ => true) true Tryd.f9.params.toList args.toList ds p := hA0
  rw [Tryd.params9] at hA hval
  obtain ⟨v0, v1, d0, d1, p0, p1, rfl, rfl, rfl, h0, h1⟩ := trodAll_two hA
  obtain ⟨rfl, rfl⟩ := trodVars_none hV
  clear hA0 hval0 hA
  simp only [List.append_nil] at hW'
  have k0 := hval 0 47 v0 rfl rfl
  have k1 := hval 1 5 v1 rfl rfl
  obtain ⟨n0_0, n0_1, n0_2, n0_3, n0_4, n0_5, rfl, w0_0, w0_1, w0_2, w0_3, w0_4, w0_5⟩ := arr32_arg Tryd.underlying47 Tryd.underlying39 Tryd.underlying3 (by kernel_rfl) (by kernel_rfl) (by kernel_rfl) k0 h0
  obtain ⟨n1, rfl, w1⟩ := byte_arg k1 h1
  refine (order_true n0_0 n0_1 n0_2 n0_3 n0_4 n0_5 n1 W (ev_of hL) (wf_i64 w0_0) (wf_i64 w0_1) (wf_i64 w0_2) (wf_i64 w0_3) (wf_i64 w0_4) (wf_i64 w0_5) w1).mono fun e W' ⟨he, hg⟩ => ?_
  subst he
  have hb : Below W.heap.size W W' := gr_low hg
  have hlt : ∀ x ∈ p0 ++ p1, x.block < W.heap.size := fun x hx => by simpa using hW'.lt x hx
  have hl0 : ∀ x ∈ p0, x.block < W.heap.size := fun x hx => hlt x (by simp [hx])
  have hl1 : ∀ x ∈ p1, x.block < W.heap.size := fun x hx => hlt x (by simp [hx])
  refine ⟨_, rfl, _, _, _, [], p0 ++ p1, [], hW', ?_, ?_, rfl, hb.frame _, fun h => by cases h⟩
  · exact trodAll_mk1 (shut_bool Tryd.underlying4 true)
  · have h3 := trodAll_mk2 (Below.trod laidOut0 (by kernel_rfl) (of_decide_eq_true (by kernel_rfl)) h0 hb hl0) (Below.trod laidOut0 (by kernel_rfl) (of_decide_eq_true (by kernel_rfl)) h1 hb hl1)
    exact h3

theorem order_row : Rows.DecimalOrderSaid :=
  OpenClaim.holds_of_wide 9 Tryd.f9 rfl rfl rfl rfl rfl rfl rfl ⟨rfl, rfl, rfl, rfl, rfl⟩ rfl rfl rfl rfl rfl (by kernel_rfl) Tryd.func9 (by kernel_rfl)
    (of_decide_eq_true (by kernel_rfl)) (by unfold Func.isWrapper; first | (rw [if_pos (by decide +kernel)]; kernel_rfl) | (rw [if_neg (by decide +kernel)]; exact ⟨rfl, rfl⟩))
    (fun os started H enc _ => order_lifted os started H enc)
end Go.Proofs.YtmlmjhlakpgagaaDoor
