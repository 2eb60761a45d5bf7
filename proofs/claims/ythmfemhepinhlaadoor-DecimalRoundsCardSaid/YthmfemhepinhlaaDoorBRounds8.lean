/- Contracts of the program and of the reference, part 8: Dj, Rounds, RowN, RoundsRow. -/
import Derived.Test.YthmfemhepinhlaaDoorBRounds7
import Derived.Test.YthmfemhepinhlaaDoorRows
import Derived.ProofKit
import Derived.ChangeSlices
import Derived.LaidLaws
import Derived.Lib.LaidIn
import Derived.Lib.LaidTab
import Derived.Lib.SmallJoins
import Derived.Stop.LaidErr
import Derived.OpenShut
namespace Go.Proofs.YthmfemhepinhlaaDoor
open Go.RowKit Mth Dm

theorem modD_eq (n m : Int) : (n.tmod m + m) % m = n % m := by
  rw [Int.add_emod_right]
  have e := Int.mul_tdiv_add_tmod n m
  conv => rhs; rw [← e, Int.add_comm, Int.add_mul_emod_self_left]
set_option maxRecDepth 100000 in
set_option maxHeartbeats 1000000 in
theorem mod_any (n m : Int) (h : 0 < m) (h2 : m ≤ 1000000) (w : World) :
    Calls Tryd.prog 12 #[.int .i64 n, .int .i64 m] w fun e w' => e = .returned (.int .i64 (n % m)) ∧ w = w' := by
  rw [← modD_eq n m]
  have h0 : (m == 0) = false := by rw [beq_eq_false_iff_ne]; omega
  have hm : ¬ m = 0 := by omega
  have l1 : -m < n.tmod m := Int.lt_tmod_of_pos n h
  have l2 : n.tmod m < m := Int.tmod_lt_of_pos n h
  have l3 : 0 ≤ (n.tmod m + m) % m := Int.emod_nonneg _ (by omega)
  have l4 : (n.tmod m + m) % m < m := Int.emod_lt_of_pos _ h
  have u1 : wrap64 (n.tmod m) = n.tmod m := by unfold wrap64; omega
  have u2 : wrap64 (n.tmod m + m) = n.tmod m + m := by unfold wrap64; omega
  have u3 : wrap64 ((n.tmod m + m) % m) = (n.tmod m + m) % m := by unfold wrap64; omega
  go_enter Tryd.func12, Tryd.ntmps12
  go_wp2
  go_ret
  exact ⟨rfl, rfl⟩
/-- The right decimal of two numbers. -/
def madeD (n s : Int) : Int × Nat := ((fitD (n.tmod 1000000000000001) (s % 7).toNat).1, (fitD (n.tmod 1000000000000001) (s % 7).toNat).2.1)
theorem made_rt (n s : Int) : Dm.Rt (madeD n s) := rt_fit _ _
set_option maxRecDepth 100000 in
theorem made_any (n s : Int) (w : World) : Gives 19 #[.int .i64 n, .int .i64 s] w (.agg #[.int .i64 (madeD n s).1, .int .i64 ((madeD n s).2 : Nat)]) := by
  have l1 : -1000000000000001 < n.tmod 1000000000000001 := Int.lt_tmod_of_pos n (by decide)
  have l2 : n.tmod 1000000000000001 < 1000000000000001 := Int.tmod_lt_of_pos n (by decide)
  have hmk := fun w => qmake_in (n.tmod 1000000000000001) (s % 7).toNat w (by omega) (by omega) (by omega)
  rw [show (((s % 7).toNat : Nat) : Int) = s % 7 from by omega] at hmk
  have u1 : wrap64 (n.tmod 1000000000000001) = n.tmod 1000000000000001 := by unfold wrap64; omega
  unfold madeD
  generalize fitD (n.tmod 1000000000000001) (s % 7).toNat = r at *
  generalize hq : n.tmod 1000000000000001 = q at *
  have HMK := Lib.hid hmk
  clear hmk
  go_enter Tryd.func19, Tryd.ntmps19
  go_wp2_with fail
  refine (mod_any s 7 (by decide) (by decide) _).mono ?_
  rintro e w1 ⟨rfl, rfl⟩
  go_wp2_with fail
  refine (HMK.out _).mono ?_
  rintro e w2 ⟨rfl, g2⟩
  have T := (Two.new w (.int .i64 0) (.int .i64 0) 23).kept g2
  have G := Lib.hid (gr_then (gr_alloc w (.cells #[.int .i64 0, .int .i64 0] 23) none) g2)
  have d0 := T.c0
  have d1 := T.c1
  have f0 := T.fr 0
  have f1 := T.fr 1
  have lt := T.lt
  clear g2
  unfold dres
  go_wp2
  exact bodyPost_ret (v := .agg #[.int .i64 r.1, .int .i64 (r.2.1 : Nat)]) (by simp [results, Tryd.results19, go_sem, d0, d1, lt]) rfl ⟨rfl, gr_then (gr_setn (gr_setn G.out (by omega)) (by omega)) (gr_alloc _ _ none)⟩
end Go.Proofs.YthmfemhepinhlaaDoor
namespace Go.Proofs.YthmfemhepinhlaaDoor
open Go.RowKit Mth Dm

/-- Rounding again changes nothing. -/
theorem again_eq (n s k : Int) (h : (roundD (valD n s) k).2.2 = true) : roundD (valD (roundD (valD n s) k).1 ((roundD (valD n s) k).2.1 : Nat)) k = roundD (valD n s) k := by
  have ht := round_rt (rt_val n s) k
  have hv := ht.val
  dsimp only at hv
  rw [hv]
  refine round_again k ?_ h
  unfold roundD at h
  split at h
  · assumption
  · simp at h
set_option maxHeartbeats 8000000 in
set_option maxRecDepth 100000 in
theorem rounds_true (an sa q0 q1 sc : Int) (W : World) (hd : EV W) (_h1 : -9223372036854775808 ≤ an ∧ an ≤ 9223372036854775807) (_h2 : -9223372036854775808 ≤ sa ∧ sa ≤ 9223372036854775807) (_h5 : -9223372036854775808 ≤ q0 ∧ q0 ≤ 9223372036854775807) (_h6 : -9223372036854775808 ≤ q1 ∧ q1 ≤ 9223372036854775807) (_h7 : -9223372036854775808 ≤ sc ∧ sc ≤ 9223372036854775807) :
    Gives 6 #[.agg #[.int .i64 an, .int .i64 sa], .agg #[.int .i64 q0, .int .i64 q1], .int .i64 sc] W (.bool true) := by
  have HD := Lib.hid hd
  clear hd
  go_enter Tryd.func6, Tryd.ntmps6
  go_wp2_with fail
  have g0 := gr_then (gr_alloc W (.cells #[.int .i64 an, .int .i64 sa] 23) none) (gr_alloc _ (.cells #[.int .i64 q0, .int .i64 q1] 39) none)
  refine (sanity_any _ (HD.out.grown g0)).mono ?_
  rintro e w1 ⟨rfl, g1⟩
  have TA := ((Two.new W (.int .i64 an) (.int .i64 sa) 23).alloc (.cells #[.int .i64 q0, .int .i64 q1] 39)).kept g1
  have TQ := (Two.new1 W (.cells #[.int .i64 an, .int .i64 sa] 23) (.int .i64 q0) (.int .i64 q1) 39).kept g1
  have G := gr_then g0 g1
  clear g0 g1
  have l1 : -10000 < q0.tmod 10000 := Int.lt_tmod_of_pos q0 (by decide)
  have l2 : q0.tmod 10000 < 10000 := Int.tmod_lt_of_pos q0 (by decide)
  generalize hq : q0.tmod 10000 = m at l1 l2
  have hw : IntKind.i64.wrap m = m := IntWalk.i64_in _ (by omega)
  have hX := fun w => made_any q0 q1 w
  have hY := fun w => made_any m q1 w
  generalize madeD q0 q1 = x at hX
  generalize madeD m q1 = y at hY
  obtain ⟨xn, xs⟩ := x
  obtain ⟨yn, ys⟩ := y
  have HX := Lib.hid hX
  have HY := Lib.hid hY
  clear hX hY
  have lw := TQ.lt
  go_wp2_with fail
  have TA := TA.drew
  have TQ := TQ.drew
  have G := gr_then G (gr_drew _ none)
  have a0 := TA.c0
  have a1 := TA.c1
  have c0 := TQ.c0
  have c1 := TQ.c1
  go_region_held3 (fun w' => w'.cell? ⟨W.heap.size, 0, none⟩ = some (.int .i64 an) ∧ w'.cell? ⟨W.heap.size, 1, none⟩ = some (.int .i64 sa) ∧ w'.cell? ⟨W.heap.size + 1, 0, none⟩ = some (.int .i64 q0) ∧ w'.cell? ⟨W.heap.size + 1, 1, none⟩ = some (.int .i64 q1)) (first | exact ⟨a0, a1, c0, c1⟩ | exact ⟨ca2, ca3, ca0, ca1⟩ | exact ⟨cb2, cb3, cb0, cb1⟩ | exact ⟨(gr_alloc wb _ none).cell cb2 (by simp), (gr_alloc wb _ none).cell cb3 (by simp), (gr_alloc wb _ none).cell cb0 (by simp), (gr_alloc wb _ none).cell cb1 (by simp)⟩ | go_keep)
    (first
    | (have h__ := ca0; clear h__; go_at_call 19; refine (HY.out _).mono ?_; rintro e wb ⟨rfl, gb⟩; have hB0 := hA0.kept gb; have hBQ := hAQ.kept gb; have gB := gr_then gA gb; have cb0 := hBQ.c0; have cb1 := hBQ.c1; have cb2 := hB0.c0; have cb3 := hB0.c1)
    | (go_at_call 19; refine (HX.out _).mono ?_; rintro e wa ⟨rfl, ga⟩; have hA0 := TA.kept ga; have hAQ := TQ.kept ga; have gA := gr_then G ga; have ca0 := hAQ.c0; have ca1 := hAQ.c1; have ca2 := hA0.c0; have ca3 := hA0.c1))
  all_goals
    go_wp2
    have hcells : ∀ i, i < 3 → ∃ n s : Int, (wb.alloc (.cells #[.int .i64 an, .int .i64 sa, .int .i64 xn, .int .i64 (xs : Int), .int .i64 yn, .int .i64 (ys : Int)] 23)).cell? ⟨wb.heap.size, i * 2, none⟩ = some (.int .i64 n) ∧ (wb.alloc (.cells #[.int .i64 an, .int .i64 sa, .int .i64 xn, .int .i64 (xs : Int), .int .i64 yn, .int .i64 (ys : Int)] 23)).cell? ⟨wb.heap.size, i * 2 + 1, none⟩ = some (.int .i64 s) := by
      intro i hi
      rw [cell_of_row _ _ (i * 2) _ _ (0, 0) (heap_alloc_new wb _), cell_of_row _ _ (i * 2 + 1) _ _ (0, 0) (heap_alloc_new wb _)]
      rcases (show i = 0 ∨ i = 1 ∨ i = 2 by omega) with rfl | rfl | rfl
      · exact ⟨an, sa, rfl, rfl⟩
      · exact ⟨xn, xs, rfl, rfl⟩
      · exact ⟨yn, ys, rfl, rfl⟩
    have HC := Lib.hid hcells
    have G1 := Lib.hid (gr_then gB (gr_alloc wb (.cells #[.int .i64 an, .int .i64 sa, .int .i64 xn, .int .i64 (xs : Int), .int .i64 yn, .int .i64 (ys : Int)] 23) none))
    clear hcells hB0 hBQ gB cb0 cb1 cb2 cb3 gb hA0 hAQ gA ca0 ca1 ca2 ca3 ga TA TQ G a0 a1 c0 c1
    go_loopw [33] (fun u wr => ∃ i : Nat, i ≤ 3 ∧ u = .int .i64 i ∧ Hid (∀ i, i < 3 → ∃ n s : Int, wr.cell? ⟨wb.heap.size, i * 2, none⟩ = some (.int .i64 n) ∧ wr.cell? ⟨wb.heap.size, i * 2 + 1, none⟩ = some (.int .i64 s)) ∧ W.grownBy wr none) (fun u _ => 3 - (intOf u).toNat)
    case atStart => exact ⟨0, by omega, rfl, HC, G1.out⟩
    case round =>
      obtain ⟨i, hi, rfl, HCI, hg⟩ := hrel
      clear HC G1
      by_cases hlt : i < 3
      · obtain ⟨n, s, hn, hs⟩ := HCI.out i hlt
        go_wp2_with fail
        refine (mod_any sc 7 (by decide) (by decide) _).mono ?_
        rintro e w3 ⟨rfl, rfl⟩
        generalize sc % 7 = s7
        have T9 := Two.new wr (.int .i64 n) (.int .i64 s) 23
        go_wp2_with fail
        have T9 := T9.alloc (.cells #[.int .i64 sc, .int .i64 s7] 3)
        have T41 := Two.new1 wr (.cells #[.int .i64 n, .int .i64 s] 23) (.int .i64 sc) (.int .i64 s7) 3
        have gr3 := gr_then (gr_alloc wr (.cells #[.int .i64 n, .int .i64 s] 23) none) (gr_alloc _ (.cells #[.int .i64 sc, .int .i64 s7] 3) none)
        have HC3 := Lib.hid (show ∀ i, i < 3 → ∃ n' s' : Int, ((wr.alloc (.cells #[.int .i64 n, .int .i64 s] 23)).alloc (.cells #[.int .i64 sc, .int .i64 s7] 3)).cell? ⟨wb.heap.size, i * 2, none⟩ = some (.int .i64 n') ∧ ((wr.alloc (.cells #[.int .i64 n, .int .i64 s] 23)).alloc (.cells #[.int .i64 sc, .int .i64 s7] 3)).cell? ⟨wb.heap.size, i * 2 + 1, none⟩ = some (.int .i64 s') from fun i hi => by
          obtain ⟨n', s', h1, h2⟩ := HCI.out i hi
          exact ⟨n', s', gr3.cell h1 (by simp), gr3.cell h2 (by simp)⟩)
        have G3 := Lib.hid (gr_then hg gr3)
        clear HCI hg gr3 hn hs
        generalize wr.heap.size = b9 at T9 T41 ⊢
        go_loopw [42] (fun u wq => ∃ j : Nat, j ≤ 2 ∧ u = .int .i64 j ∧ Two wq b9 (.int .i64 n) (.int .i64 s) 23 ∧ Two wq (b9 + 1) (.int .i64 sc) (.int .i64 s7) 3 ∧ Hid (∀ i, i < 3 → ∃ n s : Int, wq.cell? ⟨wb.heap.size, i * 2, none⟩ = some (.int .i64 n) ∧ wq.cell? ⟨wb.heap.size, i * 2 + 1, none⟩ = some (.int .i64 s)) ∧ W.grownBy wq none) (fun u _ => 2 - (intOf u).toNat)
        case atStart => exact ⟨0, by omega, rfl, T9, T41, HC3, G3.out⟩
        case round =>
          obtain ⟨j, hj, rfl, T9, T41, HCJ, hg⟩ := hrel
          clear HC3 G3
          by_cases hlj : j < 2
          · have hk : ∃ k : Int, wr.cell? ⟨b9 + 1, j, none⟩ = some (.int .i64 k) := by
              rcases (show j = 0 ∨ j = 1 by omega) with rfl | rfl
              · exact ⟨sc, T41.c0⟩
              · exact ⟨s7, T41.c1⟩
            obtain ⟨k, hk⟩ := hk
            have t0 := T9.c0
            have t1 := T9.c1
            have hr1 := fun w => round_any n s k w
            have hr2 := fun w => qround_any n s k w
            have hag := again_eq n s k
            generalize roundD (valD n s) k = r at hr1 hr2 hag
            obtain ⟨rn, rs, rb⟩ := r
            dsimp only at hag
            have hr3 := fun w => round_any rn (rs : Int) k w
            generalize roundD (valD rn (rs : Int)) k = r' at hr3 hag
            have HR1 := Lib.hid hr1
            have HR2 := Lib.hid hr2
            have HR3 := Lib.hid hr3
            have HAG := Lib.hid hag
            clear hr1 hr2 hr3 hag
            go_wp2_with fail
            refine (HR1.out _).mono ?_
            rintro e v1 ⟨rfl, g1⟩
            have T9o := T9
            have T9 := T9.kept g1
            have u0 := T9.c0
            have u1 := T9.c1
            have T12 := Two.new v1 (.int .i64 rn) (.int .i64 (rs : Int)) 23
            have T9 := T9.alloc (.cells #[.int .i64 rn, .int .i64 (rs : Int)] 23)
            have v0 := T9.c0
            have v1' := T9.c1
            have gg := gr_then g1 (gr_alloc v1 (.cells #[.int .i64 rn, .int .i64 (rs : Int)] 23) none)
            unfold dres
            dsimp only
            go_wp2_with fail
            refine (HR2.out _).mono ?_
            rintro e v2 ⟨rfl, g2⟩
            have T12 := T12.kept g2
            have T14 := Two.new v2 (.int .i64 rn) (.int .i64 (rs : Int)) 23
            have T12 := T12.alloc (.cells #[.int .i64 rn, .int .i64 (rs : Int)] 23)
            have gg := gr_then (gr_then gg g2) (gr_alloc v2 (.cells #[.int .i64 rn, .int .i64 (rs : Int)] 23) none)
            have x0 := T12.c0
            have x1 := T12.c1
            have y0 := T14.c0
            have y1 := T14.c1
            have HA := HAG.out
            obtain ⟨pn, ps, pb⟩ := r'
            unfold dres
            dsimp only
            cases rb
            all_goals
              clear HA
              go_wp2_with fail
              refine (HR3.out _).mono ?_
              rintro e v3 ⟨rfl, g3⟩
              have T12 := T12.kept g3
              have T16 := Two.new v3 (.int .i64 pn) (.int .i64 (ps : Int)) 23
              have T12 := T12.alloc (.cells #[.int .i64 pn, .int .i64 (ps : Int)] 23)
              have g4 := gr_then (gr_then gg g3) (gr_alloc v3 (.cells #[.int .i64 pn, .int .i64 (ps : Int)] 23) none)
              have z0 := T12.c0
              have z1 := T12.c1
              have p0 := T16.c0
              have p1 := T16.c1
              have T9z := T9o.kept g4
              have T41z := T41.kept g4
              have HCZ := Lib.hid (show ∀ i, i < 3 → ∃ n' s' : Int, (v3.alloc (.cells #[.int .i64 pn, .int .i64 (ps : Int)] 23)).cell? ⟨wb.heap.size, i * 2, none⟩ = some (.int .i64 n') ∧ (v3.alloc (.cells #[.int .i64 pn, .int .i64 (ps : Int)] 23)).cell? ⟨wb.heap.size, i * 2 + 1, none⟩ = some (.int .i64 s') from fun i hi => by
                obtain ⟨n', s', h1, h2⟩ := HCJ.out i hi
                exact ⟨n', s', g4.cell h1 (by simp), g4.cell h2 (by simp)⟩)
              have GZ := Lib.hid (gr_then hg g4)
              unfold dres
              dsimp only
            · go_wp2
              exact ⟨⟨j + 1, by omega, by go_num, T9z, T41z, HCZ, GZ.out⟩, by simp [intOf]; omega⟩
            · have he := HAG.out (by first | trivial | rfl)
              try simp only [Prod.mk.injEq] at he
              obtain ⟨h1, h2, h3⟩ := he
              subst h1 h2 h3
              go_wp2
              exact ⟨⟨j + 1, by omega, by go_num, T9z, T41z, HCZ, GZ.out⟩, by simp [intOf]; omega⟩
          · have hge : ¬ j < 2 := hlj
            go_wp2
            exact ⟨⟨i + 1, by omega, by go_num, HCJ, hg⟩, by simp [intOf]; omega⟩
      · have hge : ¬ i < 3 := hlt
        go_wp2
        go_ret
        exact ⟨rfl, hg⟩
end Go.Proofs.YthmfemhepinhlaaDoor
namespace Go.Proofs.YthmfemhepinhlaaDoor
open Go.ChangeShapes Go.WideShapes Go.ChangeAt Go.RowKit Mth

theorem own0 : ownKnob Tryd.prog.godebug = none := by kernel_rfl
theorem laidOut0 : laidOutB Tryd.prog = true := by kernel_rfl

def cellsD : DataW Unit → Array Value
  | .agg l => (l.map fun | .lit (.int k z) => Value.int k z | .lit (.string s) => Value.string ⟨s.toArray⟩ | _ => Value.nilIface).toArray
  | _ => #[]
abbrev synS : ByteArray := { data := #[105, 110, 118, 97, 108, 105, 100, 32, 115, 121, 110, 116, 97, 120] }
abbrev rngS : ByteArray := { data := #[118, 97, 108, 117, 101, 32, 111, 117, 116, 32, 111, 102, 32, 114, 97, 110, 103, 101] }
/-- So many blocks has the settled world. -/
noncomputable def low : Nat := (World.holding Tryd.prog default ⟨#[], #[], []⟩).heap.size
noncomputable def laidWorld (os : Os) : World :=
  let w0 := World.holding Tryd.prog os ⟨#[.cells #[.string synS] 131, .cells #[.string rngS] 131], #[], []⟩
  let put (h : Array Obj) (g : Nat) (cs : Array Value) : Array Obj := h.modify g fun
    | .cells _ t frozen => .cells cs t frozen
    | o => o
  { w0 with heap := put (put (put (put (put (put w0.heap 5 (cellsD Rows.laid_math_bits_deBruijn32tab)) 6 (cellsD Rows.laid_math_bits_deBruijn64tab)) 4 (cellsD Rows.laid_internal_strconv_uint64pow10)) 0 (cellsD Rows.laid_concord_decimal_primes)) 2 #[.iface 129 (.pointer (some ⟨low, 0, none⟩))]) 3 #[.iface 129 (.pointer (some ⟨low + 1, 0, none⟩))] }
abbrev laidL : List (String × DataW Unit) := [("math/bits.deBruijn32tab", Rows.laid_math_bits_deBruijn32tab), ("math/bits.deBruijn64tab", Rows.laid_math_bits_deBruijn64tab), ("internal/strconv.uint64pow10", Rows.laid_internal_strconv_uint64pow10), ("strconv.ErrRange", Rows.laid_strconv_ErrRange), ("strconv.ErrSyntax", Rows.laid_strconv_ErrSyntax), ("concord/decimal.primes", Rows.laid_concord_decimal_primes)]
theorem starE : "*" ++ "errors.errorString" = "*errors.errorString" := by decide
theorem rowE (u : TypeId) (h : Tryd.prog.typeName? 3 u = some "*errors.errorString") : u = 129 :=
  typeName_ptr_named (nm := "errors.errorString") (by rw [starE]; kernel_rfl) (by kernel_rfl) (by decide) u (by rw [starE]; exact h)
theorem gES : Tryd.prog.globalNamed "strconv.ErrSyntax" = some 2 := by kernel_rfl
theorem gER : Tryd.prog.globalNamed "strconv.ErrRange" = some 3 := by kernel_rfl
theorem ev_of {w : World} (h : laidMet Tryd.prog laidL w) : EV w := by
  have hR : laidMet Tryd.prog (("strconv.ErrRange", .iface "*errors.errorString" (.ptr (.agg [.lit (.string [118, 97, 108, 117, 101, 32, 111, 117, 116, 32, 111, 102, 32, 114, 97, 110, 103, 101])]))) :: [("strconv.ErrSyntax", Rows.laid_strconv_ErrSyntax), ("concord/decimal.primes", Rows.laid_concord_decimal_primes)]) w := h.tail.tail.tail
  have hS : laidMet Tryd.prog (("strconv.ErrSyntax", .iface "*errors.errorString" (.ptr (.agg [.lit (.string [105, 110, 118, 97, 108, 105, 100, 32, 115, 121, 110, 116, 97, 120])]))) :: [("concord/decimal.primes", Rows.laid_concord_decimal_primes)]) w := h.tail.tail.tail.tail
  obtain ⟨a0, s0, hv0, -, -, -⟩ := laid_sentinel hR gER (ti := 78) (by kernel_rfl) Tryd.underlying78 rowE Tryd.underlying129 Tryd.underlying131 rfl rfl Tryd.underlying9 (by kernel_rfl) (by kernel_rfl)
  obtain ⟨a1, s1, hv1, -, -, -⟩ := laid_sentinel hS gES (ti := 78) (by kernel_rfl) Tryd.underlying78 rowE Tryd.underlying129 Tryd.underlying131 rfl rfl Tryd.underlying9 (by kernel_rfl) (by kernel_rfl)
  refine ⟨?_, ?_, ⟨_, _, by have h0 := World.var?_cell gES hv1 0; simpa using h0⟩, ⟨_, _, by have h0 := World.var?_cell gER hv0 0; simpa using h0⟩⟩
  · exact Lib.tabIs_of_head (g := 4) (t := 120) (e := 107) (n := 20) (by kernel_rfl) (by kernel_rfl) (by kernel_rfl) (by kernel_rfl) (by kernel_rfl) (by kernel_rfl) (show laidMet Tryd.prog [("internal/strconv.uint64pow10", Lib.tabData .u64 Lib.pow10Tab), ("strconv.ErrRange", Rows.laid_strconv_ErrRange), ("strconv.ErrSyntax", Rows.laid_strconv_ErrSyntax), ("concord/decimal.primes", Rows.laid_concord_decimal_primes)] w from h.tail.tail)
  · exact Lib.tabIs_of_head (g := 0) (t := 39) (e := 3) (n := 2) (by kernel_rfl) (by kernel_rfl) (by kernel_rfl) (by kernel_rfl) (by kernel_rfl) (by kernel_rfl) (show laidMet Tryd.prog [("concord/decimal.primes", Lib.tabData .i64 [2, 5])] w from h.tail.tail.tail.tail.tail)
set_option maxRecDepth 1000000 in
theorem laid_at (os : Os) (args : Array Value) : laidMet Tryd.prog laidL ((laidWorld os).forCall (fun _ _ => 0) ⟨#[], args, []⟩).memory :=
  have h : LaidIn Tryd.prog ((laidWorld os).forCall (fun _ _ => 0) ⟨#[], args, []⟩).memory laidL [5, 6, 4, 3, 2, 0, low, low + 1] :=
    LaidIn.of_run [5, 6, 4, 3, 2, 0, low, low + 1] 8 (by kernel_rfl) (by kernel_rfl) (by kernel_rfl) (by kernel_rfl)
  h.met

set_option maxRecDepth 100000 in
theorem int_arg {H : Type} {enc : TypeId × Value → H} {W : World} {base : Nat} {v : Value} {d : DataW H} {p : List MemPlace} (hok : Value.okWide Tryd.prog W .any base 3 v) (h : DataW.Trod enc Tryd.prog W 0 (fun _ => true) true 3 v d p) : ∃ n : Int, v = .int .i64 n ∧ -9223372036854775808 ≤ n ∧ n ≤ 9223372036854775807 := by
  obtain ⟨n, rfl, _, _, hw⟩ := open_int Tryd.underlying3 hok h
  have a1 : IntKind.i64.min = -9223372036854775808 := rfl
  have a2 : IntKind.i64.max = 9223372036854775807 := rfl
  refine ⟨n, rfl, ?_⟩
  simpa [Lit.wf, a1, a2] using hw
set_option maxRecDepth 100000 in
theorem byte_arg {H : Type} {enc : TypeId × Value → H} {W : World} {base : Nat} {v : Value} {d : DataW H} {p : List MemPlace} (hok : Value.okWide Tryd.prog W .any base 5 v) (h : DataW.Trod enc Tryd.prog W 0 (fun _ => true) true 5 v d p) : ∃ n : Nat, v = .int .u8 (n : Int) ∧ n ≤ 255 := by
  obtain ⟨n, rfl, _, _, hw⟩ := open_int Tryd.underlying5 hok h
  have a1 : IntKind.u8.min = 0 := rfl
  have a2 : IntKind.u8.max = 255 := rfl
  have hb : 0 ≤ n ∧ n ≤ 255 := by simpa [Lit.wf, a1, a2] using hw
  exact ⟨n.toNat, by rw [Int.toNat_of_nonneg hb.1], by omega⟩
set_option maxRecDepth 100000 in
theorem str_arg {H : Type} {enc : TypeId × Value → H} {W : World} {base : Nat} {v : Value} {d : DataW H} {p : List MemPlace} (hok : Value.okWide Tryd.prog W .any base 9 v) (h : DataW.Trod enc Tryd.prog W 0 (fun _ => true) true 9 v d p) : ∃ s : ByteArray, v = .string s ∧ s.size ≤ maxLen := by
  obtain ⟨s, rfl⟩ := okWide_string Tryd.underlying9 hok
  obtain ⟨fuel, hf⟩ := h
  refine ⟨s, rfl, ?_⟩
  cases fuel with
  | zero => simp [DataW.trod] at hf
  | succ n =>
    simp [DataW.trod, Value.cells, Tryd.underlying9] at hf
    exact hf.1
theorem wf_i64 {n : Int} (h : (Lit.int .i64 n).wf = true) : -9223372036854775808 ≤ n ∧ n ≤ 9223372036854775807 := by
  have a1 : IntKind.i64.min = -9223372036854775808 := rfl
  have a2 : IntKind.i64.max = 9223372036854775807 := rfl
  simpa [Lit.wf, a1, a2] using h
theorem wf_u8 {n : Int} (h : (Lit.int .u8 n).wf = true) : ∃ m : Nat, n = (m : Int) ∧ m ≤ 255 := by
  have a1 : IntKind.u8.min = 0 := rfl
  have a2 : IntKind.u8.max = 255 := rfl
  have hb : 0 ≤ n ∧ n ≤ 255 := by simpa [Lit.wf, a1, a2] using h
  exact ⟨n.toNat, by rw [Int.toNat_of_nonneg hb.1], by omega⟩
/-- An argument that is an array of 2 numbers. -/
theorem arr2_arg {P : Program} {k : IntKind} {t e : TypeId} (ht : P.underlying t = some (.array 2 e)) (he : P.underlying e = some (.int k)) (hc : P.cellsOf t = 2) (hce : P.cellsOf e = 1) {H : Type} {enc : TypeId × Value → H} {W : World} {base : Nat} {v : Value} {d : DataW H} {p : List MemPlace} (hok : Value.okWide P W .any base t v) (h : DataW.Trod enc P W 0 (fun _ => true) true t v d p) : ∃ a0 a1 : Int, v = .agg #[.int k a0, .int k a1] ∧ (Lit.int k a0).wf = true ∧ (Lit.int k a1).wf = true := by
  simp only [Value.okWide, ht] at hok
  obtain ⟨cs, rfl, hsz, _⟩ := hok
  obtain ⟨fuel, hf⟩ := h
  rw [hc] at hsz
  obtain ⟨x0, x1, rfl⟩ : ∃ x0 x1, cs = #[x0, x1] := by
    rcases cs with ⟨l⟩
    match l, hsz with
    | [x0, x1], _ => exact ⟨x0, x1, rfl⟩
  obtain ⟨xs, m, _, _, _, hlen, hf2⟩ := DataW.trod_array ht hf
  have h0 := hf2 0 (by decide)
  have h1 := hf2 1 (by decide)
  rw [hce] at h0 h1
  match xs, hlen with
  | [y0, y1], _ =>
    obtain ⟨a0, e0, _, w0⟩ := DataW.trod_int he (x := y0) (by simpa using h0)
    obtain ⟨a1, e1, _, w1⟩ := DataW.trod_int he (x := y1) (by simpa using h1)
    simp [Value.cells] at e0 e1
    exact ⟨a0, a1, by rw [e0, e1], w0, w1⟩
/-- An argument that is an array of 4 numbers. -/
theorem arr4_arg {P : Program} {k : IntKind} {t e : TypeId} (ht : P.underlying t = some (.array 4 e)) (he : P.underlying e = some (.int k)) (hc : P.cellsOf t = 4) (hce : P.cellsOf e = 1) {H : Type} {enc : TypeId × Value → H} {W : World} {base : Nat} {v : Value} {d : DataW H} {p : List MemPlace} (hok : Value.okWide P W .any base t v) (h : DataW.Trod enc P W 0 (fun _ => true) true t v d p) : ∃ a0 a1 a2 a3 : Int, v = .agg #[.int k a0, .int k a1, .int k a2, .int k a3] ∧ (Lit.int k a0).wf = true ∧ (Lit.int k a1).wf = true ∧ (Lit.int k a2).wf = true ∧ (Lit.int k a3).wf = true := by
  simp only [Value.okWide, ht] at hok
  obtain ⟨cs, rfl, hsz, _⟩ := hok
  obtain ⟨fuel, hf⟩ := h
  rw [hc] at hsz
  obtain ⟨x0, x1, x2, x3, rfl⟩ : ∃ x0 x1 x2 x3, cs = #[x0, x1, x2, x3] := by
    rcases cs with ⟨l⟩
    match l, hsz with
    | [x0, x1, x2, x3], _ => exact ⟨x0, x1, x2, x3, rfl⟩
  obtain ⟨xs, m, _, _, _, hlen, hf2⟩ := DataW.trod_array ht hf
  have h0 := hf2 0 (by decide)
  have h1 := hf2 1 (by decide)
  have h2 := hf2 2 (by decide)
  have h3 := hf2 3 (by decide)
  rw [hce] at h0 h1 h2 h3
  match xs, hlen with
  | [y0, y1, y2, y3], _ =>
    obtain ⟨a0, e0, _, w0⟩ := DataW.trod_int he (x := y0) (by simpa using h0)
    obtain ⟨a1, e1, _, w1⟩ := DataW.trod_int he (x := y1) (by simpa using h1)
    obtain ⟨a2, e2, _, w2⟩ := DataW.trod_int he (x := y2) (by simpa using h2)
    obtain ⟨a3, e3, _, w3⟩ := DataW.trod_int he (x := y3) (by simpa using h3)
    simp [Value.cells] at e0 e1 e2 e3
    exact ⟨a0, a1, a2, a3, by rw [e0, e1, e2, e3], w0, w1, w2, w3⟩
set_option maxRecDepth 100000 in
theorem dec_arg {H : Type} {enc : TypeId × Value → H} {W : World} {base : Nat} {v : Value} {d : DataW H} {p : List MemPlace} (hok : Value.okWide Tryd.prog W .any base 23 v) (h : DataW.Trod enc Tryd.prog W 0 (fun _ => true) true 23 v d p) : ∃ a0 a1 : Int, v = .agg #[.int .i64 a0, .int .i64 a1] ∧ (Lit.int .i64 a0).wf = true ∧ (Lit.int .i64 a1).wf = true := by
  obtain ⟨v0, v1, y0, y1, n, rfl, _, _, h0, h1⟩ := Joins.open_agg2 Tryd.underlying23 (by kernel_rfl) (by kernel_rfl) hok h
  obtain ⟨a0, e0, _, w0⟩ := DataW.trod_int Tryd.underlying3 h0
  obtain ⟨a1, e1, _, w1⟩ := DataW.trod_int Tryd.underlying3 h1
  simp [Value.cells] at e0 e1
  exact ⟨a0, a1, by rw [e0, e1], w0, w1⟩
/-- An argument that is three pairs of numbers. -/
theorem arr32_arg {P : Program} {k : IntKind} {t e2 e : TypeId} (ht : P.underlying t = some (.array 3 e2)) (ht2 : P.underlying e2 = some (.array 2 e)) (he : P.underlying e = some (.int k)) (hc : P.cellsOf t = 6) (hc2 : P.cellsOf e2 = 2) (hce : P.cellsOf e = 1) {H : Type} {enc : TypeId × Value → H} {W : World} {base : Nat} {v : Value} {d : DataW H} {p : List MemPlace} (hok : Value.okWide P W .any base t v) (h : DataW.Trod enc P W 0 (fun _ => true) true t v d p) : ∃ a0 a1 a2 a3 a4 a5 : Int, v = .agg #[.int k a0, .int k a1, .int k a2, .int k a3, .int k a4, .int k a5] ∧ (Lit.int k a0).wf = true ∧ (Lit.int k a1).wf = true ∧ (Lit.int k a2).wf = true ∧ (Lit.int k a3).wf = true ∧ (Lit.int k a4).wf = true ∧ (Lit.int k a5).wf = true := by
  simp only [Value.okWide, ht] at hok
  obtain ⟨cs, rfl, hsz, _⟩ := hok
  obtain ⟨fuel, hf⟩ := h
  rw [hc] at hsz
  obtain ⟨x0, x1, x2, x3, x4, x5, rfl⟩ : ∃ x0 x1 x2 x3 x4 x5, cs = #[x0, x1, x2, x3, x4, x5] := by
    rcases cs with ⟨l⟩
    match l, hsz with
    | [x0, x1, x2, x3, x4, x5], _ => exact ⟨x0, x1, x2, x3, x4, x5, rfl⟩
  obtain ⟨xs, m, _, _, _, hlen, hf2⟩ := DataW.trod_array ht hf
  have h0 := hf2 0 (by decide)
  have h1 := hf2 1 (by decide)
  have h2 := hf2 2 (by decide)
  rw [hc2] at h0 h1 h2
  match xs, hlen with
  | [y0, y1, y2], _ =>
    have key : ∀ {c0 c1 : Value} {y}, DataW.trod enc P W 0 (fun _ => true) true m e2 [c0, c1] = some y → ∃ b0 b1 : Int, c0 = .int k b0 ∧ c1 = .int k b1 ∧ (Lit.int k b0).wf = true ∧ (Lit.int k b1).wf = true := by
      intro c0 c1 y hy
      obtain ⟨zs, m', _, _, _, hl2, hg⟩ := DataW.trod_array ht2 hy
      have g0 := hg 0 (by decide)
      have g1 := hg 1 (by decide)
      rw [hce] at g0 g1
      match zs, hl2 with
      | [z0, z1], _ =>
        obtain ⟨b0, e0, _, w0⟩ := DataW.trod_int he (x := z0) (by simpa using g0)
        obtain ⟨b1, e1, _, w1⟩ := DataW.trod_int he (x := z1) (by simpa using g1)
        simp at e0 e1
        exact ⟨b0, b1, e0, e1, w0, w1⟩
    obtain ⟨a0, a1, rfl, rfl, w0, w1⟩ := key (y := y0) (by simpa [Value.cells] using h0)
    obtain ⟨a2, a3, rfl, rfl, w2, w3⟩ := key (y := y1) (by simpa [Value.cells] using h1)
    obtain ⟨a4, a5, rfl, rfl, w4, w5⟩ := key (y := y2) (by simpa [Value.cells] using h2)
    exact ⟨a0, a1, a2, a3, a4, a5, rfl, w0, w1, w2, w3, w4, w5⟩
theorem gr_low {w w' : World} (hg : w.grownBy w' none) : Below w.heap.size w w' := ⟨hg.os, hg.tape, hg.output, hg.size, fun k hk => hg.block k hk (by simp)⟩
end Go.Proofs.YthmfemhepinhlaaDoor
namespace Go.Proofs.YthmfemhepinhlaaDoor
open Go.ChangeShapes Go.WideShapes Go.ChangeAt Go.RowKit Mth

set_option maxRecDepth 1000000 in
set_option maxHeartbeats 4000000 in
theorem rounds_lifted (os : Os) (started : os.Started) (H : Type) (enc : TypeId × Value → H) :
    ReturnsInHanded {} Tryd.checked os 6 .any (fun w args => (Rows.decimalRoundsSpec.pre enc Tryd.prog Tryd.f6 Rows.decimalRoundsRow.domain false w args ∧ laidMet Tryd.prog Rows.decimalRoundsRow.laid w) ∧ sizedMet enc Tryd.prog Tryd.f6 (OpenSpec.ofChange Rows.decimalRoundsSpec) false w args)
      (Rows.decimalRoundsSpec.post enc Tryd.prog Tryd.f6 false true false false) := by
  refine returnsInHanded_of_change_and (C := Tryd.checked) (X := fun w _ => laidMet Tryd.prog Rows.decimalRoundsRow.laid w) (fun _ _ _ hh h => h.of_heap hh) own0 started (by kernel_rfl) Tryd.func6
    (ChangeSpec.witness_at (enc := enc) (C := Tryd.checked) (os := os) (X := fun w _ => laidMet Tryd.prog Rows.decimalRoundsRow.laid w) false (laidWorld os) #[.agg #[.int .i64 0, .int .i64 0], .agg #[.int .i64 0, .int .i64 0], .int .i64 0] 8 rfl (by kernel_rfl) (by kernel_rfl) (by kernel_rfl) (by kernel_rfl) (by kernel_rfl) (laid_at os _)) ?_
  intro W base args ds gs before hval0 hW hcnd0 _ hL _
  have hval : ∀ (j : Nat) t v, Tryd.f6.params[j]? = some t → args[j]? = some v → Value.okWide Tryd.prog W .any base t v := hval0
  have hW' := hW
  obtain ⟨p, q, hA0, hV, rfl, hfz, hnd⟩ := hW
  have hA : DataW.TrodAll enc Tryd.prog W 0 (fun _ => true) true Tryd.f6.params.toList args.toList ds p := hA0
  rw [Tryd.params6] at hA hval
  obtain ⟨v0, v1, v2, d0, d1, d2, p0, p1, p2, rfl, rfl, rfl, h0, h1, h2⟩ := trodAll_three hA
  obtain ⟨rfl, rfl⟩ := trodVars_none hV
  clear hA0 hval0 hA
  simp only [List.append_nil] at hW'
  have k0 := hval 0 23 v0 rfl rfl
  have k1 := hval 1 39 v1 rfl rfl
  have k2 := hval 2 3 v2 rfl rfl
  obtain ⟨n0, s0, rfl, w0, x0⟩ := dec_arg k0 h0
  obtain ⟨n1_0, n1_1, rfl, w1_0, w1_1⟩ := arr2_arg Tryd.underlying39 Tryd.underlying3 (by kernel_rfl) (by kernel_rfl) k1 h1
  obtain ⟨n2, rfl, w2⟩ := int_arg k2 h2
  refine (rounds_true n0 s0 n1_0 n1_1 n2 W (ev_of hL) (wf_i64 w0) (wf_i64 x0) (wf_i64 w1_0) (wf_i64 w1_1) w2).mono fun e W' ⟨he, hg⟩ => ?_
  subst he
  have hb : Below W.heap.size W W' := gr_low hg
  have hlt : ∀ x ∈ p0 ++ p1 ++ p2, x.block < W.heap.size := fun x hx => by simpa using hW'.lt x hx
  have hl0 : ∀ x ∈ p0, x.block < W.heap.size := fun x hx => hlt x (by simp [hx])
  have hl1 : ∀ x ∈ p1, x.block < W.heap.size := fun x hx => hlt x (by simp [hx])
  have hl2 : ∀ x ∈ p2, x.block < W.heap.size := fun x hx => hlt x (by simp [hx])
  refine ⟨_, rfl, _, _, _, [], p0 ++ p1 ++ p2, [], hW', ?_, ?_, rfl, hb.frame _, fun h => by cases h⟩
  · exact trodAll_mk1 (shut_bool Tryd.underlying4 true)
  · have h3 := trodAll_mk3 (Below.trod laidOut0 (by kernel_rfl) (of_decide_eq_true (by kernel_rfl)) h0 hb hl0) (Below.trod laidOut0 (by kernel_rfl) (of_decide_eq_true (by kernel_rfl)) h1 hb hl1) (Below.trod laidOut0 (by kernel_rfl) (of_decide_eq_true (by kernel_rfl)) h2 hb hl2)
    rw [← List.append_assoc] at h3
    exact h3

theorem rounds_row : Rows.DecimalRoundsSaid :=
  OpenClaim.holds_of_wide 6 Tryd.f6 rfl rfl rfl rfl rfl rfl rfl ⟨rfl, rfl, rfl, rfl, rfl⟩ rfl rfl rfl rfl rfl (by kernel_rfl) Tryd.func6 (by kernel_rfl)
    (of_decide_eq_true (by kernel_rfl)) (by unfold Func.isWrapper; first | (rw [if_pos (by decide +kernel)]; kernel_rfl) | (rw [if_neg (by decide +kernel)]; exact ⟨rfl, rfl⟩))
    (fun os started H enc _ => rounds_lifted os started H enc)
end Go.Proofs.YthmfemhepinhlaaDoor
