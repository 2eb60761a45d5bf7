/- Contracts of the program and of the reference, part 4: Back, RowD, BackRow. -/
import Derived.Test.YtaenalhglmkfdaaDoorBBack3
import Derived.Test.YtaenalhglmkfdaaDoorRows
import Derived.ProofKit
import Derived.ChangeSlices
import Derived.LaidLaws
import Derived.Lib.LaidIn
import Derived.Lib.LaidTab
import Derived.Stop.LaidErr
import Derived.OpenShut
namespace Go.Proofs.YtaenalhglmkfdaaDoor
open Go.RowKit Mth

theorem mon_civ {c d : Nat} (h1 : 12 ≤ c) (h2 : c < 120000) (hd : 1 ≤ d) : Civ (monN c d) (c / 12) (c % 12 + 1) (min d (dim (c / 12) (c % 12 + 1))) := by
  have := dim_pos (c / 12) (c % 12 + 1)
  exact ⟨⟨by omega, by omega, by omega, by omega, by omega, by omega⟩, rfl⟩
theorem monD_val {k c : Nat} {M : Int} (hk : k ≤ 3652058) (hc : monC k M = (c : Int)) (h1 : 12 ≤ c) (h2 : c < 120000) : monD (k : Int) M = (((monN c (civ k).2.2 : Nat) : Int), true) := by
  unfold monD
  rw [isN_true ⟨by omega, by omega⟩, Int.toNat_natCast, hc, decide_eq_true (by omega)]
  rfl

set_option maxRecDepth 100000 in
set_option maxHeartbeats 4000000 in
theorem back_true (n a b : Nat) (w : World) (hd : DV w) (hn : n ≤ 4294967295) (ha : a ≤ 65535) (hb : b ≤ 65535) :
    Calls Tryd.prog 8 #[.int .u32 (n : Int), .int .u16 (a : Int), .int .u16 (b : Int)] w fun e w' => e = .returned (.bool true) ∧ w.grownBy w' none := by
  obtain ⟨k, hk⟩ : ∃ k, k = n % 3000000 := ⟨_, rfl⟩
  obtain ⟨p, hp⟩ : ∃ p, p = a % 2000 := ⟨_, rfl⟩
  obtain ⟨q, hq⟩ : ∃ q, q = b % 2000 := ⟨_, rfl⟩
  have hz1 : (n : Int) % 3000000 = (k : Int) := by omega
  have hz2 : (a : Int) % 2000 = (p : Int) := by omega
  have hz3 : (b : Int) % 2000 = (q : Int) := by omega
  have hk1 : k < 3000000 := by omega
  have hp1 : p < 2000 := by omega
  have hq1 : q < 2000 := by omega
  clear hk hp hq
  have hc := civ_spec (n := k) (show k ≤ 3652058 by omega)
  have hcv := civ_val (k := k) (by omega)
  have hY : (civ k).1 ≤ 8300 := by
    have := hc.parts.1
    rcases Nat.lt_or_ge 8300 (civ k).1 with h | h
    · have h2 := bef_le (show 8300 ≤ (civ k).1 - 1 by omega)
      rw [show bef 8300 = 3031512 from by decide] at h2
      omega
    · exact h
  have hmc : ∀ M : Int, monC k M = 12 * ((civ k).1 : Nat) + ((civ k).2.1 : Nat) - 1 + M := fun M => rfl
  have hvp : ∀ (c : Nat) (M : Int), monC k M = (c : Int) → 12 ≤ c → c < 120000 → monD (k : Int) M = (((monN c (civ k).2.2 : Nat) : Int), true) := fun c M h h1 h2 => monD_val (by omega) h h1 h2
  generalize (civ k).1 = Y at *
  generalize (civ k).2.1 = M at *
  generalize (civ k).2.2 = D at *
  obtain ⟨b1, b2, b3, b4, b5, b6⟩ := hc.ok
  have hdl := dim_le Y M
  obtain ⟨A, hA⟩ : ∃ A, A = 12 * Y + M - 1 := ⟨_, rfl⟩
  have hA12 : A / 12 = Y := by omega
  have hA13 : A % 12 + 1 = M := by omega
  obtain ⟨D', hD'⟩ : ∃ D', D' = min D (dim ((A + p) / 12) ((A + p) % 12 + 1)) := ⟨_, rfl⟩
  obtain ⟨x, hx⟩ : ∃ x, x = monN (A + p) D := ⟨_, rfl⟩
  have hcx : Civ x ((A + p) / 12) ((A + p) % 12 + 1) D' := by rw [hx, hD']; exact mon_civ (by omega) (by omega) b5
  have hxle : x ≤ 3652058 := hcx.le
  have hcx2 := hcx.eq hcx.le
  have hdp := dim_pos ((A + p) / 12) ((A + p) % 12 + 1)
  have hD1 : 1 ≤ D' := by omega
  have hDle : D' ≤ D := by omega
  have hxm : ∀ Z : Int, monC x Z = (A : Int) + p + Z := by
    intro Z
    unfold monC
    rw [hcx2]
    show 12 * (((A + p) / 12 : Nat) : Int) + (((A + p) % 12 + 1 : Nat) : Int) - 1 + Z = _
    omega
  have hvx : ∀ (c : Nat) (Z : Int), monC x Z = (c : Int) → 12 ≤ c → c < 120000 → monD (x : Int) Z = (((monN c D' : Nat) : Int), true) := by
    intro c Z h h1 h2
    have := monD_val (k := x) hxle h h1 h2
    rw [hcx2] at this
    exact this
  have f1 : monD (k : Int) (p : Int) = ((x : Int), true) := by rw [hvp (A + p) p (by rw [hmc]; omega) (by omega) (by omega), hx]
  have f2 : monD (k : Int) ((p : Int) + q) = (((monN (A + p + q) D : Nat) : Int), true) := hvp (A + p + q) _ (by rw [hmc]; omega) (by omega) (by omega)
  have f3 : monD (x : Int) (q : Int) = (((monN (A + p + q) D' : Nat) : Int), true) := hvx (A + p + q) _ (by rw [hxm]; omega) (by omega) (by omega)
  have f4 : monD (x : Int) (-(p : Int)) = (((monN A D' : Nat) : Int), true) := hvx A _ (by rw [hxm]; omega) (by omega) (by omega)
  have f5 : civD (x : Int) = .tuple #[.int .i64 (((A : Int) + p) / 12), .int .i64 (((A : Int) + p) % 12 + 1), .int .i64 (D' : Nat), .bool true] := by
    rw [civ_val hxle, hcx2, show (((A : Int) + p) / 12) = (((A + p) / 12 : Nat) : Int) from by omega, show (((A : Int) + p) % 12 + 1) = (((A + p) % 12 + 1 : Nat) : Int) from by omega]
  have g1 : monN A D' ≤ k := by
    rw [← hc.num]
    unfold monN
    rw [hA12, hA13]
    unfold numOf
    omega
  have g2 : ¬ 28 < D → D' = D := by intro h; omega
  have g3 : ¬ 28 < D → monN A D = k := by
    intro h
    rw [← hc.num]
    unfold monN
    rw [hA12, hA13, Nat.min_eq_left b6]
  have g4 : ((M : Int) - 1 + p) % 12 = ((A : Int) + p) % 12 := by omega
  have g5 : (((A : Int) + p) % 12 + 1) - 1 = ((A : Int) + p) % 12 := by omega
  obtain ⟨z1, hz1'⟩ : ∃ z : Int, z = ((A : Int) + p) % 12 := ⟨_, rfl⟩
  have hz1a : 0 ≤ z1 := by omega
  have hz1b : z1 < 12 := by omega
  obtain ⟨u1, hu1⟩ : ∃ z : Int, z = ((A : Int) + p) / 12 := ⟨_, rfl⟩
  rw [← hz1', ← hu1] at f5
  have g4' : ((M : Int) - 1 + p) % 12 = z1 := by rw [g4, hz1']
  obtain ⟨both, hboth⟩ : ∃ z, z = monN (A + p + q) D := ⟨_, rfl⟩
  obtain ⟨yy, hyy⟩ : ∃ z, z = monN (A + p + q) D' := ⟨_, rfl⟩
  obtain ⟨bk, hbk⟩ : ∃ z, z = monN A D' := ⟨_, rfl⟩
  rw [← hboth] at f2
  rw [← hyy] at f3
  rw [← hbk] at f4 g1
  have g6 : ¬ 28 < D → D' = D ∧ bk = k ∧ yy = both := fun h => ⟨g2 h, by rw [hbk, g2 h, g3 h], by rw [hyy, hboth, g2 h]⟩
  have HF := Lib.hid (And.intro hcv (And.intro f1 (And.intro f2 (And.intro f3 (And.intro f4 f5)))))
  have hb31 : D ≤ 31 := by omega
  clear g2 g3 g4 g5 f1 f2 f3 f4 f5 hcv hvp hmc hc hvx hxm hcx hcx2 hD' hA hA12 hA13 hx hdp hboth hyy hbk hz1' hu1 hdl b6
  by_cases h28 : 28 < D
  · clear g6
    go_enter Tryd.func8, Tryd.ntmps8
    go_wp2_with fail
    refine (sanity_any w hd).mono ?_
    rintro e w1 ⟨rfl, hg1⟩
    have hd1 := hd.grown hg1
    have HG := Lib.hid hg1
    clear hg1
    go_wp2_with fail
    refine (months_any _ _ (by omega) (by omega) _ hd1.l).mono ?_
    rintro e w' ⟨rfl, rfl⟩
    rw [HF.out.2.1]
    go_wp2_with fail
    refine (months_any _ _ (by omega) (by omega) _ hd1.l).mono ?_
    rintro e w' ⟨rfl, rfl⟩
    rw [HF.out.2.2.1]
    go_wp2_with fail
    refine (months_any _ _ (by omega) (by omega) _ hd1.l).mono ?_
    rintro e w' ⟨rfl, rfl⟩
    rw [HF.out.2.2.2.1]
    go_wp2_with fail
    refine (months_any _ _ (by omega) (by omega) _ hd1.l).mono ?_
    rintro e w' ⟨rfl, rfl⟩
    rw [HF.out.2.2.2.2.1]
    go_wp2_with fail
    refine (civil_any _ _ hd1.l).mono ?_
    rintro e w' ⟨rfl, rfl⟩
    rw [HF.out.1]
    go_wp2_with fail
    refine (civil_any _ _ hd1.l).mono ?_
    rintro e w' ⟨rfl, rfl⟩
    rw [HF.out.2.2.2.2.2]
    go_wp2_with fail
    refine (civil_any _ _ hd1.l).mono ?_
    rintro e w' ⟨rfl, rfl⟩
    rw [HF.out.1]
    go_wp2
    go_ret
    exact ⟨rfl, HG.out⟩
  · obtain ⟨e1, e2, e3⟩ := g6 h28
    subst e1 e2 e3
    clear g6
    go_enter Tryd.func8, Tryd.ntmps8
    go_wp2_with fail
    refine (sanity_any w hd).mono ?_
    rintro e w1 ⟨rfl, hg1⟩
    have hd1 := hd.grown hg1
    have HG := Lib.hid hg1
    clear hg1
    go_wp2_with fail
    refine (months_any _ _ (by omega) (by omega) _ hd1.l).mono ?_
    rintro e w' ⟨rfl, rfl⟩
    rw [HF.out.2.1]
    go_wp2_with fail
    refine (months_any _ _ (by omega) (by omega) _ hd1.l).mono ?_
    rintro e w' ⟨rfl, rfl⟩
    rw [HF.out.2.2.1]
    go_wp2_with fail
    refine (months_any _ _ (by omega) (by omega) _ hd1.l).mono ?_
    rintro e w' ⟨rfl, rfl⟩
    rw [HF.out.2.2.2.1]
    go_wp2_with fail
    refine (months_any _ _ (by omega) (by omega) _ hd1.l).mono ?_
    rintro e w' ⟨rfl, rfl⟩
    rw [HF.out.2.2.2.2.1]
    go_wp2_with fail
    refine (civil_any _ _ hd1.l).mono ?_
    rintro e w' ⟨rfl, rfl⟩
    rw [HF.out.1]
    go_wp2_with fail
    refine (civil_any _ _ hd1.l).mono ?_
    rintro e w' ⟨rfl, rfl⟩
    rw [HF.out.2.2.2.2.2]
    go_wp2_with fail
    refine (civil_any _ _ hd1.l).mono ?_
    rintro e w' ⟨rfl, rfl⟩
    rw [HF.out.1]
    go_wp2
    go_ret
    exact ⟨rfl, HG.out⟩
end Go.Proofs.YtaenalhglmkfdaaDoor
namespace Go.Proofs.YtaenalhglmkfdaaDoor
open Go.ChangeShapes Go.WideShapes Go.ChangeAt Go.RowKit Mth

theorem own0 : ownKnob Tryd.prog.godebug = none := by kernel_rfl
theorem laidOut0 : laidOutB Tryd.prog = true := by kernel_rfl

def cellsD : DataW Unit → Array Value
  | .agg l => (l.map fun | .lit (.int k z) => Value.int k z | .lit (.string s) => Value.string ⟨s.toArray⟩ | _ => Value.nilIface).toArray
  | _ => #[]
noncomputable def laidWorld (os : Os) : World :=
  let w0 := World.holding Tryd.prog os ⟨#[], #[], []⟩
  let put (h : Array Obj) (g : Nat) (cs : Array Value) : Array Obj := h.modify g fun
    | .cells _ t frozen => .cells cs t frozen
    | o => o
  { w0 with heap := put (put (put (put (put w0.heap 3 (cellsD Rows.laid_math_bits_deBruijn32tab)) 4 (cellsD Rows.laid_math_bits_deBruijn64tab)) 2 (cellsD Rows.laid_internal_strconv_uint64pow10)) 0 (cellsD Rows.laid_concord_date_lengths)) 1 (cellsD Rows.laid_concord_date_fields) }

theorem cells_of_strs {H : Type} {enc : TypeId × Value → H} {P : Program} {w : World} {base : Nat} {sp : Nat → Bool} {held : Bool} {fuel : Nat} {t e : TypeId} {n : Nat} {cs : List Value} {zs : List (List UInt8)} {p : List MemPlace}
    (ht : P.underlying t = some (.array n e)) (he : P.underlying e = some .string) (hce : P.cellsOf e = 1) (hct : P.cellsOf t = n)
    (h : DataW.trod enc P w base sp held fuel t cs = some (.agg (zs.map fun z => .lit (.string z)), p)) : cs = zs.map fun z => Value.string ⟨z.toArray⟩ := by
  cases fuel with
  | zero => simp [DataW.trod] at h
  | succ fuel =>
    simp only [DataW.trod, ht, hce, hct, Nat.mul_one] at h
    split at h
    · rename_i hl
      obtain ⟨xs, hm, hx⟩ := Option.map_eq_some_iff.1 h
      have hxs : xs.map (·.1) = zs.map fun z => (DataW.lit (.string z) : DataW H) := by
        have := congrArg Prod.fst hx
        simpa using this
      have hxl : xs.length = n := by simpa using Lib.mapM_length hm
      have hzl : zs.length = n := by
        have := congrArg List.length hxs
        simp at this
        omega
      apply List.ext_getElem?
      intro i
      by_cases hi : i < n
      · obtain ⟨b, hb, hf⟩ := Lib.mapM_at hm i i (by simp [hi])
        obtain ⟨s, hc, rfl, _⟩ := DataW.trod_string he hf
        have h1 : cs[i]? = some (.string s) := by
          have := congrArg (·[0]?) hc
          simpa [List.getElem?_take, List.getElem?_drop] using this
        have h2 : (xs.map (·.1))[i]? = some (DataW.lit (.string s.data.toList) : DataW H) := by simp [hb]
        rw [hxs] at h2
        simp only [List.getElem?_map, Option.map_eq_some_iff, DataW.lit.injEq, Lit.string.injEq] at h2
        obtain ⟨z', hz', e⟩ := h2
        rw [h1, List.getElem?_map, hz']
        simp only [Option.map_some]
        rw [toArray_eq s e]
      · rw [List.getElem?_eq_none (by omega), List.getElem?_eq_none (by simp; omega)]
    · cases h
theorem strs_of_head {P : Program} {W : World} {name : String} {zs : List (List UInt8)} {rest : List (String × DataW Unit)} {g : Nat} {t e : TypeId} {n : Nat}
    (hg : P.globalNamed name = some g) (hty : (P.globals[g]?).map (·.type) = some t) (ht : P.underlying t = some (.array n e)) (he : P.underlying e = some .string) (hce : P.cellsOf e = 1) (hct : P.cellsOf t = n)
    (h : laidMet P ((name, .agg (zs.map fun z => .lit (.string z))) :: rest) W) : W.var? P name = some (zs.map fun z => Value.string ⟨z.toArray⟩).toArray := by
  obtain ⟨ps, ⟨g', t', cs, fuel, p, q, hg', ht', hvar, hd, _, _⟩, _⟩ := h
  obtain rfl := Option.some.inj (hg.symm.trans hg')
  obtain rfl := Option.some.inj (hty.symm.trans ht')
  rw [hvar, ← cells_of_strs ht he hce hct hd]

abbrev laidL : List (String × DataW Unit) := [("math/bits.deBruijn32tab", Rows.laid_math_bits_deBruijn32tab), ("math/bits.deBruijn64tab", Rows.laid_math_bits_deBruijn64tab), ("internal/strconv.uint64pow10", Rows.laid_internal_strconv_uint64pow10), ("concord/date.lengths", Rows.laid_concord_date_lengths), ("concord/date.fields", Rows.laid_concord_date_fields)]
theorem dv_of {w : World} (h : laidMet Tryd.prog laidL w) : DV w :=
  ⟨fv_of (strs_of_head (zs := [[89, 89, 89, 89], [77, 77], [77], [68, 68], [68]]) (g := 1) (t := 85) (e := 9) (n := 5) (by kernel_rfl) (by kernel_rfl) (by kernel_rfl) (by kernel_rfl) (by kernel_rfl) (by kernel_rfl) h.tail.tail.tail.tail),
   Lib.tabIs_of_head (g := 0) (t := 69) (e := 3) (n := 12) (by kernel_rfl) (by kernel_rfl) (by kernel_rfl) (by kernel_rfl) (by kernel_rfl) (by kernel_rfl) (show laidMet Tryd.prog [("concord/date.lengths", Lib.tabData .i64 lensL), ("concord/date.fields", Rows.laid_concord_date_fields)] w from h.tail.tail.tail),
   Lib.tabIs_of_head (g := 2) (t := 97) (e := 91) (n := 20) (by kernel_rfl) (by kernel_rfl) (by kernel_rfl) (by kernel_rfl) (by kernel_rfl) (by kernel_rfl) (show laidMet Tryd.prog [("internal/strconv.uint64pow10", Lib.tabData .u64 Lib.pow10Tab), ("concord/date.lengths", Rows.laid_concord_date_lengths), ("concord/date.fields", Rows.laid_concord_date_fields)] w from h.tail.tail)⟩
set_option maxRecDepth 1000000 in
theorem laid_at (os : Os) (args : Array Value) : laidMet Tryd.prog laidL ((laidWorld os).forCall (fun _ _ => 0) ⟨#[], args, []⟩).memory :=
  have h : LaidIn Tryd.prog ((laidWorld os).forCall (fun _ _ => 0) ⟨#[], args, []⟩).memory laidL [3, 4, 2, 0, 1] :=
    LaidIn.of_run [3, 4, 2, 0, 1] 8 (by kernel_rfl) (by kernel_rfl) (by kernel_rfl) (by kernel_rfl)
  h.met

set_option maxRecDepth 100000 in
theorem int_arg {H : Type} {enc : TypeId × Value → H} {W : World} {base : Nat} {v : Value} {d : DataW H} {p : List MemPlace} (hok : Value.okWide Tryd.prog W .any base 3 v) (h : DataW.Trod enc Tryd.prog W 0 (fun _ => true) true 3 v d p) : ∃ n : Int, v = .int .i64 n ∧ -9223372036854775808 ≤ n ∧ n ≤ 9223372036854775807 := by
  obtain ⟨n, rfl, _, _, hw⟩ := open_int Tryd.underlying3 hok h
  have a1 : IntKind.i64.min = -9223372036854775808 := rfl
  have a2 : IntKind.i64.max = 9223372036854775807 := rfl
  refine ⟨n, rfl, ?_⟩
  simpa [Lit.wf, a1, a2] using hw
set_option maxRecDepth 100000 in
theorem byte_arg {H : Type} {enc : TypeId × Value → H} {W : World} {base : Nat} {v : Value} {d : DataW H} {p : List MemPlace} (hok : Value.okWide Tryd.prog W .any base 5 v) (h : DataW.Trod enc Tryd.prog W 0 (fun _ => true) true 5 v d p) : ∃ n : Nat, v = .int .u8 (n : Int) ∧ n ≤ 255 := by
  obtain ⟨n, rfl, _, _, hw⟩ := open_int Tryd.underlying5 hok h
  have a1 : IntKind.u8.min = 0 := rfl
  have a2 : IntKind.u8.max = 255 := rfl
  have hb : 0 ≤ n ∧ n ≤ 255 := by simpa [Lit.wf, a1, a2] using hw
  exact ⟨n.toNat, by rw [Int.toNat_of_nonneg hb.1], by omega⟩
set_option maxRecDepth 100000 in
theorem u16_arg {H : Type} {enc : TypeId × Value → H} {W : World} {base : Nat} {v : Value} {d : DataW H} {p : List MemPlace} (hok : Value.okWide Tryd.prog W .any base 35 v) (h : DataW.Trod enc Tryd.prog W 0 (fun _ => true) true 35 v d p) : ∃ n : Nat, v = .int .u16 (n : Int) ∧ n ≤ 65535 := by
  obtain ⟨n, rfl, _, _, hw⟩ := open_int Tryd.underlying35 hok h
  have a1 : IntKind.u16.min = 0 := rfl
  have a2 : IntKind.u16.max = 65535 := rfl
  have hb : 0 ≤ n ∧ n ≤ 65535 := by simpa [Lit.wf, a1, a2] using hw
  exact ⟨n.toNat, by rw [Int.toNat_of_nonneg hb.1], by omega⟩
set_option maxRecDepth 100000 in
theorem u32_arg {H : Type} {enc : TypeId × Value → H} {W : World} {base : Nat} {v : Value} {d : DataW H} {p : List MemPlace} (hok : Value.okWide Tryd.prog W .any base 33 v) (h : DataW.Trod enc Tryd.prog W 0 (fun _ => true) true 33 v d p) : ∃ n : Nat, v = .int .u32 (n : Int) ∧ n ≤ 4294967295 := by
  obtain ⟨n, rfl, _, _, hw⟩ := open_int Tryd.underlying33 hok h
  have a1 : IntKind.u32.min = 0 := rfl
  have a2 : IntKind.u32.max = 4294967295 := rfl
  have hb : 0 ≤ n ∧ n ≤ 4294967295 := by simpa [Lit.wf, a1, a2] using hw
  exact ⟨n.toNat, by rw [Int.toNat_of_nonneg hb.1], by omega⟩
set_option maxRecDepth 100000 in
theorem str_arg {H : Type} {enc : TypeId × Value → H} {W : World} {base : Nat} {v : Value} {d : DataW H} {p : List MemPlace} (hok : Value.okWide Tryd.prog W .any base 9 v) (h : DataW.Trod enc Tryd.prog W 0 (fun _ => true) true 9 v d p) : ∃ s : ByteArray, v = .string s ∧ s.size ≤ maxLen := by
  obtain ⟨s, rfl⟩ := okWide_string Tryd.underlying9 hok
  obtain ⟨fuel, hf⟩ := h
  refine ⟨s, rfl, ?_⟩
  cases fuel with
  | zero => simp [DataW.trod] at hf
  | succ n =>
    simp [DataW.trod, Value.cells, Tryd.underlying9] at hf
    exact hf.1
theorem wf_i64 {n : Int} (h : (Lit.int .i64 n).wf = true) : -9223372036854775808 ≤ n ∧ n ≤ 9223372036854775807 := by
  have a1 : IntKind.i64.min = -9223372036854775808 := rfl
  have a2 : IntKind.i64.max = 9223372036854775807 := rfl
  simpa [Lit.wf, a1, a2] using h
theorem wf_u8 {n : Int} (h : (Lit.int .u8 n).wf = true) : ∃ m : Nat, n = (m : Int) ∧ m ≤ 255 := by
  have a1 : IntKind.u8.min = 0 := rfl
  have a2 : IntKind.u8.max = 255 := rfl
  have hb : 0 ≤ n ∧ n ≤ 255 := by simpa [Lit.wf, a1, a2] using h
  exact ⟨n.toNat, by rw [Int.toNat_of_nonneg hb.1], by omega⟩
/-- An argument that is an array of 2 numbers. -/
theorem arr2_arg {P : Program} {k : IntKind} {t e : TypeId} (ht : P.underlying t = some (.array 2 e)) (he : P.underlying e = some (.int k)) (hc : P.cellsOf t = 2) (hce : P.cellsOf e = 1) {H : Type} {enc : TypeId × Value → H} {W : World} {base : Nat} {v : Value} {d : DataW H} {p : List MemPlace} (hok : Value.okWide P W .any base t v) (h : DataW.Trod enc P W 0 (fun _ => true) true t v d p) : ∃ a0 a1 : Int, v = .agg #[.int k a0, .int k a1] ∧ (Lit.int k a0).wf = true ∧ (Lit.int k a1).wf = true := by
  simp only [Value.okWide, ht] at hok
  obtain ⟨cs, rfl, hsz, _⟩ := hok
  obtain ⟨fuel, hf⟩ := h
  rw [hc] at hsz
  obtain ⟨x0, x1, rfl⟩ : ∃ x0 x1, cs = #[x0, x1] := by
    rcases cs with ⟨l⟩
    match l, hsz with
    | [x0, x1], _ => exact ⟨x0, x1, rfl⟩
  obtain ⟨xs, m, _, _, _, hlen, hf2⟩ := DataW.trod_array ht hf
  have h0 := hf2 0 (by decide)
  have h1 := hf2 1 (by decide)
  rw [hce] at h0 h1
  match xs, hlen with
  | [y0, y1], _ =>
    obtain ⟨a0, e0, _, w0⟩ := DataW.trod_int he (x := y0) (by simpa using h0)
    obtain ⟨a1, e1, _, w1⟩ := DataW.trod_int he (x := y1) (by simpa using h1)
    simp [Value.cells] at e0 e1
    exact ⟨a0, a1, by rw [e0, e1], w0, w1⟩
/-- An argument that is an array of 3 numbers. -/
theorem arr3_arg {P : Program} {k : IntKind} {t e : TypeId} (ht : P.underlying t = some (.array 3 e)) (he : P.underlying e = some (.int k)) (hc : P.cellsOf t = 3) (hce : P.cellsOf e = 1) {H : Type} {enc : TypeId × Value → H} {W : World} {base : Nat} {v : Value} {d : DataW H} {p : List MemPlace} (hok : Value.okWide P W .any base t v) (h : DataW.Trod enc P W 0 (fun _ => true) true t v d p) : ∃ a0 a1 a2 : Int, v = .agg #[.int k a0, .int k a1, .int k a2] ∧ (Lit.int k a0).wf = true ∧ (Lit.int k a1).wf = true ∧ (Lit.int k a2).wf = true := by
  simp only [Value.okWide, ht] at hok
  obtain ⟨cs, rfl, hsz, _⟩ := hok
  obtain ⟨fuel, hf⟩ := h
  rw [hc] at hsz
  obtain ⟨x0, x1, x2, rfl⟩ : ∃ x0 x1 x2, cs = #[x0, x1, x2] := by
    rcases cs with ⟨l⟩
    match l, hsz with
    | [x0, x1, x2], _ => exact ⟨x0, x1, x2, rfl⟩
  obtain ⟨xs, m, _, _, _, hlen, hf2⟩ := DataW.trod_array ht hf
  have h0 := hf2 0 (by decide)
  have h1 := hf2 1 (by decide)
  have h2 := hf2 2 (by decide)
  rw [hce] at h0 h1 h2
  match xs, hlen with
  | [y0, y1, y2], _ =>
    obtain ⟨a0, e0, _, w0⟩ := DataW.trod_int he (x := y0) (by simpa using h0)
    obtain ⟨a1, e1, _, w1⟩ := DataW.trod_int he (x := y1) (by simpa using h1)
    obtain ⟨a2, e2, _, w2⟩ := DataW.trod_int he (x := y2) (by simpa using h2)
    simp [Value.cells] at e0 e1 e2
    exact ⟨a0, a1, a2, by rw [e0, e1, e2], w0, w1, w2⟩
/-- An argument that is an array of 8 numbers. -/
theorem arr8_arg {P : Program} {k : IntKind} {t e : TypeId} (ht : P.underlying t = some (.array 8 e)) (he : P.underlying e = some (.int k)) (hc : P.cellsOf t = 8) (hce : P.cellsOf e = 1) {H : Type} {enc : TypeId × Value → H} {W : World} {base : Nat} {v : Value} {d : DataW H} {p : List MemPlace} (hok : Value.okWide P W .any base t v) (h : DataW.Trod enc P W 0 (fun _ => true) true t v d p) : ∃ a0 a1 a2 a3 a4 a5 a6 a7 : Int, v = .agg #[.int k a0, .int k a1, .int k a2, .int k a3, .int k a4, .int k a5, .int k a6, .int k a7] ∧ (Lit.int k a0).wf = true ∧ (Lit.int k a1).wf = true ∧ (Lit.int k a2).wf = true ∧ (Lit.int k a3).wf = true ∧ (Lit.int k a4).wf = true ∧ (Lit.int k a5).wf = true ∧ (Lit.int k a6).wf = true ∧ (Lit.int k a7).wf = true := by
  simp only [Value.okWide, ht] at hok
  obtain ⟨cs, rfl, hsz, _⟩ := hok
  obtain ⟨fuel, hf⟩ := h
  rw [hc] at hsz
  obtain ⟨x0, x1, x2, x3, x4, x5, x6, x7, rfl⟩ : ∃ x0 x1 x2 x3 x4 x5 x6 x7, cs = #[x0, x1, x2, x3, x4, x5, x6, x7] := by
    rcases cs with ⟨l⟩
    match l, hsz with
    | [x0, x1, x2, x3, x4, x5, x6, x7], _ => exact ⟨x0, x1, x2, x3, x4, x5, x6, x7, rfl⟩
  obtain ⟨xs, m, _, _, _, hlen, hf2⟩ := DataW.trod_array ht hf
  have h0 := hf2 0 (by decide)
  have h1 := hf2 1 (by decide)
  have h2 := hf2 2 (by decide)
  have h3 := hf2 3 (by decide)
  have h4 := hf2 4 (by decide)
  have h5 := hf2 5 (by decide)
  have h6 := hf2 6 (by decide)
  have h7 := hf2 7 (by decide)
  rw [hce] at h0 h1 h2 h3 h4 h5 h6 h7
  match xs, hlen with
  | [y0, y1, y2, y3, y4, y5, y6, y7], _ =>
    obtain ⟨a0, e0, _, w0⟩ := DataW.trod_int he (x := y0) (by simpa using h0)
    obtain ⟨a1, e1, _, w1⟩ := DataW.trod_int he (x := y1) (by simpa using h1)
    obtain ⟨a2, e2, _, w2⟩ := DataW.trod_int he (x := y2) (by simpa using h2)
    obtain ⟨a3, e3, _, w3⟩ := DataW.trod_int he (x := y3) (by simpa using h3)
    obtain ⟨a4, e4, _, w4⟩ := DataW.trod_int he (x := y4) (by simpa using h4)
    obtain ⟨a5, e5, _, w5⟩ := DataW.trod_int he (x := y5) (by simpa using h5)
    obtain ⟨a6, e6, _, w6⟩ := DataW.trod_int he (x := y6) (by simpa using h6)
    obtain ⟨a7, e7, _, w7⟩ := DataW.trod_int he (x := y7) (by simpa using h7)
    simp [Value.cells] at e0 e1 e2 e3 e4 e5 e6 e7
    exact ⟨a0, a1, a2, a3, a4, a5, a6, a7, by rw [e0, e1, e2, e3, e4, e5, e6, e7], w0, w1, w2, w3, w4, w5, w6, w7⟩
theorem gr_low {w w' : World} (hg : w.grownBy w' none) : Below w.heap.size w w' := ⟨hg.os, hg.tape, hg.output, hg.size, fun k hk => hg.block k hk (by simp)⟩
end Go.Proofs.YtaenalhglmkfdaaDoor
namespace Go.Proofs.YtaenalhglmkfdaaDoor
open Go.ChangeShapes Go.WideShapes Go.ChangeAt Go.RowKit Mth

set_option maxRecDepth 1000000 in
set_option maxHeartbeats 4000000 in
theorem back_lifted (os : Os) (started : os.Started) (H : Type) (enc : TypeId × Value → H) :
    ReturnsInHanded {} Tryd.checked os 8 .any (fun w args => (Rows.dateBackSpec.pre enc Tryd.prog Tryd.f8 Rows.dateBackRow.domain false w args ∧ laidMet Tryd.prog Rows.dateBackRow.laid w) ∧ sizedMet enc Tryd.prog Tryd.f8 (OpenSpec.ofChange Rows.dateBackSpec) false w args)
      (Rows.dateBackSpec.post enc Tryd.prog Tryd.f8 false true false false) := by
  refine returnsInHanded_of_change_and (C := Tryd.checked) (X := fun w _ => laidMet Tryd.prog Rows.dateBackRow.laid w) (fun _ _ _ hh h => h.of_heap hh) own0 started (by kernel_rfl) Tryd.func8
    (ChangeSpec.witness_at (enc := enc) (C := Tryd.checked) (os := os) (X := fun w _ => laidMet Tryd.prog Rows.dateBackRow.laid w) false (laidWorld os) #[.int .u32 0, .int .u16 0, .int .u16 0] 8 rfl (by kernel_rfl) (by kernel_rfl) (by kernel_rfl) (by kernel_rfl) (by kernel_rfl) (laid_at os _)) ?_
  intro W base args ds gs before hval0 hW hcnd0 _ hL _
  have hval : ∀ (j : Nat) t v, Tryd.f8.params[j]? = some t → args[j]? = some v → Value.okWide Tryd.prog W .any base t v := hval0
  have hW' := hW
  obtain ⟨p, q, hA0, hV, rfl, hfz, hnd⟩ := hW
  have hA : DataW.TrodAll enc Tryd.prog W 0 (fun _ => true) true Tryd.f8.params.toList args.toList ds p := hA0
  rw [Tryd.params8] at hA hval
  obtain ⟨v0, v1, v2, d0, d1, d2, p0, p1, p2, rfl, rfl, rfl, h0, h1, h2⟩ := trodAll_three hA
  obtain ⟨rfl, rfl⟩ := trodVars_none hV
  clear hA0 hval0 hA
  simp only [List.append_nil] at hW'
  have k0 := hval 0 33 v0 rfl rfl
  have k1 := hval 1 35 v1 rfl rfl
  have k2 := hval 2 35 v2 rfl rfl
  obtain ⟨n0, rfl, w0⟩ := u32_arg k0 h0
  obtain ⟨n1, rfl, w1⟩ := u16_arg k1 h1
  obtain ⟨n2, rfl, w2⟩ := u16_arg k2 h2
  refine (back_true n0 n1 n2 W (dv_of hL) w0 w1 w2).mono fun e W' ⟨he, hg⟩ => ?_
  subst he
  have hb : Below W.heap.size W W' := gr_low hg
  have hlt : ∀ x ∈ p0 ++ p1 ++ p2, x.block < W.heap.size := fun x hx => by simpa using hW'.lt x hx
  have hl0 : ∀ x ∈ p0, x.block < W.heap.size := fun x hx => hlt x (by simp [hx])
  have hl1 : ∀ x ∈ p1, x.block < W.heap.size := fun x hx => hlt x (by simp [hx])
  have hl2 : ∀ x ∈ p2, x.block < W.heap.size := fun x hx => hlt x (by simp [hx])
  refine ⟨_, rfl, _, _, _, [], p0 ++ p1 ++ p2, [], hW', ?_, ?_, rfl, hb.frame _, fun h => by cases h⟩
  · exact trodAll_mk1 (shut_bool Tryd.underlying4 true)
  · have h3 := trodAll_mk3 (Below.trod laidOut0 (by kernel_rfl) (of_decide_eq_true (by kernel_rfl)) h0 hb hl0) (Below.trod laidOut0 (by kernel_rfl) (of_decide_eq_true (by kernel_rfl)) h1 hb hl1) (Below.trod laidOut0 (by kernel_rfl) (of_decide_eq_true (by kernel_rfl)) h2 hb hl2)
    rw [← List.append_assoc] at h3
    exact h3

theorem back_row : Rows.DateBackSaid :=
  OpenClaim.holds_of_wide 8 Tryd.f8 rfl rfl rfl rfl rfl rfl rfl ⟨rfl, rfl, rfl, rfl, rfl⟩ rfl rfl rfl rfl rfl (by kernel_rfl) Tryd.func8 (by kernel_rfl)
    (of_decide_eq_true (by kernel_rfl)) (by unfold Func.isWrapper; first | (rw [if_pos (by decide +kernel)]; kernel_rfl) | (rw [if_neg (by decide +kernel)]; exact ⟨rfl, rfl⟩))
    (fun os started H enc _ => back_lifted os started H enc)
end Go.Proofs.YtaenalhglmkfdaaDoor
