/- Contracts of the program and of the reference, part 2: Pv, Pw, Pd, Pe, Pf. -/
import Derived.Test.YtgkegbcdiadkdaaDoorBBase1
import Derived.RangeFuncNested
import Derived.RangeFuncBound
import Derived.RangeFuncCalls
import Derived.RangeFuncLeaves
import Derived.Shelf.Abstract
import Derived.Shelf.RegionOpen
import Derived.WalkKit
import Derived.OwnWalkIn
import Derived.TacticsInMore
import Derived.LoopNIn
import Derived.LoopIn
import Derived.BigRegionIn
import Derived.Sort.QuietIn
import Derived.Laws.CopyOwn
import Derived.Maps.AppendAt
import Derived.Lib.OthersKept
namespace Go.Proofs.YtgkegbcdiadkdaaDoor
open Go.RowKit Go.Shelf Pt
attribute [local go_sem] Oper.semAt_some

/-- The three variables that the closure holds: a piece, a string, a place. -/
structure E4 (W : World) (B : Nat) (p : Pc) (s : ByteArray) (i : Nat) : Prop where
  k : W.cell? ⟨B, 0, none⟩ = some (.int .i64 p.k)
  a : W.cell? ⟨B, 1, none⟩ = some (.int .i64 p.a)
  b : W.cell? ⟨B, 2, none⟩ = some (.int .i64 p.b)
  t : W.cell? ⟨B, 3, none⟩ = some (.string p.t)
  s : W.cell? ⟨B + 1, 0, none⟩ = some (.string s)
  i : W.cell? ⟨B + 1 + 1, 0, none⟩ = some (.int .i64 (i : Int))
/-- What a round must keep for the iterator. -/
def KpE (B : Nat) (W W' : World) : Prop := ∀ b, B ≤ b → b ≤ B + 2 → ∀ i v, W.cell? ⟨b, i, none⟩ = some v → W'.cell? ⟨b, i, none⟩ = some v
theorem KpE.trans {B : Nat} {W1 W2 W3 : World} (h : KpE B W1 W2) (g : KpE B W2 W3) : KpE B W1 W3 := fun b h1 h2 i v hv => g b h1 h2 i v (h b h1 h2 i v hv)
theorem KpE.of_grown {B : Nat} {W W' : World} {row : Option Nat} (hg : W.grownBy W' row) (h : ∀ b, B ≤ b → b ≤ B + 2 → row ≠ some b) : KpE B W W' :=
  fun b h1 h2 _ _ hc => hg.cell hc (fun e => h b h1 h2 e.symm)
theorem E4.kept {W W' : World} {B : Nat} {p : Pc} {s : ByteArray} {i : Nat} (h : E4 W B p s i) (hk : KpE B W W') : E4 W' B p s i :=
  ⟨hk _ (by omega) (by omega) _ _ h.k, hk _ (by omega) (by omega) _ _ h.a, hk _ (by omega) (by omega) _ _ h.b, hk _ (by omega) (by omega) _ _ h.t, hk _ (by omega) (by omega) _ _ h.s, hk _ (by omega) (by omega) _ _ h.i⟩
theorem E4.grown {W W' : World} {B : Nat} {p : Pc} {s : ByteArray} {i : Nat} (h : E4 W B p s i) (hg : W.grownBy W' none) : E4 W' B p s i :=
  h.kept (KpE.of_grown hg (fun _ _ _ => by simp))
/-- A place in a text of so many bytes. -/
abbrev Upto (L : Nat) := { m : Nat // m ≤ L }
/-- What has come is all ends, in order. -/
def SEnds (L : Nat) (p : Pc) (s : List UInt8) (i : Nat) (xs : List (Upto L)) : Prop := xs.map (·.1) = endsL p s i
def AnyL {α : Type} (_ : List α) : Prop := True
abbrev encE (L : Nat) (x : Upto L) : Array Value := #[Value.int .i64 (x.1 : Int)]

set_option maxRecDepth 100000 in
theorem endsOf_any (k a b : Int) (t s : ByteArray) (i : Int) (w : World) : Calls Tryd.prog 58 #[pcv k a b t, .string s, .int .i64 i] w fun e w' =>
    e = .returned (.func (.func 74) #[] #[.pointer (some ⟨w.heap.size, 0, none⟩), .pointer (some ⟨w.heap.size + 1, 0, none⟩), .pointer (some ⟨w.heap.size + 1 + 1, 0, none⟩)]) ∧
    ((w.alloc (.cells #[.int .i64 k, .int .i64 a, .int .i64 b, .string t] 31)).alloc (.cells #[.string s] 9)).alloc (.cells #[.int .i64 i] 3) = w' := by
  go_enter Tryd.func58, Tryd.ntmps58
  go_wp2
  go_ret
  exact ⟨rfl, rfl⟩

theorem gr_drewN (w : World) (n : Nat) (row : Option Nat) : w.grownBy (w.drewN n) row := ⟨rfl, rfl, rfl, Nat.le_refl _, fun _ _ _ => rfl⟩
theorem prefix_take (p l : List UInt8) : p.isPrefixOf l = decide (l.take p.length = p) := by
  rw [Bool.eq_iff_iff, decide_eq_true_eq, List.isPrefixOf_iff_prefix, List.prefix_iff_eq_take, eq_comm]
theorem pre_prt (s t : ByteArray) (i : Nat) : Lib.hasPrefix (s.extract i s.size).data.toList t.data.toList = (prt s.data.toList i (i + t.size) == t.data.toList) := by
  unfold Lib.hasPrefix prt
  rw [prefix_take, show i + t.size - i = t.data.toList.length from by rw [len_toList]; omega]
  have e : (s.extract i s.size).data.toList = s.data.toList.drop i := by
    rw [ByteArray.data_extract]
    simp only [Array.toList_extract, List.extract]
    exact List.take_of_length_le (by rw [List.length_drop]; show s.data.size - i ≤ s.size - i; exact Nat.le_refl _)
  rw [e]
  rw [Bool.eq_iff_iff, decide_eq_true_eq, beq_iff_eq]
set_option maxRecDepth 100000 in
set_option maxHeartbeats 2000000 in
theorem endsOf_stops (n B : Nat) (p : Pc) (s : ByteArray) (i : Nat) (w : World) (hc : E4 w B p s i) (hi : i ≤ s.size) (hs : s.size ≤ 1000000) (ha : 0 ≤ p.a) (ha1 : p.a ≤ 1000) (hb : p.b ≤ 1000) (hb0 : 0 ≤ p.b) (ht : p.t.size ≤ 1000) :
    SeqStopsK Fence.wide n Tryd.prog 74 #[.pointer (some ⟨B, 0, none⟩), .pointer (some ⟨B + 1, 0, none⟩), .pointer (some ⟨B + 1 + 1, 0, none⟩)] (encE s.size) (KpE B) (SEnds s.size p s.data.toList i) AnyL (s.size + 1) w := fun l J Jx W hbl hJ _ hY h0 => by
  have hcW : E4 W B p s i := by
    have key : ∀ b i v, w.cell? ⟨b, i, none⟩ = some v → W.cell? ⟨b, i, none⟩ = some v := fun b i v h => by
      rw [hbl.cell (p := ⟨b, i, none⟩) (World.block_lt_of_cell? w _ h)]; exact h
    exact ⟨key _ _ _ hc.k, key _ _ _ hc.a, key _ _ _ hc.b, key _ _ _ hc.t, key _ _ _ hc.s, key _ _ _ hc.i⟩
  have HE := Lib.hid hcW
  obtain ⟨e1, e2, e3, e4, e5, e6⟩ := hcW
  have HPL := Lib.hid (plit_any p.k p.a p.b p.t)
  refine callsIn_of_wp Tryd.func74 rfl trivial ?_ rfl
  simp only [Tryd.ntmps74, List.size_toArray, List.length_cons, List.length_nil, Nat.reduceAdd, Nat.reduceSub, Array.replicate_succ, Array.replicate_zero, List.push_toArray, List.append_toArray, List.nil_append, List.cons_append]
  clear hc hbl
  gi_wp2
  refine ⟨trivial, fun h => absurd h (by decide), ?_⟩
  refine (callsIn_wide.2 (HPL.out _)).mono ?_
  rintro e w1 ⟨rfl, g1⟩
  have hJ1 : J [] w1 := hJ _ _ _ _ h0 g1 (fun _ e => by cases e)
  have HE1 := Lib.hid (HE.out.grown g1)
  clear e1 e2 e3 e4 e5 e6 h0 g1 HE
  obtain ⟨e1, e2, e3, e4, e5, e6⟩ := HE1.out
  cases hk : (p.k == 0)
  case true =>
    have hk0 : p.k = 0 := by simpa using hk
    have HEL := Lib.hid (ends_lit (p := p) (s := s.data.toList) (i := i) hk0 hi)
    have HPP := Lib.hid (pre_prt s p.t i)
    have HP := Lib.hid (Tryd.strings_HasPrefix (s.extract i s.size) p.t)
    clear hk hk0
    gi_wp2
    refine wpIn_region_quiet_lit rfl (by kernel_rfl) (by kernel_rfl) ?_
    repeat (gi_big_quiet_step (fail))
    refine wpQuietIn_step (fun _ _ _ _ => trivial) (fun K hK => ?_)
    go_simp
    refine ⟨_, fun a => ⟨fun h => absurd h (by decide), CallsIn.quiet_of_same (callsIn_wide.2 (HP.out _))⟩, hK _ ?_⟩
    clear hK K
    repeat (gi_big_quiet_step (fail))
    refine wpQuietIn_nil ?_
    rintro _ ⟨nq, rfl⟩
    rw [HPP.out]
    have hJ2 : J [] (w1.drewN nq) := hJ _ _ _ _ hJ1 (gr_drewN _ _ none) (fun _ e => by cases e)
    cases hb : (prt s.data.toList i (i + p.t.size) == p.t.data.toList) with
    | false =>
      have HX := Lib.hid (show endsL p s.data.toList i = [] from by rw [HEL.out, hb]; rfl)
      clear hb
      gi_wp2
      refine bodyPost_ret (results_none rfl _ _ _) rfl ?_
      exact ⟨⟨_, rfl⟩, .inl ⟨[], HX.out.symm, hJ2⟩⟩
    | true =>
      have HX := Lib.hid (show endsL p s.data.toList i = [i + p.t.size] from by rw [HEL.out, hb]; rfl)
      have hle : i + p.t.size ≤ s.size := (stp_le (mem_endsL.1 (show i + p.t.size ∈ endsL p s.data.toList i from by rw [HX.out]; simp))).2
      obtain ⟨fn, tmps, assign, body, hy, hR⟩ := hY [] ⟨i + p.t.size, hle⟩ _ hJ2 (by simp)
      rw [show encE s.size ⟨i + p.t.size, hle⟩ = #[Value.int .i64 ((i : Int) + (p.t.size : Int))] from by simp [encE]] at hy
      clear hb
      gi_wp2
      refine ⟨fun h => absurd h (by decide), ?_⟩
      refine hR.mono ?_
      rintro e' W3 (⟨rfl, hJ3, hk3⟩ | ⟨rfl, hJx3⟩)
      · clear hy
        gi_wp2
        refine bodyPost_ret (results_none rfl _ _ _) rfl ?_
        exact ⟨⟨_, rfl⟩, .inl ⟨_, (show SEnds _ _ _ _ _ from by unfold SEnds; rw [HX.out]; rfl), hJ3⟩⟩
      · clear hy
        gi_wp2
        refine bodyPost_ret (results_none rfl _ _ _) rfl ?_
        exact ⟨⟨_, rfl⟩, .inr ⟨_, (show AnyL _ from trivial), hJx3⟩⟩
  case false =>
    have hk0 : p.k ≠ 0 := by simpa using hk
    have HK := Lib.hid hk0
    clear hk hk0
    gi_wp2
    gi_loopw [5] (fun v wr => ∃ (e : Nat) (pre : List (Upto s.size)), v = .int .i64 (e : Int) ∧ i ≤ e ∧ e ≤ s.size + 1 ∧ Hid (pre.map (·.1) = endsTo p s.data.toList i e) ∧ Hid (e = i ∨ allD (prt s.data.toList i (e - 1)) p.k = true) ∧ J pre wr ∧ Hid (E4 wr B p s i)) (fun v _ => s.size + 2 - (intOf v).toNat)
    case atStart => exact ⟨i, [], rfl, Nat.le_refl _, by omega, Lib.hid endsTo_zero.symm, Lib.hid (.inl rfl), hJ1, HE1⟩
    case round =>
      clear e1 e2 e3 e4 e5 e6
      obtain ⟨e, pre, rfl, hie, hes, HPR, HA, hJr, HEr⟩ := hrel
      obtain ⟨e1, e2, e3, e4, e5, e6⟩ := HEr.out
      have HF := Lib.hid (fun (h : ∀ j, e ≤ j → stp p s.data.toList i j = false) => show pre.map (·.1) = endsL p s.data.toList i from by rw [HPR.out]; exact endsTo_done h)
      by_cases h1 : e ≤ s.size
      · by_cases h2 : (e : Int) ≤ (i : Int) + p.b
        · by_cases hei : e = i
          · have HS := Lib.hid (show stp p s.data.toList i e = decide ((i : Int) + p.a ≤ (e : Int)) from stp_run HK.out hie h1 (by rw [hei, prt_self]; rfl) (by omega))
            have hd : decide (i < e) = false := by rw [decide_eq_false_iff_not]; omega
            have HAN := Lib.hid (show allD (prt s.data.toList i e) p.k = true from by rw [hei, prt_self]; rfl)
            have HEI := Lib.hid hei
            clear hei
            gi_wp2
            refine wpIn_region_quiet_lit rfl (by kernel_rfl) (by kernel_rfl) ?_
            repeat (gi_big_quiet_step (fail))
            refine BigFrame.wpQuietIn_skip (fun _ _ _ _ => trivial) (by rfl) ?_
            simp only [Act.put, List.setIfInBounds_toArray, List.set_cons_zero, List.set_cons_succ]
            repeat (gi_big_quiet_step (fail))
            refine wpQuietIn_nil ?_
            rintro _ ⟨nq, rfl⟩
            have hJ2 : J pre (wr.drewN nq) := hJ _ _ _ _ hJr (gr_drewN _ _ none) (fun _ e => by cases e)
            have HE2 := Lib.hid (HEr.out.grown (gr_drewN _ nq none))
            have hpl : pre.length < s.size + 1 := by
              have h5 := congrArg List.length HPR.out
              rw [List.length_map] at h5
              have h6 := endsTo_len (p := p) (s := s.data.toList) (i := i) (e := e)
              omega
            by_cases h3 : (i : Int) + p.a ≤ (e : Int)
            · have HN := Lib.hid (show endsTo p s.data.toList i (e + 1) = endsTo p s.data.toList i (e) ++ [e] from endsTo_yes (by rw [HS.out]; exact decide_eq_true (by omega)))
              obtain ⟨fn, tmps, assign, body, hy, hR⟩ := hY pre ⟨e, h1⟩ _ hJ2 hpl
              rw [show encE s.size ⟨e, h1⟩ = #[Value.int .i64 (e : Int)] from by simp [encE]] at hy
              gi_wp2
              refine ⟨fun h => absurd h (by decide), ?_⟩
              refine hR.mono ?_
              rintro e' W3 (⟨rfl, hJ3, hk3⟩ | ⟨rfl, hJx3⟩)
              · have HE3 := Lib.hid (HE2.out.kept hk3)
                clear hy hk3 e1 e2 e3 e4 e5 e6
                gi_wp2
                refine ⟨⟨e + 1, pre ++ [⟨e, h1⟩], by first | rfl | simp, by omega, by omega, Lib.hid (by rw [HN.out, List.map_append, HPR.out]; rfl), Lib.hid (.inr HAN.out), hJ3, HE3⟩, ?_⟩
                simp only [intOf]
                omega
              · clear hy
                gi_wp2
                refine bodyPost_ret (results_none rfl _ _ _) rfl ?_
                exact ⟨⟨_, rfl⟩, .inr ⟨_, (show AnyL _ from trivial), hJx3⟩⟩
            · have HN := Lib.hid (show endsTo p s.data.toList i (e + 1) = endsTo p s.data.toList i (e) from endsTo_no (by rw [HS.out]; exact decide_eq_false (by omega)))
              have h3d : decide ((i : Int) + p.a ≤ (e : Int)) = false := decide_eq_false h3
              clear h3
              gi_wp2
              refine ⟨fun _ h => (by cases h), ?_⟩
              gi_wp2
              refine ⟨⟨e + 1, pre, by first | rfl | simp, by omega, by omega, Lib.hid (by rw [HN.out, HPR.out]), Lib.hid (.inr HAN.out), hJ2, HE2⟩, ?_⟩
              simp only [intOf]
              omega
          · obtain ⟨m, hem⟩ : ∃ m, e = m + 1 := ⟨e - 1, by omega⟩
            have hem1 : (e : Int) - 1 = (m : Int) := by omega
            have HEM := Lib.hid hem
            have hd : (i : Int) < (e : Int) := by omega
            have hm1 : (m : Int) < (s.size : Int) := by omega
            have hm2 : m < s.size := by omega
            have him : i ≤ m := by omega
            have HB := Lib.hid (pbel_any s[m].toNat p.k · (by have := s[m].toNat_lt; omega))
            clear hem
            gi_wp2
            refine wpIn_region_quiet_lit rfl (by kernel_rfl) (by kernel_rfl) ?_
            repeat (gi_big_quiet_step (fail))
            refine wpQuietIn_step (fun _ _ _ _ => trivial) (fun K hK => ?_)
            go_simp
            refine ⟨_, fun a => ⟨fun h => absurd h (by decide), CallsIn.quiet_of_same (callsIn_wide.2 ((HB.out _).mono fun _ _ h => ⟨h.1, h.2.symm⟩))⟩, hK _ ?_⟩
            clear hK K
            cases hbb : belD s[m].toNat p.k
            case false =>
              have HD := Lib.hid (show pre.map (·.1) = endsL p s.data.toList i from by
                rw [HPR.out]
                exact endsTo_done (fun j hj => stp_stop HK.out (e := m) him (show m < s.data.toList.length from hm2) hbb j (by have := HEM.out; omega)))
              clear hbb
              repeat (gi_big_quiet_step (fail))
              refine wpQuietIn_nil ?_
              rintro _ ⟨nq, rfl⟩
              have hJ2 : J pre (wr.drewN nq) := hJ _ _ _ _ hJr (gr_drewN _ _ none) (fun _ e => by cases e)
              gi_wp2
              refine bodyPost_ret (results_none rfl _ _ _) rfl ?_
              exact ⟨⟨_, rfl⟩, .inl ⟨_, HD.out, hJ2⟩⟩
            case true =>
              have HAN := Lib.hid (show allD (prt s.data.toList i e) p.k = true from by
                rw [HEM.out, prt_next him (show m < s.data.toList.length from hm2), allD_snoc]
                rcases HA.out with h | h
                · omega
                · rw [HEM.out, show m + 1 - 1 = m from rfl] at h
                  rw [h]
                  exact hbb)
              have HS := Lib.hid (show stp p s.data.toList i (e) = decide ((i : Int) + p.a ≤ ((e : Nat) : Int)) from stp_run HK.out hie h1 HAN.out (by omega))
              clear hbb
              repeat (gi_big_quiet_step (fail))
              refine wpQuietIn_nil ?_
              rintro _ ⟨nq, rfl⟩
              have hJ2 : J pre (wr.drewN nq) := hJ _ _ _ _ hJr (gr_drewN _ _ none) (fun _ e => by cases e)
              have HE2 := Lib.hid (HEr.out.grown (gr_drewN _ nq none))
              have hpl : pre.length < s.size + 1 := by
                have h5 := congrArg List.length HPR.out
                rw [List.length_map] at h5
                have h6 := endsTo_len (p := p) (s := s.data.toList) (i := i) (e := e)
                omega
              by_cases h3 : (i : Int) + p.a ≤ (e : Int)
              · have HN := Lib.hid (show endsTo p s.data.toList i (e + 1) = endsTo p s.data.toList i (e) ++ [e] from endsTo_yes (by rw [HS.out]; exact decide_eq_true (by omega)))
                obtain ⟨fn, tmps, assign, body, hy, hR⟩ := hY pre ⟨e, h1⟩ _ hJ2 hpl
                rw [show encE s.size ⟨e, h1⟩ = #[Value.int .i64 (e : Int)] from by simp [encE]] at hy
                gi_wp2
                refine ⟨fun h => absurd h (by decide), ?_⟩
                refine hR.mono ?_
                rintro e' W3 (⟨rfl, hJ3, hk3⟩ | ⟨rfl, hJx3⟩)
                · have HE3 := Lib.hid (HE2.out.kept hk3)
                  clear hy hk3 e1 e2 e3 e4 e5 e6
                  gi_wp2
                  refine ⟨⟨e + 1, pre ++ [⟨e, h1⟩], by first | rfl | simp, by omega, by omega, Lib.hid (by rw [HN.out, List.map_append, HPR.out]; rfl), Lib.hid (.inr HAN.out), hJ3, HE3⟩, ?_⟩
                  simp only [intOf]
                  omega
                · clear hy
                  gi_wp2
                  refine bodyPost_ret (results_none rfl _ _ _) rfl ?_
                  exact ⟨⟨_, rfl⟩, .inr ⟨_, (show AnyL _ from trivial), hJx3⟩⟩
              · have HN := Lib.hid (show endsTo p s.data.toList i (e + 1) = endsTo p s.data.toList i (e) from endsTo_no (by rw [HS.out]; exact decide_eq_false (by omega)))
                have h3d : decide ((i : Int) + p.a ≤ (e : Int)) = false := decide_eq_false h3
                clear h3
                gi_wp2
                refine ⟨fun _ h => (by cases h), ?_⟩
                gi_wp2
                refine ⟨⟨e + 1, pre, by first | rfl | simp, by omega, by omega, Lib.hid (by rw [HN.out, HPR.out]), Lib.hid (.inr HAN.out), hJ2, HE2⟩, ?_⟩
                simp only [intOf]
                omega
        · have HD := Lib.hid (HF.out (fun j hj => stp_past HK.out (by omega)))
          gi_wp2
          go_end0
          exact ⟨⟨_, rfl⟩, .inl ⟨_, HD.out, hJr⟩⟩
      · have HD := Lib.hid (HF.out (fun j hj => stp_over (by show s.size < j; omega)))
        gi_wp2
        go_end0
        exact ⟨⟨_, rfl⟩, .inl ⟨_, HD.out, hJr⟩⟩
end Go.Proofs.YtgkegbcdiadkdaaDoor
namespace Go.Proofs.YtgkegbcdiadkdaaDoor
open Go.RowKit Go.Shelf Pt
attribute [local go_sem] Oper.semAt_some

/-- The marks that ranges over functions have left among the deferred calls. -/
def Marks (lo : Nat) (W : World) : List Deferred → Prop
  | [] => True
  | d :: ds => ∃ D, d = { target := .collected D, args := #[] } ∧ lo ≤ D ∧ W.heap[D]? = some (.deferred (some [])) ∧ (∀ d' ∈ ds, d'.target ≠ .collected D) ∧ Marks lo W ds
theorem Marks.of_blocks {lo : Nat} {W W' : World} : ∀ {ds : List Deferred}, Marks lo W ds → (∀ k, lo ≤ k → W.heap[k]? = some (.deferred (some [])) → (∃ d ∈ ds, d.target = .collected k) → W'.heap[k]? = W.heap[k]?) → Marks lo W' ds
  | [], _, _ => trivial
  | d :: ds, ⟨D, hd, hlo, hD, hne, hm⟩, hk => ⟨D, hd, hlo, (hk D hlo hD ⟨d, by simp, by rw [hd]⟩).trans hD, hne, hm.of_blocks fun k h1 h2 ⟨d', h3, h4⟩ => hk k h1 h2 ⟨d', List.mem_cons_of_mem _ h3, h4⟩⟩
theorem Marks.grown {lo : Nat} {W W' : World} {ds : List Deferred} (h : Marks lo W ds) (hg : W.grownBy W' none) : Marks lo W' ds :=
  h.of_blocks fun k _ hk _ => hg.block k (Array.getElem?_eq_some_iff.1 hk).1 (by simp)
theorem Marks.set {lo b i : Nat} {W : World} {v : Value} {cs : List Value} {t : TypeId} {ds : List Deferred} (h : Marks lo W ds) (hb : Row W b cs t) : Marks lo (W.setCell ⟨b, i, none⟩ v) ds :=
  h.of_blocks fun k _ hk _ => Below.heap_setCell _ _ _ _ (by intro e; subst e; unfold Row at hb; rw [hk] at hb; cases hb)
theorem Marks.mem {lo : Nat} {W : World} : ∀ {ds : List Deferred}, Marks lo W ds → ∀ {d : Deferred}, d ∈ ds → ∃ D, d.target = .collected D ∧ lo ≤ D ∧ W.heap[D]? = some (.deferred (some []))
  | d' :: ds, ⟨D, hd, hlo, hD, _, hm⟩, d, hmem => by
    rcases List.mem_cons.1 hmem with rfl | h
    · exact ⟨D, by rw [hd], hlo, hD⟩
    · exact hm.mem h
/-- A new mark. -/
theorem Marks.cons {lo D : Nat} {W : World} {ds : List Deferred} (h : Marks lo W ds) (hlo : lo ≤ D) (hD : W.heap[D]? = some (.deferred (some []))) (hlt : ∀ d ∈ ds, d.target ≠ .collected D) : Marks lo W ({ target := .collected D, args := #[] } :: ds) :=
  ⟨D, rfl, hlo, hD, hlt, h⟩
/-- A function leaves with its marks. -/
theorem leaves_marks {F : Fence} {n : Nat} {P : Program} {fn : Func} {tmps : Array Value} {R : Ending → World → Prop} {lo : Nat} {w : World} (hlo : w.heap.size ≤ lo) : ∀ (ds : List Deferred) (W : World), Marks lo W ds → w.grownBy W none →
    (∀ W', w.grownBy W' none → (∀ b cs t, Row W b cs t → Row W' b cs t) → LeavesIn F n P fn tmps R [] .returning W') → LeavesInM F n P fn tmps R ds .returning W
  | [], W, _, hg, h => h W hg (fun _ _ _ hr => hr)
  | d :: ds, W, ⟨D, hd, hl, hD, hne, hm⟩, hg, h => by
    refine ⟨by simp, .inl ⟨D, W.putObj D (.deferred none), by rw [hd], run_takeDeferred hD, ?_⟩⟩
    have hoth : ∀ k, k ≠ D → (W.putObj D (.deferred none)).heap[k]? = W.heap[k]? := fun k hk => by
      have := grownBy_putObj' W D (.deferred none)
      rcases Nat.lt_or_ge k W.heap.size with h1 | h1
      · exact this.block k h1 (by simpa using hk)
      · rw [Array.getElem?_eq_none h1, Array.getElem?_eq_none (by simpa [World.putObj] using h1)]
    have hgD : w.grownBy (W.putObj D (.deferred none)) none := gr_new hg (grownBy_putObj' W D (.deferred none)) (by omega)
    refine leaves_marks hlo ds _ (hm.of_blocks fun k _ _ ⟨d', h1, h2⟩ => hoth k (fun e => hne d' h1 (by rw [h2, e]))) hgD fun W' hg' hr' => h W' hg' fun b cs t hb => hr' b cs t ?_
    unfold Row at *
    rw [hoth b (by intro e; subst e; rw [hD] at hb; cases hb)]
    exact hb

/-- A table of numbers, one for each place. -/
def tabC (f : Nat → Int) (L : Nat) : List Value := (List.range (L + 1)).map fun j => Value.int .i64 (f j)
theorem tab_len {f : Nat → Int} {L : Nat} : (tabC f L).length = L + 1 := by simp [tabC]
theorem tab_get {f : Nat → Int} {L j : Nat} (h : j ≤ L) : (tabC f L)[j]? = some (.int .i64 (f j)) := by
  simp [tabC, List.getElem?_map, List.getElem?_range (show j < L + 1 by omega)]
theorem tab_congr {f g : Nat → Int} {L : Nat} (h : ∀ j, j ≤ L → f j = g j) : tabC f L = tabC g L := by
  unfold tabC
  refine List.map_congr_left fun j hj => ?_
  rw [List.mem_range] at hj
  rw [h j (by omega)]
theorem tab_set {f : Nat → Int} {L e : Nat} {z : Int} : (tabC f L).set e (.int .i64 z) = tabC (fun j => if j = e then z else f j) L := by
  apply List.ext_getElem?
  intro j
  rw [List.getElem?_set]
  rcases Nat.lt_or_ge L j with h | h
  · rw [show (tabC (fun j => if j = e then z else f j) L)[j]? = none from List.getElem?_eq_none (by rw [tab_len]; omega), show (tabC f L)[j]? = none from List.getElem?_eq_none (by rw [tab_len]; omega)]
    split
    · rw [if_neg (by rw [tab_len]; omega)]
    · rfl
  · rw [tab_get h, tab_get h]
    split
    · next h1 => subst h1; rw [if_pos (by rw [tab_len]; omega), if_pos rfl]
    · next h1 => rw [if_neg (fun h2 => h1 h2.symm)]
theorem tab_zero (L : Nat) : (madeCells (Value.int .i64 0).cells ((L + 1) * 1)).toList = tabC (fun _ => 0) L := by
  simp only [madeCells, Value.cells, tabC, Nat.mul_one]
  apply List.ext_getElem
  · simp
  · intro i h1 h2
    simp [Nat.mod_one]
/-- What 'make' of n numbers leaves. -/
theorem tab_made {e : TypeId} {w' : World} {base g L : Nat} (h : w'.ownsRow base e 1 (.slice (some ⟨g, 0, none⟩) (L + 1) (L + 1)) (L + 1) (madeCells (Value.int .i64 0).cells ((L + 1) * 1)).toList) : Row w' g (tabC (fun _ => 0) L) e := by
  obtain ⟨_, h2⟩ := h
  rcases h2 with ⟨h2, _⟩ | ⟨g', cap, cur, hv, _, hg, _, _, hsz, htk⟩
  · simp at h2
  · simp only [Value.slice.injEq, Option.some.injEq, Addr.mk.injEq, and_true, true_and] at hv
    obtain ⟨rfl, rfl⟩ := hv
    have hc : cur = (tabC (fun _ => 0) L).toArray := by
      rw [← tab_zero, ← htk, Nat.mul_one, List.take_of_length_le (by simp [hsz])]
    subst hc
    exact hg
end Go.Proofs.YtgkegbcdiadkdaaDoor
namespace Go.Proofs.YtgkegbcdiadkdaaDoor
open Go.RowKit Pt

def escL (l : List UInt8) : List UInt8 := l.flatMap fun c => if specD c.toNat then [92, c] else [c]
def letC : Nat → UInt8 | 1 => 100 | 2 => 117 | 3 => 108 | 4 => 97 | 5 => 115 | 6 => 111 | _ => 46
def cntL (a b : Nat) : List UInt8 := if a = 1 ∧ b = 1 then [] else if a = 1 ∧ b = 200 then [43] else if a = 0 ∧ b = 200 then [42] else if a = b then 123 :: (Lib.decDigits a ++ [125]) else 123 :: (Lib.decDigits a ++ 44 :: (Lib.decDigits b ++ [125]))
/-- The written form of a piece, and of pieces. -/
def wrP (p : Pc) : List UInt8 := if p.k = 0 then escL p.t.data.toList else 92 :: letC p.k.toNat :: cntL p.a.toNat p.b.toNat
def wrL (ps : List Pc) : List UInt8 := ps.flatMap wrP
theorem let_str {k : Nat} (h1 : 1 ≤ k) (h7 : k ≤ 7) : (⟨#[100, 117, 108, 97, 115, 111, 46]⟩ : ByteArray).extract (k - 1) k = ⟨#[letC k]⟩ := by
  have : ∀ d : Fin 7, (⟨#[100, 117, 108, 97, 115, 111, 46]⟩ : ByteArray).extract (d.1 + 1 - 1) (d.1 + 1) = ⟨#[letC (d.1 + 1)]⟩ := by decide
  have h := this ⟨k - 1, by omega⟩
  rw [show k - 1 + 1 = k by omega] at h
  exact h
theorem escL_snoc (l : List UInt8) (c : UInt8) : escL (l ++ [c]) = escL l ++ (if specD c.toNat then [92, c] else [c]) := by simp [escL]
theorem wrL_snoc (l : List Pc) (p : Pc) : wrL (l ++ [p]) = wrL l ++ wrP p := by simp [wrL]
theorem ext_list (s : ByteArray) (a b : Nat) : (s.extract a b).data.toList = (s.data.toList.drop a).take (b - a) := by
  simp [ByteArray.data_extract, Array.toList_extract, List.extract_eq_take_drop]
/-- A piece that is right, and short. -/
def Okp (p : Pc) : Prop := rightP p.k p.a p.b p.t = true ∧ p.t.size ≤ 1000
theorem Okp.run {p : Pc} (h : Okp p) (hk : ¬ p.k = 0) : 1 ≤ p.k ∧ p.k ≤ 7 ∧ 0 ≤ p.a ∧ p.a ≤ p.b ∧ 1 ≤ p.b ∧ p.b ≤ 200 := by
  have := h.1
  unfold rightP at this
  rw [if_neg hk, Bool.and_eq_true, decide_eq_true_eq] at this
  exact this.1
set_option maxRecDepth 100000 in
set_option maxHeartbeats 16000000 in
theorem rwritten_some (g o c : Nat) (ps : List Pc) (w : World) (hb : g < w.heap.size) (hp : PcsAt w g o ps) (hn : ps.length ≤ 60) (hok : ∀ p ∈ ps, Okp p) :
    Calls Tryd.prog 38 #[.slice (some ⟨g, o, none⟩) ps.length c] w fun e w' => e = .returned (.string ⟨(wrL ps).toArray⟩) ∧ w.grownBy w' none := by
  obtain ⟨n, hnn⟩ : ∃ n, n = ps.length := ⟨_, rfl⟩
  rw [← hnn] at hn ⊢
  have HN := Lib.hid hnn
  have HP := Lib.hid hp
  have HOK := Lib.hid hok
  clear hnn hp hok
  go_enter Tryd.func38, Tryd.ntmps38
  go_wp2_with fail
  go_loopw [3, 4] (fun u v wr => ∃ (i : Nat) (t : ByteArray), u = .string t ∧ v = .int .i64 i ∧ i ≤ n ∧ t.size ≤ i * 3000 ∧ Hid (t.data.toList = wrL (ps.take i)) ∧ w.grownBy wr none) (fun _ v _ => n - (intOf v).toNat)
  case atStart => exact ⟨0, ⟨#[]⟩, rfl, rfl, Nat.zero_le _, Nat.zero_le _, Lib.hid rfl, gr_rfl w⟩
  case round =>
    obtain ⟨i, t, rfl, rfl, hi, hts, HT, hg⟩ := hrel
    by_cases hin : i < n
    · have hip : i < ps.length := by rw [← HN.out]; exact hin
      have hc := (HP.out.kept hb hg) i hip
      have HO := Lib.hid (HOK.out ps[i] (List.getElem_mem hip))
      have HS := Lib.hid (show wrL (ps.take (i + 1)) = wrL (ps.take i) ++ wrP ps[i] by rw [List.take_succ_eq_append_getElem hip, wrL_snoc])
      obtain ⟨x, hx⟩ : ∃ x, x = ps[i] := ⟨_, rfl⟩
      rw [← hx] at hc HO HS
      clear hx
      obtain ⟨xk, xa, xb, xt⟩ := x
      dsimp only at hc
      obtain ⟨c0, c1, c2, c3⟩ := hc
      have hi60 : t.size ≤ 180000 := by
        have : i * 3000 ≤ 60 * 3000 := Nat.mul_le_mul_right _ (by omega)
        omega
      by_cases hk : xk = 0
      · subst hk
        have hx : xt.size ≤ 1000 := HO.out.2
        have HW := Lib.hid (show wrL (ps.take (i + 1)) = wrL (ps.take i) ++ escL xt.data.toList from HS.out)
        go_wp2_with fail
        go_loopw [3, 6] (fun u v wx => ∃ (j : Nat) (r : ByteArray), u = .string r ∧ v = .int .i64 j ∧ j ≤ xt.size ∧ r.size ≤ i * 3000 + 2 * j ∧ Hid (r.data.toList = wrL (ps.take i) ++ escL (xt.data.toList.take j)) ∧ wx = wr.alloc (.cells #[.int .i64 0, .int .i64 xa, .int .i64 xb, .string xt] 31)) (fun _ v _ => xt.size - (intOf v).toNat)
        case atStart => exact ⟨0, t, rfl, rfl, Nat.zero_le _, by omega, Lib.hid (by rw [HT.out]; simp [escL]), rfl⟩
        case round =>
          obtain ⟨j, r, rfl, rfl, hj, hrs, HR, rfl⟩ := hrel
          have hr6 : r.size ≤ 190000 := by
            have : i * 3000 ≤ 60 * 3000 := Nat.mul_le_mul_right _ (by omega)
            omega
          by_cases hjn : j < xt.size
          · have hex : xt.extract j (j + 1) = ⟨#[xt[j]]⟩ := by
              apply ByteArray.ext
              apply Array.toList_inj.1
              rw [ext_list, show j + 1 - j = 1 by omega, List.drop_eq_getElem_cons (by rw [len_toList]; exact hjn)]
              rfl
            have hes : escL (xt.data.toList.take (j + 1)) = escL (xt.data.toList.take j) ++ (if specD xt[j].toNat then [92, xt[j]] else [xt[j]]) := by
              rw [List.take_succ_eq_append_getElem (by rw [len_toList]; exact hjn), escL_snoc]
              rfl
            have HES := Lib.hid hes
            clear hes
            have h1 : ((j : Int) + 1).toNat = j + 1 := by omega
            have hlt := xt[j].toNat_lt
            go_wp2_with fail
            refine (rspec_any xt[j].toNat _ (by omega)).mono ?_
            rintro e w1 ⟨rfl, rfl⟩
            obtain ⟨u, hu⟩ : ∃ u, u = xt[j] := ⟨_, rfl⟩
            rw [← hu] at HES hex ⊢
            clear hu
            cases hsp : specD u.toNat with
            | true =>
              rw [hsp] at HES
              have HSP := Lib.hid hsp
              clear hsp
              go_wp2
              refine ⟨⟨j + 1, _, rfl, by go_num, by omega, by rw [ByteArray.size_append, ByteArray.size_append]; show r.size + 1 + 1 ≤ _; omega, Lib.hid (by rw [cat_list, cat_list, HR.out, HES.out]; simp), by trivial⟩, by simp only [intOf]; omega⟩
            | false =>
              rw [hsp] at HES
              have HSP := Lib.hid hsp
              clear hsp
              go_wp2
              refine ⟨⟨j + 1, _, rfl, by go_num, by omega, by rw [ByteArray.size_append]; show r.size + 1 ≤ _; omega, Lib.hid (by rw [cat_list, HR.out, HES.out]; simp), by trivial⟩, by simp only [intOf]; omega⟩
          · have HE := Lib.hid (show xt.data.toList.take j = xt.data.toList from List.take_of_length_le (by rw [len_toList]; omega))
            go_wp2
            refine ⟨⟨i + 1, r, rfl, by go_num, by omega, by omega, Lib.hid (by rw [HW.out, HR.out, HE.out]), gr_al hg⟩, by simp only [intOf]; omega⟩
      · have hrun := HO.out.run hk
        dsimp only at hrun
        obtain ⟨k, rfl⟩ : ∃ k : Nat, xk = k := ⟨xk.toNat, by omega⟩
        obtain ⟨a, rfl⟩ : ∃ a : Nat, xa = a := ⟨xa.toNat, by omega⟩
        obtain ⟨b, rfl⟩ : ∃ b : Nat, xb = b := ⟨xb.toNat, by omega⟩
        have hk1 : 1 ≤ k := by omega
        have hk7 : k ≤ 7 := by omega
        have ha : a ≤ b := by omega
        have hb1 : 1 ≤ b := by omega
        have hb2 : b ≤ 200 := by omega
        have HW := Lib.hid (show wrL (ps.take (i + 1)) = wrL (ps.take i) ++ 92 :: letC k :: cntL a b by
          rw [HS.out]; unfold wrP; rw [if_neg hk]; simp)
        have hls := let_str hk1 hk7
        have h1 : ((k : Int) - 1).toNat = k - 1 := by omega
        obtain ⟨u, hu⟩ : ∃ u, u = letC k := ⟨_, rfl⟩
        rw [← hu] at HW hls
        clear hu hrun hk
        have hk0 : ((k : Int) == 0) = false := by rw [beq_eq_false_iff_ne]; omega
        have z1 : ∀ u : UInt8, (⟨#[u]⟩ : ByteArray).size = 1 := fun _ => rfl
        have hsplit : (a = 1 ∧ b = 1) ∨ (a = 1 ∧ b = 200) ∨ (a = 0 ∧ b = 200) ∨ (a = b ∧ ¬ a = 1) ∨ (a < b ∧ ¬ (a = 1 ∧ b = 200) ∧ ¬ (a = 0 ∧ b = 200)) := by omega
        rcases hsplit with ⟨rfl, rfl⟩ | ⟨rfl, rfl⟩ | ⟨rfl, rfl⟩ | ⟨rfl, hn1⟩ | ⟨hab, hn1, hn2⟩
        · clear z1
          go_wp2
          have z1 : ∀ u : UInt8, (⟨#[u]⟩ : ByteArray).size = 1 := fun _ => rfl
          refine ⟨⟨i + 1, _, rfl, by go_num, by omega, by simp only [ByteArray.size_append, z1]; omega, Lib.hid (by rw [HW.out]; simp only [cat_list, HT.out]; rw [show cntL 1 1 = [] from rfl]; simp), gr_al hg⟩, by simp only [intOf]; omega⟩
        · clear z1
          go_wp2
          have z1 : ∀ u : UInt8, (⟨#[u]⟩ : ByteArray).size = 1 := fun _ => rfl
          refine ⟨⟨i + 1, _, rfl, by go_num, by omega, by simp only [ByteArray.size_append, z1]; omega, Lib.hid (by rw [HW.out]; simp only [cat_list, HT.out]; rw [show cntL 1 200 = [43] from rfl]; simp), gr_al hg⟩, by simp only [intOf]; omega⟩
        · clear z1
          go_wp2
          have z1 : ∀ u : UInt8, (⟨#[u]⟩ : ByteArray).size = 1 := fun _ => rfl
          refine ⟨⟨i + 1, _, rfl, by go_num, by omega, by simp only [ByteArray.size_append, z1]; omega, Lib.hid (by rw [HW.out]; simp only [cat_list, HT.out]; rw [show cntL 0 200 = [42] from rfl]; simp), gr_al hg⟩, by simp only [intOf]; omega⟩
        · clear z1
          have HC := Lib.hid (show cntL a a = 123 :: (Lib.decDigits a ++ [125]) by unfold cntL; rw [if_neg (by omega), if_neg (by omega), if_neg (by omega), if_pos rfl])
          have hl := dec_le a 3 (by decide) (by omega)
          obtain ⟨T, hT⟩ : ∃ T : ByteArray, T = ⟨(Lib.decDigits a).toArray⟩ := ⟨_, rfl⟩
          have hT3 : T.size ≤ 3 := by rw [hT]; exact hl
          have HTT := Lib.hid (show Lib.decDigits a = T.data.toList by rw [hT])
          have HD := Lib.hid (fun w => rdec_any a w (by omega))
          rw [← hT] at HD
          clear hT hl
          go_wp2_with fail
          refine (HD.out _).mono ?_
          rintro e w2 ⟨rfl, hg2⟩
          have G := Lib.hid (gr_then (gr_al hg) hg2)
          clear hg2
          go_wp2
          have z1 : ∀ u : UInt8, (⟨#[u]⟩ : ByteArray).size = 1 := fun _ => rfl
          refine ⟨⟨i + 1, _, rfl, by go_num, by omega, by simp only [ByteArray.size_append, z1]; omega, Lib.hid (by rw [HW.out, HC.out, HTT.out]; simp only [cat_list, HT.out]; simp), G.out⟩, by simp only [intOf]; omega⟩
        · rcases (show a = 1 ∨ a = 0 ∨ (¬ a = 1 ∧ ¬ a = 0) by omega) with rfl | rfl | ⟨hm1, hm0⟩
          · clear z1
            have HC := Lib.hid (show cntL 1 b = 123 :: (Lib.decDigits 1 ++ 44 :: (Lib.decDigits b ++ [125])) by unfold cntL; rw [if_neg (by omega), if_neg (by omega), if_neg (by omega), if_neg (by omega)])
            obtain ⟨TA, hTA⟩ : ∃ T : ByteArray, T = ⟨(Lib.decDigits 1).toArray⟩ := ⟨_, rfl⟩
            obtain ⟨TB, hTB⟩ : ∃ T : ByteArray, T = ⟨(Lib.decDigits b).toArray⟩ := ⟨_, rfl⟩
            have hTA3 : TA.size ≤ 3 := by rw [hTA]; exact dec_le 1 3 (by decide) (by omega)
            have hTB3 : TB.size ≤ 3 := by rw [hTB]; exact dec_le b 3 (by decide) (by omega)
            have HTA := Lib.hid (show Lib.decDigits 1 = TA.data.toList by rw [hTA])
            have HTB := Lib.hid (show Lib.decDigits b = TB.data.toList by rw [hTB])
            have hda : ∀ w, Calls Tryd.prog 56 #[.int .i64 1] w fun e w' => e = .returned (.string TA) ∧ w.grownBy w' none := fun w => by rw [hTA]; exact rdec_any 1 w (by omega)
            have hdb : ∀ w, Calls Tryd.prog 56 #[.int .i64 (b : Int)] w fun e w' => e = .returned (.string TB) ∧ w.grownBy w' none := fun w => by rw [hTB]; exact rdec_any b w (by omega)
            have HDA := Lib.hid hda
            have HDB := Lib.hid hdb
            clear hTA hTB hda hdb
            have r0 := Row.new wr [.int .i64 (k : Int), .int .i64 1, .int .i64 (b : Int), .string xt] 31
            have e1 := r0.cell 1 _ rfl
            have e2 := r0.cell 2 _ rfl
            go_wp2_with fail
            generalize hr : t ++ (⟨#[92]⟩ : ByteArray) ++ (⟨#[u]⟩ : ByteArray) = r
            have hrs : r.size ≤ 190000 := by rw [← hr, ByteArray.size_append, ByteArray.size_append]; show t.size + 1 + 1 ≤ _; omega
            have HRS := Lib.hid (show r.size ≤ i * 3000 + 2 by rw [← hr, ByteArray.size_append, ByteArray.size_append]; show t.size + 1 + 1 ≤ _; omega)
            have HRR := Lib.hid (show r.data.toList = wrL (ps.take i) ++ [92, u] by rw [← hr, cat_list, cat_list, HT.out]; simp)
            have b1 : ¬ 9223372036854775807 < r.size + 1 := by omega
            have b2 : ¬ 9223372036854775807 < r.size + 1 + TA.size := by omega
            have b3 : ¬ 9223372036854775807 < r.size + 1 + TA.size + 1 := by omega
            have b4 : ¬ 9223372036854775807 < r.size + 1 + TA.size + 1 + TB.size := by omega
            have b5 : ¬ 9223372036854775807 < r.size + 1 + TA.size + 1 + TB.size + 1 := by omega
            clear hr
            go_region_held3 (fun w' => w'.cell? ⟨wr.heap.size, 1, none⟩ = some (.int .i64 1) ∧ w'.cell? ⟨wr.heap.size, 2, none⟩ = some (.int .i64 (b : Int))) (first | exact ⟨e1, e2⟩ | go_keep)
              (first
              | (go_at_call 56; have h__ := ra; refine (HDB.out _).mono ?_; rintro e wb ⟨rfl, gb⟩; have rb := ra.kept gb; have e1 := rb.cell 1 _ rfl; have e2 := rb.cell 2 _ rfl)
              | (go_at_call 56; refine (HDA.out _).mono ?_; rintro e wa ⟨rfl, ga⟩; have ra := r0.dr.kept ga; have e1 := ra.cell 1 _ rfl; have e2 := ra.cell 2 _ rfl))
            all_goals
              go_wp2
              have z1 : ∀ u : UInt8, (⟨#[u]⟩ : ByteArray).size = 1 := fun _ => rfl
              have hsz := HRS.out
              refine ⟨⟨i + 1, _, rfl, by go_num, by omega, by simp only [ByteArray.size_append, z1]; omega, Lib.hid (by rw [HW.out, HC.out, HTA.out, HTB.out]; simp only [cat_list, HRR.out]; simp), gr_then (gr_then (gr_dr (gr_al hg)) ga) gb⟩, by simp only [intOf]; omega⟩
          · clear z1
            have HC := Lib.hid (show cntL 0 b = 123 :: (Lib.decDigits 0 ++ 44 :: (Lib.decDigits b ++ [125])) by unfold cntL; rw [if_neg (by omega), if_neg (by omega), if_neg (by omega), if_neg (by omega)])
            obtain ⟨TA, hTA⟩ : ∃ T : ByteArray, T = ⟨(Lib.decDigits 0).toArray⟩ := ⟨_, rfl⟩
            obtain ⟨TB, hTB⟩ : ∃ T : ByteArray, T = ⟨(Lib.decDigits b).toArray⟩ := ⟨_, rfl⟩
            have hTA3 : TA.size ≤ 3 := by rw [hTA]; exact dec_le 0 3 (by decide) (by omega)
            have hTB3 : TB.size ≤ 3 := by rw [hTB]; exact dec_le b 3 (by decide) (by omega)
            have HTA := Lib.hid (show Lib.decDigits 0 = TA.data.toList by rw [hTA])
            have HTB := Lib.hid (show Lib.decDigits b = TB.data.toList by rw [hTB])
            have hda : ∀ w, Calls Tryd.prog 56 #[.int .i64 0] w fun e w' => e = .returned (.string TA) ∧ w.grownBy w' none := fun w => by rw [hTA]; exact rdec_any 0 w (by omega)
            have hdb : ∀ w, Calls Tryd.prog 56 #[.int .i64 (b : Int)] w fun e w' => e = .returned (.string TB) ∧ w.grownBy w' none := fun w => by rw [hTB]; exact rdec_any b w (by omega)
            have HDA := Lib.hid hda
            have HDB := Lib.hid hdb
            clear hTA hTB hda hdb
            have r0 := Row.new wr [.int .i64 (k : Int), .int .i64 0, .int .i64 (b : Int), .string xt] 31
            have e1 := r0.cell 1 _ rfl
            have e2 := r0.cell 2 _ rfl
            go_wp2_with fail
            generalize hr : t ++ (⟨#[92]⟩ : ByteArray) ++ (⟨#[u]⟩ : ByteArray) = r
            have hrs : r.size ≤ 190000 := by rw [← hr, ByteArray.size_append, ByteArray.size_append]; show t.size + 1 + 1 ≤ _; omega
            have HRS := Lib.hid (show r.size ≤ i * 3000 + 2 by rw [← hr, ByteArray.size_append, ByteArray.size_append]; show t.size + 1 + 1 ≤ _; omega)
            have HRR := Lib.hid (show r.data.toList = wrL (ps.take i) ++ [92, u] by rw [← hr, cat_list, cat_list, HT.out]; simp)
            have b1 : ¬ 9223372036854775807 < r.size + 1 := by omega
            have b2 : ¬ 9223372036854775807 < r.size + 1 + TA.size := by omega
            have b3 : ¬ 9223372036854775807 < r.size + 1 + TA.size + 1 := by omega
            have b4 : ¬ 9223372036854775807 < r.size + 1 + TA.size + 1 + TB.size := by omega
            have b5 : ¬ 9223372036854775807 < r.size + 1 + TA.size + 1 + TB.size + 1 := by omega
            clear hr
            go_region_held3 (fun w' => w'.cell? ⟨wr.heap.size, 1, none⟩ = some (.int .i64 0) ∧ w'.cell? ⟨wr.heap.size, 2, none⟩ = some (.int .i64 (b : Int))) (first | exact ⟨e1, e2⟩ | go_keep)
              (first
              | (go_at_call 56; have h__ := ra; refine (HDB.out _).mono ?_; rintro e wb ⟨rfl, gb⟩; have rb := ra.kept gb; have e1 := rb.cell 1 _ rfl; have e2 := rb.cell 2 _ rfl)
              | (go_at_call 56; refine (HDA.out _).mono ?_; rintro e wa ⟨rfl, ga⟩; have ra := r0.dr.kept ga; have e1 := ra.cell 1 _ rfl; have e2 := ra.cell 2 _ rfl))
            all_goals
              go_wp2
              have z1 : ∀ u : UInt8, (⟨#[u]⟩ : ByteArray).size = 1 := fun _ => rfl
              have hsz := HRS.out
              refine ⟨⟨i + 1, _, rfl, by go_num, by omega, by simp only [ByteArray.size_append, z1]; omega, Lib.hid (by rw [HW.out, HC.out, HTA.out, HTB.out]; simp only [cat_list, HRR.out]; simp), gr_then (gr_then (gr_dr (gr_al hg)) ga) gb⟩, by simp only [intOf]; omega⟩
          · clear z1
            have hm1z : ¬ (a : Int) = 1 := by omega
            have hm0z : ¬ (a : Int) = 0 := by omega
            have HC := Lib.hid (show cntL a b = 123 :: (Lib.decDigits a ++ 44 :: (Lib.decDigits b ++ [125])) by unfold cntL; rw [if_neg (by omega), if_neg (by omega), if_neg (by omega), if_neg (by omega)])
            obtain ⟨TA, hTA⟩ : ∃ T : ByteArray, T = ⟨(Lib.decDigits a).toArray⟩ := ⟨_, rfl⟩
            obtain ⟨TB, hTB⟩ : ∃ T : ByteArray, T = ⟨(Lib.decDigits b).toArray⟩ := ⟨_, rfl⟩
            have hTA3 : TA.size ≤ 3 := by rw [hTA]; exact dec_le a 3 (by decide) (by omega)
            have hTB3 : TB.size ≤ 3 := by rw [hTB]; exact dec_le b 3 (by decide) (by omega)
            have HTA := Lib.hid (show Lib.decDigits a = TA.data.toList by rw [hTA])
            have HTB := Lib.hid (show Lib.decDigits b = TB.data.toList by rw [hTB])
            have hda : ∀ w, Calls Tryd.prog 56 #[.int .i64 (a : Int)] w fun e w' => e = .returned (.string TA) ∧ w.grownBy w' none := fun w => by rw [hTA]; exact rdec_any a w (by omega)
            have hdb : ∀ w, Calls Tryd.prog 56 #[.int .i64 (b : Int)] w fun e w' => e = .returned (.string TB) ∧ w.grownBy w' none := fun w => by rw [hTB]; exact rdec_any b w (by omega)
            have HDA := Lib.hid hda
            have HDB := Lib.hid hdb
            clear hTA hTB hda hdb
            have r0 := Row.new wr [.int .i64 (k : Int), .int .i64 (a : Int), .int .i64 (b : Int), .string xt] 31
            have e1 := r0.cell 1 _ rfl
            have e2 := r0.cell 2 _ rfl
            go_wp2_with fail
            generalize hr : t ++ (⟨#[92]⟩ : ByteArray) ++ (⟨#[u]⟩ : ByteArray) = r
            have hrs : r.size ≤ 190000 := by rw [← hr, ByteArray.size_append, ByteArray.size_append]; show t.size + 1 + 1 ≤ _; omega
            have HRS := Lib.hid (show r.size ≤ i * 3000 + 2 by rw [← hr, ByteArray.size_append, ByteArray.size_append]; show t.size + 1 + 1 ≤ _; omega)
            have HRR := Lib.hid (show r.data.toList = wrL (ps.take i) ++ [92, u] by rw [← hr, cat_list, cat_list, HT.out]; simp)
            have b1 : ¬ 9223372036854775807 < r.size + 1 := by omega
            have b2 : ¬ 9223372036854775807 < r.size + 1 + TA.size := by omega
            have b3 : ¬ 9223372036854775807 < r.size + 1 + TA.size + 1 := by omega
            have b4 : ¬ 9223372036854775807 < r.size + 1 + TA.size + 1 + TB.size := by omega
            have b5 : ¬ 9223372036854775807 < r.size + 1 + TA.size + 1 + TB.size + 1 := by omega
            clear hr
            go_region_held3 (fun w' => w'.cell? ⟨wr.heap.size, 1, none⟩ = some (.int .i64 (a : Int)) ∧ w'.cell? ⟨wr.heap.size, 2, none⟩ = some (.int .i64 (b : Int))) (first | exact ⟨e1, e2⟩ | go_keep)
              (first
              | (go_at_call 56; have h__ := ra; refine (HDB.out _).mono ?_; rintro e wb ⟨rfl, gb⟩; have rb := ra.kept gb; have e1 := rb.cell 1 _ rfl; have e2 := rb.cell 2 _ rfl)
              | (go_at_call 56; refine (HDA.out _).mono ?_; rintro e wa ⟨rfl, ga⟩; have ra := r0.dr.kept ga; have e1 := ra.cell 1 _ rfl; have e2 := ra.cell 2 _ rfl))
            all_goals
              go_wp2
              have z1 : ∀ u : UInt8, (⟨#[u]⟩ : ByteArray).size = 1 := fun _ => rfl
              have hsz := HRS.out
              refine ⟨⟨i + 1, _, rfl, by go_num, by omega, by simp only [ByteArray.size_append, z1]; omega, Lib.hid (by rw [HW.out, HC.out, HTA.out, HTB.out]; simp only [cat_list, HRR.out]; simp), gr_then (gr_then (gr_dr (gr_al hg)) ga) gb⟩, by simp only [intOf]; omega⟩
    · have hl : (⟨(wrL ps).toArray⟩ : ByteArray) = t := toArray_eq t (by rw [HT.out, List.take_of_length_le (by have := HN.out; omega)])
      have HL := Lib.hid hl
      clear hl
      go_wp2
      go_ret
      rw [HL.out]
      exact ⟨rfl, hg⟩
end Go.Proofs.YtgkegbcdiadkdaaDoor
namespace Go.Proofs.YtgkegbcdiadkdaaDoor
open Go.RowKit Pt

/-- Two literals stand side by side at a place. -/
def twoLit (ps : List Pc) (i : Nat) : Bool := decide (0 < i) && decide ((ps[i]?.map (·.k)) = some 0) && decide ((ps[i - 1]?.map (·.k)) = some 0)
def goodAt (ps : List Pc) (i : Nat) : Bool := (match ps[i]? with | some p => rightP p.k p.a p.b p.t | none => true) && !twoLit ps i
/-- A pattern is right. -/
def rightL (ps : List Pc) : Bool := (List.range ps.length).all (goodAt ps) && decide (ps.length ≤ 60) && decide ((wrL ps).length ≤ 60)
theorem rwritten_any (v : Value) (ps : List Pc) (w : World) (hp : Pcs w v ps) (hn : ps.length ≤ 60) (hok : ∀ p ∈ ps, Okp p) :
    Calls Tryd.prog 38 #[v] w fun e w' => e = .returned (.string ⟨(wrL ps).toArray⟩) ∧ w.grownBy w' none := by
  rcases hp with ⟨rfl, rfl⟩ | ⟨g, o, c, rfl, hb, hp⟩
  · clear hn hok
    go_enter Tryd.func38, Tryd.ntmps38
    go_wp2_with fail
    go_loopw [3, 4] (fun u v wr => u = .string ⟨#[]⟩ ∧ v = .int .i64 0 ∧ w = wr) (fun _ _ _ => 0)
    case atStart => exact ⟨rfl, rfl, rfl⟩
    case round =>
      obtain ⟨rfl, rfl, rfl⟩ := hrel
      go_wp2
      go_ret
      exact ⟨rfl, gr_rfl w⟩
  · exact rwritten_some g o c ps w hb hp hn hok
theorem good_some {ps : List Pc} {i : Nat} (h : i < ps.length) : goodAt ps i = (rightP ps[i].k ps[i].a ps[i].b ps[i].t && !twoLit ps i) := by
  unfold goodAt; rw [List.getElem?_eq_getElem h]
theorem two_zero (ps : List Pc) : twoLit ps 0 = false := by unfold twoLit; simp
theorem two_succ {ps : List Pc} {m : Nat} (h : m + 1 < ps.length) : twoLit ps (m + 1) = (decide (ps[m + 1].k = 0) && decide (ps[m].k = 0)) := by
  unfold twoLit
  rw [List.getElem?_eq_getElem h, show m + 1 - 1 = m from rfl, List.getElem?_eq_getElem (show m < ps.length by omega)]
  simp
theorem right_false {ps : List Pc} {i : Nat} (h : i < ps.length) (hg : goodAt ps i = false) : rightL ps = false := by
  unfold rightL
  have : (List.range ps.length).all (goodAt ps) = false := by
    rw [Bool.eq_false_iff]
    intro ha
    rw [List.all_eq_true] at ha
    have := ha i (List.mem_range.2 h)
    rw [hg] at this; exact absurd this (by simp)
  rw [this]; rfl
theorem right_good {ps : List Pc} (h : ∀ i, i < ps.length → goodAt ps i = true) : rightL ps = (decide (ps.length ≤ 60) && decide ((wrL ps).length ≤ 60)) := by
  unfold rightL
  have : (List.range ps.length).all (goodAt ps) = true := by
    rw [List.all_eq_true]
    intro i hi
    exact h i (List.mem_range.1 hi)
  rw [this]; rfl
set_option maxRecDepth 100000 in
set_option maxHeartbeats 4000000 in
theorem rright_some (g o c : Nat) (ps : List Pc) (w : World) (hb : g < w.heap.size) (hp : PcsAt w g o ps) (hn : ps.length ≤ 1000000) (hsz : ∀ p ∈ ps, p.t.size ≤ 1000) :
    Calls Tryd.prog 16 #[.slice (some ⟨g, o, none⟩) ps.length c] w fun e w' => e = .returned (.bool (rightL ps)) ∧ w.grownBy w' none := by
  obtain ⟨n, hnn⟩ : ∃ n, n = ps.length := ⟨_, rfl⟩
  rw [← hnn] at hn ⊢
  have HN := Lib.hid hnn
  have HP := Lib.hid hp
  have HSZ := Lib.hid hsz
  clear hnn hp hsz
  go_enter Tryd.func16, Tryd.ntmps16
  go_wp2_with fail
  go_loopw [3] (fun v wr => ∃ i : Nat, v = .int .i64 i ∧ i ≤ n ∧ Hid (∀ j, j < i → goodAt ps j = true) ∧ w.grownBy wr none) (fun v _ => n - (intOf v).toNat)
  case atStart => exact ⟨0, rfl, Nat.zero_le _, Lib.hid (fun j hj => by omega), gr_rfl w⟩
  case round =>
    obtain ⟨i, rfl, hi, HA, hg⟩ := hrel
    by_cases hin : i < n
    · have hip : i < ps.length := by rw [← HN.out]; exact hin
      have hc := (HP.out.kept hb hg) i hip
      have HS := Lib.hid (HSZ.out ps[i] (List.getElem_mem hip))
      have HG := Lib.hid (good_some hip)
      rcases Nat.eq_zero_or_pos i with rfl | hpos
      · rw [two_zero] at HG
        obtain ⟨x, hx⟩ : ∃ x, x = ps[0] := ⟨_, rfl⟩
        rw [← hx] at hc HG HS
        clear hx
        obtain ⟨xk, xa, xb, xt⟩ := x
        dsimp only at hc HG HS
        simp only [Nat.zero_mul, Nat.add_zero] at hc
        obtain ⟨c0, c1, c2, c3⟩ := hc
        go_wp2_with fail
        refine (rpiece_any xk xa xb xt _ (by have := HS.out; omega)).mono ?_
        rintro e w1 ⟨rfl, hg1⟩
        cases hr : rightP xk xa xb xt with
        | true =>
          rw [hr] at HG
          clear hr
          go_wp2
          have hA : ∀ j, j < 1 → goodAt ps j = true := fun j hj => by
            obtain rfl : j = 0 := by omega
            rw [HG.out]; rfl
          refine ⟨⟨1, by go_num, by omega, Lib.hid hA, gr_then hg hg1⟩, by simp only [intOf]; omega⟩
        | false =>
          rw [hr] at HG
          clear hr
          have HF := Lib.hid (right_false hip HG.out)
          go_wp2
          go_ret
          rw [HF.out]
          exact ⟨rfl, gr_then hg hg1⟩
      · obtain ⟨m, rfl⟩ : ∃ m, i = m + 1 := ⟨i - 1, by omega⟩
        have hd := (HP.out.kept hb hg) m (by omega)
        rw [two_succ hip] at HG
        obtain ⟨x, hx⟩ : ∃ x, x = ps[m + 1] := ⟨_, rfl⟩
        obtain ⟨y, hy⟩ : ∃ y, y = ps[m].k := ⟨_, rfl⟩
        rw [← hx] at hc HG HS
        rw [← hy] at hd HG
        clear hx hy
        obtain ⟨xk, xa, xb, xt⟩ := x
        dsimp only at hc HG HS
        obtain ⟨c0, c1, c2, c3⟩ := hc
        have d0 := hd.1
        clear hd
        have hm1 : ((m : Int) + 1 - 1) = m := by omega
        go_wp2_with fail
        refine (rpiece_any xk xa xb xt _ (by have := HS.out; omega)).mono ?_
        rintro e w1 ⟨rfl, hg1⟩
        have hgc := (gcell hg1).1
        have hbr : g < wr.heap.size := Nat.lt_of_lt_of_le hb hg.size
        have f0 := (hgc g (o + (m + 1) * 4) hbr).trans c0
        have f1 := (hgc g (o + m * 4) hbr).trans d0
        clear hgc c0 c1 c2 c3 d0
        cases hr : rightP xk xa xb xt with
        | true =>
          rw [hr] at HG
          clear hr
          go_wp2
          · have hf : rightL ps = false := right_false hip (by
              rw [HG.out, decide_eq_true (by assumption), decide_eq_true (show y = 0 from beq_iff_eq.1 (by assumption))]; rfl)
            go_ret
            rw [hf]
            exact ⟨rfl, gr_then hg hg1⟩
          · have hgd : goodAt ps (m + 1) = true := by
              rw [HG.out, decide_eq_false (show ¬ y = 0 from beq_eq_false_iff_ne.1 (by assumption)), Bool.and_false]; rfl
            have hA : ∀ j, j < m + 2 → goodAt ps j = true := fun j hj => by
              by_cases e : j = m + 1
              · rw [e]; exact hgd
              · exact HA.out j (by omega)
            exact ⟨⟨m + 2, by go_num, by omega, Lib.hid hA, gr_then hg hg1⟩, by simp only [intOf]; omega⟩
          · have hgd : goodAt ps (m + 1) = true := by
              rw [HG.out, decide_eq_false (show ¬ xk = 0 by assumption), Bool.false_and]; rfl
            have hA : ∀ j, j < m + 2 → goodAt ps j = true := fun j hj => by
              by_cases e : j = m + 1
              · rw [e]; exact hgd
              · exact HA.out j (by omega)
            exact ⟨⟨m + 2, by go_num, by omega, Lib.hid hA, gr_then hg hg1⟩, by simp only [intOf]; omega⟩
        | false =>
          rw [hr] at HG
          clear hr
          have HF := Lib.hid (right_false hip (by rw [HG.out]; rfl))
          go_wp2
          go_ret
          rw [HF.out]
          exact ⟨rfl, gr_then hg hg1⟩
    · have hall : ∀ i, i < ps.length → goodAt ps i = true := fun j hj => HA.out j (by have := HN.out; omega)
      have HR := Lib.hid (right_good hall)
      have hok : ∀ p ∈ ps, Okp p := fun p hp => by
        obtain ⟨j, hj, rfl⟩ := List.getElem_of_mem hp
        have h1 := hall j hj
        rw [good_some hj, Bool.and_eq_true] at h1
        exact ⟨h1.1, HSZ.out _ hp⟩
      by_cases h60 : n ≤ 60
      · have hw := rwritten_some g o c ps wr (Nat.lt_of_lt_of_le hb hg.size) (HP.out.kept hb hg) (by rw [← HN.out]; exact h60) hok
        rw [← HN.out] at hw
        have HW := Lib.hid hw
        have HR2 := Lib.hid (show rightL ps = decide ((wrL ps).length ≤ 60) by rw [HR.out, ← HN.out, decide_eq_true h60, Bool.true_and])
        obtain ⟨T, hT⟩ : ∃ T : ByteArray, T = ⟨(wrL ps).toArray⟩ := ⟨_, rfl⟩
        have hTl : (wrL ps).length = T.size := by rw [hT]; rfl
        rw [← hT] at HW
        rw [hTl] at HR2
        clear hw hT hTl HR hall hok
        go_wp2_with fail
        refine HW.out.mono ?_
        rintro e w1 ⟨rfl, hg1⟩
        go_wp2
        all_goals
          go_ret
          rw [HR2.out]
          refine ⟨?_, gr_then hg hg1⟩
          first | rfl | (refine congrArg (fun z : Bool => Ending.returned (.bool z)) ?_; rw [Bool.eq_iff_iff]; simp only [decide_eq_true_eq]; omega)
      · have HR2 := Lib.hid (show rightL ps = false by rw [HR.out, ← HN.out, decide_eq_false h60]; rfl)
        clear HR hall hok
        go_wp2_with fail
        go_ret
        rw [HR2.out]
        exact ⟨rfl, hg⟩
end Go.Proofs.YtgkegbcdiadkdaaDoor
namespace Go.Proofs.YtgkegbcdiadkdaaDoor
open Go.RowKit Pt

theorem right_ok {ps : List Pc} (h : rightL ps = true) (hsz : ∀ p ∈ ps, p.t.size ≤ 1000) : ps.length ≤ 60 ∧ ∀ p ∈ ps, Okp p := by
  unfold rightL at h
  rw [Bool.and_eq_true, Bool.and_eq_true, decide_eq_true_eq, List.all_eq_true] at h
  refine ⟨h.1.2, fun p hp => ?_⟩
  obtain ⟨j, hj, rfl⟩ := List.getElem_of_mem hp
  have h1 := h.1.1 j (List.mem_range.2 hj)
  rw [good_some hj, Bool.and_eq_true] at h1
  exact ⟨h1.1, hsz _ hp⟩
set_option maxRecDepth 100000 in
theorem rright_any (v : Value) (ps : List Pc) (w : World) (hp : Pcs w v ps) (hn : ps.length ≤ 1000000) (hsz : ∀ p ∈ ps, p.t.size ≤ 1000) :
    Calls Tryd.prog 16 #[v] w fun e w' => e = .returned (.bool (rightL ps)) ∧ w.grownBy w' none := by
  rcases hp with ⟨rfl, rfl⟩ | ⟨g, o, c, rfl, hb, hp⟩
  · have hw := Lib.hid (fun w => rwritten_any (.slice none 0 0) [] w (.inl ⟨rfl, rfl⟩) (by simp) (by simp))
    clear hn hsz
    go_enter Tryd.func16, Tryd.ntmps16
    go_wp2_with fail
    go_loopw [3] (fun v wr => v = .int .i64 0 ∧ w = wr) (fun _ _ => 0)
    case atStart => exact ⟨rfl, rfl⟩
    case round =>
      obtain ⟨rfl, rfl⟩ := hrel
      go_wp2_with fail
      refine (hw.out _).mono ?_
      rintro e w1 ⟨rfl, hg1⟩
      go_wp2
      go_ret
      exact ⟨rfl, hg1⟩
  · exact rright_some g o c ps w hb hp hn hsz
/-- The written form of a pattern; empty, if it is not right. -/
def printL (ps : List Pc) : List UInt8 := if rightL ps = true then wrL ps else []
set_option maxRecDepth 100000 in
theorem rprint_any (v : Value) (ps : List Pc) (w : World) (hp : Pcs w v ps) (hn : ps.length ≤ 1000000) (hsz : ∀ p ∈ ps, p.t.size ≤ 1000) :
    Calls Tryd.prog 17 #[v] w fun e w' => e = .returned (.string ⟨(printL ps).toArray⟩) ∧ w.grownBy w' none := by
  have hr := rright_any v ps w hp hn hsz
  cases hq : rightL ps
  · rw [hq] at hr
    have HR := Lib.hid hr
    rw [show printL ps = [] from by unfold printL; rw [hq]; rfl]
    clear hr hp hn hsz hq
    go_enter Tryd.func17, Tryd.ntmps17
    go_wp2_with fail
    refine HR.out.mono ?_
    rintro e w1 ⟨rfl, g1⟩
    go_wp2
    go_ret
    exact ⟨rfl, g1⟩
  · rw [hq] at hr
    have HR := Lib.hid hr
    obtain ⟨h60, hok⟩ := right_ok hq hsz
    have HW := Lib.hid (fun (w1 : World) (g : w.grownBy w1 none) => rwritten_any v ps w1 (hp.kept g) h60 hok)
    rw [show printL ps = wrL ps from by unfold printL; rw [if_pos hq]]
    generalize (⟨(wrL ps).toArray⟩ : ByteArray) = T at *
    clear hr hp hn hsz hq h60 hok
    go_enter Tryd.func17, Tryd.ntmps17
    go_wp2_with fail
    refine HR.out.mono ?_
    rintro e w1 ⟨rfl, g1⟩
    have HG := Lib.hid g1
    clear g1
    go_wp2_with fail
    refine (HW.out _ HG.out).mono ?_
    rintro e w2 ⟨rfl, g2⟩
    have G2 := gr_then HG.out g2
    go_wp2
    go_ret
    exact ⟨rfl, G2⟩
/-- The cells of bytes. -/
def byV (l : List UInt8) : List Value := l.map fun c => Value.int .u8 (c.toNat : Int)
theorem byV_app (l m : List UInt8) : byV (l ++ m) = byV l ++ byV m := by simp [byV]
theorem byV_len (l : List UInt8) : (byV l).length = l.length := by simp [byV]
/-- A form that the call owns. -/
def Form (w : World) (base : Nat) (v : Value) (l : List UInt8) : Prop := w.ownsRow base 5 1 v l.length (byV l)
theorem Form.kept {w w1 : World} {base : Nat} {v : Value} {l : List UInt8} (h : Form w base v l) (hg : w.grownBy w1 none) : Form w1 base v l := World.ownsRow.kept h hg (by cases Value.ownBlock v <;> simp)
theorem infoY : (Tryd.prog.info? 5).map (fun i => (i.zero, i.size, i.bytes)) = some (some (.int .u8 0), 1, 1) := by kernel_rfl
theorem gr_own {a b c : World} {r : Option Nat} (g : a.grownBy b none) (h : b.grownBy c r) (hr : ∀ x, r = some x → a.heap.size ≤ x) : a.grownBy c none := by
  refine ⟨h.os.trans g.os, h.tape.trans g.tape, h.output.trans g.output, Nat.le_trans g.size h.size, fun k hk _ => ?_⟩
  refine (h.block k (Nat.lt_of_lt_of_le hk g.size) ?_).trans (g.block k hk (by simp))
  intro e
  have := hr k e.symm
  omega
theorem own_base {w : World} {base : Nat} {e : TypeId} {size : Nat} {v : Value} {n : Nat} {xs : List Value} (hown : w.ownsRow base e size v n xs) : ∀ g, v.ownBlock = some g → base ≤ g := by
  intro g hgg
  rcases hown.2 with ⟨rfl, _⟩ | ⟨g', _, _, rfl, hb, _⟩
  · cases hgg
  · cases hgg; exact hb
theorem addr_add (g o i : Nat) : (⟨g, o, none⟩ : Addr).add i = ⟨g, o + i, none⟩ := by
  unfold Addr.add; split
  · rename_i h; subst h; rfl
  · rfl
/-- Blocks of other types are kept. -/
abbrev OK8 (w w' : World) : Prop := Lib.OthersKept 5 none w w'
theorem ok_gr {w w' : World} (g : w.grownBy w' none) : OK8 w w' := (Lib.OthersKept.refl _ _ _).grown g (by simp)
theorem Row.ok {w w' : World} {b : Nat} {cs : List Value} {t : TypeId} (h : Row w b cs t) (ne : t ≠ 5) (k : OK8 w w') : Row w' b cs t := k b _ h (by simp) (fun c fz e => ne (by cases e; rfl))
theorem own_kind {w : World} {base : Nat} {v : Value} {n : Nat} {xs : List Value} (h : w.ownsRow base 5 1 v n xs) : ∀ g, v.ownBlock = some g → ∃ c fz, w.heap[g]? = some (.cells c 5 fz) := by
  intro g hg
  rcases h.2 with ⟨rfl, _⟩ | ⟨g', cap, cur, rfl, _, hgg, _⟩
  · simp [Value.ownBlock] at hg
  · simp [Value.ownBlock] at hg
    subst hg
    exact ⟨cur, _, hgg⟩
/-- append of bytes that a literal holds. -/
theorem app_bytes (W wr : World) (v : Value) (l m : List UInt8) (hf : Form wr W.heap.size v l) (hn : l.length + m.length ≤ 100000) (hg : W.grownBy wr none) :
    ∃ v' w', (Builtin.append_ #[41, 41] 41 #[v, .slice (some ⟨wr.heap.size, 0, none⟩) m.length m.length]).run Tryd.prog (wr.alloc (.cells (byV m).toArray 5)) = .ok v' w' ∧ Form w' W.heap.size v' (l ++ m) ∧ W.grownBy w' none ∧ OK8 wr w' := by
  obtain ⟨i0, hi, hz0, hz1, hz2⟩ := info_parts infoY
  obtain ⟨v', w', h1, h2, h3, _⟩ := run_append_own_at (P := Tryd.prog) (wr.alloc (.cells (byV m).toArray 5)) W.heap.size 41 41 5 i0 (.int .u8 0) 1 1 Tryd.underlying41 hi hz0 hz1 hz2 rfl (by decide) v l.length (byV l) (World.ownsRow.alloc hf _) ⟨wr.heap.size, 0, none⟩ m.length m.length (byV m) (by rw [byV_len, Nat.mul_one]) (fun j u hj => by
    rw [addr_add, Nat.zero_add, cell_of_row _ _ j _ 5 (0, 0) (heap_alloc_new wr (.cells (byV m).toArray 5))]
    simpa using hj) (by
    intro u hu
    unfold byV at hu
    obtain ⟨c, _, rfl⟩ := List.mem_map.1 hu
    rfl) (by unfold maxLen; omega) (by omega) (by have := hg.size; simp; omega)
  refine ⟨v', w', h1, ?_, gr_own (gr_then hg (gr_alloc wr _ none)) h3 (own_base hf), ((Lib.OthersKept.refl _ _ wr).alloc _).grown h3 (own_kind (World.ownsRow.alloc hf _))⟩
  unfold Form
  rw [byV_app, List.length_append]
  exact h2
end Go.Proofs.YtgkegbcdiadkdaaDoor
