/- Contracts of the program and of the reference, part 5: Pe, Pf, Ph, Pi, Pj. -/
import Derived.Test.YtaejnklgnegkhaaGreatDoorBBase4
import Derived.Maps.AppendAt
import Derived.Lib.OthersKept
namespace Go.Proofs.YtaejnklgnegkhaaGreatDoor
open Go.RowKit Pt

/-- Two literals stand side by side at a place. -/
def twoLit (ps : List Pc) (i : Nat) : Bool := decide (0 < i) && decide ((ps[i]?.map (·.k)) = some 0) && decide ((ps[i - 1]?.map (·.k)) = some 0)
def goodAt (ps : List Pc) (i : Nat) : Bool := (match ps[i]? with | some p => rightP p.k p.a p.b p.t | none => true) && !twoLit ps i
/-- A pattern is right. -/
def rightL (ps : List Pc) : Bool := (List.range ps.length).all (goodAt ps) && decide (ps.length ≤ 60) && decide ((wrL ps).length ≤ 60)
theorem rwritten_any (v : Value) (ps : List Pc) (w : World) (hp : Pcs w v ps) (hn : ps.length ≤ 60) (hok : ∀ p ∈ ps, Okp p) :
    Calls Tryz.prog 95 #[v] w fun e w' => e = .returned (.string ⟨(wrL ps).toArray⟩) ∧ w.grownBy w' none := by
  rcases hp with ⟨rfl, rfl⟩ | ⟨g, o, c, rfl, hb, hp⟩
  · clear hn hok
    go_enter Tryz.func95, Tryz.ntmps95
    go_wp2_with fail
    go_loopw [3, 4] (fun u v wr => u = .string ⟨#[]⟩ ∧ v = .int .i64 0 ∧ w = wr) (fun _ _ _ => 0)
    case atStart => exact ⟨rfl, rfl, rfl⟩
    case round =>
      obtain ⟨rfl, rfl, rfl⟩ := hrel
      go_wp2
      go_ret
      exact ⟨rfl, gr_rfl w⟩
  · exact rwritten_some g o c ps w hb hp hn hok
theorem good_some {ps : List Pc} {i : Nat} (h : i < ps.length) : goodAt ps i = (rightP ps[i].k ps[i].a ps[i].b ps[i].t && !twoLit ps i) := by
  unfold goodAt; rw [List.getElem?_eq_getElem h]
theorem two_zero (ps : List Pc) : twoLit ps 0 = false := by unfold twoLit; simp
theorem two_succ {ps : List Pc} {m : Nat} (h : m + 1 < ps.length) : twoLit ps (m + 1) = (decide (ps[m + 1].k = 0) && decide (ps[m].k = 0)) := by
  unfold twoLit
  rw [List.getElem?_eq_getElem h, show m + 1 - 1 = m from rfl, List.getElem?_eq_getElem (show m < ps.length by omega)]
  simp
theorem right_false {ps : List Pc} {i : Nat} (h : i < ps.length) (hg : goodAt ps i = false) : rightL ps = false := by
  unfold rightL
  have : (List.range ps.length).all (goodAt ps) = false := by
    rw [Bool.eq_false_iff]
    intro ha
    rw [List.all_eq_true] at ha
    have := ha i (List.mem_range.2 h)
    rw [hg] at this; exact absurd this (by simp)
  rw [this]; rfl
theorem right_good {ps : List Pc} (h : ∀ i, i < ps.length → goodAt ps i = true) : rightL ps = (decide (ps.length ≤ 60) && decide ((wrL ps).length ≤ 60)) := by
  unfold rightL
  have : (List.range ps.length).all (goodAt ps) = true := by
    rw [List.all_eq_true]
    intro i hi
    exact h i (List.mem_range.1 hi)
  rw [this]; rfl
set_option maxRecDepth 100000 in
set_option maxHeartbeats 4000000 in
theorem rright_some (g o c : Nat) (ps : List Pc) (w : World) (hb : g < w.heap.size) (hp : PcsAt w g o ps) (hn : ps.length ≤ 1000000) (hsz : ∀ p ∈ ps, p.t.size ≤ 1000) :
    Calls Tryz.prog 64 #[.slice (some ⟨g, o, none⟩) ps.length c] w fun e w' => e = .returned (.bool (rightL ps)) ∧ w.grownBy w' none := by
  obtain ⟨n, hnn⟩ : ∃ n, n = ps.length := ⟨_, rfl⟩
  rw [← hnn] at hn ⊢
  have HN := Lib.hid hnn
  have HP := Lib.hid hp
  have HSZ := Lib.hid hsz
  clear hnn hp hsz
  go_enter Tryz.func64, Tryz.ntmps64
  go_wp2_with fail
  go_loopw [3] (fun v wr => ∃ i : Nat, v = .int .i64 i ∧ i ≤ n ∧ Hid (∀ j, j < i → goodAt ps j = true) ∧ w.grownBy wr none) (fun v _ => n - (intOf v).toNat)
  case atStart => exact ⟨0, rfl, Nat.zero_le _, Lib.hid (fun j hj => by omega), gr_rfl w⟩
  case round =>
    obtain ⟨i, rfl, hi, HA, hg⟩ := hrel
    by_cases hin : i < n
    · have hip : i < ps.length := by rw [← HN.out]; exact hin
      have hc := (HP.out.kept hb hg) i hip
      have HS := Lib.hid (HSZ.out ps[i] (List.getElem_mem hip))
      have HG := Lib.hid (good_some hip)
      rcases Nat.eq_zero_or_pos i with rfl | hpos
      · rw [two_zero] at HG
        obtain ⟨x, hx⟩ : ∃ x, x = ps[0] := ⟨_, rfl⟩
        rw [← hx] at hc HG HS
        clear hx
        obtain ⟨xk, xa, xb, xt⟩ := x
        dsimp only at hc HG HS
        simp only [Nat.zero_mul, Nat.add_zero] at hc
        obtain ⟨c0, c1, c2, c3⟩ := hc
        go_wp2_with fail
        refine (rpiece_any xk xa xb xt _ (by have := HS.out; omega)).mono ?_
        rintro e w1 ⟨rfl, hg1⟩
        cases hr : rightP xk xa xb xt with
        | true =>
          rw [hr] at HG
          clear hr
          go_wp2
          have hA : ∀ j, j < 1 → goodAt ps j = true := fun j hj => by
            obtain rfl : j = 0 := by omega
            rw [HG.out]; rfl
          refine ⟨⟨1, by go_num, by omega, Lib.hid hA, gr_then hg hg1⟩, by simp only [intOf]; omega⟩
        | false =>
          rw [hr] at HG
          clear hr
          have HF := Lib.hid (right_false hip HG.out)
          go_wp2
          go_ret
          rw [HF.out]
          exact ⟨rfl, gr_then hg hg1⟩
      · obtain ⟨m, rfl⟩ : ∃ m, i = m + 1 := ⟨i - 1, by omega⟩
        have hd := (HP.out.kept hb hg) m (by omega)
        rw [two_succ hip] at HG
        obtain ⟨x, hx⟩ : ∃ x, x = ps[m + 1] := ⟨_, rfl⟩
        obtain ⟨y, hy⟩ : ∃ y, y = ps[m].k := ⟨_, rfl⟩
        rw [← hx] at hc HG HS
        rw [← hy] at hd HG
        clear hx hy
        obtain ⟨xk, xa, xb, xt⟩ := x
        dsimp only at hc HG HS
        obtain ⟨c0, c1, c2, c3⟩ := hc
        have d0 := hd.1
        clear hd
        have hm1 : ((m : Int) + 1 - 1) = m := by omega
        go_wp2_with fail
        refine (rpiece_any xk xa xb xt _ (by have := HS.out; omega)).mono ?_
        rintro e w1 ⟨rfl, hg1⟩
        have hgc := (gcell hg1).1
        have hbr : g < wr.heap.size := Nat.lt_of_lt_of_le hb hg.size
        have f0 := (hgc g (o + (m + 1) * 4) hbr).trans c0
        have f1 := (hgc g (o + m * 4) hbr).trans d0
        clear hgc c0 c1 c2 c3 d0
        cases hr : rightP xk xa xb xt with
        | true =>
          rw [hr] at HG
          clear hr
          go_wp2
          · have hf : rightL ps = false := right_false hip (by
              rw [HG.out, decide_eq_true (by assumption), decide_eq_true (show y = 0 from beq_iff_eq.1 (by assumption))]; rfl)
            go_ret
            rw [hf]
            exact ⟨rfl, gr_then hg hg1⟩
          · have hgd : goodAt ps (m + 1) = true := by
              rw [HG.out, decide_eq_false (show ¬ y = 0 from beq_eq_false_iff_ne.1 (by assumption)), Bool.and_false]; rfl
            have hA : ∀ j, j < m + 2 → goodAt ps j = true := fun j hj => by
              by_cases e : j = m + 1
              · rw [e]; exact hgd
              · exact HA.out j (by omega)
            exact ⟨⟨m + 2, by go_num, by omega, Lib.hid hA, gr_then hg hg1⟩, by simp only [intOf]; omega⟩
          · have hgd : goodAt ps (m + 1) = true := by
              rw [HG.out, decide_eq_false (show ¬ xk = 0 by assumption), Bool.false_and]; rfl
            have hA : ∀ j, j < m + 2 → goodAt ps j = true := fun j hj => by
              by_cases e : j = m + 1
              · rw [e]; exact hgd
              · exact HA.out j (by omega)
            exact ⟨⟨m + 2, by go_num, by omega, Lib.hid hA, gr_then hg hg1⟩, by simp only [intOf]; omega⟩
        | false =>
          rw [hr] at HG
          clear hr
          have HF := Lib.hid (right_false hip (by rw [HG.out]; rfl))
          go_wp2
          go_ret
          rw [HF.out]
          exact ⟨rfl, gr_then hg hg1⟩
    · have hall : ∀ i, i < ps.length → goodAt ps i = true := fun j hj => HA.out j (by have := HN.out; omega)
      have HR := Lib.hid (right_good hall)
      have hok : ∀ p ∈ ps, Okp p := fun p hp => by
        obtain ⟨j, hj, rfl⟩ := List.getElem_of_mem hp
        have h1 := hall j hj
        rw [good_some hj, Bool.and_eq_true] at h1
        exact ⟨h1.1, HSZ.out _ hp⟩
      by_cases h60 : n ≤ 60
      · have hw := rwritten_some g o c ps wr (Nat.lt_of_lt_of_le hb hg.size) (HP.out.kept hb hg) (by rw [← HN.out]; exact h60) hok
        rw [← HN.out] at hw
        have HW := Lib.hid hw
        have HR2 := Lib.hid (show rightL ps = decide ((wrL ps).length ≤ 60) by rw [HR.out, ← HN.out, decide_eq_true h60, Bool.true_and])
        obtain ⟨T, hT⟩ : ∃ T : ByteArray, T = ⟨(wrL ps).toArray⟩ := ⟨_, rfl⟩
        have hTl : (wrL ps).length = T.size := by rw [hT]; rfl
        rw [← hT] at HW
        rw [hTl] at HR2
        clear hw hT hTl HR hall hok
        go_wp2_with fail
        refine HW.out.mono ?_
        rintro e w1 ⟨rfl, hg1⟩
        go_wp2
        all_goals
          go_ret
          rw [HR2.out]
          refine ⟨?_, gr_then hg hg1⟩
          first | rfl | (refine congrArg (fun z : Bool => Ending.returned (.bool z)) ?_; rw [Bool.eq_iff_iff]; simp only [decide_eq_true_eq]; omega)
      · have HR2 := Lib.hid (show rightL ps = false by rw [HR.out, ← HN.out, decide_eq_false h60]; rfl)
        clear HR hall hok
        go_wp2_with fail
        go_ret
        rw [HR2.out]
        exact ⟨rfl, hg⟩
end Go.Proofs.YtaejnklgnegkhaaGreatDoor
namespace Go.Proofs.YtaejnklgnegkhaaGreatDoor
open Go.RowKit Pt

theorem right_ok {ps : List Pc} (h : rightL ps = true) (hsz : ∀ p ∈ ps, p.t.size ≤ 1000) : ps.length ≤ 60 ∧ ∀ p ∈ ps, Okp p := by
  unfold rightL at h
  rw [Bool.and_eq_true, Bool.and_eq_true, decide_eq_true_eq, List.all_eq_true] at h
  refine ⟨h.1.2, fun p hp => ?_⟩
  obtain ⟨j, hj, rfl⟩ := List.getElem_of_mem hp
  have h1 := h.1.1 j (List.mem_range.2 hj)
  rw [good_some hj, Bool.and_eq_true] at h1
  exact ⟨h1.1, hsz _ hp⟩
set_option maxRecDepth 100000 in
theorem rright_any (v : Value) (ps : List Pc) (w : World) (hp : Pcs w v ps) (hn : ps.length ≤ 1000000) (hsz : ∀ p ∈ ps, p.t.size ≤ 1000) :
    Calls Tryz.prog 64 #[v] w fun e w' => e = .returned (.bool (rightL ps)) ∧ w.grownBy w' none := by
  rcases hp with ⟨rfl, rfl⟩ | ⟨g, o, c, rfl, hb, hp⟩
  · have hw := Lib.hid (fun w => rwritten_any (.slice none 0 0) [] w (.inl ⟨rfl, rfl⟩) (by simp) (by simp))
    clear hn hsz
    go_enter Tryz.func64, Tryz.ntmps64
    go_wp2_with fail
    go_loopw [3] (fun v wr => v = .int .i64 0 ∧ w = wr) (fun _ _ => 0)
    case atStart => exact ⟨rfl, rfl⟩
    case round =>
      obtain ⟨rfl, rfl⟩ := hrel
      go_wp2_with fail
      refine (hw.out _).mono ?_
      rintro e w1 ⟨rfl, hg1⟩
      go_wp2
      go_ret
      exact ⟨rfl, hg1⟩
  · exact rright_some g o c ps w hb hp hn hsz
/-- The written form of a pattern; empty, if it is not right. -/
def printL (ps : List Pc) : List UInt8 := if rightL ps = true then wrL ps else []
/-- The cells of bytes. -/
def byV (l : List UInt8) : List Value := l.map fun c => Value.int .u8 (c.toNat : Int)
theorem byV_app (l m : List UInt8) : byV (l ++ m) = byV l ++ byV m := by simp [byV]
theorem byV_len (l : List UInt8) : (byV l).length = l.length := by simp [byV]
/-- A form that the call owns. -/
def Form (w : World) (base : Nat) (v : Value) (l : List UInt8) : Prop := w.ownsRow base 5 1 v l.length (byV l)
theorem Form.kept {w w1 : World} {base : Nat} {v : Value} {l : List UInt8} (h : Form w base v l) (hg : w.grownBy w1 none) : Form w1 base v l := World.ownsRow.kept h hg (by cases Value.ownBlock v <;> simp)
theorem infoY : (Tryz.prog.info? 5).map (fun i => (i.zero, i.size, i.bytes)) = some (some (.int .u8 0), 1, 1) := by kernel_rfl
theorem gr_own {a b c : World} {r : Option Nat} (g : a.grownBy b none) (h : b.grownBy c r) (hr : ∀ x, r = some x → a.heap.size ≤ x) : a.grownBy c none := by
  refine ⟨h.os.trans g.os, h.tape.trans g.tape, h.output.trans g.output, Nat.le_trans g.size h.size, fun k hk _ => ?_⟩
  refine (h.block k (Nat.lt_of_lt_of_le hk g.size) ?_).trans (g.block k hk (by simp))
  intro e
  have := hr k e.symm
  omega
theorem own_base {w : World} {base : Nat} {e : TypeId} {size : Nat} {v : Value} {n : Nat} {xs : List Value} (hown : w.ownsRow base e size v n xs) : ∀ g, v.ownBlock = some g → base ≤ g := by
  intro g hgg
  rcases hown.2 with ⟨rfl, _⟩ | ⟨g', _, _, rfl, hb, _⟩
  · cases hgg
  · cases hgg; exact hb
theorem addr_add (g o i : Nat) : (⟨g, o, none⟩ : Addr).add i = ⟨g, o + i, none⟩ := by
  unfold Addr.add; split
  · rename_i h; subst h; rfl
  · rfl
/-- Blocks of other types are kept. -/
abbrev OK8 (w w' : World) : Prop := Lib.OthersKept 5 none w w'
theorem ok_gr {w w' : World} (g : w.grownBy w' none) : OK8 w w' := (Lib.OthersKept.refl _ _ _).grown g (by simp)
theorem Row.ok {w w' : World} {b : Nat} {cs : List Value} {t : TypeId} (h : Row w b cs t) (ne : t ≠ 5) (k : OK8 w w') : Row w' b cs t := k b _ h (by simp) (fun c fz e => ne (by cases e; rfl))
theorem own_kind {w : World} {base : Nat} {v : Value} {n : Nat} {xs : List Value} (h : w.ownsRow base 5 1 v n xs) : ∀ g, v.ownBlock = some g → ∃ c fz, w.heap[g]? = some (.cells c 5 fz) := by
  intro g hg
  rcases h.2 with ⟨rfl, _⟩ | ⟨g', cap, cur, rfl, _, hgg, _⟩
  · simp [Value.ownBlock] at hg
  · simp [Value.ownBlock] at hg
    subst hg
    exact ⟨cur, _, hgg⟩
/-- append of bytes that a literal holds. -/
theorem app_bytes (W wr : World) (v : Value) (l m : List UInt8) (hf : Form wr W.heap.size v l) (hn : l.length + m.length ≤ 100000) (hg : W.grownBy wr none) :
    ∃ v' w', (Builtin.append_ #[70, 70] 70 #[v, .slice (some ⟨wr.heap.size, 0, none⟩) m.length m.length]).run Tryz.prog (wr.alloc (.cells (byV m).toArray 5)) = .ok v' w' ∧ Form w' W.heap.size v' (l ++ m) ∧ W.grownBy w' none ∧ OK8 wr w' := by
  obtain ⟨i0, hi, hz0, hz1, hz2⟩ := info_parts infoY
  obtain ⟨v', w', h1, h2, h3, _⟩ := run_append_own_at (P := Tryz.prog) (wr.alloc (.cells (byV m).toArray 5)) W.heap.size 70 70 5 i0 (.int .u8 0) 1 1 Tryz.underlying70 hi hz0 hz1 hz2 rfl (by decide) v l.length (byV l) (World.ownsRow.alloc hf _) ⟨wr.heap.size, 0, none⟩ m.length m.length (byV m) (by rw [byV_len, Nat.mul_one]) (fun j u hj => by
    rw [addr_add, Nat.zero_add, cell_of_row _ _ j _ 5 (0, 0) (heap_alloc_new wr (.cells (byV m).toArray 5))]
    simpa using hj) (by
    intro u hu
    unfold byV at hu
    obtain ⟨c, _, rfl⟩ := List.mem_map.1 hu
    rfl) (by unfold maxLen; omega) (by omega) (by have := hg.size; simp; omega)
  refine ⟨v', w', h1, ?_, gr_own (gr_then hg (gr_alloc wr _ none)) h3 (own_base hf), ((Lib.OthersKept.refl _ _ wr).alloc _).grown h3 (own_kind (World.ownsRow.alloc hf _))⟩
  unfold Form
  rw [byV_app, List.length_append]
  exact h2
end Go.Proofs.YtaejnklgnegkhaaGreatDoor
namespace Go.Proofs.YtaejnklgnegkhaaGreatDoor
open Go.RowKit Pt

theorem wpList_call_append {P : Program} {w : World} {ops : Array Oper} {rest : List Oper} {o : Oper} {a : Act} {Q : Exit → Act → World → Prop} (hgd : o.guard = none) (s x : Operand) (t : TypeId)
    (ho : o.op = .call { callee := .builtin .append, args := #[s, x], argTypes := #[t, t] }) (v xv : Value) (hs : a.eval s = v) (hx : a.eval x = xv) (v' : Value) (w' : World)
    (hr : Sem.run P (Builtin.append_ #[t, t] o.type #[v, xv]) w = .ok v' w') (h : wpList P ops Q rest (a.put o.dst v') w') : wpList P ops Q (o :: rest) a w := by
  refine wpList_plain hgd fun K hK => ?_
  unfold Oper.wp execOp
  simp only [ho, resolve, invoke, builtin, Sem.run_bind, Sem.run_pure, Result.andThen_ok, List.map_toArray, List.map_cons, List.map_nil, hs, hx, hr]
  exact hK _ _ h
/-- The table of powers of ten. -/
abbrev TabP (w : World) : Prop := Lib.TabIs Tryz.prog w "internal/strconv.uint64pow10" .u64 Lib.pow10Tab
theorem tab_below {W w : World} (h : TabP W) (g : W.grownBy w none) : Lib.TabBelow Tryz.prog W.heap.size w "internal/strconv.uint64pow10" .u64 Lib.pow10Tab := (Lib.tabBelow_of_tabIs h).on ((Below.refl W.heap.size W).grown g (Nat.le_refl _) (by simp))
theorem below_gr {W w w' : World} (h : W.grownBy w none) (b : Below W.heap.size w w') : W.grownBy w' none :=
  ⟨b.os.trans h.os, b.tape.trans h.tape, b.output.trans h.output, Nat.le_trans h.size b.size, fun k hk _ => (b.block k hk).trans (h.block k hk (by simp))⟩
/-- What a call gives that goes on with a form. -/
def Goes (W : World) (f : Nat) (args : Array Value) (w : World) (l : List UInt8) : Prop := Calls Tryz.prog f args w fun e w' => ∃ v', e = .returned v' ∧ Form w' W.heap.size v' l ∧ W.grownBy w' none ∧ OK8 w w'
theorem append_int (W w : World) (v : Value) (l : List UInt8) (n : Nat) (hf : Form w W.heap.size v l) (hg : W.grownBy w none) (ht : TabP W) (hn : n ≤ 1000000) (hl : l.length ≤ 100000) : Goes W 144 #[v, .int .i64 (n : Int), .int .i64 10] w (l ++ Lib.decDigits n) := by
  refine (Tryz.strconv_AppendInt_10 W.heap.size l.length (n : Int) (by omega) (by omega) v (byV l) w hf hg.size (by omega) (tab_below ht hg)).mono ?_
  rintro e w' ⟨v', rfl, h1, h2, h3⟩
  rw [Lib.itoa_nonneg] at h1
  refine ⟨v', rfl, ?_, below_gr hg h2, h3⟩
  unfold Form
  rw [byV_app, List.length_append]
  exact h1
theorem ds_le (n : Nat) (h : n ≤ 200) : (Lib.decDigits n).length ≤ 3 := dec_le n 3 (by decide) (by omega)
/-- append of one byte. -/
theorem app_byte (W wr : World) (v : Value) (l : List UInt8) (c : UInt8) (z : Int) (hz : (c.toNat : Int) = z) (hf : Form wr W.heap.size v l) (hn : l.length ≤ 90000) (hg : W.grownBy wr none) :
    ∃ v' w', (Builtin.append_ #[70, 70] 70 #[v, .slice (some ⟨wr.heap.size, 0, none⟩) 1 1]).run Tryz.prog (wr.alloc (.cells #[.int .u8 z] 5)) = .ok v' w' ∧ Form w' W.heap.size v' (l ++ [c]) ∧ W.grownBy w' none ∧ OK8 wr w' := by
  subst hz
  exact app_bytes W wr v l [c] hf (by simp; omega) hg
set_option maxRecDepth 100000 in
set_option maxHeartbeats 4000000 in
theorem pcount_any (W w : World) (v : Value) (l : List UInt8) (a b : Nat) (hf : Form w W.heap.size v l) (hg : W.grownBy w none) (ht : TabP W) (ha : a ≤ 200) (hb : b ≤ 200) (hl : l.length ≤ 1000) : Goes W 134 #[v, .int .i64 (a : Int), .int .i64 (b : Int)] w (l ++ cntL a b) := by
  have HF := Lib.hid hf
  have HT := Lib.hid ht
  clear hf ht
  unfold cntL
  by_cases h1 : a = 1 ∧ b = 1
  · rw [if_pos h1, List.append_nil]
    obtain ⟨rfl, rfl⟩ := h1
    unfold Goes
    go_enter Tryz.func134, Tryz.ntmps134
    go_wp2
    go_ret
    exact ⟨_, rfl, HF.out, hg, Lib.OthersKept.refl _ _ _⟩
  rw [if_neg h1]
  by_cases h2 : a = 1 ∧ b = 200
  · rw [if_pos h2]
    obtain ⟨rfl, rfl⟩ := h2
    unfold Goes
    go_enter Tryz.func134, Tryz.ntmps134
    obtain ⟨v1, w1, r1, f1, g1, k1⟩ := app_byte W w v (l) 43 43 (by decide) HF.out (by omega) hg
    have F1 := Lib.hid f1
    have K1 := Lib.hid k1
    clear f1 k1
    go_wp2_with (at_builtin; refine wpList_call_append rfl (.tmp 22) (.tmp 23) 70 rfl _ _ rfl rfl _ _ r1 ?_)
    go_ret
    exact ⟨_, rfl, F1.out, g1, K1.out⟩
  rw [if_neg h2]
  by_cases h3 : a = 0 ∧ b = 200
  · rw [if_pos h3]
    obtain ⟨rfl, rfl⟩ := h3
    unfold Goes
    go_enter Tryz.func134, Tryz.ntmps134
    obtain ⟨v1, w1, r1, f1, g1, k1⟩ := app_byte W w v (l) 42 42 (by decide) HF.out (by omega) hg
    have F1 := Lib.hid f1
    have K1 := Lib.hid k1
    clear f1 k1
    go_wp2_with (at_builtin; refine wpList_call_append rfl (.tmp 32) (.tmp 33) 70 rfl _ _ rfl rfl _ _ r1 ?_)
    go_ret
    exact ⟨_, rfl, F1.out, g1, K1.out⟩
  rw [if_neg h3]
  have c1 : ((a : Int) == 1) = true → ((b : Int) == 1) = false := by intro h; rw [beq_iff_eq] at h; rw [beq_eq_false_iff_ne]; omega
  have d1 : (((a : Int) == 1) = false) ∨ (a = 1 ∧ ((b : Int) == 1) = false ∧ ((b : Int) == 200) = false) := by
    rw [beq_eq_false_iff_ne, beq_eq_false_iff_ne, beq_eq_false_iff_ne]; omega
  have d2 : (((a : Int) == 0) = false) ∨ (a = 0 ∧ ((b : Int) == 200) = false) := by
    rw [beq_eq_false_iff_ne, beq_eq_false_iff_ne]; omega
  have hda := fun w v l hf hg (hl : l.length ≤ 100000) => append_int W w v l a hf hg HT.out (by omega) hl
  have hdb := fun w v l hf hg (hl : l.length ≤ 100000) => append_int W w v l b hf hg HT.out (by omega) hl
  have la := ds_le a ha
  have lb := ds_le b hb
  unfold Goes at hda hdb
  have HDA := Lib.hid hda
  have HDB := Lib.hid hdb
  clear hda hdb c1 h1 h2 h3
  have dd : a = b ∨ (a ≠ b ∧ ((a : Int) == (b : Int)) = false) := by
    rcases Nat.lt_or_ge a b with h | h
    · exact .inr ⟨by omega, by rw [beq_eq_false_iff_ne]; omega⟩
    · by_cases e : a = b
      · exact .inl e
      · exact .inr ⟨e, by rw [beq_eq_false_iff_ne]; omega⟩
  rcases dd with rfl | ⟨dn, de⟩
  · rw [if_pos rfl]
    rcases d1 with d1 | ⟨rfl, d1, d3⟩
    · rcases d2 with d2 | ⟨rfl, d2⟩
      · unfold Goes
        go_enter Tryz.func134, Tryz.ntmps134
        obtain ⟨v1, w1, r1, f1, g1, k1⟩ := app_byte W w v (l) 123 123 (by decide) HF.out (by omega) hg
        have F1 := Lib.hid f1
        have K1 := Lib.hid k1
        clear f1 k1
        go_wp2_with (at_builtin; refine wpList_call_append rfl (.tmp 35) (.tmp 36) 70 rfl _ _ rfl rfl _ _ r1 ?_)
        clear r1
        go_wp2_with fail
        refine (HDA.out w1 v1 _ F1.out g1 (by simp; omega)).mono ?_
        rintro e w2 ⟨v2, rfl, f2, g2, k2⟩
        have F2 := Lib.hid f2
        have K2 := Lib.hid (K1.out.trans k2)
        clear f2 g1 k2
        obtain ⟨v5, w5, r5, f5, g5, k5⟩ := app_byte W w2 v2 (l ++ [123] ++ Lib.decDigits a) 125 125 (by decide) F2.out (by simp; omega) g2
        have F5 := Lib.hid f5
        have K5 := Lib.hid k5
        clear f5 k5
        go_wp2_with (at_builtin; refine wpList_call_append rfl (.tmp 50) (.tmp 51) 70 rfl _ _ rfl rfl _ _ r5 ?_)
        go_ret
        exact ⟨_, rfl, by have h := F5.out; simpa using h, g5, K2.out.trans K5.out⟩
      · unfold Goes
        go_enter Tryz.func134, Tryz.ntmps134
        obtain ⟨v1, w1, r1, f1, g1, k1⟩ := app_byte W w v (l) 123 123 (by decide) HF.out (by omega) hg
        have F1 := Lib.hid f1
        have K1 := Lib.hid k1
        clear f1 k1
        go_wp2_with (at_builtin; refine wpList_call_append rfl (.tmp 35) (.tmp 36) 70 rfl _ _ rfl rfl _ _ r1 ?_)
        clear r1
        go_wp2_with fail
        refine (HDA.out w1 v1 _ F1.out g1 (by simp; omega)).mono ?_
        rintro e w2 ⟨v2, rfl, f2, g2, k2⟩
        have F2 := Lib.hid f2
        have K2 := Lib.hid (K1.out.trans k2)
        clear f2 g1 k2
        obtain ⟨v5, w5, r5, f5, g5, k5⟩ := app_byte W w2 v2 (l ++ [123] ++ Lib.decDigits 0) 125 125 (by decide) F2.out (by simp; omega) g2
        have F5 := Lib.hid f5
        have K5 := Lib.hid k5
        clear f5 k5
        go_wp2_with (at_builtin; refine wpList_call_append rfl (.tmp 50) (.tmp 51) 70 rfl _ _ rfl rfl _ _ r5 ?_)
        go_ret
        exact ⟨_, rfl, by have h := F5.out; simpa using h, g5, K2.out.trans K5.out⟩
    · exact absurd d1 (by decide)
  · rw [if_neg dn]
    rcases d1 with d1 | ⟨rfl, d1, d3⟩
    · rcases d2 with d2 | ⟨rfl, d2⟩
      · unfold Goes
        go_enter Tryz.func134, Tryz.ntmps134
        obtain ⟨v1, w1, r1, f1, g1, k1⟩ := app_byte W w v (l) 123 123 (by decide) HF.out (by omega) hg
        have F1 := Lib.hid f1
        have K1 := Lib.hid k1
        clear f1 k1
        go_wp2_with (at_builtin; refine wpList_call_append rfl (.tmp 35) (.tmp 36) 70 rfl _ _ rfl rfl _ _ r1 ?_)
        clear r1
        go_wp2_with fail
        refine (HDA.out w1 v1 _ F1.out g1 (by simp; omega)).mono ?_
        rintro e w2 ⟨v2, rfl, f2, g2, k2⟩
        have F2 := Lib.hid f2
        have K2 := Lib.hid (K1.out.trans k2)
        clear f2 g1 k2
        obtain ⟨v3, w3, r3, f3, g3, k3⟩ := app_byte W w2 v2 (l ++ [123] ++ Lib.decDigits a) 44 44 (by decide) F2.out (by simp; omega) g2
        have F3 := Lib.hid f3
        have K3 := Lib.hid k3
        clear f3 k3
        go_wp2_with (at_builtin; refine wpList_call_append rfl (.tmp 44) (.tmp 45) 70 rfl _ _ rfl rfl _ _ r3 ?_)
        clear r3
        go_wp2_with fail
        refine (HDB.out w3 v3 _ F3.out g3 (by simp; omega)).mono ?_
        rintro e w4 ⟨v4, rfl, f4, g4, k4⟩
        have F4 := Lib.hid f4
        have K4 := Lib.hid ((K2.out.trans K3.out).trans k4)
        clear f4 g3 k4
        obtain ⟨v5, w5, r5, f5, g5, k5⟩ := app_byte W w4 v4 (l ++ [123] ++ Lib.decDigits a ++ [44] ++ Lib.decDigits b) 125 125 (by decide) F4.out (by simp; omega) g4
        have F5 := Lib.hid f5
        have K5 := Lib.hid k5
        clear f5 k5
        go_wp2_with (at_builtin; refine wpList_call_append rfl (.tmp 50) (.tmp 51) 70 rfl _ _ rfl rfl _ _ r5 ?_)
        go_ret
        exact ⟨_, rfl, by have h := F5.out; simpa using h, g5, K4.out.trans K5.out⟩
      · unfold Goes
        go_enter Tryz.func134, Tryz.ntmps134
        obtain ⟨v1, w1, r1, f1, g1, k1⟩ := app_byte W w v (l) 123 123 (by decide) HF.out (by omega) hg
        have F1 := Lib.hid f1
        have K1 := Lib.hid k1
        clear f1 k1
        go_wp2_with (at_builtin; refine wpList_call_append rfl (.tmp 35) (.tmp 36) 70 rfl _ _ rfl rfl _ _ r1 ?_)
        clear r1
        go_wp2_with fail
        refine (HDA.out w1 v1 _ F1.out g1 (by simp; omega)).mono ?_
        rintro e w2 ⟨v2, rfl, f2, g2, k2⟩
        have F2 := Lib.hid f2
        have K2 := Lib.hid (K1.out.trans k2)
        clear f2 g1 k2
        obtain ⟨v3, w3, r3, f3, g3, k3⟩ := app_byte W w2 v2 (l ++ [123] ++ Lib.decDigits 0) 44 44 (by decide) F2.out (by simp; omega) g2
        have F3 := Lib.hid f3
        have K3 := Lib.hid k3
        clear f3 k3
        go_wp2_with (at_builtin; refine wpList_call_append rfl (.tmp 44) (.tmp 45) 70 rfl _ _ rfl rfl _ _ r3 ?_)
        clear r3
        go_wp2_with fail
        refine (HDB.out w3 v3 _ F3.out g3 (by simp; omega)).mono ?_
        rintro e w4 ⟨v4, rfl, f4, g4, k4⟩
        have F4 := Lib.hid f4
        have K4 := Lib.hid ((K2.out.trans K3.out).trans k4)
        clear f4 g3 k4
        obtain ⟨v5, w5, r5, f5, g5, k5⟩ := app_byte W w4 v4 (l ++ [123] ++ Lib.decDigits 0 ++ [44] ++ Lib.decDigits b) 125 125 (by decide) F4.out (by simp; omega) g4
        have F5 := Lib.hid f5
        have K5 := Lib.hid k5
        clear f5 k5
        go_wp2_with (at_builtin; refine wpList_call_append rfl (.tmp 50) (.tmp 51) 70 rfl _ _ rfl rfl _ _ r5 ?_)
        go_ret
        exact ⟨_, rfl, by have h := F5.out; simpa using h, g5, K4.out.trans K5.out⟩
    · clear d2
      unfold Goes
      go_enter Tryz.func134, Tryz.ntmps134
      obtain ⟨v1, w1, r1, f1, g1, k1⟩ := app_byte W w v (l) 123 123 (by decide) HF.out (by omega) hg
      have F1 := Lib.hid f1
      have K1 := Lib.hid k1
      clear f1 k1
      go_wp2_with (at_builtin; refine wpList_call_append rfl (.tmp 35) (.tmp 36) 70 rfl _ _ rfl rfl _ _ r1 ?_)
      clear r1
      go_wp2_with fail
      refine (HDA.out w1 v1 _ F1.out g1 (by simp; omega)).mono ?_
      rintro e w2 ⟨v2, rfl, f2, g2, k2⟩
      have F2 := Lib.hid f2
      have K2 := Lib.hid (K1.out.trans k2)
      clear f2 g1 k2
      obtain ⟨v3, w3, r3, f3, g3, k3⟩ := app_byte W w2 v2 (l ++ [123] ++ Lib.decDigits 1) 44 44 (by decide) F2.out (by simp; omega) g2
      have F3 := Lib.hid f3
      have K3 := Lib.hid k3
      clear f3 k3
      go_wp2_with (at_builtin; refine wpList_call_append rfl (.tmp 44) (.tmp 45) 70 rfl _ _ rfl rfl _ _ r3 ?_)
      clear r3
      go_wp2_with fail
      refine (HDB.out w3 v3 _ F3.out g3 (by simp; omega)).mono ?_
      rintro e w4 ⟨v4, rfl, f4, g4, k4⟩
      have F4 := Lib.hid f4
      have K4 := Lib.hid ((K2.out.trans K3.out).trans k4)
      clear f4 g3 k4
      obtain ⟨v5, w5, r5, f5, g5, k5⟩ := app_byte W w4 v4 (l ++ [123] ++ Lib.decDigits 1 ++ [44] ++ Lib.decDigits b) 125 125 (by decide) F4.out (by simp; omega) g4
      have F5 := Lib.hid f5
      have K5 := Lib.hid k5
      clear f5 k5
      go_wp2_with (at_builtin; refine wpList_call_append rfl (.tmp 50) (.tmp 51) 70 rfl _ _ rfl rfl _ _ r5 ?_)
      go_ret
      exact ⟨_, rfl, by have h := F5.out; simpa using h, g5, K4.out.trans K5.out⟩
end Go.Proofs.YtaejnklgnegkhaaGreatDoor
namespace Go.Proofs.YtaejnklgnegkhaaGreatDoor
open Go.RowKit Pt

theorem take_next {s : ByteArray} {k : Nat} (h : k < s.size) : s.data.toList.take (k + 1) = s.data.toList.take k ++ [s[k]] := by
  rw [List.take_succ_eq_append_getElem (by simpa using h)]; rfl
theorem esc_len (l : List UInt8) : (escL l).length ≤ 2 * l.length := by
  induction l with
  | nil => simp [escL]
  | cons c l ih =>
    have e : escL (c :: l) = (if specD c.toNat then [92, c] else [c]) ++ escL l := rfl
    rw [e, List.length_append, List.length_cons]
    split <;> simp <;> omega
theorem app_two (W wr : World) (v : Value) (l : List UInt8) (c d : UInt8) (y z : Int) (hy : (c.toNat : Int) = y) (hz : (d.toNat : Int) = z) (hf : Form wr W.heap.size v l) (hn : l.length ≤ 90000) (hg : W.grownBy wr none) :
    ∃ v' w', (Builtin.append_ #[70, 70] 70 #[v, .slice (some ⟨wr.heap.size, 0, none⟩) 2 2]).run Tryz.prog (wr.alloc (.cells #[.int .u8 y, .int .u8 z] 5)) = .ok v' w' ∧ Form w' W.heap.size v' (l ++ [c, d]) ∧ W.grownBy w' none ∧ OK8 wr w' := by
  subst hy hz
  exact app_bytes W wr v l [c, d] hf (by simp; omega) hg
set_option maxRecDepth 100000 in
set_option maxHeartbeats 8000000 in
theorem pappend_run (W w : World) (v : Value) (l : List UInt8) (k a b : Nat) (t : ByteArray) (hf : Form w W.heap.size v l) (hg : W.grownBy w none) (ht : TabP W) (hk1 : 1 ≤ k) (hk7 : k ≤ 7) (ha : a ≤ 200) (hb : b ≤ 200) (hl : l.length ≤ 900) : Goes W 119 #[v, pcv (k : Int) (a : Int) (b : Int) t] w (l ++ (92 :: letC k :: cntL a b)) := by
  rcases (show k = 1 ∨ k = 2 ∨ k = 3 ∨ k = 4 ∨ k = 5 ∨ k = 6 ∨ k = 7 by omega) with rfl | rfl | rfl | rfl | rfl | rfl | rfl
  · have HL := Lib.hid (fun w => plit_any 1 (a : Int) (b : Int) t w)
    have R0 := Row.new w [.int .i64 1, .int .i64 (a : Int), .int .i64 (b : Int), .string t] 52
    have F0 := Form.kept hf (gr_alloc w (.cells ([.int .i64 1, .int .i64 (a : Int), .int .i64 (b : Int), .string t] : List Value).toArray 52) none)
    have G0 := gr_then hg (gr_alloc w (.cells ([.int .i64 1, .int .i64 (a : Int), .int .i64 (b : Int), .string t] : List Value).toArray 52) none)
    have K0 : OK8 w (w.alloc (.cells ([.int .i64 1, .int .i64 (a : Int), .int .i64 (b : Int), .string t] : List Value).toArray 52)) := ok_gr (gr_alloc w _ none)
    have HT := Lib.hid ht
    clear hf ht
    unfold Goes
    go_enter Tryz.func119, Tryz.ntmps119
    have c0 := R0.cell 0 _ rfl
    have c1 := R0.cell 1 _ rfl
    have c2 := R0.cell 2 _ rfl
    have c3 := R0.cell 3 _ rfl
    go_wp2_with fail
    refine (HL.out _).mono ?_
    rintro e w1 ⟨rfl, g1⟩
    have R1 := R0.kept g1
    have F1 := Lib.hid (F0.kept g1)
    have G1 := gr_then G0 g1
    have K1 := Lib.hid (K0.trans (ok_gr g1))
    clear c0 c1 c2 c3 R0 F0 G0 K0 g1
    have c0 := R1.cell 0 _ rfl
    obtain ⟨v2, w2, r2, f2, g2, k2⟩ := app_two W w1 v l 92 100 92 100 (by decide) (by decide) F1.out (by omega) G1
    have F2 := Lib.hid f2
    have R2 := R1.ok (by decide) k2
    have K2 := Lib.hid (K1.out.trans k2)
    have HC := Lib.hid (pcount_any W w2 v2 _ a b f2 g2 HT.out ha hb (by simp; omega))
    unfold Goes at HC
    clear f2 k2 R1
    generalize w.heap.size = B at *
    have d1 := R2.cell 1 _ rfl
    have d2 := R2.cell 2 _ rfl
    go_wp2_with (at_builtin; refine wpList_call_append rfl (.tmp 9) (.tmp 14) 70 rfl _ _ rfl rfl _ _ r2 ?_)
    refine HC.out.mono ?_
    rintro e w3 ⟨v3, rfl, f3, g3, k3⟩
    have F3 := Lib.hid f3
    have K3 := Lib.hid (K2.out.trans k3)
    clear f3 k3 d1 d2
    go_wp2
    go_ret
    exact ⟨_, rfl, by have h := F3.out; simpa [letC] using h, g3, K3.out⟩
  · have HL := Lib.hid (fun w => plit_any 2 (a : Int) (b : Int) t w)
    have R0 := Row.new w [.int .i64 2, .int .i64 (a : Int), .int .i64 (b : Int), .string t] 52
    have F0 := Form.kept hf (gr_alloc w (.cells ([.int .i64 2, .int .i64 (a : Int), .int .i64 (b : Int), .string t] : List Value).toArray 52) none)
    have G0 := gr_then hg (gr_alloc w (.cells ([.int .i64 2, .int .i64 (a : Int), .int .i64 (b : Int), .string t] : List Value).toArray 52) none)
    have K0 : OK8 w (w.alloc (.cells ([.int .i64 2, .int .i64 (a : Int), .int .i64 (b : Int), .string t] : List Value).toArray 52)) := ok_gr (gr_alloc w _ none)
    have HT := Lib.hid ht
    clear hf ht
    unfold Goes
    go_enter Tryz.func119, Tryz.ntmps119
    have c0 := R0.cell 0 _ rfl
    have c1 := R0.cell 1 _ rfl
    have c2 := R0.cell 2 _ rfl
    have c3 := R0.cell 3 _ rfl
    go_wp2_with fail
    refine (HL.out _).mono ?_
    rintro e w1 ⟨rfl, g1⟩
    have R1 := R0.kept g1
    have F1 := Lib.hid (F0.kept g1)
    have G1 := gr_then G0 g1
    have K1 := Lib.hid (K0.trans (ok_gr g1))
    clear c0 c1 c2 c3 R0 F0 G0 K0 g1
    have c0 := R1.cell 0 _ rfl
    obtain ⟨v2, w2, r2, f2, g2, k2⟩ := app_two W w1 v l 92 117 92 117 (by decide) (by decide) F1.out (by omega) G1
    have F2 := Lib.hid f2
    have R2 := R1.ok (by decide) k2
    have K2 := Lib.hid (K1.out.trans k2)
    have HC := Lib.hid (pcount_any W w2 v2 _ a b f2 g2 HT.out ha hb (by simp; omega))
    unfold Goes at HC
    clear f2 k2 R1
    generalize w.heap.size = B at *
    have d1 := R2.cell 1 _ rfl
    have d2 := R2.cell 2 _ rfl
    go_wp2_with (at_builtin; refine wpList_call_append rfl (.tmp 9) (.tmp 14) 70 rfl _ _ rfl rfl _ _ r2 ?_)
    refine HC.out.mono ?_
    rintro e w3 ⟨v3, rfl, f3, g3, k3⟩
    have F3 := Lib.hid f3
    have K3 := Lib.hid (K2.out.trans k3)
    clear f3 k3 d1 d2
    go_wp2
    go_ret
    exact ⟨_, rfl, by have h := F3.out; simpa [letC] using h, g3, K3.out⟩
  · have HL := Lib.hid (fun w => plit_any 3 (a : Int) (b : Int) t w)
    have R0 := Row.new w [.int .i64 3, .int .i64 (a : Int), .int .i64 (b : Int), .string t] 52
    have F0 := Form.kept hf (gr_alloc w (.cells ([.int .i64 3, .int .i64 (a : Int), .int .i64 (b : Int), .string t] : List Value).toArray 52) none)
    have G0 := gr_then hg (gr_alloc w (.cells ([.int .i64 3, .int .i64 (a : Int), .int .i64 (b : Int), .string t] : List Value).toArray 52) none)
    have K0 : OK8 w (w.alloc (.cells ([.int .i64 3, .int .i64 (a : Int), .int .i64 (b : Int), .string t] : List Value).toArray 52)) := ok_gr (gr_alloc w _ none)
    have HT := Lib.hid ht
    clear hf ht
    unfold Goes
    go_enter Tryz.func119, Tryz.ntmps119
    have c0 := R0.cell 0 _ rfl
    have c1 := R0.cell 1 _ rfl
    have c2 := R0.cell 2 _ rfl
    have c3 := R0.cell 3 _ rfl
    go_wp2_with fail
    refine (HL.out _).mono ?_
    rintro e w1 ⟨rfl, g1⟩
    have R1 := R0.kept g1
    have F1 := Lib.hid (F0.kept g1)
    have G1 := gr_then G0 g1
    have K1 := Lib.hid (K0.trans (ok_gr g1))
    clear c0 c1 c2 c3 R0 F0 G0 K0 g1
    have c0 := R1.cell 0 _ rfl
    obtain ⟨v2, w2, r2, f2, g2, k2⟩ := app_two W w1 v l 92 108 92 108 (by decide) (by decide) F1.out (by omega) G1
    have F2 := Lib.hid f2
    have R2 := R1.ok (by decide) k2
    have K2 := Lib.hid (K1.out.trans k2)
    have HC := Lib.hid (pcount_any W w2 v2 _ a b f2 g2 HT.out ha hb (by simp; omega))
    unfold Goes at HC
    clear f2 k2 R1
    generalize w.heap.size = B at *
    have d1 := R2.cell 1 _ rfl
    have d2 := R2.cell 2 _ rfl
    go_wp2_with (at_builtin; refine wpList_call_append rfl (.tmp 9) (.tmp 14) 70 rfl _ _ rfl rfl _ _ r2 ?_)
    refine HC.out.mono ?_
    rintro e w3 ⟨v3, rfl, f3, g3, k3⟩
    have F3 := Lib.hid f3
    have K3 := Lib.hid (K2.out.trans k3)
    clear f3 k3 d1 d2
    go_wp2
    go_ret
    exact ⟨_, rfl, by have h := F3.out; simpa [letC] using h, g3, K3.out⟩
  · have HL := Lib.hid (fun w => plit_any 4 (a : Int) (b : Int) t w)
    have R0 := Row.new w [.int .i64 4, .int .i64 (a : Int), .int .i64 (b : Int), .string t] 52
    have F0 := Form.kept hf (gr_alloc w (.cells ([.int .i64 4, .int .i64 (a : Int), .int .i64 (b : Int), .string t] : List Value).toArray 52) none)
    have G0 := gr_then hg (gr_alloc w (.cells ([.int .i64 4, .int .i64 (a : Int), .int .i64 (b : Int), .string t] : List Value).toArray 52) none)
    have K0 : OK8 w (w.alloc (.cells ([.int .i64 4, .int .i64 (a : Int), .int .i64 (b : Int), .string t] : List Value).toArray 52)) := ok_gr (gr_alloc w _ none)
    have HT := Lib.hid ht
    clear hf ht
    unfold Goes
    go_enter Tryz.func119, Tryz.ntmps119
    have c0 := R0.cell 0 _ rfl
    have c1 := R0.cell 1 _ rfl
    have c2 := R0.cell 2 _ rfl
    have c3 := R0.cell 3 _ rfl
    go_wp2_with fail
    refine (HL.out _).mono ?_
    rintro e w1 ⟨rfl, g1⟩
    have R1 := R0.kept g1
    have F1 := Lib.hid (F0.kept g1)
    have G1 := gr_then G0 g1
    have K1 := Lib.hid (K0.trans (ok_gr g1))
    clear c0 c1 c2 c3 R0 F0 G0 K0 g1
    have c0 := R1.cell 0 _ rfl
    obtain ⟨v2, w2, r2, f2, g2, k2⟩ := app_two W w1 v l 92 97 92 97 (by decide) (by decide) F1.out (by omega) G1
    have F2 := Lib.hid f2
    have R2 := R1.ok (by decide) k2
    have K2 := Lib.hid (K1.out.trans k2)
    have HC := Lib.hid (pcount_any W w2 v2 _ a b f2 g2 HT.out ha hb (by simp; omega))
    unfold Goes at HC
    clear f2 k2 R1
    generalize w.heap.size = B at *
    have d1 := R2.cell 1 _ rfl
    have d2 := R2.cell 2 _ rfl
    go_wp2_with (at_builtin; refine wpList_call_append rfl (.tmp 9) (.tmp 14) 70 rfl _ _ rfl rfl _ _ r2 ?_)
    refine HC.out.mono ?_
    rintro e w3 ⟨v3, rfl, f3, g3, k3⟩
    have F3 := Lib.hid f3
    have K3 := Lib.hid (K2.out.trans k3)
    clear f3 k3 d1 d2
    go_wp2
    go_ret
    exact ⟨_, rfl, by have h := F3.out; simpa [letC] using h, g3, K3.out⟩
  · have HL := Lib.hid (fun w => plit_any 5 (a : Int) (b : Int) t w)
    have R0 := Row.new w [.int .i64 5, .int .i64 (a : Int), .int .i64 (b : Int), .string t] 52
    have F0 := Form.kept hf (gr_alloc w (.cells ([.int .i64 5, .int .i64 (a : Int), .int .i64 (b : Int), .string t] : List Value).toArray 52) none)
    have G0 := gr_then hg (gr_alloc w (.cells ([.int .i64 5, .int .i64 (a : Int), .int .i64 (b : Int), .string t] : List Value).toArray 52) none)
    have K0 : OK8 w (w.alloc (.cells ([.int .i64 5, .int .i64 (a : Int), .int .i64 (b : Int), .string t] : List Value).toArray 52)) := ok_gr (gr_alloc w _ none)
    have HT := Lib.hid ht
    clear hf ht
    unfold Goes
    go_enter Tryz.func119, Tryz.ntmps119
    have c0 := R0.cell 0 _ rfl
    have c1 := R0.cell 1 _ rfl
    have c2 := R0.cell 2 _ rfl
    have c3 := R0.cell 3 _ rfl
    go_wp2_with fail
    refine (HL.out _).mono ?_
    rintro e w1 ⟨rfl, g1⟩
    have R1 := R0.kept g1
    have F1 := Lib.hid (F0.kept g1)
    have G1 := gr_then G0 g1
    have K1 := Lib.hid (K0.trans (ok_gr g1))
    clear c0 c1 c2 c3 R0 F0 G0 K0 g1
    have c0 := R1.cell 0 _ rfl
    obtain ⟨v2, w2, r2, f2, g2, k2⟩ := app_two W w1 v l 92 115 92 115 (by decide) (by decide) F1.out (by omega) G1
    have F2 := Lib.hid f2
    have R2 := R1.ok (by decide) k2
    have K2 := Lib.hid (K1.out.trans k2)
    have HC := Lib.hid (pcount_any W w2 v2 _ a b f2 g2 HT.out ha hb (by simp; omega))
    unfold Goes at HC
    clear f2 k2 R1
    generalize w.heap.size = B at *
    have d1 := R2.cell 1 _ rfl
    have d2 := R2.cell 2 _ rfl
    go_wp2_with (at_builtin; refine wpList_call_append rfl (.tmp 9) (.tmp 14) 70 rfl _ _ rfl rfl _ _ r2 ?_)
    refine HC.out.mono ?_
    rintro e w3 ⟨v3, rfl, f3, g3, k3⟩
    have F3 := Lib.hid f3
    have K3 := Lib.hid (K2.out.trans k3)
    clear f3 k3 d1 d2
    go_wp2
    go_ret
    exact ⟨_, rfl, by have h := F3.out; simpa [letC] using h, g3, K3.out⟩
  · have HL := Lib.hid (fun w => plit_any 6 (a : Int) (b : Int) t w)
    have R0 := Row.new w [.int .i64 6, .int .i64 (a : Int), .int .i64 (b : Int), .string t] 52
    have F0 := Form.kept hf (gr_alloc w (.cells ([.int .i64 6, .int .i64 (a : Int), .int .i64 (b : Int), .string t] : List Value).toArray 52) none)
    have G0 := gr_then hg (gr_alloc w (.cells ([.int .i64 6, .int .i64 (a : Int), .int .i64 (b : Int), .string t] : List Value).toArray 52) none)
    have K0 : OK8 w (w.alloc (.cells ([.int .i64 6, .int .i64 (a : Int), .int .i64 (b : Int), .string t] : List Value).toArray 52)) := ok_gr (gr_alloc w _ none)
    have HT := Lib.hid ht
    clear hf ht
    unfold Goes
    go_enter Tryz.func119, Tryz.ntmps119
    have c0 := R0.cell 0 _ rfl
    have c1 := R0.cell 1 _ rfl
    have c2 := R0.cell 2 _ rfl
    have c3 := R0.cell 3 _ rfl
    go_wp2_with fail
    refine (HL.out _).mono ?_
    rintro e w1 ⟨rfl, g1⟩
    have R1 := R0.kept g1
    have F1 := Lib.hid (F0.kept g1)
    have G1 := gr_then G0 g1
    have K1 := Lib.hid (K0.trans (ok_gr g1))
    clear c0 c1 c2 c3 R0 F0 G0 K0 g1
    have c0 := R1.cell 0 _ rfl
    obtain ⟨v2, w2, r2, f2, g2, k2⟩ := app_two W w1 v l 92 111 92 111 (by decide) (by decide) F1.out (by omega) G1
    have F2 := Lib.hid f2
    have R2 := R1.ok (by decide) k2
    have K2 := Lib.hid (K1.out.trans k2)
    have HC := Lib.hid (pcount_any W w2 v2 _ a b f2 g2 HT.out ha hb (by simp; omega))
    unfold Goes at HC
    clear f2 k2 R1
    generalize w.heap.size = B at *
    have d1 := R2.cell 1 _ rfl
    have d2 := R2.cell 2 _ rfl
    go_wp2_with (at_builtin; refine wpList_call_append rfl (.tmp 9) (.tmp 14) 70 rfl _ _ rfl rfl _ _ r2 ?_)
    refine HC.out.mono ?_
    rintro e w3 ⟨v3, rfl, f3, g3, k3⟩
    have F3 := Lib.hid f3
    have K3 := Lib.hid (K2.out.trans k3)
    clear f3 k3 d1 d2
    go_wp2
    go_ret
    exact ⟨_, rfl, by have h := F3.out; simpa [letC] using h, g3, K3.out⟩
  · have HL := Lib.hid (fun w => plit_any 7 (a : Int) (b : Int) t w)
    have R0 := Row.new w [.int .i64 7, .int .i64 (a : Int), .int .i64 (b : Int), .string t] 52
    have F0 := Form.kept hf (gr_alloc w (.cells ([.int .i64 7, .int .i64 (a : Int), .int .i64 (b : Int), .string t] : List Value).toArray 52) none)
    have G0 := gr_then hg (gr_alloc w (.cells ([.int .i64 7, .int .i64 (a : Int), .int .i64 (b : Int), .string t] : List Value).toArray 52) none)
    have K0 : OK8 w (w.alloc (.cells ([.int .i64 7, .int .i64 (a : Int), .int .i64 (b : Int), .string t] : List Value).toArray 52)) := ok_gr (gr_alloc w _ none)
    have HT := Lib.hid ht
    clear hf ht
    unfold Goes
    go_enter Tryz.func119, Tryz.ntmps119
    have c0 := R0.cell 0 _ rfl
    have c1 := R0.cell 1 _ rfl
    have c2 := R0.cell 2 _ rfl
    have c3 := R0.cell 3 _ rfl
    go_wp2_with fail
    refine (HL.out _).mono ?_
    rintro e w1 ⟨rfl, g1⟩
    have R1 := R0.kept g1
    have F1 := Lib.hid (F0.kept g1)
    have G1 := gr_then G0 g1
    have K1 := Lib.hid (K0.trans (ok_gr g1))
    clear c0 c1 c2 c3 R0 F0 G0 K0 g1
    have c0 := R1.cell 0 _ rfl
    obtain ⟨v2, w2, r2, f2, g2, k2⟩ := app_two W w1 v l 92 46 92 46 (by decide) (by decide) F1.out (by omega) G1
    have F2 := Lib.hid f2
    have R2 := R1.ok (by decide) k2
    have K2 := Lib.hid (K1.out.trans k2)
    have HC := Lib.hid (pcount_any W w2 v2 _ a b f2 g2 HT.out ha hb (by simp; omega))
    unfold Goes at HC
    clear f2 k2 R1
    generalize w.heap.size = B at *
    have d1 := R2.cell 1 _ rfl
    have d2 := R2.cell 2 _ rfl
    go_wp2_with (at_builtin; refine wpList_call_append rfl (.tmp 9) (.tmp 14) 70 rfl _ _ rfl rfl _ _ r2 ?_)
    refine HC.out.mono ?_
    rintro e w3 ⟨v3, rfl, f3, g3, k3⟩
    have F3 := Lib.hid f3
    have K3 := Lib.hid (K2.out.trans k3)
    clear f3 k3 d1 d2
    go_wp2
    go_ret
    exact ⟨_, rfl, by have h := F3.out; simpa [letC] using h, g3, K3.out⟩
set_option maxRecDepth 100000 in
set_option maxHeartbeats 8000000 in
theorem pappend_lit (W w : World) (v : Value) (l : List UInt8) (a b : Int) (t : ByteArray) (hf : Form w W.heap.size v l) (hg : W.grownBy w none) (hsz : t.size ≤ 1000) (hl : l.length ≤ 900) : Goes W 119 #[v, pcv 0 a b t] w (l ++ escL t.data.toList) := by
  have HL := Lib.hid (fun w => plit_any 0 a b t w)
  have R0 := Row.new w [.int .i64 0, .int .i64 a, .int .i64 b, .string t] 52
  have F0 := Form.kept hf (gr_alloc w (.cells ([.int .i64 0, .int .i64 a, .int .i64 b, .string t] : List Value).toArray 52) none)
  have G0 := gr_then hg (gr_alloc w (.cells ([.int .i64 0, .int .i64 a, .int .i64 b, .string t] : List Value).toArray 52) none)
  have K0 : OK8 w (w.alloc (.cells ([.int .i64 0, .int .i64 a, .int .i64 b, .string t] : List Value).toArray 52)) := ok_gr (gr_alloc w _ none)
  clear hf
  unfold Goes
  go_enter Tryz.func119, Tryz.ntmps119
  have c0 := R0.cell 0 _ rfl
  have c1 := R0.cell 1 _ rfl
  have c2 := R0.cell 2 _ rfl
  have c3 := R0.cell 3 _ rfl
  go_wp2_with fail
  refine (HL.out _).mono ?_
  rintro e w1 ⟨rfl, g1⟩
  have R1 := R0.kept g1
  have F1 := Lib.hid (F0.kept g1)
  have G1 := Lib.hid (gr_then G0 g1)
  have K1 := Lib.hid (K0.trans (ok_gr g1))
  clear c0 c1 c2 c3 R0 F0 G0 K0 g1
  generalize w.heap.size = B at *
  have c3 := R1.cell 3 _ rfl
  go_wp2_with fail
  go_loopw [0, 25] (fun u i wr => ∃ j : Nat, j ≤ t.size ∧ i = .int .i64 (j : Int) ∧ Form wr W.heap.size u (l ++ escL (t.data.toList.take j)) ∧ W.grownBy wr none ∧ OK8 w wr ∧ Row wr B [.int .i64 0, .int .i64 a, .int .i64 b, .string t] 52) (fun _ i _ => t.size - (intOf i).toNat)
  case atStart => exact ⟨0, Nat.zero_le _, rfl, by simpa [escL] using F1.out, G1.out, K1.out, R1⟩
  case round =>
    clear F1 G1 K1 R1 c3
    obtain ⟨j, hj, rfl, hfj, Gj, Kj, Rj⟩ := hrel
    by_cases hlt : j < t.size
    · have hb1 : (j : Int) < (t.size : Int) := by omega
      have hk1 : (j : Int) + 1 ≤ 9223372036854775807 := by omega
      have c3 := Rj.cell 3 _ rfl
      have hnx := take_next hlt
      have HNX := Lib.hid hnx
      have HSP := Lib.hid (fun w => pspec_any t[j].toNat w (by have := t[j].toNat_lt; omega))
      have hlen : (l ++ escL (t.data.toList.take j)).length ≤ 80000 := by
        have h1 := esc_len (t.data.toList.take j)
        have h2 : (t.data.toList.take j).length ≤ j := by rw [List.length_take]; omega
        rw [List.length_append]; omega
      obtain ⟨cc, hcc⟩ : ∃ cc, t[j] = cc := ⟨_, rfl⟩
      have hcn : t[j].toNat = cc.toNat := by rw [hcc]
      rw [hcc] at HNX HSP
      have HF := Lib.hid hfj
      have HK := Lib.hid Kj
      obtain ⟨q, hq⟩ : ∃ q, escL (t.data.toList.take j) = q := ⟨_, rfl⟩
      have HQ := Lib.hid hq
      rw [hq] at HF hlen
      clear hfj Kj hnx hcc hq
      obtain ⟨n, hn⟩ : ∃ n, cc.toNat = n := ⟨_, rfl⟩
      rw [hn] at hcn HSP
      have hnz : ((cc.toNat : Nat) : Int) = (n : Int) := by rw [hn]
      have HN := Lib.hid hn
      clear hn
      cases hsp : specD n
      · rw [hsp] at HSP
        have HE := Lib.hid (show escL (t.data.toList.take (j + 1)) = q ++ [cc] by rw [HNX.out, escL_snoc, HN.out, hsp, HQ.out]; rfl)
        go_wp2_with fail
        refine (HSP.out _).mono ?_
        rintro e w2 ⟨rfl, rfl⟩
        obtain ⟨v5, w5, r5, f5, g5, k5⟩ := app_byte W wr u0 (l ++ q) cc (n : Int) hnz HF.out (by omega) Gj
        have F5 := Lib.hid f5
        have K5 := Lib.hid (HK.out.trans k5)
        have R5 := Rj.ok (by decide) k5
        clear f5 k5
        go_wp2_with (at_builtin; refine wpList_call_append rfl (.tmp 36) (.tmp 41) 70 rfl _ _ rfl rfl _ _ r5 ?_)
        exact ⟨⟨j + 1, by omega, by go_num, by rw [HE.out, ← List.append_assoc]; exact F5.out, g5, K5.out, R5⟩, by simp [intOf]; omega⟩
      · rw [hsp] at HSP
        have HE := Lib.hid (show escL (t.data.toList.take (j + 1)) = q ++ [92, cc] by rw [HNX.out, escL_snoc, HN.out, hsp, HQ.out]; rfl)
        go_wp2_with fail
        refine (HSP.out _).mono ?_
        rintro e w2 ⟨rfl, rfl⟩
        obtain ⟨v4, w4, r4, f4, g4, k4⟩ := app_byte W wr u0 (l ++ q) 92 92 (by decide) HF.out (by omega) Gj
        have R4 := Rj.ok (by decide) k4
        obtain ⟨v5, w5, r5, f5, g5, k5⟩ := app_byte W w4 v4 (l ++ q ++ [92]) cc (n : Int) hnz f4 (by rw [List.length_append, List.length_singleton]; omega) g4
        have F5 := Lib.hid f5
        have K5 := Lib.hid ((HK.out.trans k4).trans k5)
        have R5 := R4.ok (by decide) k5
        have d3 := R4.cell 3 _ rfl
        clear f5 k5 f4 k4
        go_wp2_with (at_builtin; first | (refine wpList_call_append rfl (.tmp 33) (.tmp 34) 70 rfl _ _ rfl rfl _ _ r4 ?_) | (refine wpList_call_append rfl (.tmp 36) (.tmp 41) 70 rfl _ _ rfl rfl _ _ r5 ?_))
        exact ⟨⟨j + 1, by omega, by go_num, by rw [HE.out]; have h := F5.out; simpa using h, g5, K5.out, R5⟩, by simp [intOf]; omega⟩
    · obtain rfl : j = t.size := by omega
      have hfull : t.data.toList.take t.size = t.data.toList := List.take_of_length_le (Nat.le_refl _)
      rw [hfull] at hfj
      have HF := Lib.hid hfj
      have HK := Lib.hid Kj
      clear hfj Kj
      go_wp2
      go_ret
      exact ⟨_, rfl, HF.out, Gj, HK.out⟩
end Go.Proofs.YtaejnklgnegkhaaGreatDoor
namespace Go.Proofs.YtaejnklgnegkhaaGreatDoor
open Go.RowKit Pt

theorem wrL_cat (l m : List Pc) : wrL (l ++ m) = wrL l ++ wrL m := by simp [wrL]
theorem wr_take (ps : List Pc) (j : Nat) : (wrL (ps.take j)).length ≤ (wrL ps).length := by
  have h := wrL_cat (ps.take j) (ps.drop j)
  rw [List.take_append_drop] at h
  rw [h, List.length_append]; omega
theorem esc_ge (l : List UInt8) : l.length ≤ (escL l).length := by
  induction l with
  | nil => simp [escL]
  | cons c l ih =>
    have e : escL (c :: l) = (if specD c.toNat then [92, c] else [c]) ++ escL l := rfl
    rw [e, List.length_append, List.length_cons]
    split <;> simp <;> omega
theorem wr_next {ps : List Pc} {j : Nat} (h : j < ps.length) : wrL (ps.take (j + 1)) = wrL (ps.take j) ++ wrP ps[j] := by
  rw [← List.take_append_getElem h, wrL_snoc]
theorem wr_one {p : Pc} (h : rightP p.k p.a p.b p.t = true) : 1 ≤ (wrP p).length := by
  unfold wrP
  by_cases hk : p.k = 0
  · rw [if_pos hk]
    unfold rightP at h
    rw [if_pos hk] at h
    simp only [Bool.and_eq_true, decide_eq_true_eq] at h
    have := esc_ge p.t.data.toList
    have e : p.t.data.toList.length = p.t.size := rfl
    omega
  · rw [if_neg hk]; simp
theorem right_long {ps : List Pc} {j : Nat} (h : 60 < (wrL (ps.take j)).length) : rightL ps = false := by
  have := wr_take ps j
  unfold rightL
  rw [decide_eq_false (p := (wrL ps).length ≤ 60) (by omega), Bool.and_false]
theorem right_q {ps : List Pc} {j : Nat} (h : j < ps.length) (hq : rightQ ps[j].k ps[j].a ps[j].b ps[j].t = false) : rightL ps = false := by
  cases hp : rightP ps[j].k ps[j].a ps[j].b ps[j].t
  · exact right_false h (by rw [good_some h, hp]; rfl)
  · unfold rightQ at hq
    rw [hp, Bool.true_and, Bool.or_eq_false_iff, decide_eq_false_iff_not, decide_eq_false_iff_not] at hq
    refine right_long (j := j + 1) ?_
    rw [wr_next h, List.length_append]
    have hk : ps[j].k = 0 := by
      by_cases hk : ps[j].k = 0
      · exact hk
      · exact absurd hk hq.1
    have e : wrP ps[j] = escL ps[j].t.data.toList := by unfold wrP; rw [if_pos hk]
    have h1 := esc_ge ps[j].t.data.toList
    have e2 : ps[j].t.data.toList.length = ps[j].t.size := rfl
    rw [e]
    omega
theorem count_le : ∀ (ps : List Pc), (∀ p ∈ ps, rightP p.k p.a p.b p.t = true) → ps.length ≤ (wrL ps).length
  | [], _ => by simp
  | p :: ps, h => by
    have e : wrL (p :: ps) = wrP p ++ wrL ps := rfl
    have h1 := wr_one (h p (by simp))
    have h2 := count_le ps (fun q hq => h q (by simp [hq]))
    rw [e, List.length_append, List.length_cons]; omega
theorem right_yes {ps : List Pc} (h : ∀ i, i < ps.length → goodAt ps i = true) (hl : (wrL ps).length ≤ 60) : rightL ps = true := by
  have hc := count_le ps (fun p hp => by
    obtain ⟨j, hj, rfl⟩ := List.getElem_of_mem hp
    have h1 := h j hj
    rw [good_some hj, Bool.and_eq_true] at h1
    exact h1.1)
  rw [right_good h, decide_eq_true hl, decide_eq_true (show ps.length ≤ 60 by omega)]; rfl
theorem pappend_any (W w : World) (v : Value) (l : List UInt8) (p : Pc) (hf : Form w W.heap.size v l) (hg : W.grownBy w none) (ht : TabP W) (hq : rightQ p.k p.a p.b p.t = true) (hl : l.length ≤ 900) : Goes W 119 #[v, pcv p.k p.a p.b p.t] w (l ++ wrP p) := by
  unfold rightQ at hq
  rw [Bool.and_eq_true, Bool.or_eq_true, decide_eq_true_eq, decide_eq_true_eq] at hq
  by_cases hk : p.k = 0
  · have hsz : p.t.size ≤ 60 := by
      rcases hq.2 with h | h
      · exact absurd hk h
      · exact h
    have e : wrP p = escL p.t.data.toList := by unfold wrP; rw [if_pos hk]
    rw [e, hk]
    exact pappend_lit W w v l p.a p.b p.t hf hg (by omega) hl
  · have h := hq.1
    unfold rightP at h
    rw [if_neg hk, Bool.and_eq_true, decide_eq_true_eq] at h
    obtain ⟨⟨h1, h2, h3, h4, h5, h6⟩, _⟩ := h
    have e : wrP p = 92 :: letC p.k.toNat :: cntL p.a.toNat p.b.toNat := by unfold wrP; rw [if_neg hk]
    have := pappend_run W w v l p.k.toNat p.a.toNat p.b.toNat p.t hf hg ht (by omega) (by omega) (by omega) (by omega) hl
    rw [Int.toNat_of_nonneg (by omega), Int.toNat_of_nonneg (by omega), Int.toNat_of_nonneg (by omega), ← e] at this
    exact this
theorem form_slice {w : World} {base : Nat} {v : Value} {l : List UInt8} (h : Form w base v l) : ∃ p c, v = .slice p l.length c := by
  rcases h.2 with ⟨h1, h2⟩ | ⟨g, cap, cur, h1, _⟩
  · exact ⟨none, 0, by rw [h1, h2]⟩
  · exact ⟨_, _, h1⟩
end Go.Proofs.YtaejnklgnegkhaaGreatDoor
