/- The law of the claim at the level of the call, and its row: Ma, Mb, Mc, Md, Na, RowM. -/
import Derived.Test.YtgkegbcdiadkdaaDoorBBase
import Derived.BigQuiet
import Derived.Deep.RegionHeld3
namespace Go.Proofs.YtgkegbcdiadkdaaDoor
open Go.RowKit Pt

def I64 (z : Int) : Prop := -9223372036854775808 ≤ z ∧ z ≤ 9223372036854775807
/-- A slice of numbers that came in. -/
def IntsA (w : World) (v : Value) : Prop := ∃ a n c, v = .slice a n c ∧ (n = 0 ∨ ∃ (g o : Nat) (F : Nat → Int), a = some ⟨g, o, none⟩ ∧ g < w.heap.size ∧ n ≤ 9223372036854775807 ∧ ∀ i, i < n → w.cell? ⟨g, o + i, none⟩ = some (.int .i64 (F i)) ∧ I64 (F i))
theorem IntsA.kept {w w1 : World} {v : Value} (h : IntsA w v) (hg : w.grownBy w1 none) : IntsA w1 v := by
  obtain ⟨a, n, c, rfl, h | ⟨g, o, F, rfl, hb, hn, hF⟩⟩ := h
  · exact ⟨a, n, c, rfl, .inl h⟩
  · exact ⟨_, n, c, rfl, .inr ⟨g, o, F, rfl, Nat.lt_of_lt_of_le hb hg.size, hn, fun i hi => ⟨hg.cell (hF i hi).1 (by simp), (hF i hi).2⟩⟩⟩
/-- A piece that Made may make, of so many rounds. -/
structure GoodM (q : Nat) (p : Pc) : Prop where
  k : 0 ≤ p.k ∧ p.k ≤ 7
  a : 0 ≤ p.a ∧ p.a ≤ 2
  b : p.a ≤ p.b ∧ p.b ≤ 200
  t : p.t.size ≤ 3 * q
  lit : p.k = 0 → p.a = 0 ∧ p.b = 0
  run : p.k ≠ 0 → p.t = ⟨#[]⟩ ∧ 1 ≤ p.b
theorem GoodM.more {q q' : Nat} {p : Pc} (h : GoodM q p) (hq : q ≤ q') : GoodM q' p := ⟨h.k, h.a, h.b, by have := h.t; omega, h.lit, h.run⟩
def txM : Nat → ByteArray | 0 => ⟨#[45]⟩ | 1 => ⟨#[97]⟩ | 2 => ⟨#[66, 55]⟩ | 3 => ⟨#[43]⟩ | 4 => ⟨#[92, 123]⟩ | 5 => ⟨#[32]⟩ | _ => ⟨#[120, 32, 121]⟩
theorem txM_le (e : Nat) : (txM e).size ≤ 3 := by unfold txM; split <;> decide
abbrev txL : List Value := [.string ⟨#[45]⟩, .string ⟨#[97]⟩, .string ⟨#[66, 55]⟩, .string ⟨#[43]⟩, .string ⟨#[92, 123]⟩, .string ⟨#[32]⟩, .string ⟨#[120, 32, 121]⟩]
theorem txL_get {e : Nat} (h : e < 7) : txL[e]? = some (.string (txM e)) := by
  have h7 : e = 0 ∨ e = 1 ∨ e = 2 ∨ e = 3 ∨ e = 4 ∨ e = 5 ∨ e = 6 := by omega
  rcases h7 with rfl | rfl | rfl | rfl | rfl | rfl | rfl <;> rfl
/-- The last piece of a slice that the call owns. -/
theorem PF.last {w : World} {base : Nat} {v : Value} {l : List Pc} {p : Pc} (h : PF w base v (l ++ [p])) : ∃ g cap, v = .slice (some ⟨g, 0, none⟩) (l.length + 1) cap ∧ base ≤ g ∧ (∃ cs, w.heap[g]? = some (.cells cs 31 (0, 0))) ∧ w.cell? ⟨g, l.length * 4, none⟩ = some (.int .i64 p.k) ∧ w.cell? ⟨g, l.length * 4 + 3, none⟩ = some (.string p.t) ∧ w.frozen? ⟨g, l.length * 4 + 3, none⟩ = false ∧
    ∀ t, PF (w.setCell ⟨g, l.length * 4 + 3, none⟩ (.string t)) base v (l ++ [⟨p.k, p.a, p.b, t⟩]) := by
  obtain ⟨hl, ⟨rfl, h0⟩ | ⟨g, cap, cur, rfl, hb, hg, hle, hm, hs, hx⟩⟩ := h
  · simp at h0
  · have hlen : (l ++ [p]).length = l.length + 1 := by simp
    have hx' := hx
    rw [hlen] at hx' hle
    have hget : ∀ j v, j < (l.length + 1) * 4 → (pcC (l ++ [p]))[j]? = some v → w.cell? ⟨g, j, none⟩ = some v := fun j v hj hv => by
      rw [cell_of_row w g j _ _ (0, 0) hg]
      rw [← hx', List.getElem?_take_of_lt hj, Array.getElem?_toList] at hv
      exact hv
    obtain ⟨a0, a1, a2, a3⟩ := pcC_get (l ++ [p]) l.length (by simp)
    have e : (l ++ [p])[l.length]'(by simp) = p := by simp
    rw [e] at a0 a3
    refine ⟨g, cap, by rw [hlen], hb, ⟨_, hg⟩, hget _ _ (by omega) a0, hget _ _ (by omega) a3, ?_, fun t => ?_⟩
    · simp [World.frozen?, hg]
    · refine ⟨pcC_len _, .inr ⟨g, cap, cur.setIfInBounds (l.length * 4 + 3) (.string t), by simp, hb, ?_, by simpa using hle, hm, by simpa using hs, ?_⟩⟩
      · rw [setCell_eq_setRow w g _ _ _ (0, 0) _ hg, setRow_heap w g _ _ _ (0, 0) hg]
      · rw [show (l ++ [(⟨p.k, p.a, p.b, t⟩ : Pc)]).length = l.length + 1 from by simp, Array.toList_setIfInBounds, List.take_set, hx', pcC_app, pcC_app]
        have hpl := pcC_len l
        rw [List.set_append_right _ _ (by rw [hpl]; omega), hpl, show l.length * 4 + 3 - l.length * 4 = 3 from by omega]
        rfl
end Go.Proofs.YtgkegbcdiadkdaaDoor
namespace Go.Proofs.YtgkegbcdiadkdaaDoor
open Go.RowKit Pt

theorem PF.okP {w w' : World} {base : Nat} {v : Value} {l : List Pc} (h : PF w base v l) (hg : w.grownBy w' none) : PF w' base v l := h.kept hg
theorem gr_off {W w' : World} {b : Nat} (h : W.grownBy w' (some b)) (hb : W.heap.size ≤ b) : W.grownBy w' none :=
  ⟨h.os, h.tape, h.output, h.size, fun k hk _ => h.block k hk (by simp; omega)⟩
theorem app_p0 (W wr : World) (v : Value) (l : List Pc) (p : Pc) (hf : PF wr W.heap.size v l) (hn : l.length ≤ 90000) (hg : W.grownBy wr none) :
    ∃ v' w', (Builtin.append_ #[23, 23] 23 #[v, .slice (some ⟨wr.heap.size, 0, none⟩) 1 1]).run Tryd.prog (wr.alloc (.cells #[.int .i64 p.k, .int .i64 p.a, .int .i64 p.b, .string p.t] 31)) = .ok v' w' ∧ PF w' W.heap.size v' (l ++ [p]) ∧ W.grownBy w' none ∧ OKP wr w' := by
  obtain ⟨v', w', h1, h2, h3, h4⟩ := app_p W wr W.heap.size v l p hf hn (gr_b hg _)
  exact ⟨v', w', h1, h2, gr_off h3 (Nat.le_refl _), h4⟩
theorem PF.keptX {w w1 : World} {base X : Nat} {v : Value} {l : List Pc} (h : PF w base v l) (hg : w.grownBy w1 (some X)) (hX : w.heap.size = X) : PF w1 base v l :=
  World.ownsRow.kept h hg (by
    cases hv : Value.ownBlock v with
    | none => exact .inl rfl
    | some g =>
      refine .inr (fun e => ?_)
      cases e
      obtain ⟨cs, fz, hc⟩ := own_kindP h X hv
      have := (Array.getElem?_eq_some_iff.1 hc).1
      omega)
theorem mod_le {z m : Int} (hm : 0 < m) : 0 ≤ z % m ∧ z % m < m := ⟨Int.emod_nonneg z (by omega), Int.emod_lt_of_pos z hm⟩
set_option maxRecDepth 100000 in
set_option maxHeartbeats 4000000 in
theorem made_any (w : World) (v : Value) (hv : IntsA w v) : Calls Tryd.prog 12 #[v] w fun e w' => ∃ u ps, e = .returned u ∧ Pcs w' u ps ∧ ps.length ≤ 5 ∧ (∀ p ∈ ps, GoodM 5 p) ∧ w.grownBy w' none := by
  obtain ⟨a0, n, c, rfl, hF⟩ := hv
  have HF := Lib.hid hF
  have hn : n ≤ 9223372036854775807 := by
    rcases hF with rfl | ⟨_, _, _, _, _, h, _⟩
    · omega
    · exact h
  clear hF
  go_enter Tryd.func12, Tryd.ntmps12
  go_wp2_with fail
  go_loopw [3, 4] (fun u i wr => ∃ (q : Nat) (acc : List Pc), q ≤ 5 ∧ i = .int .i64 ((3 * q : Nat) : Int) ∧ acc.length ≤ q ∧ (∀ p ∈ acc, GoodM q p) ∧ Hid (PF wr w.heap.size u acc) ∧ Hid (w.grownBy wr none)) (fun _ i _ => 16 - (intOf i).toNat)
  case atStart => exact ⟨0, [], by omega, rfl, by simp, by simp, Lib.hid (World.ownsRow_nil _ _ _ _), Lib.hid (gr_rfl w)⟩
  case round =>
    obtain ⟨q, acc, hq, rfl, hacc, hgood, HA, G0⟩ := hrel
    obtain ⟨i, hi⟩ : ∃ i, 3 * q = i := ⟨_, rfl⟩
    rw [hi]
    have HQ := Lib.hid hi
    by_cases hc : i + 2 < n ∧ i < 15
    · obtain ⟨h1, h2⟩ := hc
      have h1i : (i : Int) + 2 < (n : Int) := by omega
      have h2i : (i : Int) < 15 := by omega
      obtain ⟨g, o, F, rfl, hb, _, hFF⟩ : ∃ (g o : Nat) (F : Nat → Int), a0 = some ⟨g, o, none⟩ ∧ g < w.heap.size ∧ n ≤ 9223372036854775807 ∧ ∀ i, i < n → w.cell? ⟨g, o + i, none⟩ = some (.int .i64 (F i)) ∧ I64 (F i) := by
        rcases HF.out with h | h
        · omega
        · exact h
      have HW := Lib.hid (fun (w1 : World) (hg : w.grownBy w1 none) => And.intro (hg.cell (hFF i (by omega)).1 (by simp)) (And.intro (hg.cell (hFF (i + 1) (by omega)).1 (by simp)) (hg.cell (hFF (i + 2) (by omega)).1 (by simp))))
      obtain ⟨⟨x1, x2⟩, ⟨y1, y2⟩, ⟨z1, z2⟩⟩ := And.intro (hFF i (by omega)).2 (And.intro (hFF (i + 1) (by omega)).2 (hFF (i + 2) (by omega)).2)
      clear hFF
      generalize F i = x at *
      generalize F (i + 1) = y at *
      generalize F (i + 2) = z at *
      obtain ⟨c0, c1, c2⟩ := HW.out wr G0.out
      have M1 := Lib.hid (fun w => rmod_any x 11 w (by decide) (by decide) x1 x2)
      have M2 := Lib.hid (fun w => rmod_any y 7 w (by decide) (by decide) y1 y2)
      have M3 := Lib.hid (fun w => rmod_any y 3 w (by decide) (by decide) y1 y2)
      have M4 := Lib.hid (fun w => rmod_any z 4 w (by decide) (by decide) z1 z2)
      have M5 := Lib.hid (fun w => rmod_any z 9 w (by decide) (by decide) z1 z2)
      have hx := mod_le (z := x) (show (0 : Int) < 11 by decide)
      have hy7 := mod_le (z := y) (show (0 : Int) < 7 by decide)
      have hy3 := mod_le (z := y) (show (0 : Int) < 3 by decide)
      have hz4 := mod_le (z := z) (show (0 : Int) < 4 by decide)
      have hz9 := mod_le (z := z) (show (0 : Int) < 9 by decide)
      generalize x % 11 = k at *
      generalize y % 7 = ye at *
      generalize y % 3 = yl at *
      generalize z % 4 = zm at *
      generalize z % 9 = zn at *
      clear x1 x2 y1 y2 z1 z2
      go_wp2_with fail
      refine (M1.out _).mono ?_
      rintro e w1 ⟨rfl, rfl⟩
      by_cases hk : 6 < k
      · obtain ⟨e, rfl⟩ : ∃ e : Nat, ye = (e : Int) := ⟨ye.toNat, by omega⟩
        have he : e < 7 := by omega
        have hei : (e : Int) < 7 := by omega
        obtain ⟨wl, hwl⟩ : ∃ wl, wr.alloc (.cells #[.string ⟨#[45]⟩, .string ⟨#[97]⟩, .string ⟨#[66, 55]⟩, .string ⟨#[43]⟩, .string ⟨#[92, 123]⟩, .string ⟨#[32]⟩, .string ⟨#[120, 32, 121]⟩] 9) = wl := ⟨_, rfl⟩
        have gl : wr.grownBy wl none := by rw [← hwl]; exact gr_alloc _ _ _
        have RL := Row.new wr txL 9
        simp only [List.toArray] at RL
        rw [hwl] at RL
        have d0 := RL.cell e _ (txL_get he)
        obtain ⟨b0, b1, b2⟩ := HW.out wl (gr_then G0.out gl)
        have HA1 := Lib.hid (HA.out.kept gl)
        have G1 := Lib.hid (gr_then G0.out gl)
        have htx := txM_le e
        have HTX := Lib.hid htx
        generalize txM e = tx at *
        clear gl RL c0 c1 c2
        go_wp2_with fail
        refine (M2.out _).mono ?_
        rintro e' w2 ⟨rfl, rfl⟩
        rcases List.eq_nil_or_concat acc with rfl | ⟨acc', p, hcc⟩
        · obtain ⟨a3, c3, rfl⟩ : ∃ a3 c3, u3 = .slice a3 0 c3 := by
            rcases HA1.out.2 with ⟨h, _⟩ | ⟨_, _, _, h, _⟩
            · exact ⟨_, _, h⟩
            · exact ⟨_, _, h⟩
          obtain ⟨v5, w5, r5, f5, g5, _⟩ := app_p0 w wl (.slice a3 0 c3) [] ⟨0, 0, 0, tx⟩ HA1.out (by simp) G1.out
          have F5 := Lib.hid f5
          have G5 := Lib.hid g5
          clear f5 g5 b0 b1 b2
          simp only at r5
          go_wp2_with (at_builtin; refine wpList_call_append rfl (.tmp 63) (.tmp 66) 23 rfl _ _ rfl rfl _ _ r5 ?_)
          refine ⟨⟨q + 1, [] ++ [⟨0, 0, 0, tx⟩], by omega, by rw [show 3 * (q + 1) = i + 3 from by omega]; rfl, by simp, fun p hp => ?_, F5, G5⟩, by simp only [intOf]; omega⟩
          rcases List.mem_append.1 hp with h | h
          · exact (hgood p h).more (by omega)
          · obtain rfl := List.mem_singleton.1 h
            exact ⟨by simp, by simp, by simp, by have := HTX.out; show tx.size ≤ _; omega, fun _ => ⟨rfl, rfl⟩, fun h => absurd rfl h⟩
        · rw [List.concat_eq_append] at hcc
          subst hcc
          obtain ⟨gg, cap, rfl, hgb, ⟨cs, hcs⟩, e0, e3, ef, hset⟩ := HA1.out.last
          have hml : acc'.length < 5 := by rw [List.length_append, List.length_singleton] at hacc; omega
          have hmq : acc'.length + 1 ≤ q := by rw [List.length_append, List.length_singleton] at hacc; exact hacc
          have hgp := hgood p (by simp)
          have hall := fun x (hx : x ∈ acc') => hgood x (by simp [hx])
          have HGP := Lib.hid hgp
          obtain ⟨m, hm⟩ : ∃ m, acc'.length = m := ⟨_, rfl⟩
          rw [hm] at e0 e3 ef hset hml hmq HA1 HA ⊢
          have HM := Lib.hid hm
          have hx1 : (m : Int) + 1 - 1 = (m : Int) := by omega
          clear hacc
          by_cases hp0 : p.k = 0
          · have hkb : (p.k == 0) = true := by rw [hp0]; rfl
            have hst := Lib.hid (hset (p.t ++ tx))
            have hbnd : (p.t ++ tx).size ≤ 1000 := by rw [ByteArray.size_append]; have := hgp.t; omega
            have G2 := Lib.hid (gr_setn (i := m * 4 + 3) (v := .string (p.t ++ tx)) G1.out hgb)
            have htl : ¬ (9223372036854775807 : Int) < (p.t.size : Int) + (tx.size : Int) := by have := hgp.t; omega
            have htn : ¬ 9223372036854775807 < p.t.size + tx.size := by have := hgp.t; omega
            clear b0 b1 b2 hset hcs hgood
            go_wp2
            refine ⟨⟨q + 1, acc' ++ [⟨p.k, p.a, p.b, p.t ++ tx⟩], by omega, by rw [show 3 * (q + 1) = i + 3 from by omega]; rfl, by rw [List.length_append, List.length_singleton]; have := HM.out; omega, fun x hx => ?_, hst, G2⟩, by simp only [intOf]; omega⟩
            rcases List.mem_append.1 hx with h | h
            · exact (hall x h).more (by omega)
            · obtain rfl := List.mem_singleton.1 h
              have hg1 := HGP.out
              exact ⟨hg1.k, hg1.a, hg1.b, by show (p.t ++ tx).size ≤ _; rw [ByteArray.size_append]; have := hg1.t; have := HTX.out; omega, hg1.lit, fun h => absurd hp0 h⟩
          · have hkb : (p.k == 0) = false := by rw [beq_eq_false_iff_ne]; exact hp0
            clear hset hcs
            obtain ⟨v5, w5, r5, f5, g5, _⟩ := app_p0 w wl (.slice (some ⟨gg, 0, none⟩) (m + 1) cap) (acc' ++ [p]) ⟨0, 0, 0, tx⟩ HA1.out (by (rw [List.length_append, List.length_singleton]; have := HM.out; omega)) G1.out
            have F5 := Lib.hid f5
            have G5 := Lib.hid g5
            clear f5 g5 b0 b1 b2
            simp only at r5
            go_wp2_with (at_builtin; refine wpList_call_append rfl (.tmp 63) (.tmp 66) 23 rfl _ _ rfl rfl _ _ r5 ?_)
            refine ⟨⟨q + 1, (acc' ++ [p]) ++ [⟨0, 0, 0, tx⟩], by omega, by rw [show 3 * (q + 1) = i + 3 from by omega]; rfl, by (rw [List.length_append, List.length_append, List.length_singleton, List.length_singleton]; have := HM.out; omega), fun p hp => ?_, F5, G5⟩, by simp only [intOf]; omega⟩
            rcases List.mem_append.1 hp with h | h
            · exact (hgood p h).more (by omega)
            · obtain rfl := List.mem_singleton.1 h
              exact ⟨by simp, by simp, by simp, by have := HTX.out; show tx.size ≤ _; omega, fun _ => ⟨rfl, rfl⟩, fun h => absurd rfl h⟩
      · have hk6 : k ≤ 6 := by omega
        obtain ⟨X, hX⟩ : ∃ X, wr.heap.size = X := ⟨_, rfl⟩
        obtain ⟨wx, hwx⟩ : ∃ wx, wr.alloc (.cells #[.int .i64 (k + 1), .int .i64 yl, .int .i64 0, .string ⟨#[]⟩] 31) = wx := ⟨_, rfl⟩
        have gx : wr.grownBy wx none := by rw [← hwx]; exact gr_alloc _ _ _
        have R0 := Row.new wr [.int .i64 (k + 1), .int .i64 yl, .int .i64 0, .string ⟨#[]⟩] 31
        simp only [List.toArray] at R0
        rw [hwx, hX] at R0
        have HGX := Lib.hid gx
        have G1 := Lib.hid (gr_then G0.out gx)
        have HXL := Lib.hid (show w.heap.size ≤ X by have := G0.out.size; omega)
        have hXo : X ≠ g := by have := HXL.out; omega
        obtain ⟨b0, b1, b2⟩ := HW.out wx G1.out
        have d1 := R0.cell 1 _ rfl
        have d2 := R0.cell 2 _ rfl
        have f2 := R0.fr 2
        have HR0 := Lib.hid R0
        have HWX := Lib.hid hwx
        have HXX := Lib.hid hX
        clear gx R0 hwx
        go_wp2_with fail
        refine (M3.out _).mono ?_
        rintro e' w2 ⟨rfl, rfl⟩
        go_wp2_with fail
        rw [HWX.out]
        clear c0 c1 c2
        obtain ⟨q1, q2⟩ := hy3
        obtain ⟨q3, q4⟩ := hz4
        have q5 : IntKind.i64.wrap (yl + zm) = yl + zm := IntWalk.i64_in _ (by omega)
        have q6 : IntKind.i64.wrap ((i : Int) + 2) = (i : Int) + 2 := IntWalk.i64_in _ (by omega)
        go_region_with (go_at_call 20; refine (M4.out _).mono ?_; rintro e' w2 ⟨rfl, rfl⟩)
        all_goals (
          obtain ⟨wy, hwy⟩ : ∃ wy, (wx.setCell ⟨X, 2, none⟩ (.int .i64 (yl + zm))).drew = wy := ⟨_, rfl⟩
          have RY : Row wy X [.int .i64 (k + 1), .int .i64 yl, .int .i64 (yl + zm), .string ⟨#[]⟩] 31 := by rw [← hwy]; exact (HR0.out.set 2 _).dr
          have GY : wr.grownBy wy (some X) := by rw [← hwy]; exact gr_trans (gr_trans (gr_b HGX.out X) (gr_set wx X 2 (.int .i64 (yl + zm))) (.inr rfl) (.inr (.inl rfl))) (gr_drewN _ 1 none) (.inr rfl) (.inl rfl)
          have e2 : wy.cell? ⟨g, o + (i + 2), none⟩ = some (.int .i64 z) := GY.cell (HW.out wr G0.out).2.2 (by simp; omega)
          rw [hwy]
          have t0 := RY.cell 0 _ rfl
          have t1 := RY.cell 1 _ rfl
          have t2 := RY.cell 2 _ rfl
          have t3 := RY.cell 3 _ rfl
          have u1 := RY.fr 1
          have u2 := RY.fr 2
          have HRY := Lib.hid RY
          have HGY := Lib.hid GY
          clear hwy RY GY b0 b1 b2 d1 d2 f2
          go_wp2_with fail
          refine (M5.out _).mono ?_
          rintro e' w2 ⟨rfl, rfl⟩
          by_cases h7 : zn = 7
          · have hb7 : (zn == 7) = true := by rw [h7]; rfl
            clear h7
            have RZ := HRY.out.set 2 (.int .i64 200)
            obtain ⟨wz, hwz⟩ : ∃ wz, wy.setCell ⟨X, 2, none⟩ (.int .i64 200) = wz := ⟨_, rfl⟩
            rw [hwz] at RZ
            have GZ : wr.grownBy wz (some X) := by rw [← hwz]; exact gr_trans HGY.out (gr_set _ _ _ _) (.inr rfl) (.inr (.inl rfl))
            have HWZ := Lib.hid hwz
            obtain ⟨v5, w5, r5, f5, g5, _⟩ := app_p0 w wz u3 acc ⟨k + 1, yl, 200, ⟨#[]⟩⟩ (HA.out.keptX GZ HXX.out) (by omega) (gr_new G0.out GZ HXL.out)
            have F5 := Lib.hid f5
            have G5 := Lib.hid g5
            have t0 := RZ.cell 0 _ rfl
            have t1 := RZ.cell 1 _ rfl
            have t2 := RZ.cell 2 _ rfl
            have t3 := RZ.cell 3 _ rfl
            clear f5 g5 GZ RZ
            simp only at r5
            go_wp2_with (at_builtin; refine wpList_call_append rfl (.tmp 104) (.tmp 106) 23 rfl _ _ rfl rfl _ _ r5 ?_)
            refine ⟨⟨q + 1, acc ++ [⟨k + 1, yl, 200, ⟨#[]⟩⟩], by omega, by rw [show 3 * (q + 1) = i + 3 from by omega]; rfl, by rw [List.length_append, List.length_singleton]; omega, fun x hx => ?_, F5, G5⟩, by simp only [intOf]; omega⟩
            rcases List.mem_append.1 hx with h | h
            · exact (hgood x h).more (by omega)
            · obtain rfl := List.mem_singleton.1 h
              exact ⟨⟨show 0 ≤ k + 1 by omega, show k + 1 ≤ 7 by omega⟩, ⟨show 0 ≤ yl by omega, show yl ≤ 2 by omega⟩, ⟨show yl ≤ 200 by omega, show 200 ≤ 200 by omega⟩, Nat.zero_le _, fun h => absurd h (show k + 1 ≠ 0 by omega), fun _ => ⟨rfl, show 1 ≤ 200 by omega⟩⟩
          · by_cases h8 : zn = 8
            · have hb7 : (zn == 7) = false := by rw [h8]; rfl
              have hb8 : (zn == 8) = true := by rw [h8]; rfl
              clear h7 h8
              have RI := HRY.out.set 1 (.int .i64 1)
              obtain ⟨wi, hwi⟩ : ∃ wi, wy.setCell ⟨X, 1, none⟩ (.int .i64 1) = wi := ⟨_, rfl⟩
              rw [hwi] at RI
              have HGI := Lib.hid (show wr.grownBy wi (some X) from by rw [← hwi]; exact gr_trans HGY.out (gr_set _ _ _ _) (.inr rfl) (.inr (.inl rfl)))
              have i2 := RI.cell 2 _ rfl
              have fi2 := RI.fr 2
              have HRI := Lib.hid RI
              clear RI
              have RZ := HRI.out.set 2 (.int .i64 1)
              obtain ⟨wz, hwz⟩ : ∃ wz, wi.setCell ⟨X, 2, none⟩ (.int .i64 1) = wz := ⟨_, rfl⟩
              rw [hwz] at RZ
              have GZ : wr.grownBy wz (some X) := by rw [← hwz]; exact gr_trans HGI.out (gr_set _ _ _ _) (.inr rfl) (.inr (.inl rfl))
              have HWZ := Lib.hid hwz
              obtain ⟨v5, w5, r5, f5, g5, _⟩ := app_p0 w wz u3 acc ⟨k + 1, 1, 1, ⟨#[]⟩⟩ (HA.out.keptX GZ HXX.out) (by omega) (gr_new G0.out GZ HXL.out)
              have F5 := Lib.hid f5
              have G5 := Lib.hid g5
              have t0 := RZ.cell 0 _ rfl
              have t1 := RZ.cell 1 _ rfl
              have t2 := RZ.cell 2 _ rfl
              have t3 := RZ.cell 3 _ rfl
              clear f5 g5 GZ RZ
              simp only at r5
              go_wp2_with (at_builtin; refine wpList_call_append rfl (.tmp 104) (.tmp 106) 23 rfl _ _ rfl rfl _ _ r5 ?_)
              refine ⟨⟨q + 1, acc ++ [⟨k + 1, 1, 1, ⟨#[]⟩⟩], by omega, by rw [show 3 * (q + 1) = i + 3 from by omega]; rfl, by rw [List.length_append, List.length_singleton]; omega, fun x hx => ?_, F5, G5⟩, by simp only [intOf]; omega⟩
              rcases List.mem_append.1 hx with h | h
              · exact (hgood x h).more (by omega)
              · obtain rfl := List.mem_singleton.1 h
                exact ⟨⟨show 0 ≤ k + 1 by omega, show k + 1 ≤ 7 by omega⟩, ⟨show 0 ≤ 1 by omega, show 1 ≤ 2 by omega⟩, ⟨show 1 ≤ 1 by omega, show 1 ≤ 200 by omega⟩, Nat.zero_le _, fun h => absurd h (show k + 1 ≠ 0 by omega), fun _ => ⟨rfl, show 1 ≤ 1 by omega⟩⟩
            · by_cases h0 : yl + zm = 0
              · have hb7 : (zn == 7) = false := by rw [beq_eq_false_iff_ne]; exact h7
                have hb8 : (zn == 8) = false := by rw [beq_eq_false_iff_ne]; exact h8
                have hb0 : (yl + zm == 0) = true := by rw [h0]; rfl
                clear h7 h8
                have RZ := HRY.out.set 2 (.int .i64 1)
                obtain ⟨wz, hwz⟩ : ∃ wz, wy.setCell ⟨X, 2, none⟩ (.int .i64 1) = wz := ⟨_, rfl⟩
                rw [hwz] at RZ
                have GZ : wr.grownBy wz (some X) := by rw [← hwz]; exact gr_trans HGY.out (gr_set _ _ _ _) (.inr rfl) (.inr (.inl rfl))
                have HWZ := Lib.hid hwz
                obtain ⟨v5, w5, r5, f5, g5, _⟩ := app_p0 w wz u3 acc ⟨k + 1, yl, 1, ⟨#[]⟩⟩ (HA.out.keptX GZ HXX.out) (by omega) (gr_new G0.out GZ HXL.out)
                have F5 := Lib.hid f5
                have G5 := Lib.hid g5
                have t0 := RZ.cell 0 _ rfl
                have t1 := RZ.cell 1 _ rfl
                have t2 := RZ.cell 2 _ rfl
                have t3 := RZ.cell 3 _ rfl
                clear f5 g5 GZ RZ
                simp only at r5
                go_wp2_with (at_builtin; refine wpList_call_append rfl (.tmp 104) (.tmp 106) 23 rfl _ _ rfl rfl _ _ r5 ?_)
                refine ⟨⟨q + 1, acc ++ [⟨k + 1, yl, 1, ⟨#[]⟩⟩], by omega, by rw [show 3 * (q + 1) = i + 3 from by omega]; rfl, by rw [List.length_append, List.length_singleton]; omega, fun x hx => ?_, F5, G5⟩, by simp only [intOf]; omega⟩
                rcases List.mem_append.1 hx with h | h
                · exact (hgood x h).more (by omega)
                · obtain rfl := List.mem_singleton.1 h
                  exact ⟨⟨show 0 ≤ k + 1 by omega, show k + 1 ≤ 7 by omega⟩, ⟨show 0 ≤ yl by omega, show yl ≤ 2 by omega⟩, ⟨show yl ≤ 1 by omega, show 1 ≤ 200 by omega⟩, Nat.zero_le _, fun h => absurd h (show k + 1 ≠ 0 by omega), fun _ => ⟨rfl, show 1 ≤ 1 by omega⟩⟩
              · have hb7 : (zn == 7) = false := by rw [beq_eq_false_iff_ne]; exact h7
                have hb8 : (zn == 8) = false := by rw [beq_eq_false_iff_ne]; exact h8
                have hb0 : (yl + zm == 0) = false := by rw [beq_eq_false_iff_ne]; exact h0
                clear h7 h8
                obtain ⟨v5, w5, r5, f5, g5, _⟩ := app_p0 w wy u3 acc ⟨k + 1, yl, yl + zm, ⟨#[]⟩⟩ (HA.out.keptX HGY.out HXX.out) (by omega) (gr_new G0.out HGY.out HXL.out)
                have F5 := Lib.hid f5
                have G5 := Lib.hid g5
                clear f5 g5
                simp only at r5
                go_wp2_with (at_builtin; refine wpList_call_append rfl (.tmp 104) (.tmp 106) 23 rfl _ _ rfl rfl _ _ r5 ?_)
                refine ⟨⟨q + 1, acc ++ [⟨k + 1, yl, yl + zm, ⟨#[]⟩⟩], by omega, by rw [show 3 * (q + 1) = i + 3 from by omega]; rfl, by rw [List.length_append, List.length_singleton]; omega, fun x hx => ?_, F5, G5⟩, by simp only [intOf]; omega⟩
                rcases List.mem_append.1 hx with h | h
                · exact (hgood x h).more (by omega)
                · obtain rfl := List.mem_singleton.1 h
                  exact ⟨⟨show 0 ≤ k + 1 by omega, show k + 1 ≤ 7 by omega⟩, ⟨show 0 ≤ yl by omega, show yl ≤ 2 by omega⟩, ⟨show yl ≤ (yl + zm) by omega, show (yl + zm) ≤ 200 by omega⟩, Nat.zero_le _, fun h => absurd h (show k + 1 ≠ 0 by omega), fun _ => ⟨rfl, show 1 ≤ (yl + zm) by omega⟩⟩)
    · obtain ⟨a3, n3, c3, rfl⟩ : ∃ a3 n3 c3, u3 = .slice a3 n3 c3 := by
        rcases HA.out.2 with ⟨h, _⟩ | ⟨_, _, _, h, _⟩
        · exact ⟨_, _, _, h⟩
        · exact ⟨_, _, _, h⟩
      have hfin := fun p (hp : p ∈ acc) => (hgood p hp).more hq
      by_cases h1 : i + 2 < n
      · have h1i : (i : Int) + 2 < (n : Int) := by omega
        have h2i : decide ((i : Int) < 15) = false := decide_eq_false (by omega)
        have h2n : decide (i < 15) = false := decide_eq_false (by omega)
        clear hc hi
        go_wp2
        go_ret
        first | exact ⟨_, acc, rfl, HA.out.pcs, by omega, hfin, G0.out⟩ | exact ⟨_, rfl, acc, HA.out.pcs, by omega, hfin, G0.out⟩
      · have h1i : ¬ (i : Int) + 2 < (n : Int) := by omega
        have hi15 : (i : Int) ≤ 15 := by omega
        clear hc hi h1
        go_wp2
        go_ret
        first | exact ⟨_, acc, rfl, HA.out.pcs, by omega, hfin, G0.out⟩ | exact ⟨_, rfl, acc, HA.out.pcs, by omega, hfin, G0.out⟩
end Go.Proofs.YtgkegbcdiadkdaaDoor
namespace Go.Proofs.YtgkegbcdiadkdaaDoor
open Go.RowKit Pt

theorem u8_nat {n : Nat} (h : n < 256) : (UInt8.ofNat n).toNat = n := UInt8.toNat_ofNat_of_lt' (show n < UInt8.size from h)
/-- The digits of a number below 1000. -/
def dg (n : Nat) : List UInt8 := if n < 10 then [UInt8.ofNat (48 + n)] else if n < 100 then [UInt8.ofNat (48 + n / 10), UInt8.ofNat (48 + n % 10)] else [UInt8.ofNat (48 + n / 10 / 10), UInt8.ofNat (48 + n / 10 % 10), UInt8.ofNat (48 + n % 10)]
theorem dec_dg {n : Nat} (h : n < 1000) : Lib.decDigits n = dg n := by
  unfold dg
  by_cases h1 : n < 10
  · rw [if_pos h1, dec_one h1]
  · rw [if_neg h1, dec_big (by omega)]
    by_cases h2 : n < 100
    · rw [if_pos h2, dec_one (by omega)]; rfl
    · rw [if_neg h2, dec_big (by omega), dec_one (by omega)]; rfl
theorem digs_dig {d n : Nat} (h : d < 10) (l : List UInt8) : digs n (UInt8.ofNat (48 + d) :: l) = digs (min (10 * n + d) 201) l := by
  have hu := u8_nat (n := 48 + d) (by omega)
  rw [digs_yes (show clsD (nx (UInt8.ofNat (48 + d) :: l)) = 1 from one_cls (by show 48 ≤ (UInt8.ofNat (48 + d)).toNat ∧ _; rw [hu]; show 48 ≤ 48 + d ∧ (UInt8.ofNat (48 + d)).toNat ≤ 57; rw [hu]; omega))]
  show digs (min (10 * n + ((UInt8.ofNat (48 + d)).toNat - 48)) 201) l = _
  rw [hu, show 48 + d - 48 = d from by omega]
theorem num_dg {n : Nat} (h : n ≤ 200) {l : List UInt8} (hl : clsD (nx l) ≠ 1) : numL (dg n ++ l) = .ok n l := by
  have key : ∀ (d : Nat) (r : List UInt8), d < 10 → numL (UInt8.ofNat (48 + d) :: r) = if d = 0 then .ok 0 r else .ok (digs d r).1 (digs d r).2 := by
    intro d r hd
    have hu := u8_nat (n := 48 + d) (by omega)
    have hn : nx (UInt8.ofNat (48 + d) :: r) = 48 + d := hu
    unfold numL
    rw [hn, if_neg (by rw [one_cls (by omega)]; simp)]
    by_cases h0 : d = 0
    · rw [if_pos (by omega), if_pos h0]; rfl
    · rw [if_neg (by omega), if_neg h0, show 48 + d - 48 = d from by omega]; rfl
  unfold dg
  by_cases h1 : n < 10
  · rw [if_pos h1, List.singleton_append, key n _ h1]
    by_cases h0 : n = 0
    · rw [if_pos h0, h0]
    · rw [if_neg h0, digs_no hl]
  · rw [if_neg h1]
    by_cases h2 : n < 100
    · rw [if_pos h2]
      show numL (UInt8.ofNat (48 + n / 10) :: UInt8.ofNat (48 + n % 10) :: l) = _
      rw [key _ _ (by omega), if_neg (by omega), digs_dig (by omega), digs_no hl, show min (10 * (n / 10) + n % 10) 201 = n from by omega]
    · rw [if_neg h2]
      show numL (UInt8.ofNat (48 + n / 10 / 10) :: UInt8.ofNat (48 + n / 10 % 10) :: UInt8.ofNat (48 + n % 10) :: l) = _
      rw [key _ _ (by omega), if_neg (by omega), digs_dig (by omega), digs_dig (by omega), digs_no hl, show min (10 * min (10 * (n / 10 / 10) + n / 10 % 10) 201 + n % 10) 201 = n from by omega]
/-- A count is read again. -/
theorem cnum_cnt {a b : Nat} {l : List UInt8} (hab : a ≤ b) (hb : b ≤ 200) (hb1 : 1 ≤ b) (h1 : nx l ≠ 43) (h2 : nx l ≠ 42) (h3 : nx l ≠ 123) : cnumL (cntL a b ++ l) = .ok (a, b) l := by
  unfold cntL
  by_cases c1 : a = 1 ∧ b = 1
  · rw [if_pos c1, List.nil_append, c1.1, c1.2]
    unfold cnumL
    rw [if_neg h1, if_neg h2, if_pos h3]
  rw [if_neg c1]
  by_cases c2 : a = 1 ∧ b = 200
  · rw [if_pos c2, c2.1, c2.2]; rfl
  rw [if_neg c2]
  by_cases c3 : a = 0 ∧ b = 200
  · rw [if_pos c3, c3.1, c3.2]; rfl
  rw [if_neg c3]
  have hbr : ∀ r : List UInt8, cnumL (123 :: r) = match numL r with
      | .bad r k => .bad r k
      | .ok a l1 => match sndL a l1 with
        | .bad r k => .bad r k
        | .ok b l2 => if nx l2 ≠ 125 then .bad l2.length 12 else if b < a ∨ b = 0 ∨ 200 < b then .bad (r.length + 1) 3 else .ok (a, b) l2.tail := fun r => rfl
  by_cases c4 : a = b
  · rw [if_pos c4, dec_dg (by omega)]
    show cnumL (123 :: ((dg a ++ [125]) ++ l)) = _
    rw [hbr, List.append_assoc, num_dg (by omega) (l := [125] ++ l) (by show clsD 125 ≠ 1; decide)]
    show (if (125 : Nat) ≠ 125 then _ else if a < a ∨ a = 0 ∨ 200 < a then _ else PR.ok (a, a) l) = _
    rw [if_neg (by simp), if_neg (by omega), c4]
  · rw [if_neg c4, dec_dg (by omega), dec_dg (by omega)]
    show cnumL (123 :: ((dg a ++ 44 :: (dg b ++ [125])) ++ l)) = _
    rw [hbr, List.append_assoc, num_dg (by omega) (l := (44 :: (dg b ++ [125])) ++ l) (by show clsD 44 ≠ 1; decide)]
    have hs : sndL a ((44 :: (dg b ++ [125])) ++ l) = .ok b ([125] ++ l) := by
      show numL ((dg b ++ [125]) ++ l) = _
      rw [List.append_assoc, num_dg hb (l := [125] ++ l) (by show clsD 125 ≠ 1; decide)]
    show (match sndL a ((44 :: (dg b ++ [125])) ++ l) with | .bad r k => PR.bad r k | .ok b l2 => _) = _
    rw [hs]
    show (if (125 : Nat) ≠ 125 then _ else if b < a ∨ b = 0 ∨ 200 < b then _ else PR.ok (a, b) l) = _
    rw [if_neg (by simp), if_neg (by omega)]
end Go.Proofs.YtgkegbcdiadkdaaDoor
namespace Go.Proofs.YtgkegbcdiadkdaaDoor
open Go.RowKit Pt

theorem nx_cons (c : UInt8) (l : List UInt8) : nx (c :: l) = c.toNat := rfl
theorem u8_back (c : UInt8) : UInt8.ofNat c.toNat = c := UInt8.ofNat_toNat
theorem spec_cls {c : Nat} (h : specD c = true) : clsD c ≠ 0 ∧ letD c = 0 := by
  unfold specD at h
  have h5 : c = 92 ∨ c = 123 ∨ c = 125 ∨ c = 43 ∨ c = 42 := by
    simp only [Bool.or_eq_true, beq_iff_eq] at h
    omega
  rcases h5 with rfl | rfl | rfl | rfl | rfl <;> decide
theorem bel7 {c : Nat} (h : belD c 7 = true) : clsD c ≠ 0 := by
  unfold belD at h
  rw [Bool.and_eq_true, decide_eq_true_eq] at h
  exact h.1
/-- A character of a literal is read. -/
theorem chr_esc {c : UInt8} (h : belD c.toNat 7 = true) (l : List UInt8) : 0 < ((if specD c.toNat then [92, c] else [c]) ++ l).length ∧ corL ((if specD c.toNat then [92, c] else [c]) ++ l) = 0 ∧ chrL ((if specD c.toNat then [92, c] else [c]) ++ l) = .ok c.toNat l := by
  cases hs : specD c.toNat with
  | true =>
    have hc := spec_cls hs
    show 0 < (92 :: c :: l).length ∧ corL (92 :: c :: l) = 0 ∧ chrL (92 :: c :: l) = .ok c.toNat l
    refine ⟨by simp, ?_, ?_⟩
    · unfold corL
      split
      · exact hc.2
      · rfl
    · unfold chrL
      show (if clsD (nx (if decide (nx (92 :: c :: l) = 92) = true then (c :: l) else 92 :: c :: l)) = 0 ∨ specD (nx (if decide (nx (92 :: c :: l) = 92) = true then (c :: l) else 92 :: c :: l)) ≠ decide (nx (92 :: c :: l) = 92) then _ else _) = _
      have h92 : decide (nx (92 :: c :: l) = 92) = true := rfl
      rw [h92, if_pos rfl, if_neg (by rw [nx_cons]; rintro (h1 | h1); exact hc.1 h1; exact h1 hs)]
      simp only [if_true]
      rfl
  | false =>
    have hn : c.toNat ≠ 92 := fun e => by rw [e] at hs; exact absurd hs (by decide)
    show 0 < (c :: l).length ∧ corL (c :: l) = 0 ∧ chrL (c :: l) = .ok c.toNat l
    refine ⟨by simp, ?_, ?_⟩
    · unfold corL
      rw [if_neg (fun hh => hn hh.2)]
    · unfold chrL
      have h92 : decide (nx (c :: l) = 92) = false := decide_eq_false hn
      simp only [h92]
      rw [if_neg (by simp only [Bool.false_eq_true, if_false]; rw [nx_cons, hs]; rintro (h1 | h1); exact bel7 h h1; exact h1 rfl)]
      rfl
/-- A literal is read up to what does not belong to it. -/
theorem lit_esc : ∀ (t : List UInt8) (l : List UInt8), allD t 7 = true → lit l = .ok [] l → lit (escL t ++ l) = .ok t l
  | [], l, _, h => h
  | c :: t, l, ht, h => by
    have hc : belD c.toNat 7 = true ∧ allD t 7 = true := by
      unfold allD at ht ⊢
      rw [List.all_cons, Bool.and_eq_true] at ht
      exact ht
    have e : escL (c :: t) ++ l = (if specD c.toNat then [92, c] else [c]) ++ (escL t ++ l) := by
      show ((if specD c.toNat then [92, c] else [c]) ++ escL t) ++ l = _
      rw [List.append_assoc]
    obtain ⟨h0, h1, h2⟩ := chr_esc hc.1 (escL t ++ l)
    rw [e, lit_ok h0 h1 h2, lit_esc t l hc.2 h, u8_back]
    rfl
theorem let_letC {k : Nat} (h1 : 1 ≤ k) (h7 : k ≤ 7) : letD (letC k).toNat = k := by
  have h : ∀ d : Fin 7, letD (letC (d.1 + 1)).toNat = d.1 + 1 := by decide
  have := h ⟨k - 1, by omega⟩
  rwa [show k - 1 + 1 = k from by omega] at this
/-- What the written form of pieces begins with. -/
theorem wr_head {ps : List Pc} (hr : ∀ p ∈ ps, rightP p.k p.a p.b p.t = true) : nx (wrL ps) ≠ 43 ∧ nx (wrL ps) ≠ 42 ∧ nx (wrL ps) ≠ 123 := by
  cases ps with
  | nil => decide
  | cons p ps =>
    have hp := hr p (by simp)
    show nx (wrP p ++ wrL ps) ≠ 43 ∧ nx (wrP p ++ wrL ps) ≠ 42 ∧ nx (wrP p ++ wrL ps) ≠ 123
    unfold wrP
    by_cases hk : p.k = 0
    · rw [if_pos hk]
      unfold rightP at hp
      rw [if_pos hk] at hp
      simp only [Bool.and_eq_true, decide_eq_true_eq] at hp
      cases ht : p.t.data.toList with
      | nil => have := len_toList p.t; rw [ht] at this; simp at this; omega
      | cons c t =>
        have e : escL (c :: t) = (if specD c.toNat then [92, c] else [c]) ++ escL t := rfl
        rw [e]
        cases hs : specD c.toNat with
        | true => show nx (92 :: _) ≠ 43 ∧ _; refine ⟨?_, ?_, ?_⟩ <;> (show (92 : Nat) ≠ _; decide)
        | false =>
          show c.toNat ≠ 43 ∧ c.toNat ≠ 42 ∧ c.toNat ≠ 123
          refine ⟨?_, ?_, ?_⟩ <;> (intro e; rw [e] at hs; exact absurd hs (by decide))
    · rw [if_neg hk]
      refine ⟨?_, ?_, ?_⟩ <;> (show (92 : Nat) ≠ _; decide)
/-- A run is read. -/
theorem piece_run {p : Pc} {l : List UInt8} (hk : p.k ≠ 0) (hr : rightP p.k p.a p.b p.t = true) (h1 : nx l ≠ 43) (h2 : nx l ≠ 42) (h3 : nx l ≠ 123) : pieceL (wrP p ++ l) = .ok p l := by
  unfold rightP at hr
  rw [if_neg hk] at hr
  simp only [Bool.and_eq_true, decide_eq_true_eq] at hr
  obtain ⟨⟨k1, k7, a0, ab, b1, b2⟩, ht⟩ := hr
  have e : wrP p ++ l = 92 :: letC p.k.toNat :: (cntL p.a.toNat p.b.toNat ++ l) := by unfold wrP; rw [if_neg hk]; rfl
  have hc : corL (wrP p ++ l) = p.k.toNat := by
    rw [e]
    unfold corL
    rw [if_pos ⟨by simp, rfl⟩]
    exact let_letC (by omega) (by omega)
  unfold pieceL
  rw [hc, if_neg (by omega), e]
  show (match cnumL (cntL p.a.toNat p.b.toNat ++ l) with | .bad r k => PR.bad r k | .ok x l' => PR.ok (⟨(p.k.toNat : Int), (x.1 : Int), (x.2 : Int), ⟨#[]⟩⟩ : Pc) l') = _
  rw [cnum_cnt (by omega) (by omega) (by omega) h1 h2 h3]
  show PR.ok (⟨(p.k.toNat : Int), (p.a.toNat : Int), (p.b.toNat : Int), ⟨#[]⟩⟩ : Pc) l = _
  rw [Int.toNat_of_nonneg (by omega), Int.toNat_of_nonneg a0, Int.toNat_of_nonneg (by omega)]
  have : p.t = ⟨#[]⟩ := by
    obtain ⟨k, a, b, ⟨⟨t⟩⟩⟩ := p
    have h0 : t.length = 0 := ht
    rw [List.eq_nil_of_length_eq_zero h0]
  rw [← this]
theorem piece_lit {p : Pc} {l : List UInt8} (hk : p.k = 0) (hr : rightP p.k p.a p.b p.t = true) (hl : lit l = .ok [] l) : pieceL (wrP p ++ l) = .ok p l := by
  unfold rightP at hr
  rw [if_pos hk] at hr
  simp only [Bool.and_eq_true, decide_eq_true_eq] at hr
  obtain ⟨⟨⟨a0, b0⟩, t0⟩, ht⟩ := hr
  have e : wrP p ++ l = escL p.t.data.toList ++ l := by unfold wrP; rw [if_pos hk]
  have hcor : corL (escL p.t.data.toList ++ l) = 0 := by
    cases h : p.t.data.toList with
    | nil => have := len_toList p.t; rw [h] at this; simp at this; omega
    | cons c t =>
      rw [h] at ht
      have hc : belD c.toNat 7 = true := by unfold allD at ht; rw [List.all_cons, Bool.and_eq_true] at ht; exact ht.1
      have := (chr_esc hc (escL t ++ l)).2.1
      rw [← List.append_assoc] at this
      exact this
  rw [e]
  unfold pieceL
  rw [if_pos hcor, show litL (escL p.t.data.toList ++ l).length (escL p.t.data.toList ++ l) = lit (escL p.t.data.toList ++ l) from rfl, lit_esc _ _ ht hl]
  show PR.ok (⟨0, 0, 0, ⟨p.t.data.toList.toArray⟩⟩ : Pc) l = PR.ok p l
  rw [toArray_eq p.t rfl, ← hk]
  congr 1
  obtain ⟨k, a, b, t⟩ := p
  simp only at hk a0 b0 ⊢
  rw [hk, a0, b0]
/-- No two literals stand side by side. -/
def apartL : List Pc → Bool
  | [] => true
  | [_] => true
  | p :: q :: ps => !(decide (p.k = 0) && decide (q.k = 0)) && apartL (q :: ps)
theorem apart_of : ∀ (ps : List Pc), (∀ i, i < ps.length → twoLit ps i = false) → apartL ps = true
  | [], _ => rfl
  | [_], _ => rfl
  | p :: q :: ps, h => by
    have h1 := h 1 (by simp)
    rw [two_succ (by simp)] at h1
    have h2 := apart_of (q :: ps) fun i hi => by
      cases i with
      | zero => exact two_zero _
      | succ m =>
        have := h (m + 2) (by simpa using hi)
        rw [two_succ (by simpa using hi)] at this
        rw [two_succ (by simpa using hi)]
        simpa using this
    show (!(decide (p.k = 0) && decide (q.k = 0)) && apartL (q :: ps)) = true
    rw [h2]
    have h1' : (decide (q.k = 0) && decide (p.k = 0)) = false := h1
    rw [Bool.and_comm] at h1'
    rw [h1']; rfl
theorem lit_wr {q : Pc} {ps : List Pc} (hk : q.k ≠ 0) (hr : rightP q.k q.a q.b q.t = true) : lit (wrL (q :: ps)) = .ok [] (wrL (q :: ps)) := by
  refine lit_end fun hh => ?_
  have h2 := hh.2
  unfold rightP at hr
  rw [if_neg hk] at hr
  simp only [Bool.and_eq_true, decide_eq_true_eq] at hr
  have e : wrL (q :: ps) = 92 :: letC q.k.toNat :: (cntL q.a.toNat q.b.toNat ++ wrL ps) := by
    show wrP q ++ wrL ps = _
    unfold wrP; rw [if_neg hk]; rfl
  rw [e] at h2
  unfold corL at h2
  rw [if_pos ⟨by simp, rfl⟩] at h2
  have h3 : letD (letC q.k.toNat).toNat = 0 := h2
  rw [let_letC (by omega) (by omega)] at h3
  omega
theorem pcs_wr : ∀ (ps : List Pc), (∀ p ∈ ps, rightP p.k p.a p.b p.t = true) → apartL ps = true → pcsR (wrL ps) = .ok ps []
  | [], _, _ => rfl
  | p :: ps, hr, hap => by
    have hp := hr p (by simp)
    have hps := fun q hq => hr q (List.mem_cons_of_mem p hq)
    have hap2 : apartL ps = true := by
      cases ps with
      | nil => rfl
      | cons q ps => have h : (!(decide (p.k = 0) && decide (q.k = 0)) && apartL (q :: ps)) = true := hap; rw [Bool.and_eq_true] at h; exact h.2
    have ih := pcs_wr ps hps hap2
    have e : wrL (p :: ps) = wrP p ++ wrL ps := rfl
    have hpc : pieceL (wrP p ++ wrL ps) = .ok p (wrL ps) := by
      by_cases hk : p.k = 0
      · refine piece_lit hk hp ?_
        cases ps with
        | nil => rfl
        | cons q ps =>
          have h : (!(decide (p.k = 0) && decide (q.k = 0)) && apartL (q :: ps)) = true := hap
          rw [Bool.and_eq_true, decide_eq_true hk] at h
          exact lit_wr (by simpa using h.1) (hps q (by simp))
      · obtain ⟨h1, h2, h3⟩ := wr_head hps
        exact piece_run hk hp h1 h2 h3
    have h0 : 0 < (wrP p ++ wrL ps).length := by
      rw [List.length_append]
      have : 0 < (wrP p).length := by
        unfold wrP
        by_cases hk : p.k = 0
        · rw [if_pos hk]
          unfold rightP at hp
          rw [if_pos hk] at hp
          simp only [Bool.and_eq_true, decide_eq_true_eq] at hp
          have h1 := esc_ge p.t.data.toList
          have h2 := len_toList p.t
          omega
        · rw [if_neg hk]; simp
      omega
    rw [e, pcsR_ok h0 hpc, ih]
    rfl
/-- What is printed is parsed again. -/
theorem parse_print {ps : List Pc} (h : rightL ps = true) : parseL (wrL ps) = (ps, 0, 0) := by
  have hr := right_all h
  unfold rightL at h
  rw [Bool.and_eq_true, Bool.and_eq_true, List.all_eq_true, decide_eq_true_eq, decide_eq_true_eq] at h
  have hap := apart_of ps fun i hi => by
    have := h.1.1 i (List.mem_range.2 hi)
    rw [good_some hi, Bool.and_eq_true] at this
    simpa using this.2
  unfold parseL
  rw [if_neg (by omega), show piecesL (wrL ps).length (wrL ps) = pcsR (wrL ps) from rfl, pcs_wr ps hr hap]
end Go.Proofs.YtgkegbcdiadkdaaDoor
namespace Go.Proofs.YtgkegbcdiadkdaaDoor
open Go.RowKit Pt

set_option maxRecDepth 100000 in
theorem cut_any (s : ByteArray) (n : Nat) (w : World) (hs : s.size ≤ maxLen) : Calls Tryd.prog 15 #[.string s, .int .i64 (n : Int)] w fun e w' => e = .returned (.string (s.extract 0 (min s.size n))) ∧ w.grownBy w' none := by
  have hs' : s.size ≤ 9223372036854775807 := by unfold maxLen at hs; omega
  clear hs
  have e : min (s.size : Int) (n : Int) = ((min s.size n : Nat) : Int) := by omega
  have hle : min s.size n ≤ s.size := Nat.min_le_left _ _
  go_enter Tryd.func15, Tryd.ntmps15
  go_wp2
  go_ret
  exact ⟨rfl, gr_rfl w⟩
theorem cut_le (s : ByteArray) (n : Nat) : (s.extract 0 (min s.size n)).size ≤ n := by
  rw [ByteArray.size_extract]; omega
/-- A slice of pieces that came in. -/
def RawA (w : World) (v : Value) : Prop := ∃ a n c, v = .slice a n c ∧ (n = 0 ∨ ∃ (g o : Nat) (F : Nat → Pc), a = some ⟨g, o, none⟩ ∧ g < w.heap.size ∧ n ≤ 9223372036854775807 ∧ ∀ i, i < n → w.cell? ⟨g, o + i * 4, none⟩ = some (.int .i64 (F i).k) ∧ w.cell? ⟨g, o + i * 4 + 1, none⟩ = some (.int .i64 (F i).a) ∧ w.cell? ⟨g, o + i * 4 + 2, none⟩ = some (.int .i64 (F i).b) ∧ w.cell? ⟨g, o + i * 4 + 3, none⟩ = some (.string (F i).t) ∧ (F i).t.size ≤ maxLen)
end Go.Proofs.YtgkegbcdiadkdaaDoor
namespace Go.Proofs.YtgkegbcdiadkdaaDoor
open Go.ChangeShapes Go.WideShapes Go.ChangeAt Go.RowKit Pt

theorem spot_none {w : World} {a : Addr} {v : Value} (h : w.cell? a = some v) : a.spot = none := by
  unfold World.cell? at h
  split at h
  · split at h
    · cases h
    · rename_i hs; simpa using hs
  · cases h
theorem add_add (b o i : Nat) : ((⟨b, o, none⟩ : Addr).add i) = ⟨b, o + i, none⟩ := by
  unfold Addr.add
  split
  · rename_i h; subst h; rfl
  · rfl
theorem cell_lt {w : World} {g o : Nat} {v : Value} (h : w.cell? ⟨g, o, none⟩ = some v) : g < w.heap.size := by
  unfold World.cell? at h
  split at h
  · rename_i hh
    exact (Array.getElem?_eq_some_iff.1 hh).1
  · cases h
set_option maxRecDepth 100000 in
theorem ints_arg {H : Type} {enc : TypeId × Value → H} {W : World} {base : Nat} {v : Value} {d : DataW H} {p : List MemPlace} (hok : Value.okWide Tryd.prog W .any base 22 v) (h : DataW.Trod enc Tryd.prog W 0 (fun _ => true) true 22 v d p) : IntsA W v := by
  have hce : Tryd.prog.cellsOf 3 = 1 := by kernel_rfl
  obtain ⟨a0, len, cap, rfl⟩ := okWide_slice Tryd.underlying22 hok
  obtain ⟨fuel, hf⟩ := h
  rcases DataW.trod_slice Tryd.underlying22 hf with ⟨hcs, _⟩ | ⟨a, len', cap', elems, rest, n, _, hcs, _, _, hl, hm, hlen, hel, _, _⟩
  · simp [Value.cells] at hcs
    obtain ⟨rfl, rfl, rfl⟩ := hcs
    exact ⟨none, 0, 0, rfl, .inl rfl⟩
  · simp [Value.cells] at hcs
    obtain ⟨rfl, rfl, rfl⟩ := hcs
    refine ⟨some a, len, cap, rfl, ?_⟩
    by_cases h0 : len = 0
    · exact .inl h0
    right
    have each : ∀ i, i < len → ∃ z0 : Int, W.cell? (a.add i) = some (.int .i64 z0) ∧ I64 z0 := by
      intro i hi
      have hb := hel i hi
      rw [hce, List.getElem?_eq_getElem (by omega), Option.bind_eq_some_iff] at hb
      obtain ⟨cs, hcs, hy⟩ := hb
      obtain ⟨_, hcl, hcell⟩ := World.cells?_some hcs
      match cs, hcl with
      | [x0], _ =>
        obtain ⟨z0, e0, _, w0⟩ := DataW.trod_int Tryd.underlying3 hy
        simp at e0
        subst e0
        have c0 := hcell 0 (by decide)
        refine ⟨z0, ?_, wf_i64 w0⟩
        have e : (a.add (i * 1)).add 0 = a.add i := by simp [Addr.add]
        rw [e] at c0
        exact c0
    have hsp : a.spot = none := by
      obtain ⟨z0, h1, _⟩ := each 0 (by omega)
      have : a.add 0 = a := by simp [Addr.add]
      rw [this] at h1
      exact spot_none h1
    obtain ⟨b, o, s⟩ := a
    dsimp only at hsp
    subst hsp
    have hx : ∀ i, ∃ f : Int, i < len → W.cell? ⟨b, o + i, none⟩ = some (.int .i64 f) ∧ I64 f := by
      intro i
      by_cases hi : i < len
      · obtain ⟨z0, h1, h2⟩ := each i hi
        rw [add_add] at h1
        exact ⟨z0, fun _ => ⟨h1, h2⟩⟩
      · exact ⟨0, fun h => absurd h hi⟩
    refine ⟨b, o, fun i => Classical.choose (hx i), rfl, ?_, by unfold maxLen at hm; omega, fun i hi => Classical.choose_spec (hx i) hi⟩
    obtain ⟨z0, h1, _⟩ := each 0 (by omega)
    rw [add_add] at h1
    exact cell_lt h1
set_option maxRecDepth 100000 in
theorem pcs_arg {H : Type} {enc : TypeId × Value → H} {W : World} {base : Nat} {v : Value} {d : DataW H} {p : List MemPlace} (hok : Value.okWide Tryd.prog W .any base 23 v) (h : DataW.Trod enc Tryd.prog W 0 (fun _ => true) true 23 v d p) : RawA W v := by
  have hce : Tryd.prog.cellsOf 31 = 4 := by kernel_rfl
  have hci : Tryd.prog.cellsOf 3 = 1 := by kernel_rfl
  have hcs1 : Tryd.prog.cellsOf 9 = 1 := by kernel_rfl
  obtain ⟨a0, len, cap, rfl⟩ := okWide_slice Tryd.underlying23 hok
  obtain ⟨fuel, hf⟩ := h
  rcases DataW.trod_slice Tryd.underlying23 hf with ⟨hcs, _⟩ | ⟨a, len', cap', elems, rest, n, _, hcs, _, _, hl, hm, hlen, hel, _, _⟩
  · simp [Value.cells] at hcs
    obtain ⟨rfl, rfl, rfl⟩ := hcs
    exact ⟨none, 0, 0, rfl, .inl rfl⟩
  · simp [Value.cells] at hcs
    obtain ⟨rfl, rfl, rfl⟩ := hcs
    refine ⟨some a, len, cap, rfl, ?_⟩
    by_cases h0 : len = 0
    · exact .inl h0
    right
    have each : ∀ i, i < len → ∃ q : Pc, W.cell? (a.add (i * 4)) = some (.int .i64 q.k) ∧ W.cell? ((a.add (i * 4)).add 1) = some (.int .i64 q.a) ∧ W.cell? ((a.add (i * 4)).add 2) = some (.int .i64 q.b) ∧ W.cell? ((a.add (i * 4)).add 3) = some (.string q.t) ∧ q.t.size ≤ maxLen := by
      intro i hi
      have hb := hel i hi
      rw [hce, List.getElem?_eq_getElem (by omega), Option.bind_eq_some_iff] at hb
      obtain ⟨cs, hcs, hy⟩ := hb
      obtain ⟨_, hcl, hcell⟩ := World.cells?_some hcs
      obtain ⟨xs, m, _, _, _, hxl, hf2⟩ := DataW.trod_struct Tryd.underlying31 hy
      match cs, hcl with
      | [x0, x1, x2, x3], _ =>
        have h0 : DataW.trod enc Tryd.prog W 0 (fun _ => true) true m 3 (List.take (Tryd.prog.cellsOf 3) (List.drop 0 [x0, x1, x2, x3])) = xs[0]? := hf2 0 _ rfl
        have h1 : DataW.trod enc Tryd.prog W 0 (fun _ => true) true m 3 (List.take (Tryd.prog.cellsOf 3) (List.drop 1 [x0, x1, x2, x3])) = xs[1]? := hf2 1 _ rfl
        have h2 : DataW.trod enc Tryd.prog W 0 (fun _ => true) true m 3 (List.take (Tryd.prog.cellsOf 3) (List.drop 2 [x0, x1, x2, x3])) = xs[2]? := hf2 2 _ rfl
        have h3 : DataW.trod enc Tryd.prog W 0 (fun _ => true) true m 9 (List.take (Tryd.prog.cellsOf 9) (List.drop 3 [x0, x1, x2, x3])) = xs[3]? := hf2 3 _ rfl
        rw [hci] at h0 h1 h2
        rw [hcs1] at h3
        match xs, hxl with
        | [y0, y1, y2, y3], _ =>
          obtain ⟨z0, e0, _, _⟩ := DataW.trod_int Tryd.underlying3 (x := y0) (by simpa using h0)
          obtain ⟨z1, e1, _, _⟩ := DataW.trod_int Tryd.underlying3 (x := y1) (by simpa using h1)
          obtain ⟨z2, e2, _, _⟩ := DataW.trod_int Tryd.underlying3 (x := y2) (by simpa using h2)
          obtain ⟨z3, e3, _, w3⟩ := DataW.trod_string Tryd.underlying9 (x := y3) (by simpa using h3)
          simp at e0 e1 e2 e3
          subst e0 e1 e2 e3
          have c0 := hcell 0 (by decide)
          have c1 := hcell 1 (by decide)
          have c2 := hcell 2 (by decide)
          have c3 := hcell 3 (by decide)
          refine ⟨⟨z0, z1, z2, z3⟩, ?_, c1, c2, c3, w3⟩
          have e : (a.add (i * 4)).add 0 = a.add (i * 4) := by simp [Addr.add]
          rw [e] at c0
          exact c0
    have hsp : a.spot = none := by
      obtain ⟨z0, h1, _⟩ := each 0 (by omega)
      have : a.add (0 * 4) = a := by simp [Addr.add]
      rw [this] at h1
      exact spot_none h1
    obtain ⟨b, o, s⟩ := a
    dsimp only at hsp
    subst hsp
    have hx : ∀ i, ∃ q : Pc, i < len → W.cell? ⟨b, o + i * 4, none⟩ = some (.int .i64 q.k) ∧ W.cell? ⟨b, o + i * 4 + 1, none⟩ = some (.int .i64 q.a) ∧ W.cell? ⟨b, o + i * 4 + 2, none⟩ = some (.int .i64 q.b) ∧ W.cell? ⟨b, o + i * 4 + 3, none⟩ = some (.string q.t) ∧ q.t.size ≤ maxLen := by
      intro i
      by_cases hi : i < len
      · obtain ⟨q, h1, h2, h3, h4, h5⟩ := each i hi
        rw [add_add] at h1 h2 h3 h4
        rw [add_add] at h2 h3 h4
        exact ⟨q, fun _ => ⟨h1, h2, h3, h4, h5⟩⟩
      · exact ⟨⟨0, 0, 0, ⟨#[]⟩⟩, fun h => absurd h hi⟩
    refine ⟨b, o, fun i => Classical.choose (hx i), rfl, ?_, by unfold maxLen at hm; omega, fun i hi => Classical.choose_spec (hx i) hi⟩
    obtain ⟨q, h1, _⟩ := each 0 (by omega)
    rw [add_add] at h1
    exact cell_lt h1
end Go.Proofs.YtgkegbcdiadkdaaDoor
