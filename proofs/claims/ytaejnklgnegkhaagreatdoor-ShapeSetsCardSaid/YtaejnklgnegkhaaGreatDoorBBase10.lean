/- Contracts of the program and of the reference, part 10: Sob, Sx. -/
import Derived.Test.YtaejnklgnegkhaaGreatDoorBBase9
namespace Go.Proofs.YtaejnklgnegkhaaGreatDoor
open Go.RowKit Go.Shelf Pt Sh
section
attribute [local go_sem] Oper.semAt_some
set_option maxRecDepth 100000 in
set_option maxHeartbeats 2000000 in
theorem eqL_any (B : Nat) (a b : ByteArray) (w : World) (hc1 : w.cell? ⟨B, 0, none⟩ = some (.string a)) (hc2 : w.cell? ⟨B + 1, 0, none⟩ = some (.string b)) (ha : a.size ≤ 1000000) (hb : b.size ≤ 1000000) :
    Calls Tryz.prog 83 #[.func (.func 106) #[] #[.pointer (some ⟨B, 0, none⟩), .pointer (some ⟨B + 1, 0, none⟩)]] w fun e w' => e = .returned (.int .i64 (eqn (pairsL a b) : Int)) ∧ w.grownBy w' none := by
  obtain ⟨X, hX⟩ : ∃ X, w.heap.size = X := ⟨_, rfl⟩
  have hBX : B + 1 < X := by rw [← hX]; exact World.block_lt_of_cell? w _ hc2
  obtain ⟨W0, hW0⟩ : ∃ W0, w.alloc (.cells #[.int .i64 0] 3) = W0 := ⟨_, rfl⟩
  have hs0 : W0.heap.size = X + 1 := by rw [← hW0]; simp [hX]
  have g0 : w.grownBy W0 none := by rw [← hW0]; exact gr_alloc _ _ _
  have HI0 := Lib.hid (show CP w X 0 W0 from ⟨by
    have r := (Row.new w [.int .i64 0] 3)
    simp only [List.toArray] at r
    rw [hW0, hX] at r
    exact r, ⟨g0.os, g0.tape, g0.output, g0.size, fun k hk => g0.block k hk (by simp)⟩⟩)
  have HST := Lib.hid (last_stops 4 B a b W0 (g0.cell hc1 (by simp)) (g0.cell hc2 (by simp)) ha hb)
  have HXX := Lib.hid hX
  have HW0 := Lib.hid hW0
  clear hc1 hc2
  refine (callsIn_wide (n := 5)).1 ?_
  refine callsIn_of_wp_marks Tryz.func83 rfl trivial ?_ rfl
  simp only [Tryz.ntmps83, List.size_toArray, List.length_cons, List.length_nil, Nat.reduceAdd, Nat.reduceSub, Array.replicate_succ, Array.replicate_zero, List.push_toArray, List.append_toArray, List.nil_append, List.cons_append]
  clear hW0 g0
  gi_wp2
  rw [HW0.out]
  refine wpIn_rangeFunc_ownF rfl (by omega) (gf := 106) (lb := #[.pointer (some ⟨B, 0, none⟩), .pointer (some ⟨B + 1, 0, none⟩)]) rfl trivial (enters_of Tryz.func106 (by kernel_rfl) rfl)
    HST.out KpD.trans (fun W l o o' _ hl ho _ => KpD.of_put hl ho) (Below.refl _ _) (fun _ => rfl)
    (fun pre W => Hid (AllE pre) ∧ Row W X [.int .i64 (pre.length : Int)] 3 ∧ Below w.heap.size w W)
    (fun c pre W => (c = .exit 0 ∧ ∃ k, PX pre k ∧ Row W X [.int .i64 (k : Int)] 3) ∧ Below w.heap.size w W)
    (OwnFrom.and (Own.from (fun _ _ _ _ hs hg hr => hs) _) (OwnFrom.and (Own.from (fun _ _ _ _ hs hg hr => hs.own hg hr) _) (ownFrom_below (Nat.le_refl _) (by omega))))
    (fun c => OwnFrom.and (Own.from (fun _ _ _ _ hs hg hr => ⟨hs.1, hs.2.elim fun k h => ⟨k, h.1, h.2.own hg hr⟩⟩) _) (ownFrom_below (Nat.le_refl _) (by omega)))
    ⟨Lib.hid (fun p h => by simp at h), HI0.out⟩
    (fun x => { tmps := #[.func (.func 106) #[] #[.pointer (some ⟨B, 0, none⟩), .pointer (some ⟨B + 1, 0, none⟩)], undef, .int .i64 0, .pointer (some ⟨X, 0, none⟩), .int .u8 (x.1.toNat : Int), .int .u8 (x.2.toNat : Int), .func (.func 106) #[] #[.pointer (some ⟨B, 0, none⟩), .pointer (some ⟨B + 1, 0, none⟩)], .int .u8 (x.1.toNat : Int), .int .u8 (x.2.toNat : Int), undef, undef, undef, undef, undef, undef], defers := [] }) ?assign ?body ?done ?stop
  case assign =>
    intro l x W K hK
    rw [zip_twoP]
    gi_wp2
    exact hK
  case body =>
    rintro l pre x W ⟨HPRE, hR, hBl⟩ hlt
    obtain ⟨x1, x2⟩ := x
    have d1 := hR.cell 0 _ rfl
    have d2 := hR.fr 0
    have HR := Lib.hid hR
    have HBl := Lib.hid hBl
    have HKX := Lib.hid (show KpD (B + 2) W (W.setCell ⟨X, 0, none⟩ (.int .i64 ((pre.length : Int) + 1))) from KpD.of_grown (gr_set _ _ _ _) (fun b h1 e1 => by cases e1; omega))
    clear hR hBl
    by_cases hx : x1 = x2
    · have HX := Lib.hid hx
      have hxb : ((x1.toNat : Int) == (x2.toNat : Int)) = true := by rw [hx]; simp
      have hxn : ((x1.toNat : Int) != (x2.toNat : Int)) = false := by rw [bne, hxb]; rfl
      clear hx
      gi_wp2
      refine ⟨KeepsOthers.setCell _ _ _, HKX.out, Lib.hid (allE_snoc HPRE.out HX.out), ?_, below_set HBl.out (by omega)⟩
      have := HR.out.set 0 (.int .i64 ((pre.length : Int) + 1))
      simpa using this
    · have HX := Lib.hid hx
      have hxb : ((x1.toNat : Int) == (x2.toNat : Int)) = false := by rw [beq_eq_false_iff_ne]; exact fun h => hx (UInt8.toNat_inj.1 (Int.ofNat.inj h))
      have hxn : ((x1.toNat : Int) != (x2.toNat : Int)) = true := by rw [bne, hxb]; rfl
      clear hx
      gi_wp2
      exact ⟨KeepsOthers.refl _, ⟨rfl, pre.length, ⟨pre, (x1, x2), rfl, HPRE.out, HX.out, rfl⟩, HR.out⟩, HBl.out⟩
  case done =>
    rintro D ys W hD hys ⟨HPRE, hR, hBl⟩ hK
    have HN := Lib.hid (show eqn (pairsL a b) = ys.length from by
      have e : ys = pairsL a b := hys
      rw [← e]
      exact eqn_all HPRE.out)
    have d1 := hR.cell 0 _ rfl
    have hBK := hBl.trans (belowK_b (w := w) (Nat.le_refl _) W D _ (.deferred none) (by omega) hK rfl rfl)
    have HK := Lib.hid hK
    have HBK := Lib.hid hBK
    clear hR hBl hys hBK hK
    gi_wp2
    refine ⟨by simp, .inl ⟨_, _, rfl, run_takeDeferred HK.out, ?_⟩⟩
    exact ⟨_, results_tmp rfl _ _ _, by rw [HN.out]; rfl, gr_of_below HBK.out (Nat.le_refl _)⟩
  case stop =>
    rintro D cc pre W hD hpre ⟨⟨rfl, k, hp, hR⟩, hBl⟩ hK
    have HN := Lib.hid (show eqn (pairsL a b) = k from by
      obtain ⟨p, x, rfl, h1, h2, h3⟩ := hp
      rw [eqn_stop h1 h2 hpre, h3])
    have d1 := hR.cell 0 _ rfl
    have hBK := hBl.trans (belowK_b (w := w) (Nat.le_refl _) W D _ (.deferred none) (by omega) hK rfl rfl)
    have HK := Lib.hid hK
    have HBK := Lib.hid hBK
    clear hR hBl hp hpre hBK hK
    gi_wp2
    refine ⟨by simp, .inl ⟨_, _, rfl, run_takeDeferred HK.out, ?_⟩⟩
    exact ⟨_, results_tmp rfl _ _ _, by rw [HN.out]; rfl, gr_of_below HBK.out (Nat.le_refl _)⟩
end
theorem two_cells (a b : ByteArray) (w : World) : ((w.alloc (.cells #[.string a] 9)).alloc (.cells #[.string b] 9)).cell? ⟨w.heap.size, 0, none⟩ = some (.string a) ∧ ((w.alloc (.cells #[.string a] 9)).alloc (.cells #[.string b] 9)).cell? ⟨w.heap.size + 1, 0, none⟩ = some (.string b) := by
  have r := (Row.new w [.string a] 9).al (o := .cells #[.string b] 9)
  have r2 := Row.new (w.alloc (.cells #[.string a] 9)) [.string b] 9
  rw [World.size_alloc] at r2
  simp only [List.toArray] at r r2
  exact ⟨r.cell 0 _ rfl, r2.cell 0 _ rfl⟩
set_option maxRecDepth 100000 in
theorem cbeg_any (a b : ByteArray) (w : World) (ha : a.size ≤ 1000000) : Calls Tryz.prog 56 #[.string a, .string b] w fun e w' => e = .returned (.string (BA (cpre a.data.toList b.data.toList))) ∧ w.grownBy w' none := by
  have HF := Lib.hid (ffirst_any a b w)
  have HE := Lib.hid (eqF_any w.heap.size a b _ (two_cells a b w).1 (two_cells a b w).2 ha)
  have hk := eqnF_le a b
  have HX := Lib.hid (begin_eq a b)
  generalize eqn (pairsF a b) = k at *
  have hki : (k : Int) ≤ (a.size : Int) := by omega
  go_enter Tryz.func56, Tryz.ntmps56
  go_wp2_with fail
  refine HF.out.mono ?_
  rintro e w1 ⟨rfl, rfl⟩
  go_wp2_with fail
  refine HE.out.mono ?_
  rintro e w2 ⟨rfl, g2⟩
  go_wp2
  go_ret
  exact ⟨by first | rfl | (rw [HX.out]; rfl), gr_two g2⟩
set_option maxRecDepth 100000 in
theorem cend_any (a b : ByteArray) (w : World) (ha : a.size ≤ 1000000) (hb : b.size ≤ 1000000) : Calls Tryz.prog 57 #[.string a, .string b] w fun e w' => e = .returned (.string (BA (csuf a.data.toList b.data.toList))) ∧ w.grownBy w' none := by
  have HF := Lib.hid (flast_any a b w)
  have HE := Lib.hid (eqL_any w.heap.size a b _ (two_cells a b w).1 (two_cells a b w).2 ha hb)
  have hk := eqnL_le a b
  have hx := end_eq a b
  generalize eqn (pairsL a b) = k at *
  obtain ⟨d, hd⟩ : ∃ d, a.size - k = d := ⟨_, rfl⟩
  rw [hd] at hx
  have HX := Lib.hid hx
  have hdi : (a.size : Int) - (k : Int) = (d : Int) := by omega
  have hdl : (d : Int) ≤ (a.size : Int) := by omega
  have hdn : d ≤ a.size := by omega
  clear hd hx
  go_enter Tryz.func57, Tryz.ntmps57
  go_wp2_with fail
  refine HF.out.mono ?_
  rintro e w1 ⟨rfl, rfl⟩
  go_wp2_with fail
  refine HE.out.mono ?_
  rintro e w2 ⟨rfl, g2⟩
  go_wp2
  go_ret
  exact ⟨by first | rfl | (rw [HX.out]; rfl), gr_two g2⟩
end Go.Proofs.YtaejnklgnegkhaaGreatDoor
namespace Go.Proofs.YtaejnklgnegkhaaGreatDoor
open Go.RowKit Pt Sh

theorem Row.at5 {w : World} {b : Nat} {v0 v1 v2 v3 v4 : Value} {t : TypeId} (h : w.heap.size = b) : Row (w.alloc (.cells #[v0, v1, v2, v3, v4] t)) b [v0, v1, v2, v3, v4] t := by
  rw [← h]
  exact Row.new w [v0, v1, v2, v3, v4] t
end Go.Proofs.YtaejnklgnegkhaaGreatDoor
