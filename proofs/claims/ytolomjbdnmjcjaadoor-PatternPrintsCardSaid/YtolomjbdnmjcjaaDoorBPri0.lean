/- The law of the claim at the level of the call, and its row: PrintsL, PrintsLRow. -/
import Derived.Test.YtolomjbdnmjcjaaDoorBMad0
namespace Go.Proofs.YtolomjbdnmjcjaaDoor
open Go.RowKit Pt

set_option maxRecDepth 100000 in
set_option maxHeartbeats 4000000 in
theorem prints_true (l raw : Value) (w : World) (ht : TabP w) (hl : IntsA w l) (hraw : RawA w raw) : Calls Tryd.prog 3 #[l, raw] w fun e w' => e = .returned (.bool true) ∧ w.grownBy w' none := by
  have HS := Lib.hid (sanity_any w ht)
  have HT := Lib.hid ht
  have HM := Lib.hid (fun (w1 : World) (g : w.grownBy w1 none) => made_any w1 l (hl.kept g))
  obtain ⟨ra, n, rc, rfl, hF⟩ := hraw
  have HF := Lib.hid hF
  clear ht hl hF
  go_enter Tryd.func3, Tryd.ntmps3
  go_wp2_with fail
  refine HS.out.mono ?_
  rintro e w1 ⟨rfl, g1⟩
  have G1 := Lib.hid g1
  clear g1 HS
  go_wp2_with fail
  refine (HM.out w1 G1.out).mono ?_
  rintro e w2 ⟨u, ps, rfl, hu, hlen, hgood, g2⟩
  have G2 := Lib.hid (gr_then G1.out g2)
  have HU := Lib.hid (fun (w3 : World) (g : w2.grownBy w3 none) => hu.kept g)
  have hsz : ∀ p ∈ ps, p.t.size ≤ 1000 := fun p hp => by have := (hgood p hp).t; omega
  have HP := Lib.hid (pprint_any w2 u ps (tabis_grown HT.out G2.out) hu (by omega) hsz)
  have HSZ := Lib.hid (And.intro hlen hsz)
  clear g2 G1 hu hgood hlen hsz HM
  go_wp2_with fail
  refine HP.out.mono ?_
  rintro e w3 ⟨rfl, g3⟩
  have G23 := Lib.hid g3
  have G3 := Lib.hid (gr_then G2.out g3)
  clear g3 HP
  have hps60 : (⟨(printL ps).toArray⟩ : ByteArray).size ≤ 1000000000000 := by
    show (printL ps).length ≤ _
    have HL := HSZ.out
    unfold printL
    split
    · rename_i h
      unfold rightL at h
      simp at h
      omega
    · simp
  have HQ := Lib.hid (parse_any ⟨(printL ps).toArray⟩ w3 hps60)
  unfold Parsed at HQ
  clear hps60
  go_wp2_with fail
  refine HQ.out.mono ?_
  rintro e w4 ⟨v, rfl, hv, g4⟩
  have HV := Lib.hid (fun (w5 : World) (g : w4.grownBy w5 none) => hv.kept g)
  have G24 := Lib.hid (gr_then G23.out g4)
  have G4 := Lib.hid (gr_then G3.out g4)
  clear g4 hv HQ
  go_wp2_with fail
  go_loopw [11, 12] (fun u i wr => ∃ (m : Nat) (acc : List Pc), m ≤ 6 ∧ i = .int .i64 (m : Int) ∧ acc.length = m ∧ (∀ p ∈ acc, p.t.size ≤ 20) ∧ Hid (PF wr w4.heap.size u acc) ∧ Hid (w4.grownBy wr none)) (fun _ i _ => 7 - (intOf i).toNat)
  case atStart => exact ⟨0, [], by omega, rfl, rfl, by simp, Lib.hid (World.ownsRow_nil _ _ _ _), Lib.hid (gr_rfl w4)⟩
  case round =>
    obtain ⟨m, acc, hm, rfl, hacc, hsm, HA, G0⟩ := hrel
    by_cases hc : m < n ∧ m < 6
    · obtain ⟨h1, h2⟩ := hc
      have h1i : (m : Int) < (n : Int) := by omega
      have h2i : (m : Int) < 6 := by omega
      obtain ⟨g, o, F, rfl, hb, _, hFF⟩ := HF.out.resolve_left (by omega)
      have G5 := Lib.hid (gr_then G4.out G0.out)
      obtain ⟨c0, c1, c2, c3, c4⟩ := hFF m h1
      replace c0 := G5.out.cell c0 (by simp)
      replace c1 := G5.out.cell c1 (by simp)
      replace c2 := G5.out.cell c2 (by simp)
      replace c3 := G5.out.cell c3 (by simp)
      generalize F m = p at *
      have HC : Hid (∀ w0 : World, Calls Tryd.prog 15 #[.string p.t, .int .i64 20] w0 fun e w' => e = .returned (.string (p.t.extract 0 (min p.t.size 20))) ∧ w0.grownBy w' none) := Lib.hid (fun w0 => cut_any p.t 20 w0 c4)
      have hcut := cut_le p.t 20
      clear hFF
      obtain ⟨X, hX⟩ : ∃ X, wr.heap.size = X := ⟨_, rfl⟩
      obtain ⟨wx, hwx⟩ : ∃ wx, wr.alloc (.cells #[.int .i64 p.k, .int .i64 p.a, .int .i64 p.b, .string p.t] 31) = wx := ⟨_, rfl⟩
      have gx : wr.grownBy wx none := by rw [← hwx]; exact gr_alloc _ _ _
      have R0 := Row.new wr [.int .i64 p.k, .int .i64 p.a, .int .i64 p.b, .string p.t] 31
      simp only [List.toArray] at R0
      rw [hwx, hX] at R0
      have HGX := Lib.hid gx
      have HXX := Lib.hid hX
      have HXL := Lib.hid (show w4.heap.size ≤ X by have := G0.out.size; omega)
      have HWX := Lib.hid hwx
      clear gx hwx
      go_wp2_with fail
      rw [HWX.out]
      generalize p.t.extract 0 (min p.t.size 20) = tx at *
      refine (HC.out wx).mono ?_
      rintro e w5 ⟨rfl, g5⟩
      have R1 := R0.kept g5
      have f3 := R1.fr 3
      have d3 := R1.cell 3 _ rfl
      have R2 := R1.set 3 (.string tx)
      obtain ⟨wz, hwz⟩ : ∃ wz, w5.setCell ⟨X, 3, none⟩ (.string tx) = wz := ⟨_, rfl⟩
      rw [hwz] at R2
      have GZ : wr.grownBy wz (some X) := by rw [← hwz]; exact gr_trans (gr_trans (gr_b HGX.out X) (gr_b g5 X) (.inr rfl) (.inr (.inl rfl))) (gr_set w5 X 3 (.string tx)) (.inr rfl) (.inr (.inl rfl))
      have t0 := R2.cell 0 _ rfl
      have t1 := R2.cell 1 _ rfl
      have t2 := R2.cell 2 _ rfl
      have t3 := R2.cell 3 _ rfl
      have GZN := gr_new G0.out GZ HXL.out
      obtain ⟨v5, w6, r5, f5, g6, _⟩ := app_p0 w4 wz u11 acc ⟨p.k, p.a, p.b, tx⟩ (HA.out.keptX GZ HXX.out) (by omega) GZN
      have F5 := Lib.hid f5
      have G6 := Lib.hid g6
      clear f5 g6 g5 R0 R1 R2 GZ c0 c1 c2 c3
      simp only at r5
      go_wp2_with (at_builtin; refine wpList_call_append rfl (.tmp 44) (.tmp 46) 23 rfl _ _ rfl rfl _ _ r5 ?_)
      refine ⟨⟨m + 1, acc ++ [⟨p.k, p.a, p.b, tx⟩], by omega, rfl, by rw [List.length_append, List.length_singleton]; omega, fun x hx => ?_, F5, G6⟩, by simp only [intOf]; omega⟩
      rcases List.mem_append.1 hx with h | h
      · exact hsm x h
      · obtain rfl := List.mem_singleton.1 h
        exact hcut
    · have hsm2 : ∀ p ∈ acc, p.t.size ≤ 1000 := fun p hp => by have := hsm p hp; omega
      have G5 := Lib.hid (gr_then G4.out G0.out)
      have HRT := Lib.hid (rright_any u ps wr (HU.out wr (gr_then G24.out G0.out)) (by have := HSZ.out; omega) HSZ.out.2)
      have HPP := Lib.hid (fun (h : rightL ps = true) => show parseL (printL ps) = (ps, 0, 0) by unfold printL; rw [if_pos h]; exact parse_print h)
      have HO := Lib.hid (fun (w0 : World) (g : wr.grownBy w0 none) => pprint_any w0 u11 acc (tabis_grown HT.out (gr_then G5.out g)) (HA.out.pcs.kept g) (by omega) hsm2)
      have HRO := Lib.hid (fun (w0 : World) (g : wr.grownBy w0 none) => rprint_any u11 acc w0 (HA.out.pcs.kept g) (by omega) hsm2)
      have HRP := Lib.hid (fun (w0 : World) (g : wr.grownBy w0 none) => rprint_any u ps w0 (HU.out w0 (gr_then G24.out (gr_then G0.out g))) (by have := HSZ.out; omega) HSZ.out.2)
      have HSA := Lib.hid (fun (h : rightL ps = true) (w0 : World) (g : wr.grownBy w0 none) => rsame_any v u ps ps w0 (by have := HV.out w0 (gr_then G0.out g); rw [HPP.out h] at this; exact this) (HU.out w0 (gr_then G24.out (gr_then G0.out g))) (by have := HSZ.out; omega))
      clear hm hacc hsm hsm2
      by_cases h1 : m < n
      · have h1i : (m : Int) < (n : Int) := by omega
        have h2i : decide ((m : Int) < 6) = false := decide_eq_false (by omega)
        have h2n : decide (m < 6) = false := decide_eq_false (by omega)
        clear hc
        go_wp2_with fail
        refine HRT.out.mono ?_
        rintro e w5 ⟨rfl, g5⟩
        clear HRT
        cases hr : rightL ps
        · go_wp2_with fail
          refine (HRP.out w5 g5).mono ?_
          rintro e w6 ⟨rfl, g6⟩
          have G6 := Lib.hid (gr_then g5 g6)
          clear g6
          go_wp2_with fail
          refine (HO.out w6 G6.out).mono ?_
          rintro e w7 ⟨rfl, g7⟩
          have G7 := Lib.hid (gr_then G6.out g7)
          clear g7
          go_wp2_with fail
          refine (HRO.out w7 G7.out).mono ?_
          rintro e w8 ⟨rfl, g8⟩
          go_wp2
          go_ret
          exact ⟨rfl, gr_then G5.out (gr_then G7.out g8)⟩
        · have hpp := HPP.out hr
          have HSA1 := Lib.hid (HSA.out hr)
          rw [hpp]
          clear hpp
          go_wp2_with fail
          refine (HRP.out w5 g5).mono ?_
          rintro e w6 ⟨rfl, g6⟩
          have G6 := Lib.hid (gr_then g5 g6)
          clear g6
          go_wp2_with fail
          refine (HSA1.out w6 G6.out).mono ?_
          rintro e w9 ⟨rfl, g9⟩
          have G9 := Lib.hid (gr_then G6.out g9)
          clear g9
          go_wp2_with fail
          refine (HO.out w9 G9.out).mono ?_
          rintro e w7 ⟨rfl, g7⟩
          have G7 := Lib.hid (gr_then G9.out g7)
          clear g7
          go_wp2_with fail
          refine (HRO.out w7 G7.out).mono ?_
          rintro e w8 ⟨rfl, g8⟩
          go_wp2
          go_ret
          exact ⟨rfl, gr_then G5.out (gr_then G7.out g8)⟩
      · have h1i : ¬ (m : Int) < (n : Int) := by omega
        clear hc
        go_wp2_with fail
        refine HRT.out.mono ?_
        rintro e w5 ⟨rfl, g5⟩
        clear HRT
        cases hr : rightL ps
        · go_wp2_with fail
          refine (HRP.out w5 g5).mono ?_
          rintro e w6 ⟨rfl, g6⟩
          have G6 := Lib.hid (gr_then g5 g6)
          clear g6
          go_wp2_with fail
          refine (HO.out w6 G6.out).mono ?_
          rintro e w7 ⟨rfl, g7⟩
          have G7 := Lib.hid (gr_then G6.out g7)
          clear g7
          go_wp2_with fail
          refine (HRO.out w7 G7.out).mono ?_
          rintro e w8 ⟨rfl, g8⟩
          go_wp2
          go_ret
          exact ⟨rfl, gr_then G5.out (gr_then G7.out g8)⟩
        · have hpp := HPP.out hr
          have HSA1 := Lib.hid (HSA.out hr)
          rw [hpp]
          clear hpp
          go_wp2_with fail
          refine (HRP.out w5 g5).mono ?_
          rintro e w6 ⟨rfl, g6⟩
          have G6 := Lib.hid (gr_then g5 g6)
          clear g6
          go_wp2_with fail
          refine (HSA1.out w6 G6.out).mono ?_
          rintro e w9 ⟨rfl, g9⟩
          have G9 := Lib.hid (gr_then G6.out g9)
          clear g9
          go_wp2_with fail
          refine (HO.out w9 G9.out).mono ?_
          rintro e w7 ⟨rfl, g7⟩
          have G7 := Lib.hid (gr_then G9.out g7)
          clear g7
          go_wp2_with fail
          refine (HRO.out w7 G7.out).mono ?_
          rintro e w8 ⟨rfl, g8⟩
          go_wp2
          go_ret
          exact ⟨rfl, gr_then G5.out (gr_then G7.out g8)⟩
end Go.Proofs.YtolomjbdnmjcjaaDoor
namespace Go.Proofs.YtolomjbdnmjcjaaDoor
open Go.ChangeShapes Go.WideShapes Go.ChangeAt Go.RowKit Pt

set_option maxRecDepth 1000000 in
set_option maxHeartbeats 4000000 in
theorem prints_lifted (os : Os) (started : os.Started) (H : Type) (enc : TypeId × Value → H) :
    ReturnsInHanded {} Tryd.checked os 3 .any (fun w args => (Rows.patternPrintsSpec.pre enc Tryd.prog Tryd.f3 Rows.patternPrintsRow.domain false w args ∧ laidMet Tryd.prog Rows.patternPrintsRow.laid w) ∧ sizedMet enc Tryd.prog Tryd.f3 (OpenSpec.ofChange Rows.patternPrintsSpec) false w args)
      (Rows.patternPrintsSpec.post enc Tryd.prog Tryd.f3 false true false false) := by
  refine returnsInHanded_of_change_and (C := Tryd.checked) (X := fun w _ => laidMet Tryd.prog Rows.patternPrintsRow.laid w) (fun _ _ _ hh h => h.of_heap hh) own0 started (by kernel_rfl) Tryd.func3
    (ChangeSpec.witness_at (enc := enc) (C := Tryd.checked) (os := os) (X := fun w _ => laidMet Tryd.prog Rows.patternPrintsRow.laid w) false (laidWorld os) #[.slice none 0 0, .slice none 0 0] 8 rfl (by kernel_rfl) (by kernel_rfl) (by kernel_rfl) (by kernel_rfl) (by kernel_rfl) (laid_at os _)) ?_
  intro W base args ds gs before hval0 hW hcnd0 _ hL _
  have hval : ∀ (j : Nat) t v, Tryd.f3.params[j]? = some t → args[j]? = some v → Value.okWide Tryd.prog W .any base t v := hval0
  have hW' := hW
  obtain ⟨p, q, hA0, hV, rfl, hfz, hnd⟩ := hW
  have hA : DataW.TrodAll enc Tryd.prog W 0 (fun _ => true) true Tryd.f3.params.toList args.toList ds p := hA0
  rw [Tryd.params3] at hA hval
  obtain ⟨v0, v1, d0, d1, p0, p1, rfl, rfl, rfl, h0, h1⟩ := trodAll_two hA
  obtain ⟨rfl, rfl⟩ := trodVars_none hV
  clear hA0 hval0 hA
  simp only [List.append_nil] at hW'
  have k0 := hval 0 22 v0 rfl rfl
  have k1 := hval 1 23 v1 rfl rfl
  have w0 := ints_arg k0 h0
  have w1 := pcs_arg k1 h1
  refine (prints_true v0 v1 W (tab_of hL) w0 w1).mono fun e W' ⟨he, hg⟩ => ?_
  subst he
  have hb : Below W.heap.size W W' := gr_low hg
  have hlt : ∀ x ∈ p0 ++ p1, x.block < W.heap.size := fun x hx => by simpa using hW'.lt x hx
  have hl0 : ∀ x ∈ p0, x.block < W.heap.size := fun x hx => hlt x (by simp [hx])
  have hl1 : ∀ x ∈ p1, x.block < W.heap.size := fun x hx => hlt x (by simp [hx])
  refine ⟨_, rfl, _, _, _, [], p0 ++ p1, [], hW', ?_, ?_, rfl, hb.frame _, fun h => by cases h⟩
  · exact trodAll_mk1 (shut_bool Tryd.underlying4 true)
  · have h3 := trodAll_mk2 (Below.trod laidOut0 (by kernel_rfl) (of_decide_eq_true (by kernel_rfl)) h0 hb hl0) (Below.trod laidOut0 (by kernel_rfl) (of_decide_eq_true (by kernel_rfl)) h1 hb hl1)
    exact h3

theorem prints_row : Rows.PatternPrintsSaid :=
  OpenClaim.holds_of_wide 3 Tryd.f3 rfl rfl rfl rfl rfl rfl rfl ⟨rfl, rfl, rfl, rfl, rfl⟩ rfl rfl rfl rfl rfl (by kernel_rfl) Tryd.func3 (by kernel_rfl)
    (of_decide_eq_true (by kernel_rfl)) (by unfold Func.isWrapper; first | (rw [if_pos (by decide +kernel)]; kernel_rfl) | (rw [if_neg (by decide +kernel)]; exact ⟨rfl, rfl⟩))
    (fun os started H enc _ => prints_lifted os started H enc)
end Go.Proofs.YtolomjbdnmjcjaaDoor
