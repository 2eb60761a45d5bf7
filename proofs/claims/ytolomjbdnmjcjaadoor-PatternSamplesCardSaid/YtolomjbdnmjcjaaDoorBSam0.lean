/- The law of the claim at the level of the call, and its row: SamplesL, SamplesLRow. -/
import Derived.Test.YtolomjbdnmjcjaaDoorBSmp0
namespace Go.Proofs.YtolomjbdnmjcjaaDoor
open Go.RowKit Pt

theorem right_any {L : Nat} (h1 : 1 ≤ L) (h2 : L ≤ 200) : rightL [⟨7, (L : Int), (L : Int), ⟨#[]⟩⟩] = true := by
  have hg : ∀ i, i < [(⟨7, (L : Int), (L : Int), ⟨#[]⟩⟩ : Pc)].length → goodAt [⟨7, (L : Int), (L : Int), ⟨#[]⟩⟩] i = true := by
    intro i hi
    obtain rfl : i = 0 := by simpa using hi
    rw [good_some hi, two_zero]
    show (rightP 7 (L : Int) (L : Int) ⟨#[]⟩ && !false) = true
    unfold rightP
    rw [if_neg (by decide), decide_eq_true (by omega)]
    rfl
  rw [right_good hg]
  have hd := dec_le L 3 (by decide) (by omega)
  have hw : (wrL [(⟨7, (L : Int), (L : Int), ⟨#[]⟩⟩ : Pc)]).length ≤ 60 := by
    show (wrP ⟨7, (L : Int), (L : Int), ⟨#[]⟩⟩ ++ []).length ≤ 60
    rw [List.append_nil]
    unfold wrP
    rw [if_neg (show ¬ (7 : Int) = 0 by decide)]
    show (92 :: letC 7 :: cntL L L).length ≤ 60
    have hc : (cntL L L).length ≤ 20 := by
      unfold cntL
      repeat' split
      all_goals (simp; try omega)
    simp only [List.length_cons]
    omega
  rw [decide_eq_true hw]
  rfl
theorem lit_all {ps : List Pc} (h : rightL ps = true) : ∀ p ∈ ps, p.k = 0 → allD p.t.data.toList 7 = true := by
  intro p hp hk
  have := right_all h p hp
  unfold rightP at this
  rw [if_pos hk, Bool.and_eq_true] at this
  exact this.2
theorem pcs_1 (w : World) (k a b : Int) (t : ByteArray) : Pcs (w.alloc (.cells #[.int .i64 k, .int .i64 a, .int .i64 b, .string t] 31)) (.slice (some ⟨w.heap.size, 0, none⟩) 1 1) [⟨k, a, b, t⟩] := by
  have r := Row.new w [.int .i64 k, .int .i64 a, .int .i64 b, .string t] 31
  refine .inr ⟨w.heap.size, 0, 1, rfl, r.lt, fun i hi => ?_⟩
  obtain rfl : i = 0 := by simpa using hi
  exact ⟨r.cell 0 _ rfl, r.cell 1 _ rfl, r.cell 2 _ rfl, r.cell 3 _ rfl⟩
/-- One run of just these characters. -/
theorem run_match {s : ByteArray} (h0 : 0 < s.size) (h1 : s.size ≤ 200) (ht : allD s.data.toList 7 = true) : matchL [⟨7, (s.size : Int), (s.size : Int), ⟨#[]⟩⟩] s.data.toList = true := by
  have hf : Fits [⟨7, (s.size : Int), (s.size : Int), ⟨#[]⟩⟩] s.data.toList := Fits.snoc Fits.nil (fit_run (show (7 : Int) ≠ 0 by decide) (Int.le_refl _) (Int.le_refl _) ht)
  exact hf.matched (right_any h0 h1) h1 (lit_all (right_any h0 h1))
set_option maxRecDepth 100000 in
set_option maxHeartbeats 4000000 in
theorem samples_true (l t : Value) (w : World) (ht : TabP w) (hl : IntsA w l) (hl' : IntsA w t) : Calls Tryd.prog 5 #[l, t] w fun e w' => e = .returned (.bool true) ∧ w.grownBy w' none := by
  have HS := Lib.hid (sanity_any w ht)
  have HT := Lib.hid ht
  have HM := Lib.hid (fun (w1 : World) (g : w.grownBy w1 none) => made_any w1 l (hl.kept g))
  have HL2 := Lib.hid (fun (w1 : World) (g : w.grownBy w1 none) => hl'.kept g)
  clear ht hl hl'
  go_enter Tryd.func5, Tryd.ntmps5
  go_wp2_with fail
  refine HS.out.mono ?_
  rintro e w1 ⟨rfl, g1⟩
  have G1 := Lib.hid g1
  clear g1 HS
  go_wp2_with fail
  refine (HM.out w1 G1.out).mono ?_
  rintro e w2 ⟨u, ps, rfl, hu, hlen, hgood, g2⟩
  have G2 := Lib.hid (gr_then G1.out g2)
  have HU := Lib.hid (fun (w3 : World) (g : w2.grownBy w3 none) => hu.kept g)
  have hsz : ∀ p ∈ ps, p.t.size ≤ 1000 := fun p hp => by have := (hgood p hp).t; omega
  have HSZ := Lib.hid (And.intro (show ps.length ≤ 1000000 by omega) hsz)
  have HSA := Lib.hid (rsample_any w2 u t ps hu (HL2.out w2 G2.out) hlen hgood)
  clear g2 G1 hu hgood hlen hsz HM
  go_wp2_with fail
  refine HSA.out.mono ?_
  rintro e w3 ⟨s, rfl, hfit, hs, g3⟩
  have G23 := Lib.hid g3
  have G3 := Lib.hid (gr_then G2.out g3)
  have HFIT := Lib.hid hfit
  have hsi : (s.size : Int) ≤ 200 := by omega
  clear hfit g3 HSA
  have HP := Lib.hid (pprint_any w3 u ps (tabis_grown HT.out G3.out) (HU.out w3 G23.out) HSZ.out.1 HSZ.out.2)
  have HPR := Lib.hid (show rightL ps = false → printL ps = [] from fun h => by unfold printL; rw [h]; rfl)
  generalize printL ps = z at *
  go_wp2_with fail
  refine HP.out.mono ?_
  rintro e w4 ⟨rfl, g4⟩
  have G34 := Lib.hid g4
  have G4 := Lib.hid (gr_then G3.out g4)
  clear g4 HP
  by_cases hz : z = []
  · subst hz
    go_wp2
    go_ret
    exact ⟨rfl, G4.out⟩
  · have hr : rightL ps = true := by
      cases h : rightL ps
      · exact absurd (HPR.out h) hz
      · rfl
    have hm := HFIT.out.matched hr (show s.data.toList.length ≤ 200 from by rw [len_toList]; omega) (lit_all hr)
    have HTX := Lib.hid (HFIT.out.text (lit_all hr))
    have HMA := Lib.hid (pmatches_any u ps s w4 (tabis_grown HT.out G4.out) (HU.out w4 (gr_then G23.out G34.out)) HSZ.out.1 (by omega) HSZ.out.2)
    rw [hm] at HMA
    have hz1 : (⟨z.toArray⟩ : ByteArray).toList = z := by rw [ByteArray.toList_eq]
    have hz2 : (z == []) = false := by rw [beq_eq_false_iff_ne]; exact hz
    clear hm
    go_wp2_with fail
    refine HMA.out.mono ?_
    rintro e w5 ⟨rfl, g5⟩
    have G5 := Lib.hid (gr_then G4.out g5)
    clear g5 HMA hz1 hz2
    by_cases h0 : s.size = 0
    · have hs0 : s = ⟨#[]⟩ := ByteArray.ext (Array.eq_empty_of_size_eq_zero (by simpa using h0))
      subst hs0
      clear h0
      go_wp2
      go_ret
      exact ⟨rfl, G5.out⟩
    · have hsn : ¬ s.toList = [] := fun h => h0 ((tl_nil s).1 h)
      have hsb : (s.toList == []) = false := by rw [beq_eq_false_iff_ne]; exact hsn
      have hrm := run_match (by omega) (by omega) HTX.out
      have HMB := Lib.hid (pmatches_any _ _ s _ (tabis_grown HT.out (gr_then G5.out (gr_alloc w5 _ none))) (pcs_1 w5 7 (s.size : Int) (s.size : Int) ⟨#[]⟩) (by simp) (by omega) (fun q hq => by rw [List.mem_singleton] at hq; subst hq; show 0 ≤ 1000; omega))
      rw [hrm] at HMB
      clear h0 hrm
      go_wp2_with fail
      refine HMB.out.mono ?_
      rintro e w6 ⟨rfl, g6⟩
      go_wp2
      go_ret
      exact ⟨rfl, gr_then G5.out (gr_one g6)⟩
end Go.Proofs.YtolomjbdnmjcjaaDoor
namespace Go.Proofs.YtolomjbdnmjcjaaDoor
open Go.ChangeShapes Go.WideShapes Go.ChangeAt Go.RowKit Pt

set_option maxRecDepth 1000000 in
set_option maxHeartbeats 4000000 in
theorem samples_lifted (os : Os) (started : os.Started) (H : Type) (enc : TypeId × Value → H) :
    ReturnsInHanded {} Tryd.checked os 5 .any (fun w args => (Rows.patternSamplesSpec.pre enc Tryd.prog Tryd.f5 Rows.patternSamplesRow.domain false w args ∧ laidMet Tryd.prog Rows.patternSamplesRow.laid w) ∧ sizedMet enc Tryd.prog Tryd.f5 (OpenSpec.ofChange Rows.patternSamplesSpec) false w args)
      (Rows.patternSamplesSpec.post enc Tryd.prog Tryd.f5 false true false false) := by
  refine returnsInHanded_of_change_and (C := Tryd.checked) (X := fun w _ => laidMet Tryd.prog Rows.patternSamplesRow.laid w) (fun _ _ _ hh h => h.of_heap hh) own0 started (by kernel_rfl) Tryd.func5
    (ChangeSpec.witness_at (enc := enc) (C := Tryd.checked) (os := os) (X := fun w _ => laidMet Tryd.prog Rows.patternSamplesRow.laid w) false (laidWorld os) #[.slice none 0 0, .slice none 0 0] 8 rfl (by kernel_rfl) (by kernel_rfl) (by kernel_rfl) (by kernel_rfl) (by kernel_rfl) (laid_at os _)) ?_
  intro W base args ds gs before hval0 hW hcnd0 _ hL _
  have hval : ∀ (j : Nat) t v, Tryd.f5.params[j]? = some t → args[j]? = some v → Value.okWide Tryd.prog W .any base t v := hval0
  have hW' := hW
  obtain ⟨p, q, hA0, hV, rfl, hfz, hnd⟩ := hW
  have hA : DataW.TrodAll enc Tryd.prog W 0 (fun _ => true) true Tryd.f5.params.toList args.toList ds p := hA0
  rw [Tryd.params5] at hA hval
  obtain ⟨v0, v1, d0, d1, p0, p1, rfl, rfl, rfl, h0, h1⟩ := trodAll_two hA
  obtain ⟨rfl, rfl⟩ := trodVars_none hV
  clear hA0 hval0 hA
  simp only [List.append_nil] at hW'
  have k0 := hval 0 22 v0 rfl rfl
  have k1 := hval 1 22 v1 rfl rfl
  have w0 := ints_arg k0 h0
  have w1 := ints_arg k1 h1
  refine (samples_true v0 v1 W (tab_of hL) w0 w1).mono fun e W' ⟨he, hg⟩ => ?_
  subst he
  have hb : Below W.heap.size W W' := gr_low hg
  have hlt : ∀ x ∈ p0 ++ p1, x.block < W.heap.size := fun x hx => by simpa using hW'.lt x hx
  have hl0 : ∀ x ∈ p0, x.block < W.heap.size := fun x hx => hlt x (by simp [hx])
  have hl1 : ∀ x ∈ p1, x.block < W.heap.size := fun x hx => hlt x (by simp [hx])
  refine ⟨_, rfl, _, _, _, [], p0 ++ p1, [], hW', ?_, ?_, rfl, hb.frame _, fun h => by cases h⟩
  · exact trodAll_mk1 (shut_bool Tryd.underlying4 true)
  · have h3 := trodAll_mk2 (Below.trod laidOut0 (by kernel_rfl) (of_decide_eq_true (by kernel_rfl)) h0 hb hl0) (Below.trod laidOut0 (by kernel_rfl) (of_decide_eq_true (by kernel_rfl)) h1 hb hl1)
    exact h3

theorem samples_row : Rows.PatternSamplesSaid :=
  OpenClaim.holds_of_wide 5 Tryd.f5 rfl rfl rfl rfl rfl rfl rfl ⟨rfl, rfl, rfl, rfl, rfl⟩ rfl rfl rfl rfl rfl (by kernel_rfl) Tryd.func5 (by kernel_rfl)
    (of_decide_eq_true (by kernel_rfl)) (by unfold Func.isWrapper; first | (rw [if_pos (by decide +kernel)]; kernel_rfl) | (rw [if_neg (by decide +kernel)]; exact ⟨rfl, rfl⟩))
    (fun os started H enc _ => samples_lifted os started H enc)
end Go.Proofs.YtolomjbdnmjcjaaDoor
