/- The law of the claim at the level of the call, and its row: MatchesL, MatchesLRow. -/
import Derived.Test.YtgkegbcdiadkdaaDoorBNjj0
namespace Go.Proofs.YtgkegbcdiadkdaaDoor
open Go.RowKit Pt

theorem form_byte (w : World) (c : Nat) (hc : c ≤ 255) : Form (w.alloc (.cells #[.int .u8 (c : Int)] 5)) w.heap.size (.slice (some ⟨w.heap.size, 0, none⟩) 1 1) [UInt8.ofNat c] := by
  refine ⟨rfl, .inr ⟨w.heap.size, 1, _, rfl, Nat.le_refl _, heap_alloc_new w _, Nat.le_refl _, by decide, rfl, ?_⟩⟩
  show [Value.int .u8 (c : Int)] = [Value.int .u8 (((UInt8.ofNat c).toNat : Nat) : Int)]
  rw [UInt8.toNat_ofNat_of_lt' (show c < UInt8.size from by show c < 256; omega)]
theorem Row.five {w : World} {b : Nat} {a0 a1 a2 a3 a4 v0 v1 v2 v3 v4 : Value} {t : TypeId} (h : Row w b [a0, a1, a2, a3, a4] t) : Row (((((w.setCell ⟨b, 0, none⟩ v0).setCell ⟨b, 1, none⟩ v1).setCell ⟨b, 2, none⟩ v2).setCell ⟨b, 3, none⟩ v3).setCell ⟨b, 4, none⟩ v4) b [v0, v1, v2, v3, v4] t :=
  ((((h.set 0 v0).set 1 v1).set 2 v2).set 3 v3).set 4 v4
theorem gr_five {a w : World} {b : Nat} {v0 v1 v2 v3 v4 : Value} (h : a.grownBy w none) (hg : a.heap.size ≤ b) : a.grownBy (((((w.setCell ⟨b, 0, none⟩ v0).setCell ⟨b, 1, none⟩ v1).setCell ⟨b, 2, none⟩ v2).setCell ⟨b, 3, none⟩ v3).setCell ⟨b, 4, none⟩ v4) none :=
  gr_setn (gr_setn (gr_setn (gr_setn (gr_setn h hg) hg) hg) hg) hg
set_option maxRecDepth 100000 in
set_option maxHeartbeats 8000000 in
theorem matches_true (l0 l1 t : Value) (qa : Int) (qc : Nat) (qs : ByteArray) (w : World) (ht : TabP w) (hl : IntsA w l0) (hl' : IntsA w l1) (hlt : IntsA w t) (hqa : -9223372036854775808 ≤ qa ∧ qa ≤ 9223372036854775807) (hqc : qc ≤ 255) (hqs : qs.size ≤ maxLen) : Calls Tryd.prog 4 #[.agg #[l0, l1], t, .agg #[.int .i64 qa, .int .u8 (qc : Int), .string qs]] w fun e w' => e = .returned (.bool true) ∧ w.grownBy w' none := by
  obtain ⟨wb, hwb⟩ : ∃ wb, (w.alloc (.cells #[l0, l1] 36)).alloc (.cells #[.int .i64 qa, .int .u8 (qc : Int), .string qs] 38) = wb := ⟨_, rfl⟩
  have gb : w.grownBy wb none := by rw [← hwb]; exact gr_then (gr_alloc _ _ _) (gr_alloc _ _ _)
  have RB := (Row.new w [l0, l1] 36).al (o := .cells #[.int .i64 qa, .int .u8 (qc : Int), .string qs] 38)
  have RQ := Row.new (w.alloc (.cells #[l0, l1] 36)) [.int .i64 qa, .int .u8 (qc : Int), .string qs] 38
  simp only [List.toArray] at RB RQ
  rw [hwb] at RB RQ
  rw [World.size_alloc] at RQ
  have HRB := Lib.hid RB
  have HRQ := Lib.hid RQ
  have GB := Lib.hid gb
  have HS := Lib.hid (sanity_any wb (tabis_grown ht gb))
  have HT := Lib.hid ht
  have HM := Lib.hid (fun (w1 : World) (g : w.grownBy w1 none) => made_any w1 l0 (hl.kept g))
  have HM' := Lib.hid (fun (w1 : World) (g : w.grownBy w1 none) => made_any w1 l1 (hl'.kept g))
  have HL2 := Lib.hid (fun (w1 : World) (g : w.grownBy w1 none) => hlt.kept g)
  obtain ⟨qz, hqz, HC⟩ : ∃ s : ByteArray, s.size ≤ 203 ∧ Hid (∀ w0, Calls Tryd.prog 15 #[.string qs, .int .i64 203] w0 fun e w' => e = .returned (.string s) ∧ w0.grownBy w' none) :=
    ⟨_, cut_le qs 203, Lib.hid (fun w0 => cut_any qs 203 w0 hqs)⟩
  have HQA := Lib.hid hqa
  have HWB := Lib.hid hwb
  clear ht hl hl' hlt gb RB RQ hwb hqs hqa
  go_enter Tryd.func4, Tryd.ntmps4
  go_wp2_with fail
  rw [HWB.out]
  refine HS.out.mono ?_
  rintro e w1 ⟨rfl, g1⟩
  have R1 := HRB.out.kept g1
  have Q1 := HRQ.out.kept g1
  have b0 := R1.cell 0 _ rfl
  have HR1 := Lib.hid R1
  have HQ1 := Lib.hid Q1
  have G1 := Lib.hid (gr_then GB.out g1)
  clear g1 HS R1 Q1 HRB HRQ
  go_wp2_with fail
  refine (HM.out w1 G1.out).mono ?_
  rintro e w2 ⟨u, ps, rfl, hu, hlen, hgood, g2⟩
  have R2 := HR1.out.kept g2
  have HQ2 := Lib.hid (HQ1.out.kept g2)
  clear b0
  have b1 := R2.cell 1 _ rfl
  have G2 := Lib.hid (gr_then G1.out g2)
  have HU := Lib.hid (fun (w3 : World) (g : w2.grownBy w3 none) => hu.kept g)
  have hsz : ∀ p ∈ ps, p.t.size ≤ 1000 := fun p hp => by have := (hgood p hp).t; omega
  have HSZ := Lib.hid (And.intro (show ps.length ≤ 1000000 by omega) hsz)
  have HGP := Lib.hid (And.intro hlen hgood)
  clear g2 G1 hu hgood hlen hsz HM R2 HR1 HQ1
  go_wp2_with fail
  refine (HM'.out w2 G2.out).mono ?_
  rintro e w4 ⟨v, os, rfl, hv, hlen, hgood, g4⟩
  have HQ4 := Lib.hid (HQ2.out.kept g4)
  have G24 := Lib.hid g4
  have G4 := Lib.hid (gr_then G2.out g4)
  have HV := Lib.hid (fun (w3 : World) (g : w4.grownBy w3 none) => hv.kept g)
  have hsz : ∀ p ∈ os, p.t.size ≤ 1000 := fun p hp => by have := (hgood p hp).t; omega
  have HSV := Lib.hid (And.intro (show os.length ≤ 1000000 by omega) hsz)
  have HSP := Lib.hid (fun (w0 : World) (g : w4.grownBy w0 none) => rsample_any w0 u t ps (HU.out w0 (gr_then G24.out g)) (HL2.out w0 (gr_then G4.out g)) HGP.out.1 HGP.out.2)
  have HSO := Lib.hid (fun (w0 : World) (g : w4.grownBy w0 none) => rsample_any w0 v t os (HV.out w0 g) (HL2.out w0 (gr_then G4.out g)) hlen hgood)
  clear g4 hv hgood hlen hsz HM' b1 HQ2
  go_wp2_with fail
  refine (HSP.out w4 (gr_rfl w4)).mono ?_
  rintro e w5 ⟨s, rfl, _, hs, g5⟩
  have HQ5 := Lib.hid (HQ4.out.kept g5)
  have q0 := HQ5.out.cell 0 _ rfl
  have G45 := Lib.hid g5
  clear g5 HSP HQ4
  obtain ⟨k, hk⟩ : ∃ k : Nat, qa % ((s.size : Int) + 1) = (k : Int) := ⟨(qa % ((s.size : Int) + 1)).toNat, by have := Int.emod_nonneg qa (b := (s.size : Int) + 1) (by omega); omega⟩
  have hks : k ≤ s.size := by have := Int.emod_lt_of_pos qa (b := (s.size : Int) + 1) (by omega); omega
  have HMO := Lib.hid (hk ▸ rmod_any qa ((s.size : Int) + 1) w5 (by omega) (by omega) HQA.out.1 HQA.out.2)
  clear hk
  go_wp2_with fail
  refine HMO.out.mono ?_
  rintro e w6 ⟨rfl, rfl⟩
  have q1 := HQ5.out.cell 1 _ rfl
  have hcv := (form_byte w5 qc hqc).str
  clear q0 HMO
  go_wp2_with fail
  obtain ⟨wc, hwc⟩ : ∃ wc, w5.alloc (.cells #[.int .u8 (qc : Int)] 5) = wc := ⟨_, rfl⟩
  have GC := Lib.hid (show w5.grownBy wc none from by rw [← hwc]; exact gr_alloc _ _ _)
  have HQC := Lib.hid (HQ5.out.kept GC.out)
  have G4C := Lib.hid (gr_then G45.out GC.out)
  rw [hwc]
  clear hcv q1 hwc HQ5
  obtain ⟨m, hm⟩ : ∃ m : Nat, min ((k : Int) + 1) (s.size : Int) = (m : Int) := ⟨min (k + 1) s.size, by omega⟩
  have hmw : IntKind.i64.wrap ((k : Int) + 1) = (k : Int) + 1 := IntWalk.i64_in _ (by omega)
  have hm1 : (if (s.size : Int) < (k : Int) + 1 then (s.size : Int) else (k : Int) + 1) = (m : Int) := by split <;> omega
  have hm2 : (if (k : Int) + 1 < (s.size : Int) then (k : Int) + 1 else (s.size : Int)) = (m : Int) := by split <;> omega
  have hms : m ≤ s.size := by omega
  have hmi : (m : Int) ≤ (s.size : Int) := by omega
  have hki : (k : Int) ≤ (s.size : Int) := by omega
  obtain ⟨ch, hch⟩ : ∃ ch : ByteArray, (⟨#[UInt8.ofNat qc]⟩ : ByteArray) = ch := ⟨_, rfl⟩
  have hchs : ch.size = 1 := by rw [← hch]; rfl
  rw [hch]
  clear hch
  obtain ⟨e0, he0⟩ : ∃ e0, s.extract 0 k = e0 := ⟨_, rfl⟩
  obtain ⟨e1, he1⟩ : ∃ e1, s.extract m s.size = e1 := ⟨_, rfl⟩
  have he0s : e0.size ≤ 100 := by rw [← he0, ByteArray.size_extract]; omega
  have he1s : e1.size ≤ 100 := by rw [← he1, ByteArray.size_extract]; omega
  have hb1 : ¬ 9223372036854775807 < e0.size + ch.size := by omega
  have hb2 : ¬ 9223372036854775807 < (e0 ++ ch).size + e1.size := by rw [ByteArray.size_append]; omega
  have hb2' : ¬ 9223372036854775807 < e0.size + ch.size + e1.size := by omega
  have hb3 : ¬ 9223372036854775807 < s.size + ch.size := by omega
  have hlw : w.heap.size + 1 < wc.heap.size := HQC.out.lt
  have hK : ∀ w', wc.grownBy w' none → w'.cell? ⟨w.heap.size + 1, 2, none⟩ = some (.string qs) := fun w' h => (HQC.out.kept h).cell 2 _ rfl
  have HK := Lib.hid hK
  have HCH := Lib.hid hchs
  clear hchs
  clear hK
  have hz1 : (e0 ++ ch ++ e1).size ≤ 1000 := by rw [ByteArray.size_append, ByteArray.size_append, HCH.out]; omega
  have hz2 : (s ++ ch).size ≤ 1000 := by rw [ByteArray.size_append, HCH.out]; omega
  go_cut [13] from 35 to 58 (fun p wx => ∃ (B : Nat) (z1 z2 z3 : ByteArray), p = .pointer (some ⟨B, 0, none⟩) ∧ z1.size ≤ 1000 ∧ z2.size ≤ 1000 ∧ z3.size ≤ 1000 ∧ Row wx B [.string s, .string z1, .string z2, .string z3, .string qz] 42 ∧ w4.grownBy wx none)
  case first =>
    refine wp_region_held_drew (S := (fun w' => w'.cell? ⟨w.heap.size + 1, 2, none⟩ = some (.string qs))) (by kernel_rfl) ?_ (fun hHeld => ?_)
    · exact HK.out _ (gr_dr (gr_rfl _))
    refine wpAnyH_take (i := 0) (oi := _) (v := ?v1) rfl (by kernel_rfl) (by kernel_rfl) (by kernel_rfl) (fun _ _ _ h => h) (Or.inl ⟨by rfl, ?hy1⟩) (by assumption) ?rest1
    case hy1 => ((intro w hSw; (try dsimp only at hSw); go_simp); try (with_reducible rfl))
    (try dsimp only [List.getElem_toArray, List.getElem_cons_succ, List.getElem_cons_zero]); try simp only [Act.put, List.setIfInBounds_toArray, List.set_cons_zero, List.set_cons_succ]
    refine wpAnyH_take (i := 1) (oi := _) (v := ?v2) rfl (by kernel_rfl) (by kernel_rfl) (by kernel_rfl) (fun _ _ _ h => h) (Or.inl ⟨by rfl, ?hy2⟩) (by assumption) ?rest2
    case hy2 => ((intro w hSw; (try dsimp only at hSw); go_simp); try (with_reducible rfl))
    (try dsimp only [List.getElem_toArray, List.getElem_cons_succ, List.getElem_cons_zero]); try simp only [Act.put, List.setIfInBounds_toArray, List.set_cons_zero, List.set_cons_succ]
    refine wpAnyH_take (i := 2) (oi := _) (v := ?v3) rfl (by kernel_rfl) (by kernel_rfl) (by kernel_rfl) (fun _ _ _ h => h) (Or.inl ⟨by rfl, ?hy3⟩) (by assumption) ?rest3
    case hy3 => ((intro w hSw; (try dsimp only at hSw); go_simp); try (with_reducible rfl))
    (try dsimp only [List.getElem_toArray, List.getElem_cons_succ, List.getElem_cons_zero]); try simp only [Act.put, List.setIfInBounds_toArray, List.set_cons_zero, List.set_cons_succ]
    refine wpAnyH_take (i := 3) (oi := _) (v := ?v4) rfl (by kernel_rfl) (by kernel_rfl) (by kernel_rfl) (fun _ _ _ h => h) (Or.inl ⟨by rfl, ?hy4⟩) (by assumption) ?rest4
    case hy4 => ((intro w hSw; (try dsimp only at hSw); go_simp); try (with_reducible rfl))
    (try dsimp only [List.getElem_toArray, List.getElem_cons_succ, List.getElem_cons_zero]); try simp only [Act.put, List.setIfInBounds_toArray, List.set_cons_zero, List.set_cons_succ]
    refine wpAnyH_take (i := 4) (oi := _) (v := ?v5) rfl (by kernel_rfl) (by kernel_rfl) (by kernel_rfl) (fun _ _ _ h => h) (Or.inl ⟨by rfl, ?hy5⟩) (by assumption) ?rest5
    case hy5 => ((intro w hSw; (try dsimp only at hSw); go_simp); try (with_reducible rfl))
    (try dsimp only [List.getElem_toArray, List.getElem_cons_succ, List.getElem_cons_zero]); try simp only [Act.put, List.setIfInBounds_toArray, List.set_cons_zero, List.set_cons_succ]
    refine wpAnyH_take (i := 5) (oi := _) (v := ?v6) rfl (by kernel_rfl) (by kernel_rfl) (by kernel_rfl) (fun _ _ _ h => h) (Or.inl ⟨by rfl, ?hy6⟩) (by assumption) ?rest6
    case hy6 => ((intro w hSw; (try dsimp only at hSw); go_simp); try (with_reducible rfl))
    (try dsimp only [List.getElem_toArray, List.getElem_cons_succ, List.getElem_cons_zero]); try simp only [Act.put, List.setIfInBounds_toArray, List.set_cons_zero, List.set_cons_succ]
    refine wpAnyH_take (i := 6) (oi := _) (v := ?v7) rfl (by kernel_rfl) (by kernel_rfl) (by kernel_rfl) (fun _ _ _ h => h) (Or.inl ⟨by rfl, ?hy7⟩) (by assumption) ?rest7
    case hy7 => ((intro w hSw; (try dsimp only at hSw); go_simp); try (with_reducible rfl))
    (try dsimp only [List.getElem_toArray, List.getElem_cons_succ, List.getElem_cons_zero]); try simp only [Act.put, List.setIfInBounds_toArray, List.set_cons_zero, List.set_cons_succ]
    refine wpAnyH_take (i := 7) (oi := _) (v := ?v8) rfl (by kernel_rfl) (by kernel_rfl) (by kernel_rfl) (fun _ _ _ h => h) (Or.inl ⟨by rfl, ?hy8⟩) (by assumption) ?rest8
    case hy8 => ((intro w hSw; (try dsimp only at hSw); go_simp); try (with_reducible rfl))
    (try dsimp only [List.getElem_toArray, List.getElem_cons_succ, List.getElem_cons_zero]); try simp only [Act.put, List.setIfInBounds_toArray, List.set_cons_zero, List.set_cons_succ]
    refine wpAnyH_take (i := 8) (oi := _) (v := ?v9) rfl (by kernel_rfl) (by kernel_rfl) (by kernel_rfl) (fun _ _ _ h => h) (Or.inl ⟨by rfl, ?hy9⟩) (by assumption) ?rest9
    case hy9 => ((intro w hSw; (try dsimp only at hSw); go_simp); try (with_reducible rfl))
    (try dsimp only [List.getElem_toArray, List.getElem_cons_succ, List.getElem_cons_zero]); try simp only [Act.put, List.setIfInBounds_toArray, List.set_cons_zero, List.set_cons_succ]
    refine wpAnyH_take (i := 9) (oi := _) (v := ?v10) rfl (by kernel_rfl) (by kernel_rfl) (by kernel_rfl) (fun _ _ _ h => h) (Or.inl ⟨by rfl, ?hy10⟩) (by assumption) ?rest10
    case hy10 => ((intro w hSw; (try dsimp only at hSw); go_simp); try (with_reducible rfl))
    (try dsimp only [List.getElem_toArray, List.getElem_cons_succ, List.getElem_cons_zero]); try simp only [Act.put, List.setIfInBounds_toArray, List.set_cons_zero, List.set_cons_succ]
    refine wpAnyH_take (i := 10) (oi := _) (v := ?v11) rfl (by kernel_rfl) (by kernel_rfl) (by kernel_rfl) (fun _ _ _ h => h) (Or.inl ⟨by rfl, ?hy11⟩) (by assumption) ?rest11
    case hy11 => ((intro w hSw; (try dsimp only at hSw); go_simp); try (with_reducible rfl))
    (try dsimp only [List.getElem_toArray, List.getElem_cons_succ, List.getElem_cons_zero]); try simp only [Act.put, List.setIfInBounds_toArray, List.set_cons_zero, List.set_cons_succ]
    refine wpAnyH_take (i := 11) (oi := _) (v := ?v12) rfl (by kernel_rfl) (by kernel_rfl) (by kernel_rfl) (fun _ _ _ h => h) (Or.inl ⟨by rfl, ?hy12⟩) (by assumption) ?rest12
    case hy12 => ((intro w hSw; (try dsimp only at hSw); go_simp); try (with_reducible rfl))
    (try dsimp only [List.getElem_toArray, List.getElem_cons_succ, List.getElem_cons_zero]); try simp only [Act.put, List.setIfInBounds_toArray, List.set_cons_zero, List.set_cons_succ]
    refine wpAnyH_take (i := 12) (oi := _) (v := ?v13) rfl (by kernel_rfl) (by kernel_rfl) (by kernel_rfl) (fun _ _ _ h => h) (Or.inl ⟨by rfl, ?hy13⟩) (by assumption) ?rest13
    case hy13 => ((intro w hSw; (try dsimp only at hSw); go_simp); try (with_reducible rfl))
    (try dsimp only [List.getElem_toArray, List.getElem_cons_succ, List.getElem_cons_zero]); try simp only [Act.put, List.setIfInBounds_toArray, List.set_cons_zero, List.set_cons_succ]
    refine wpAnyH_take (i := 13) (oi := _) (v := ?v14) rfl (by kernel_rfl) (by kernel_rfl) (by kernel_rfl) (fun _ _ _ h => h) (Or.inl ⟨by rfl, ?hy14⟩) (by assumption) ?rest14
    case hy14 => ((intro w hSw; (try dsimp only at hSw); go_simp); try (with_reducible rfl))
    (try dsimp only [List.getElem_toArray, List.getElem_cons_succ, List.getElem_cons_zero]); try simp only [Act.put, List.setIfInBounds_toArray, List.set_cons_zero, List.set_cons_succ]
    refine wpAnyH_take (i := 14) (oi := _) (v := ?v15) rfl (by kernel_rfl) (by kernel_rfl) (by kernel_rfl) (fun _ _ _ h => h) (Or.inl ⟨by rfl, ?hy15⟩) (by assumption) ?rest15
    case hy15 => ((intro w hSw; (try dsimp only at hSw); go_simp); try (with_reducible rfl))
    (try dsimp only [List.getElem_toArray, List.getElem_cons_succ, List.getElem_cons_zero]); try simp only [Act.put, List.setIfInBounds_toArray, List.set_cons_zero, List.set_cons_succ]
    refine wpAnyH_take (i := 15) (oi := _) (v := ?v16) rfl (by kernel_rfl) (by kernel_rfl) (by kernel_rfl) (fun _ _ _ h => h) (Or.inl ⟨by rfl, ?hy16⟩) (by assumption) ?rest16
    case hy16 => ((intro w hSw; (try dsimp only at hSw); go_simp); try (with_reducible rfl))
    (try dsimp only [List.getElem_toArray, List.getElem_cons_succ, List.getElem_cons_zero]); try simp only [Act.put, List.setIfInBounds_toArray, List.set_cons_zero, List.set_cons_succ]
    refine wpAnyH_take (i := 16) (oi := _) (v := ?v17) rfl (by kernel_rfl) (by kernel_rfl) (by kernel_rfl) (fun _ _ _ h => h) (Or.inl ⟨by rfl, ?hy17⟩) (by assumption) ?rest17
    case hy17 => ((intro w hSw; (try dsimp only at hSw); go_simp); try (with_reducible rfl))
    (try dsimp only [List.getElem_toArray, List.getElem_cons_succ, List.getElem_cons_zero]); try simp only [Act.put, List.setIfInBounds_toArray, List.set_cons_zero, List.set_cons_succ]
    refine wpAnyH_take (i := 17) (oi := _) (v := ?v18) rfl (by kernel_rfl) (by kernel_rfl) (by kernel_rfl) (fun _ _ _ h => h) (Or.inl ⟨by rfl, ?hy18⟩) (by assumption) ?rest18
    case hy18 => ((intro w hSw; (try dsimp only at hSw); go_simp); try (with_reducible rfl))
    (try dsimp only [List.getElem_toArray, List.getElem_cons_succ, List.getElem_cons_zero]); try simp only [Act.put, List.setIfInBounds_toArray, List.set_cons_zero, List.set_cons_succ]
    refine wpAnyH_take (i := 18) (oi := _) (v := ?v19) rfl (by kernel_rfl) (by kernel_rfl) (by kernel_rfl) (fun _ _ _ h => h) (Or.inl ⟨by rfl, ?hy19⟩) (by assumption) ?rest19
    case hy19 => ((intro w hSw; (try dsimp only at hSw); go_simp); try (with_reducible rfl))
    (try dsimp only [List.getElem_toArray, List.getElem_cons_succ, List.getElem_cons_zero]); try simp only [Act.put, List.setIfInBounds_toArray, List.set_cons_zero, List.set_cons_succ]
    refine wpAnyH_take (i := 20) (oi := _) (v := ?v20) rfl (by kernel_rfl) (by kernel_rfl) (by kernel_rfl) (fun _ _ _ h => h) (Or.inl ⟨by rfl, ?hy20⟩) (by assumption) ?rest20
    case hy20 => ((intro w hSw; (try dsimp only at hSw); go_simp); try (with_reducible rfl))
    (try dsimp only [List.getElem_toArray, List.getElem_cons_succ, List.getElem_cons_zero]); try simp only [Act.put, List.setIfInBounds_toArray, List.set_cons_zero, List.set_cons_succ]
    refine wpAnyH_take (i := 21) (oi := _) (v := ?v21) rfl (by kernel_rfl) (by kernel_rfl) (by kernel_rfl) (fun _ _ _ h => h) (Or.inl ⟨by rfl, ?hy21⟩) (by assumption) ?rest21
    case hy21 => ((intro w hSw; (try dsimp only at hSw); go_simp); try (with_reducible rfl))
    (try dsimp only [List.getElem_toArray, List.getElem_cons_succ, List.getElem_cons_zero]); try simp only [Act.put, List.setIfInBounds_toArray, List.set_cons_zero, List.set_cons_succ]
    refine wpAnyH_ready (rs := [19, 24]) (by kernel_rfl) (by simp) ?_
    refine AllReadyH.cons (o := _) rfl (fun K hK => ?_) ?_
    · go_simp
      go_at_call 19; (with_reducible refine (HSO.out _ (by repeat (first | (with_reducible exact G4C.out) | (with_reducible refine gr_al ?_) | (with_reducible refine gr_dr ?_)))).mono ?_); rintro e wa ⟨x3, rfl, _, hx3, ga⟩; obtain ⟨hcA, hfA⟩ := gcell ga; have tA := ga.size; (try simp at tA); (try have eA1 : wc.heap.size < wa.heap.size := (by omega))
      refine hK.out _ _ ?_ (fun hHeld => ?_)
      · (try dsimp only); refine HK.out _ ?_; repeat (first | (with_reducible exact gr_rfl _) | (with_reducible refine gr_al ?_) | (with_reducible refine gr_dr ?_) | (with_reducible refine gr_then ?_ gz) | (with_reducible refine gr_then ?_ ga) | (with_reducible refine gr_setn ?_ (by first | omega | (simp; done) | (simp; omega))))
      clear hK K
      try simp only [Act.put, List.setIfInBounds_toArray, List.set_cons_zero, List.set_cons_succ]
      refine wpAnyH_ready (rs := [22, 24]) (by kernel_rfl) (by simp) ?_
      refine AllReadyH.cons (o := _) rfl (fun K hK => ?_) ?_
      · go_simp
        go_at_call 15; (with_reducible refine (HC.out _).mono ?_); rintro e wz ⟨rfl, gz⟩; obtain ⟨hcZ, hfZ⟩ := gcell gz; have tZ := gz.size; (try simp at tZ); (try have eZ1 : wc.heap.size < wz.heap.size := (by omega)); (try have eZ2 : wa.heap.size < wz.heap.size := (by omega))
        refine hK.out _ _ ?_ (fun hHeld => ?_)
        · (try dsimp only); refine HK.out _ ?_; repeat (first | (with_reducible exact gr_rfl _) | (with_reducible refine gr_al ?_) | (with_reducible refine gr_dr ?_) | (with_reducible refine gr_then ?_ gz) | (with_reducible refine gr_then ?_ ga) | (with_reducible refine gr_setn ?_ (by first | omega | (simp; done) | (simp; omega))))
        clear hK K
        try simp only [Act.put, List.setIfInBounds_toArray, List.set_cons_zero, List.set_cons_succ]
        refine wpAnyH_take (i := 23) (oi := _) (v := ?v24) rfl (by kernel_rfl) (by kernel_rfl) (by kernel_rfl) (fun _ _ _ h => h) (Or.inl ⟨by rfl, ?hy24⟩) (by assumption) ?rest24
        case hy24 => ((intro w hSw; (try dsimp only at hSw); go_simp); try (with_reducible rfl))
        (try dsimp only [List.getElem_toArray, List.getElem_cons_succ, List.getElem_cons_zero]); try simp only [Act.put, List.setIfInBounds_toArray, List.set_cons_zero, List.set_cons_succ]
        refine wpAnyH_ready (rs := [24]) (by kernel_rfl) (by simp) ?_
        refine AllReadyH.cons (o := _) rfl (fun K hK => ?_) ?_
        · go_simp
          refine hK.out _ _ ?_ (fun hHeld => ?_)
          · (try dsimp only); refine HK.out _ ?_; repeat (first | (with_reducible exact gr_rfl _) | (with_reducible refine gr_al ?_) | (with_reducible refine gr_dr ?_) | (with_reducible refine gr_then ?_ gz) | (with_reducible refine gr_then ?_ ga) | (with_reducible refine gr_setn ?_ (by first | omega | (simp; done) | (simp; omega))))
          clear hK K
          try simp only [Act.put, List.setIfInBounds_toArray, List.set_cons_zero, List.set_cons_succ]
          refine wpAnyH_ready (rs := [25]) (by kernel_rfl) (by simp) ?_
          refine AllReadyH.cons (o := _) rfl (fun K hK => ?_) ?_
          · go_simp
            refine hK.out _ _ ?_ (fun hHeld => ?_)
            · (try dsimp only); refine HK.out _ ?_; repeat (first | (with_reducible exact gr_rfl _) | (with_reducible refine gr_al ?_) | (with_reducible refine gr_dr ?_) | (with_reducible refine gr_then ?_ gz) | (with_reducible refine gr_then ?_ ga) | (with_reducible refine gr_setn ?_ (by first | omega | (simp; done) | (simp; omega))))
            clear hK K
            try simp only [Act.put, List.setIfInBounds_toArray, List.set_cons_zero, List.set_cons_succ]
            refine wpAnyH_done (by kernel_rfl) ?_ _
            go_wp2_with fail
            go_meet
            refine ⟨_, e0 ++ ch ++ e1, s ++ ch, x3, rfl, hz1, hz2, by omega, ?_, ?_⟩
            · exact Row.new wz [.string s, .string (e0 ++ ch ++ e1), .string (s ++ ch), .string x3, .string qz] 42
            · exact gr_al (gr_then (gr_then (gr_dr G4C.out) ga) gz)
          exact AllReadyH.nil
        exact AllReadyH.nil
      refine AllReadyH.cons (o := _) rfl (fun K hK => ?_) ?_
      · go_simp
        refine hK.out _ _ ?_ (fun hHeld => ?_)
        · (try dsimp only); refine HK.out _ ?_; repeat (first | (with_reducible exact gr_rfl _) | (with_reducible refine gr_al ?_) | (with_reducible refine gr_dr ?_) | (with_reducible refine gr_then ?_ gz) | (with_reducible refine gr_then ?_ ga) | (with_reducible refine gr_setn ?_ (by first | omega | (simp; done) | (simp; omega))))
        clear hK K
        try simp only [Act.put, List.setIfInBounds_toArray, List.set_cons_zero, List.set_cons_succ]
        refine wpAnyH_ready (rs := [22]) (by kernel_rfl) (by simp) ?_
        refine AllReadyH.cons (o := _) rfl (fun K hK => ?_) ?_
        · go_simp
          go_at_call 15; (with_reducible refine (HC.out _).mono ?_); rintro e wz ⟨rfl, gz⟩; obtain ⟨hcZ, hfZ⟩ := gcell gz; have tZ := gz.size; (try simp at tZ); (try have eZ1 : wc.heap.size < wz.heap.size := (by omega)); (try have eZ2 : wa.heap.size < wz.heap.size := (by omega))
          refine hK.out _ _ ?_ (fun hHeld => ?_)
          · (try dsimp only); refine HK.out _ ?_; repeat (first | (with_reducible exact gr_rfl _) | (with_reducible refine gr_al ?_) | (with_reducible refine gr_dr ?_) | (with_reducible refine gr_then ?_ gz) | (with_reducible refine gr_then ?_ ga) | (with_reducible refine gr_setn ?_ (by first | omega | (simp; done) | (simp; omega))))
          clear hK K
          try simp only [Act.put, List.setIfInBounds_toArray, List.set_cons_zero, List.set_cons_succ]
          refine wpAnyH_take (i := 23) (oi := _) (v := ?v29) rfl (by kernel_rfl) (by kernel_rfl) (by kernel_rfl) (fun _ _ _ h => h) (Or.inl ⟨by rfl, ?hy29⟩) (by assumption) ?rest29
          case hy29 => ((intro w hSw; (try dsimp only at hSw); go_simp); try (with_reducible rfl))
          (try dsimp only [List.getElem_toArray, List.getElem_cons_succ, List.getElem_cons_zero]); try simp only [Act.put, List.setIfInBounds_toArray, List.set_cons_zero, List.set_cons_succ]
          refine wpAnyH_ready (rs := [25]) (by kernel_rfl) (by simp) ?_
          refine AllReadyH.cons (o := _) rfl (fun K hK => ?_) ?_
          · go_simp
            refine hK.out _ _ ?_ (fun hHeld => ?_)
            · (try dsimp only); refine HK.out _ ?_; repeat (first | (with_reducible exact gr_rfl _) | (with_reducible refine gr_al ?_) | (with_reducible refine gr_dr ?_) | (with_reducible refine gr_then ?_ gz) | (with_reducible refine gr_then ?_ ga) | (with_reducible refine gr_setn ?_ (by first | omega | (simp; done) | (simp; omega))))
            clear hK K
            try simp only [Act.put, List.setIfInBounds_toArray, List.set_cons_zero, List.set_cons_succ]
            refine wpAnyH_done (by kernel_rfl) ?_ _
            go_wp2_with fail
            go_meet
            refine ⟨_, e0 ++ ch ++ e1, s ++ ch, x3, rfl, hz1, hz2, by omega, ?_, ?_⟩
            · exact ((Row.new wa [.string ⟨#[]⟩, .string ⟨#[]⟩, .string ⟨#[]⟩, .string ⟨#[]⟩, .string ⟨#[]⟩] 42).kept gz).five
            · exact gr_five (gr_then (gr_al (gr_then (gr_dr G4C.out) ga)) gz) (gr_then (gr_dr G4C.out) ga).size
          exact AllReadyH.nil
        exact AllReadyH.nil
      exact AllReadyH.nil
    refine AllReadyH.cons (o := _) rfl (fun K hK => ?_) ?_
    · go_simp
      refine hK.out _ _ ?_ (fun hHeld => ?_)
      · (try dsimp only); refine HK.out _ ?_; repeat (first | (with_reducible exact gr_rfl _) | (with_reducible refine gr_al ?_) | (with_reducible refine gr_dr ?_) | (with_reducible refine gr_then ?_ gz) | (with_reducible refine gr_then ?_ ga) | (with_reducible refine gr_setn ?_ (by first | omega | (simp; done) | (simp; omega))))
      clear hK K
      try simp only [Act.put, List.setIfInBounds_toArray, List.set_cons_zero, List.set_cons_succ]
      refine wpAnyH_ready (rs := [19]) (by kernel_rfl) (by simp) ?_
      refine AllReadyH.cons (o := _) rfl (fun K hK => ?_) ?_
      · go_simp
        go_at_call 19; (with_reducible refine (HSO.out _ (by repeat (first | (with_reducible exact G4C.out) | (with_reducible refine gr_al ?_) | (with_reducible refine gr_dr ?_)))).mono ?_); rintro e wa ⟨x3, rfl, _, hx3, ga⟩; obtain ⟨hcA, hfA⟩ := gcell ga; have tA := ga.size; (try simp at tA); (try have eA1 : wc.heap.size < wa.heap.size := (by omega))
        refine hK.out _ _ ?_ (fun hHeld => ?_)
        · (try dsimp only); refine HK.out _ ?_; repeat (first | (with_reducible exact gr_rfl _) | (with_reducible refine gr_al ?_) | (with_reducible refine gr_dr ?_) | (with_reducible refine gr_then ?_ gz) | (with_reducible refine gr_then ?_ ga) | (with_reducible refine gr_setn ?_ (by first | omega | (simp; done) | (simp; omega))))
        clear hK K
        try simp only [Act.put, List.setIfInBounds_toArray, List.set_cons_zero, List.set_cons_succ]
        refine wpAnyH_ready (rs := [22]) (by kernel_rfl) (by simp) ?_
        refine AllReadyH.cons (o := _) rfl (fun K hK => ?_) ?_
        · go_simp
          go_at_call 15; (with_reducible refine (HC.out _).mono ?_); rintro e wz ⟨rfl, gz⟩; obtain ⟨hcZ, hfZ⟩ := gcell gz; have tZ := gz.size; (try simp at tZ); (try have eZ1 : wc.heap.size < wz.heap.size := (by omega)); (try have eZ2 : wa.heap.size < wz.heap.size := (by omega))
          refine hK.out _ _ ?_ (fun hHeld => ?_)
          · (try dsimp only); refine HK.out _ ?_; repeat (first | (with_reducible exact gr_rfl _) | (with_reducible refine gr_al ?_) | (with_reducible refine gr_dr ?_) | (with_reducible refine gr_then ?_ gz) | (with_reducible refine gr_then ?_ ga) | (with_reducible refine gr_setn ?_ (by first | omega | (simp; done) | (simp; omega))))
          clear hK K
          try simp only [Act.put, List.setIfInBounds_toArray, List.set_cons_zero, List.set_cons_succ]
          refine wpAnyH_take (i := 23) (oi := _) (v := ?v34) rfl (by kernel_rfl) (by kernel_rfl) (by kernel_rfl) (fun _ _ _ h => h) (Or.inl ⟨by rfl, ?hy34⟩) (by assumption) ?rest34
          case hy34 => ((intro w hSw; (try dsimp only at hSw); go_simp); try (with_reducible rfl))
          (try dsimp only [List.getElem_toArray, List.getElem_cons_succ, List.getElem_cons_zero]); try simp only [Act.put, List.setIfInBounds_toArray, List.set_cons_zero, List.set_cons_succ]
          refine wpAnyH_ready (rs := [25]) (by kernel_rfl) (by simp) ?_
          refine AllReadyH.cons (o := _) rfl (fun K hK => ?_) ?_
          · go_simp
            refine hK.out _ _ ?_ (fun hHeld => ?_)
            · (try dsimp only); refine HK.out _ ?_; repeat (first | (with_reducible exact gr_rfl _) | (with_reducible refine gr_al ?_) | (with_reducible refine gr_dr ?_) | (with_reducible refine gr_then ?_ gz) | (with_reducible refine gr_then ?_ ga) | (with_reducible refine gr_setn ?_ (by first | omega | (simp; done) | (simp; omega))))
            clear hK K
            try simp only [Act.put, List.setIfInBounds_toArray, List.set_cons_zero, List.set_cons_succ]
            refine wpAnyH_done (by kernel_rfl) ?_ _
            go_wp2_with fail
            go_meet
            refine ⟨_, e0 ++ ch ++ e1, s ++ ch, x3, rfl, hz1, hz2, by omega, ?_, ?_⟩
            · exact (((Row.new wc.drew [.string ⟨#[]⟩, .string ⟨#[]⟩, .string ⟨#[]⟩, .string ⟨#[]⟩, .string ⟨#[]⟩] 42).kept ga).kept gz).five
            · exact gr_five (gr_then (gr_then (gr_al (gr_dr G4C.out)) ga) gz) G4C.out.size
          exact AllReadyH.nil
        exact AllReadyH.nil
      exact AllReadyH.nil
    exact AllReadyH.nil
  case rest =>
    obtain ⟨B, z1, z2, z3, rfl, hz1, hz2, hz3, RL, G7⟩ := hcut
    have HRL := Lib.hid RL
    have HG7 := Lib.hid G7
    have HXS := Lib.hid (show ∀ i, i < 5 → ∃ x : ByteArray, [Value.string s, .string z1, .string z2, .string z3, .string qz][i]? = some (.string x) ∧ x.size ≤ 1000 from by
      intro i hi
      rcases (show i = 0 ∨ i = 1 ∨ i = 2 ∨ i = 3 ∨ i = 4 by omega) with rfl | rfl | rfl | rfl | rfl
      · exact ⟨_, rfl, by omega⟩
      · exact ⟨_, rfl, hz1⟩
      · exact ⟨_, rfl, hz2⟩
      · exact ⟨_, rfl, hz3⟩
      · exact ⟨_, rfl, by omega⟩)
    obtain ⟨w7, hw7⟩ : ∃ w7, wc = w7 := ⟨_, rfl⟩
    rw [hw7] at HRL HG7 ⊢
    clear RL G7 hw7
    have HA := Lib.hid (fun (x : ByteArray) (hx : x.size ≤ 1000) (w0 : World) (g : w7.grownBy w0 none) => pmatches_any u ps x w0 (tabis_grown HT.out (gr_then G4.out (gr_then HG7.out g))) (HU.out w0 (gr_then G24.out (gr_then HG7.out g))) HSZ.out.1 (by omega) HSZ.out.2)
    have HB := Lib.hid (fun (x : ByteArray) (hx : x.size ≤ 1000) (w0 : World) (g : w7.grownBy w0 none) => rmatches_any u ps x w0 (HU.out w0 (gr_then G24.out (gr_then HG7.out g))) HSZ.out.1 (by omega) HSZ.out.2)
    have HA2 := Lib.hid (fun (x : ByteArray) (hx : x.size ≤ 1000) (w0 : World) (g : w7.grownBy w0 none) => pmatches_any v os x w0 (tabis_grown HT.out (gr_then G4.out (gr_then HG7.out g))) (HV.out w0 (gr_then HG7.out g)) HSV.out.1 (by omega) HSV.out.2)
    have HB2 := Lib.hid (fun (x : ByteArray) (hx : x.size ≤ 1000) (w0 : World) (g : w7.grownBy w0 none) => rmatches_any v os x w0 (HV.out w0 (gr_then HG7.out g)) HSV.out.1 (by omega) HSV.out.2)
    go_wp2_with fail
    go_loopw [14] (fun i wr => ∃ j : Nat, j ≤ 5 ∧ i = .int .i64 (j : Int) ∧ Hid (w7.grownBy wr none)) (fun i _ => 5 - (intOf i).toNat)
    case atStart => exact ⟨0, by omega, rfl, Lib.hid (gr_rfl w7)⟩
    case round =>
      obtain ⟨i, hi, rfl, GI⟩ := hrel
      by_cases hi5 : i < 5
      rotate_left
      · have hi5i : ¬ (i : Int) < 5 := by omega
        go_wp2
        go_ret
        exact ⟨rfl, gr_then G4.out (gr_then HG7.out GI.out)⟩
      have hi5i : (i : Int) < 5 := by omega
      obtain ⟨x, hx, hxs⟩ := HXS.out i hi5
      have HKI := Lib.hid (show ∀ w', w7.grownBy w' none → w'.cell? ⟨B, i, none⟩ = some (.string x) from fun w' g => (HRL.out.kept g).cell i _ hx)
      have A1 := Lib.hid (HA.out x hxs)
      have B1 := Lib.hid (HB.out x hxs)
      have A2 := Lib.hid (HA2.out x hxs)
      have B2 := Lib.hid (HB2.out x hxs)
      generalize matchL ps x.data.toList = b1 at *
      generalize matchL os x.data.toList = b2 at *
      clear hx HA HB HA2 HB2
      go_wp2_with fail
      refine wp_region_held_drew (S := (fun w' => w'.cell? ⟨B, i, none⟩ = some (.string x))) (by kernel_rfl) ?_ (fun hHeld => ?_)
      · exact HKI.out _ (gr_dr GI.out)
      refine wpAnyH_take (i := 0) (oi := _) (v := ?z1) rfl (by kernel_rfl) (by kernel_rfl) (by kernel_rfl) (fun _ _ _ h => h) (Or.inl ⟨by rfl, ?iy1⟩) (by assumption) ?sest1
      case iy1 => ((intro w hSw; (try dsimp only at hSw); go_simp); try (with_reducible rfl))
      (try dsimp only [List.getElem_toArray, List.getElem_cons_succ, List.getElem_cons_zero]); try simp only [Act.put, List.setIfInBounds_toArray, List.set_cons_zero, List.set_cons_succ]
      refine wpAnyH_take (i := 1) (oi := _) (v := ?z2) rfl (by kernel_rfl) (by kernel_rfl) (by kernel_rfl) (fun _ _ _ h => h) (Or.inl ⟨by rfl, ?iy2⟩) (by assumption) ?sest2
      case iy2 => ((intro w hSw; (try dsimp only at hSw); go_simp); try (with_reducible rfl))
      (try dsimp only [List.getElem_toArray, List.getElem_cons_succ, List.getElem_cons_zero]); try simp only [Act.put, List.setIfInBounds_toArray, List.set_cons_zero, List.set_cons_succ]
      refine wpAnyH_take (i := 2) (oi := _) (v := ?z3) rfl (by kernel_rfl) (by kernel_rfl) (by kernel_rfl) (fun _ _ _ h => h) (Or.inl ⟨by rfl, ?iy3⟩) (by assumption) ?sest3
      case iy3 => ((intro w hSw; (try dsimp only at hSw); go_simp); try (with_reducible rfl))
      (try dsimp only [List.getElem_toArray, List.getElem_cons_succ, List.getElem_cons_zero]); try simp only [Act.put, List.setIfInBounds_toArray, List.set_cons_zero, List.set_cons_succ]
      refine wpAnyH_take (i := 3) (oi := _) (v := ?z4) rfl (by kernel_rfl) (by kernel_rfl) (by kernel_rfl) (fun _ _ _ h => h) (Or.inl ⟨by rfl, ?iy4⟩) (by assumption) ?sest4
      case iy4 => ((intro w hSw; (try dsimp only at hSw); go_simp); try (with_reducible rfl))
      (try dsimp only [List.getElem_toArray, List.getElem_cons_succ, List.getElem_cons_zero]); try simp only [Act.put, List.setIfInBounds_toArray, List.set_cons_zero, List.set_cons_succ]
      refine wpAnyH_take (i := 5) (oi := _) (v := ?z5) rfl (by kernel_rfl) (by kernel_rfl) (by kernel_rfl) (fun _ _ _ h => h) (Or.inl ⟨by rfl, ?iy5⟩) (by assumption) ?sest5
      case iy5 => ((intro w hSw; (try dsimp only at hSw); go_simp); try (with_reducible rfl))
      (try dsimp only [List.getElem_toArray, List.getElem_cons_succ, List.getElem_cons_zero]); try simp only [Act.put, List.setIfInBounds_toArray, List.set_cons_zero, List.set_cons_succ]
      refine wpAnyH_take (i := 6) (oi := _) (v := ?z6) rfl (by kernel_rfl) (by kernel_rfl) (by kernel_rfl) (fun _ _ _ h => h) (Or.inl ⟨by rfl, ?iy6⟩) (by assumption) ?sest6
      case iy6 => ((intro w hSw; (try dsimp only at hSw); go_simp); try (with_reducible rfl))
      (try dsimp only [List.getElem_toArray, List.getElem_cons_succ, List.getElem_cons_zero]); try simp only [Act.put, List.setIfInBounds_toArray, List.set_cons_zero, List.set_cons_succ]
      refine wpAnyH_take (i := 7) (oi := _) (v := ?z7) rfl (by kernel_rfl) (by kernel_rfl) (by kernel_rfl) (fun _ _ _ h => h) (Or.inl ⟨by rfl, ?iy7⟩) (by assumption) ?sest7
      case iy7 => ((intro w hSw; (try dsimp only at hSw); go_simp); try (with_reducible rfl))
      (try dsimp only [List.getElem_toArray, List.getElem_cons_succ, List.getElem_cons_zero]); try simp only [Act.put, List.setIfInBounds_toArray, List.set_cons_zero, List.set_cons_succ]
      refine wpAnyH_take (i := 8) (oi := _) (v := ?z8) rfl (by kernel_rfl) (by kernel_rfl) (by kernel_rfl) (fun _ _ _ h => h) (Or.inl ⟨by rfl, ?iy8⟩) (by assumption) ?sest8
      case iy8 => ((intro w hSw; (try dsimp only at hSw); go_simp); try (with_reducible rfl))
      (try dsimp only [List.getElem_toArray, List.getElem_cons_succ, List.getElem_cons_zero]); try simp only [Act.put, List.setIfInBounds_toArray, List.set_cons_zero, List.set_cons_succ]
      refine wpAnyH_ready (rs := [4]) (by kernel_rfl) (by simp) ?_
      refine AllReadyH.cons (o := _) rfl (fun K hK => ?_) ?_
      · go_simp
        go_at_call 21; (with_reducible refine (A1.out _ (by repeat (first | (with_reducible exact GI.out) | (with_reducible refine gr_dr ?_)))).mono ?_); rintro e wa ⟨rfl, ga⟩
        refine hK.out _ _ ?_ (fun hHeld => ?_)
        · (try dsimp only); refine HKI.out _ ?_; repeat (first | (with_reducible exact GI.out) | (with_reducible refine gr_dr ?_) | (with_reducible refine gr_then ?_ gd) | (with_reducible refine gr_then ?_ gc) | (with_reducible refine gr_then ?_ gb) | (with_reducible refine gr_then ?_ ga))
        clear hK K
        try simp only [Act.put, List.setIfInBounds_toArray, List.set_cons_zero, List.set_cons_succ]
        refine wpAnyH_ready (rs := [9]) (by kernel_rfl) (by simp) ?_
        refine AllReadyH.cons (o := _) rfl (fun K hK => ?_) ?_
        · go_simp
          go_at_call 22; (with_reducible refine (B1.out _ (by repeat (first | (with_reducible exact GI.out) | (with_reducible refine gr_dr ?_) | (with_reducible refine gr_then ?_ ga)))).mono ?_); rintro e wb ⟨rfl, gb⟩
          refine hK.out _ _ ?_ (fun hHeld => ?_)
          · (try dsimp only); refine HKI.out _ ?_; repeat (first | (with_reducible exact GI.out) | (with_reducible refine gr_dr ?_) | (with_reducible refine gr_then ?_ gd) | (with_reducible refine gr_then ?_ gc) | (with_reducible refine gr_then ?_ gb) | (with_reducible refine gr_then ?_ ga))
          clear hK K
          try simp only [Act.put, List.setIfInBounds_toArray, List.set_cons_zero, List.set_cons_succ]
          refine wpAnyH_take (i := 10) (oi := _) (v := ?z11) rfl (by kernel_rfl) (by kernel_rfl) (by kernel_rfl) (fun _ _ _ h => h) (Or.inl ⟨by rfl, ?iy11⟩) (by assumption) ?sest11
          case iy11 => ((intro w hSw; (try dsimp only at hSw); go_simp); try (with_reducible rfl))
          (try dsimp only [List.getElem_toArray, List.getElem_cons_succ, List.getElem_cons_zero]); try simp only [Act.put, List.setIfInBounds_toArray, List.set_cons_zero, List.set_cons_succ]
          refine wpAnyH_take (i := 11) (oi := _) (v := ?z12) rfl (by kernel_rfl) (by kernel_rfl) (by kernel_rfl) (fun _ _ _ h => h) (Or.inl ⟨by rfl, ?iy12⟩) (by assumption) ?sest12
          case iy12 => ((intro w hSw; (try dsimp only at hSw); go_simp); try (with_reducible rfl))
          (try dsimp only [List.getElem_toArray, List.getElem_cons_succ, List.getElem_cons_zero]); try simp only [Act.put, List.setIfInBounds_toArray, List.set_cons_zero, List.set_cons_succ]
          refine wpAnyH_take (i := 12) (oi := _) (v := ?z13) rfl (by kernel_rfl) (by kernel_rfl) (by kernel_rfl) (fun _ _ _ h => h) (Or.inl ⟨by rfl, ?iy13⟩) (by assumption) ?sest13
          case iy13 => ((intro w hSw; (try dsimp only at hSw); go_simp); try (with_reducible rfl))
          (try dsimp only [List.getElem_toArray, List.getElem_cons_succ, List.getElem_cons_zero]); try simp only [Act.put, List.setIfInBounds_toArray, List.set_cons_zero, List.set_cons_succ]
          refine wpAnyH_take (i := 13) (oi := _) (v := ?z14) rfl (by kernel_rfl) (by kernel_rfl) (by kernel_rfl) (fun _ _ _ h => h) (Or.inl ⟨by rfl, ?iy14⟩) (by assumption) ?sest14
          case iy14 => ((intro w hSw; (try dsimp only at hSw); go_simp); try (with_reducible rfl))
          (try dsimp only [List.getElem_toArray, List.getElem_cons_succ, List.getElem_cons_zero]); try simp only [Act.put, List.setIfInBounds_toArray, List.set_cons_zero, List.set_cons_succ]
          refine wpAnyH_take (i := 14) (oi := _) (v := ?z15) rfl (by kernel_rfl) (by kernel_rfl) (by kernel_rfl) (fun _ _ _ h => h) (Or.inl ⟨by rfl, ?iy15⟩) (by assumption) ?sest15
          case iy15 => ((intro w hSw; (try dsimp only at hSw); go_simp); try (with_reducible rfl))
          (try dsimp only [List.getElem_toArray, List.getElem_cons_succ, List.getElem_cons_zero]); try simp only [Act.put, List.setIfInBounds_toArray, List.set_cons_zero, List.set_cons_succ]
          refine wpAnyH_take (i := 15) (oi := _) (v := ?z16) rfl (by kernel_rfl) (by kernel_rfl) (by kernel_rfl) (fun _ _ _ h => h) (Or.inl ⟨by rfl, ?iy16⟩) (by assumption) ?sest16
          case iy16 => ((intro w hSw; (try dsimp only at hSw); go_simp); try (with_reducible rfl))
          (try dsimp only [List.getElem_toArray, List.getElem_cons_succ, List.getElem_cons_zero]); try simp only [Act.put, List.setIfInBounds_toArray, List.set_cons_zero, List.set_cons_succ]
          refine wpAnyH_take (i := 17) (oi := _) (v := ?z17) rfl (by kernel_rfl) (by kernel_rfl) (by kernel_rfl) (fun _ _ _ h => h) (Or.inl ⟨by rfl, ?iy17⟩) (by assumption) ?sest17
          case iy17 => ((intro w hSw; (try dsimp only at hSw); go_simp); try (with_reducible rfl))
          (try dsimp only [List.getElem_toArray, List.getElem_cons_succ, List.getElem_cons_zero]); try simp only [Act.put, List.setIfInBounds_toArray, List.set_cons_zero, List.set_cons_succ]
          refine wpAnyH_take (i := 18) (oi := _) (v := ?z18) rfl (by kernel_rfl) (by kernel_rfl) (by kernel_rfl) (fun _ _ _ h => h) (Or.inl ⟨by rfl, ?iy18⟩) (by assumption) ?sest18
          case iy18 => ((intro w hSw; (try dsimp only at hSw); go_simp); try (with_reducible rfl))
          (try dsimp only [List.getElem_toArray, List.getElem_cons_succ, List.getElem_cons_zero]); try simp only [Act.put, List.setIfInBounds_toArray, List.set_cons_zero, List.set_cons_succ]
          refine wpAnyH_take (i := 19) (oi := _) (v := ?z19) rfl (by kernel_rfl) (by kernel_rfl) (by kernel_rfl) (fun _ _ _ h => h) (Or.inl ⟨by rfl, ?iy19⟩) (by assumption) ?sest19
          case iy19 => ((intro w hSw; (try dsimp only at hSw); go_simp); try (with_reducible rfl))
          (try dsimp only [List.getElem_toArray, List.getElem_cons_succ, List.getElem_cons_zero]); try simp only [Act.put, List.setIfInBounds_toArray, List.set_cons_zero, List.set_cons_succ]
          refine wpAnyH_take (i := 20) (oi := _) (v := ?z20) rfl (by kernel_rfl) (by kernel_rfl) (by kernel_rfl) (fun _ _ _ h => h) (Or.inl ⟨by rfl, ?iy20⟩) (by assumption) ?sest20
          case iy20 => ((intro w hSw; (try dsimp only at hSw); go_simp); try (with_reducible rfl))
          (try dsimp only [List.getElem_toArray, List.getElem_cons_succ, List.getElem_cons_zero]); try simp only [Act.put, List.setIfInBounds_toArray, List.set_cons_zero, List.set_cons_succ]
          refine wpAnyH_ready (rs := [16]) (by kernel_rfl) (by simp) ?_
          refine AllReadyH.cons (o := _) rfl (fun K hK => ?_) ?_
          · go_simp
            go_at_call 21; (with_reducible refine (A2.out _ (by repeat (first | (with_reducible exact GI.out) | (with_reducible refine gr_dr ?_) | (with_reducible refine gr_then ?_ gb) | (with_reducible refine gr_then ?_ ga)))).mono ?_); rintro e wc ⟨rfl, gc⟩
            refine hK.out _ _ ?_ (fun hHeld => ?_)
            · (try dsimp only); refine HKI.out _ ?_; repeat (first | (with_reducible exact GI.out) | (with_reducible refine gr_dr ?_) | (with_reducible refine gr_then ?_ gd) | (with_reducible refine gr_then ?_ gc) | (with_reducible refine gr_then ?_ gb) | (with_reducible refine gr_then ?_ ga))
            clear hK K
            try simp only [Act.put, List.setIfInBounds_toArray, List.set_cons_zero, List.set_cons_succ]
            refine wpAnyH_ready (rs := [21]) (by kernel_rfl) (by simp) ?_
            refine AllReadyH.cons (o := _) rfl (fun K hK => ?_) ?_
            · go_simp
              go_at_call 22; (with_reducible refine (B2.out _ (by repeat (first | (with_reducible exact GI.out) | (with_reducible refine gr_dr ?_) | (with_reducible refine gr_then ?_ gc) | (with_reducible refine gr_then ?_ gb) | (with_reducible refine gr_then ?_ ga)))).mono ?_); rintro e wd ⟨rfl, gd⟩
              refine hK.out _ _ ?_ (fun hHeld => ?_)
              · (try dsimp only); refine HKI.out _ ?_; repeat (first | (with_reducible exact GI.out) | (with_reducible refine gr_dr ?_) | (with_reducible refine gr_then ?_ gd) | (with_reducible refine gr_then ?_ gc) | (with_reducible refine gr_then ?_ gb) | (with_reducible refine gr_then ?_ ga))
              clear hK K
              try simp only [Act.put, List.setIfInBounds_toArray, List.set_cons_zero, List.set_cons_succ]
              refine wpAnyH_take (i := 22) (oi := _) (v := ?z23) rfl (by kernel_rfl) (by kernel_rfl) (by kernel_rfl) (fun _ _ _ h => h) (Or.inl ⟨by rfl, ?iy23⟩) (by assumption) ?sest23
              case iy23 => ((intro w hSw; (try dsimp only at hSw); go_simp); try (with_reducible rfl))
              (try dsimp only [List.getElem_toArray, List.getElem_cons_succ, List.getElem_cons_zero]); try simp only [Act.put, List.setIfInBounds_toArray, List.set_cons_zero, List.set_cons_succ]
              refine wpAnyH_take (i := 23) (oi := _) (v := ?z24) rfl (by kernel_rfl) (by kernel_rfl) (by kernel_rfl) (fun _ _ _ h => h) (Or.inl ⟨by rfl, ?iy24⟩) (by assumption) ?sest24
              case iy24 => ((intro w hSw; (try dsimp only at hSw); go_simp); try (with_reducible rfl))
              (try dsimp only [List.getElem_toArray, List.getElem_cons_succ, List.getElem_cons_zero]); try simp only [Act.put, List.setIfInBounds_toArray, List.set_cons_zero, List.set_cons_succ]
              refine wpAnyH_done (by kernel_rfl) ?_ _
              go_wp2
              exact ⟨⟨i + 1, by omega, by simp, Lib.hid (gr_then (gr_then (gr_then (gr_then (gr_dr GI.out) ga) gb) gc) gd)⟩, by simp only [intOf]; omega⟩
            exact AllReadyH.nil
          exact AllReadyH.nil
        exact AllReadyH.nil
      exact AllReadyH.nil
end Go.Proofs.YtgkegbcdiadkdaaDoor
namespace Go.Proofs.YtgkegbcdiadkdaaDoor
open Go.ChangeShapes Go.WideShapes Go.ChangeAt Go.RowKit Pt

set_option maxRecDepth 1000000 in
set_option maxHeartbeats 4000000 in
theorem matches_lifted (os : Os) (started : os.Started) (H : Type) (enc : TypeId × Value → H) :
    ReturnsInHanded {} Tryd.checked os 4 .any (fun w args => (Rows.patternMatchesSpec.pre enc Tryd.prog Tryd.f4 Rows.patternMatchesRow.domain false w args ∧ laidMet Tryd.prog Rows.patternMatchesRow.laid w) ∧ sizedMet enc Tryd.prog Tryd.f4 (OpenSpec.ofChange Rows.patternMatchesSpec) false w args)
      (Rows.patternMatchesSpec.post enc Tryd.prog Tryd.f4 false true false false) := by
  refine returnsInHanded_of_change_and (C := Tryd.checked) (X := fun w _ => laidMet Tryd.prog Rows.patternMatchesRow.laid w) (fun _ _ _ hh h => h.of_heap hh) own0 started (by kernel_rfl) Tryd.func4
    (ChangeSpec.witness_at (enc := enc) (C := Tryd.checked) (os := os) (X := fun w _ => laidMet Tryd.prog Rows.patternMatchesRow.laid w) false (laidWorld os) #[.agg #[.slice none 0 0, .slice none 0 0], .slice none 0 0, .agg #[.int .i64 0, .int .u8 0, .string ⟨#[]⟩]] 8 rfl (by kernel_rfl) (by kernel_rfl) (by kernel_rfl) (by kernel_rfl) (by kernel_rfl) (laid_at os _)) ?_
  intro W base args ds gs before hval0 hW hcnd0 _ hL _
  have hval : ∀ (j : Nat) t v, Tryd.f4.params[j]? = some t → args[j]? = some v → Value.okWide Tryd.prog W .any base t v := hval0
  have hW' := hW
  obtain ⟨p, q, hA0, hV, rfl, hfz, hnd⟩ := hW
  have hA : DataW.TrodAll enc Tryd.prog W 0 (fun _ => true) true Tryd.f4.params.toList args.toList ds p := hA0
  rw [Tryd.params4] at hA hval
  obtain ⟨v0, v1, v2, d0, d1, d2, p0, p1, p2, rfl, rfl, rfl, h0, h1, h2⟩ := trodAll_three hA
  obtain ⟨rfl, rfl⟩ := trodVars_none hV
  clear hA0 hval0 hA
  simp only [List.append_nil] at hW'
  have k0 := hval 0 36 v0 rfl rfl
  have k1 := hval 1 22 v1 rfl rfl
  have k2 := hval 2 38 v2 rfl rfl
  obtain ⟨u0_0, u0_1, rfl, w0_0, w0_1⟩ := ints2_arg k0 h0
  have w1 := ints_arg k1 h1
  obtain ⟨n2, c2, s2, rfl, w2, x2, y2⟩ := edit_arg k2 h2
  refine (matches_true u0_0 u0_1 v1 n2 c2 s2 W (tab_of hL) w0_0 w0_1 w1 w2 x2 y2).mono fun e W' ⟨he, hg⟩ => ?_
  subst he
  have hb : Below W.heap.size W W' := gr_low hg
  have hlt : ∀ x ∈ p0 ++ p1 ++ p2, x.block < W.heap.size := fun x hx => by simpa using hW'.lt x hx
  have hl0 : ∀ x ∈ p0, x.block < W.heap.size := fun x hx => hlt x (by simp [hx])
  have hl1 : ∀ x ∈ p1, x.block < W.heap.size := fun x hx => hlt x (by simp [hx])
  have hl2 : ∀ x ∈ p2, x.block < W.heap.size := fun x hx => hlt x (by simp [hx])
  refine ⟨_, rfl, _, _, _, [], p0 ++ p1 ++ p2, [], hW', ?_, ?_, rfl, hb.frame _, fun h => by cases h⟩
  · exact trodAll_mk1 (shut_bool Tryd.underlying4 true)
  · have h3 := trodAll_mk3 (Below.trod laidOut0 (by kernel_rfl) (of_decide_eq_true (by kernel_rfl)) h0 hb hl0) (Below.trod laidOut0 (by kernel_rfl) (of_decide_eq_true (by kernel_rfl)) h1 hb hl1) (Below.trod laidOut0 (by kernel_rfl) (of_decide_eq_true (by kernel_rfl)) h2 hb hl2)
    rw [← List.append_assoc] at h3
    exact h3

theorem matches_row : Rows.PatternMatchesSaid :=
  OpenClaim.holds_of_wide 4 Tryd.f4 rfl rfl rfl rfl rfl rfl rfl ⟨rfl, rfl, rfl, rfl, rfl⟩ rfl rfl rfl rfl rfl (by kernel_rfl) Tryd.func4 (by kernel_rfl)
    (of_decide_eq_true (by kernel_rfl)) (by unfold Func.isWrapper; first | (rw [if_pos (by decide +kernel)]; kernel_rfl) | (rw [if_neg (by decide +kernel)]; exact ⟨rfl, rfl⟩))
    (fun os started H enc _ => matches_lifted os started H enc)
end Go.Proofs.YtgkegbcdiadkdaaDoor
