/- The law of the claim at the level of the call, and its row: FindsL, FindsLRow. -/
import Derived.Test.YtgkegbcdiadkdaaDoorBNjj0
namespace Go.Proofs.YtgkegbcdiadkdaaDoor
open Go.RowKit Pt

theorem form_byte (w : World) (c : Nat) (hc : c ≤ 255) : Form (w.alloc (.cells #[.int .u8 (c : Int)] 5)) w.heap.size (.slice (some ⟨w.heap.size, 0, none⟩) 1 1) [UInt8.ofNat c] := by
  refine ⟨rfl, .inr ⟨w.heap.size, 1, _, rfl, Nat.le_refl _, heap_alloc_new w _, Nat.le_refl _, by decide, rfl, ?_⟩⟩
  show [Value.int .u8 (c : Int)] = [Value.int .u8 (((UInt8.ofNat c).toNat : Nat) : Int)]
  rw [UInt8.toNat_ofNat_of_lt' (show c < UInt8.size from by show c < 256; omega)]
set_option maxRecDepth 100000 in
set_option maxHeartbeats 8000000 in
theorem finds_true (l t : Value) (qa : Int) (qc : Nat) (qs : ByteArray) (w : World) (ht : TabP w) (hl : IntsA w l) (hlt : IntsA w t) (hqa : -9223372036854775808 ≤ qa ∧ qa ≤ 9223372036854775807) (hqc : qc ≤ 255) (hqs : qs.size ≤ maxLen) : Calls Tryd.prog 6 #[l, t, .agg #[.int .i64 qa, .int .u8 (qc : Int), .string qs]] w fun e w' => e = .returned (.bool true) ∧ w.grownBy w' none := by
  obtain ⟨wb, hwb⟩ : ∃ wb, w.alloc (.cells #[.int .i64 qa, .int .u8 (qc : Int), .string qs] 38) = wb := ⟨_, rfl⟩
  have gb : w.grownBy wb none := by rw [← hwb]; exact gr_alloc _ _ _
  have RQ := Row.new w [.int .i64 qa, .int .u8 (qc : Int), .string qs] 38
  simp only [List.toArray] at RQ
  rw [hwb] at RQ
  have HRQ := Lib.hid RQ
  have GB := Lib.hid gb
  have HS := Lib.hid (sanity_any wb (tabis_grown ht gb))
  have HT := Lib.hid ht
  have HM := Lib.hid (fun (w1 : World) (g : w.grownBy w1 none) => made_any w1 l (hl.kept g))
  have HL2 := Lib.hid (fun (w1 : World) (g : w.grownBy w1 none) => hlt.kept g)
  obtain ⟨y0, hy0, HC60⟩ : ∃ s : ByteArray, s.size ≤ 60 ∧ Hid (∀ w0, Calls Tryd.prog 15 #[.string qs, .int .i64 60] w0 fun e w' => e = .returned (.string s) ∧ w0.grownBy w' none) :=
    ⟨_, cut_le qs 60, Lib.hid (fun w0 => cut_any qs 60 w0 hqs)⟩
  obtain ⟨y2, hy2, HC210⟩ : ∃ s : ByteArray, s.size ≤ 210 ∧ Hid (∀ w0, Calls Tryd.prog 15 #[.string qs, .int .i64 210] w0 fun e w' => e = .returned (.string s) ∧ w0.grownBy w' none) :=
    ⟨_, cut_le qs 210, Lib.hid (fun w0 => cut_any qs 210 w0 hqs)⟩
  have HQA := Lib.hid hqa
  have HWB := Lib.hid hwb
  clear ht hl hlt gb RQ hwb hqs hqa
  go_enter Tryd.func6, Tryd.ntmps6
  go_wp2_with fail
  rw [HWB.out]
  refine HS.out.mono ?_
  rintro e w1 ⟨rfl, g1⟩
  have HQ1 := Lib.hid (HRQ.out.kept g1)
  have G1 := Lib.hid (gr_then GB.out g1)
  clear g1 HS HRQ
  go_wp2_with fail
  refine (HM.out w1 G1.out).mono ?_
  rintro e w2 ⟨u, ps, rfl, hu, hlen, hgood, g2⟩
  have HQ2 := Lib.hid (HQ1.out.kept g2)
  have G2 := Lib.hid (gr_then G1.out g2)
  have HU := Lib.hid (fun (w3 : World) (g : w2.grownBy w3 none) => hu.kept g)
  have hsz : ∀ p ∈ ps, p.t.size ≤ 1000 := fun p hp => by have := (hgood p hp).t; omega
  have HSZ := Lib.hid (And.intro (show ps.length ≤ 1000000 by omega) hsz)
  have HSP := Lib.hid (rsample_any w2 u t ps (HU.out w2 (gr_rfl w2)) (HL2.out w2 G2.out) hlen hgood)
  clear g2 G1 hu hgood hlen hsz HM HQ1
  go_wp2_with fail
  refine HSP.out.mono ?_
  rintro e w5 ⟨s0, rfl, _, hs0, g5⟩
  have HQ5 := Lib.hid (HQ2.out.kept g5)
  have G25 := Lib.hid g5
  obtain ⟨s, hs, HCS⟩ : ∃ s : ByteArray, s.size ≤ 60 ∧ Hid (∀ w0, Calls Tryd.prog 15 #[.string s0, .int .i64 60] w0 fun e w' => e = .returned (.string s) ∧ w0.grownBy w' none) :=
    ⟨_, cut_le s0 60, Lib.hid (fun w0 => cut_any s0 60 w0 (by unfold maxLen; omega))⟩
  clear g5 HSP
  go_wp2_with fail
  refine (HCS.out w5).mono ?_
  rintro e wc ⟨rfl, gc⟩
  have HQC := Lib.hid (HQ5.out.kept gc)
  have GC := Lib.hid (gr_then G25.out gc)
  have hlw : w.heap.size < wc.heap.size := HQC.out.lt
  have hK : ∀ w', wc.grownBy w' none → (w'.cell? ⟨w.heap.size, 1, none⟩ = some (.int .u8 (qc : Int)) ∧ w'.cell? ⟨w.heap.size, 2, none⟩ = some (.string qs)) := fun w' h => ⟨(HQC.out.kept h).cell 1 _ rfl, (HQC.out.kept h).cell 2 _ rfl⟩
  have HK := Lib.hid hK
  obtain ⟨ch, hch⟩ : ∃ ch : ByteArray, (⟨#[UInt8.ofNat qc]⟩ : ByteArray) = ch := ⟨_, rfl⟩
  have hchs : ch.size ≤ 1 := by rw [← hch]; exact Nat.le_refl 1
  have HCH := Lib.hid hch
  have form_byte : ∀ (w : World) (c : Nat) (_ : c ≤ 255), Form (w.alloc (.cells #[.int .u8 (c : Int)] 5)) w.heap.size (.slice (some ⟨w.heap.size, 0, none⟩) 1 1) [UInt8.ofNat c] := form_byte
  have hcv0 := ((form_byte wc qc hqc).kept (w1 := (wc.alloc (.cells #[.int .u8 (qc : Int)] 5)).drew) (gr_dr (gr_rfl _))).str
  have hb1 : ¬ 9223372036854775807 < y0.size + s.size := by omega
  have hb2 : ¬ 9223372036854775807 < y0.size + s.size + ch.size := by omega
  have hb3 : ¬ 9223372036854775807 < y0.size + s.size + ch.size + s.size := by omega
  have hX : (y0 ++ s ++ ch ++ s).size ≤ 1000 := by rw [ByteArray.size_append, ByteArray.size_append, ByteArray.size_append]; omega
  clear hK gc HQ5 HCS
  go_wp2_with fail
  go_cut [10] from 27 to 38 (fun v wx => v = .string (y0 ++ s ++ ch ++ s) ∧ w2.grownBy wx none)
  case first =>
    refine wp_region_held_drew (S := (fun w' => w'.cell? ⟨w.heap.size, 1, none⟩ = some (.int .u8 (qc : Int)) ∧ w'.cell? ⟨w.heap.size, 2, none⟩ = some (.string qs))) (by kernel_rfl) ?_ (fun hHeld => ?_)
    · exact HK.out _ (gr_dr (gr_rfl _))
    refine wpAnyH_take (i := 0) (oi := _) (v := ?v1) rfl (by kernel_rfl) (by kernel_rfl) (by kernel_rfl) (fun _ _ _ h => h) (Or.inl ⟨by rfl, ?hy1⟩) (by assumption) ?rest1
    case hy1 => ((intro w hSw; (try dsimp only at hSw); go_simp); try (with_reducible rfl))
    (try dsimp only [List.getElem_toArray, List.getElem_cons_succ, List.getElem_cons_zero]); try simp only [Act.put, List.setIfInBounds_toArray, List.set_cons_zero, List.set_cons_succ]
    refine wpAnyH_take (i := 1) (oi := _) (v := ?v2) rfl (by kernel_rfl) (by kernel_rfl) (by kernel_rfl) (fun _ _ _ h => h) (Or.inl ⟨by rfl, ?hy2⟩) (by assumption) ?rest2
    case hy2 => ((intro w hSw; (try dsimp only at hSw); go_simp); try (with_reducible rfl))
    (try dsimp only [List.getElem_toArray, List.getElem_cons_succ, List.getElem_cons_zero]); try simp only [Act.put, List.setIfInBounds_toArray, List.set_cons_zero, List.set_cons_succ]
    refine wpAnyH_take (i := 3) (oi := _) (v := ?v3) rfl (by kernel_rfl) (by kernel_rfl) (by kernel_rfl) (fun _ _ _ h => h) (Or.inl ⟨by rfl, ?hy3⟩) (by assumption) ?rest3
    case hy3 => ((intro w hSw; (try dsimp only at hSw); go_simp); try (with_reducible rfl))
    (try dsimp only [List.getElem_toArray, List.getElem_cons_succ, List.getElem_cons_zero]); try simp only [Act.put, List.setIfInBounds_toArray, List.set_cons_zero, List.set_cons_succ]
    refine wpAnyH_take (i := 5) (oi := _) (v := ?v4) rfl (by kernel_rfl) (by kernel_rfl) (by kernel_rfl) (fun _ _ _ h => h) (Or.inl ⟨by rfl, ?hy4⟩) (by assumption) ?rest4
    case hy4 => ((intro w hSw; (try dsimp only at hSw); go_simp); try (with_reducible rfl))
    (try dsimp only [List.getElem_toArray, List.getElem_cons_succ, List.getElem_cons_zero]); try simp only [Act.put, List.setIfInBounds_toArray, List.set_cons_zero, List.set_cons_succ]
    refine wpAnyH_take (i := 6) (oi := _) (v := ?v5) rfl (by kernel_rfl) (by kernel_rfl) (by kernel_rfl) (fun _ _ _ h => h) (Or.inl ⟨by rfl, ?hy5⟩) (by assumption) ?rest5
    case hy5 => ((intro w hSw; (try dsimp only at hSw); go_simp); try (with_reducible rfl))
    (try dsimp only [List.getElem_toArray, List.getElem_cons_succ, List.getElem_cons_zero]); try simp only [Act.put, List.setIfInBounds_toArray, List.set_cons_zero, List.set_cons_succ]
    refine wpAnyH_take (i := 10) (oi := _) (v := ?v6) rfl (by kernel_rfl) (by kernel_rfl) (by kernel_rfl) (fun _ _ _ h => h) (Or.inl ⟨by rfl, ?hy6⟩) (by assumption) ?rest6
    case hy6 => ((intro w hSw; (try dsimp only at hSw); go_simp); try (with_reducible rfl))
    (try dsimp only [List.getElem_toArray, List.getElem_cons_succ, List.getElem_cons_zero]); try simp only [Act.put, List.setIfInBounds_toArray, List.set_cons_zero, List.set_cons_succ]
    refine wpAnyH_ready (rs := [2, 7]) (by kernel_rfl) (by simp) ?_
    refine AllReadyH.cons (o := _) rfl (fun K hK => ?_) ?_
    · go_simp
      go_at_call 15; (with_reducible refine (HC60.out _).mono ?_); rintro e wa ⟨rfl, ga⟩; (try have hcvA := (form_byte wa qc hqc).str); (try (have hcvB := ((form_byte wc.drew qc hqc).kept ga).str; rw [show wc.drew.heap.size = wc.heap.size from rfl] at hcvB))
      refine hK.out _ _ ?_ (fun hHeld => ?_)
      · (try dsimp only); refine HK.out _ ?_; (repeat (first | (with_reducible exact gr_rfl _) | (with_reducible refine gr_al ?_) | (with_reducible refine gr_dr ?_) | (with_reducible refine gr_then ?_ ga)))
      clear hK K
      try simp only [Act.put, List.setIfInBounds_toArray, List.set_cons_zero, List.set_cons_succ]
      refine wpAnyH_take (i := 4) (oi := _) (v := ?v8) rfl (by kernel_rfl) (by kernel_rfl) (by kernel_rfl) (fun _ _ _ h => h) (Or.inl ⟨by rfl, ?hy8⟩) (by assumption) ?rest8
      case hy8 => ((intro w hSw; (try dsimp only at hSw); go_simp); try (with_reducible rfl))
      (try dsimp only [List.getElem_toArray, List.getElem_cons_succ, List.getElem_cons_zero]); try simp only [Act.put, List.setIfInBounds_toArray, List.set_cons_zero, List.set_cons_succ]
      refine wpAnyH_ready (rs := [7]) (by kernel_rfl) (by simp) ?_
      refine AllReadyH.cons (o := _) rfl (fun K hK => ?_) ?_
      · go_simp
        refine hK.out _ _ ?_ (fun hHeld => ?_)
        · (try dsimp only); refine HK.out _ ?_; (repeat (first | (with_reducible exact gr_rfl _) | (with_reducible refine gr_al ?_) | (with_reducible refine gr_dr ?_) | (with_reducible refine gr_then ?_ ga)))
        clear hK K
        try simp only [Act.put, List.setIfInBounds_toArray, List.set_cons_zero, List.set_cons_succ]
        refine wpAnyH_ready (rs := [8]) (by kernel_rfl) (by simp) ?_
        refine AllReadyH.cons (o := _) rfl (fun K hK => ?_) ?_
        · go_simp
          refine hK.out _ _ ?_ (fun hHeld => ?_)
          · (try dsimp only); refine HK.out _ ?_; (repeat (first | (with_reducible exact gr_rfl _) | (with_reducible refine gr_al ?_) | (with_reducible refine gr_dr ?_) | (with_reducible refine gr_then ?_ ga)))
          clear hK K
          try simp only [Act.put, List.setIfInBounds_toArray, List.set_cons_zero, List.set_cons_succ]
          refine wpAnyH_take (i := 9) (oi := _) (v := ?v11) rfl (by kernel_rfl) (by kernel_rfl) (by kernel_rfl) (fun _ _ _ h => h) (Or.inl ⟨by rfl, ?hy11⟩) (by assumption) ?rest11
          case hy11 => ((intro w hSw; (try dsimp only at hSw); go_simp); try (with_reducible rfl))
          (try dsimp only [List.getElem_toArray, List.getElem_cons_succ, List.getElem_cons_zero]); try simp only [Act.put, List.setIfInBounds_toArray, List.set_cons_zero, List.set_cons_succ]
          refine wpAnyH_take (i := 11) (oi := _) (v := ?v12) rfl (by kernel_rfl) (by kernel_rfl) (by kernel_rfl) (fun _ _ _ h => h) (Or.inl ⟨by rfl, ?hy12⟩) (by assumption) ?rest12
          case hy12 => ((intro w hSw; (try dsimp only at hSw); go_simp); try (with_reducible rfl))
          (try dsimp only [List.getElem_toArray, List.getElem_cons_succ, List.getElem_cons_zero]); try simp only [Act.put, List.setIfInBounds_toArray, List.set_cons_zero, List.set_cons_succ]
          refine wpAnyH_take (i := 12) (oi := _) (v := ?v13) rfl (by kernel_rfl) (by kernel_rfl) (by kernel_rfl) (fun _ _ _ h => h) (Or.inl ⟨by rfl, ?hy13⟩) (by assumption) ?rest13
          case hy13 => ((intro w hSw; (try dsimp only at hSw); go_simp); try (with_reducible rfl))
          (try dsimp only [List.getElem_toArray, List.getElem_cons_succ, List.getElem_cons_zero]); try simp only [Act.put, List.setIfInBounds_toArray, List.set_cons_zero, List.set_cons_succ]
          refine wpAnyH_done (by kernel_rfl) ?_ _
          go_wp2_with fail
          go_meet
          exact ⟨by first | rfl | trivial, gr_al (gr_then (gr_dr GC.out) ga)⟩
        exact AllReadyH.nil
      exact AllReadyH.nil
    refine AllReadyH.cons (o := _) rfl (fun K hK => ?_) ?_
    · go_simp
      refine hK.out _ _ ?_ (fun hHeld => ?_)
      · (try dsimp only); refine HK.out _ ?_; (repeat (first | (with_reducible exact gr_rfl _) | (with_reducible refine gr_al ?_) | (with_reducible refine gr_dr ?_) | (with_reducible refine gr_then ?_ ga)))
      clear hK K
      try simp only [Act.put, List.setIfInBounds_toArray, List.set_cons_zero, List.set_cons_succ]
      refine wpAnyH_ready (rs := [2, 8]) (by kernel_rfl) (by simp) ?_
      refine AllReadyH.cons (o := _) rfl (fun K hK => ?_) ?_
      · go_simp
        go_at_call 15; (with_reducible refine (HC60.out _).mono ?_); rintro e wa ⟨rfl, ga⟩; (try have hcvA := (form_byte wa qc hqc).str); (try (have hcvB := ((form_byte wc.drew qc hqc).kept ga).str; rw [show wc.drew.heap.size = wc.heap.size from rfl] at hcvB))
        refine hK.out _ _ ?_ (fun hHeld => ?_)
        · (try dsimp only); refine HK.out _ ?_; (repeat (first | (with_reducible exact gr_rfl _) | (with_reducible refine gr_al ?_) | (with_reducible refine gr_dr ?_) | (with_reducible refine gr_then ?_ ga)))
        clear hK K
        try simp only [Act.put, List.setIfInBounds_toArray, List.set_cons_zero, List.set_cons_succ]
        refine wpAnyH_take (i := 4) (oi := _) (v := ?v16) rfl (by kernel_rfl) (by kernel_rfl) (by kernel_rfl) (fun _ _ _ h => h) (Or.inl ⟨by rfl, ?hy16⟩) (by assumption) ?rest16
        case hy16 => ((intro w hSw; (try dsimp only at hSw); go_simp); try (with_reducible rfl))
        (try dsimp only [List.getElem_toArray, List.getElem_cons_succ, List.getElem_cons_zero]); try simp only [Act.put, List.setIfInBounds_toArray, List.set_cons_zero, List.set_cons_succ]
        refine wpAnyH_ready (rs := [8]) (by kernel_rfl) (by simp) ?_
        refine AllReadyH.cons (o := _) rfl (fun K hK => ?_) ?_
        · go_simp
          refine hK.out _ _ ?_ (fun hHeld => ?_)
          · (try dsimp only); refine HK.out _ ?_; (repeat (first | (with_reducible exact gr_rfl _) | (with_reducible refine gr_al ?_) | (with_reducible refine gr_dr ?_) | (with_reducible refine gr_then ?_ ga)))
          clear hK K
          try simp only [Act.put, List.setIfInBounds_toArray, List.set_cons_zero, List.set_cons_succ]
          refine wpAnyH_take (i := 9) (oi := _) (v := ?v18) rfl (by kernel_rfl) (by kernel_rfl) (by kernel_rfl) (fun _ _ _ h => h) (Or.inl ⟨by rfl, ?hy18⟩) (by assumption) ?rest18
          case hy18 => ((intro w hSw; (try dsimp only at hSw); go_simp); try (with_reducible rfl))
          (try dsimp only [List.getElem_toArray, List.getElem_cons_succ, List.getElem_cons_zero]); try simp only [Act.put, List.setIfInBounds_toArray, List.set_cons_zero, List.set_cons_succ]
          refine wpAnyH_take (i := 11) (oi := _) (v := ?v19) rfl (by kernel_rfl) (by kernel_rfl) (by kernel_rfl) (fun _ _ _ h => h) (Or.inl ⟨by rfl, ?hy19⟩) (by assumption) ?rest19
          case hy19 => ((intro w hSw; (try dsimp only at hSw); go_simp); try (with_reducible rfl))
          (try dsimp only [List.getElem_toArray, List.getElem_cons_succ, List.getElem_cons_zero]); try simp only [Act.put, List.setIfInBounds_toArray, List.set_cons_zero, List.set_cons_succ]
          refine wpAnyH_take (i := 12) (oi := _) (v := ?v20) rfl (by kernel_rfl) (by kernel_rfl) (by kernel_rfl) (fun _ _ _ h => h) (Or.inl ⟨by rfl, ?hy20⟩) (by assumption) ?rest20
          case hy20 => ((intro w hSw; (try dsimp only at hSw); go_simp); try (with_reducible rfl))
          (try dsimp only [List.getElem_toArray, List.getElem_cons_succ, List.getElem_cons_zero]); try simp only [Act.put, List.setIfInBounds_toArray, List.set_cons_zero, List.set_cons_succ]
          refine wpAnyH_done (by kernel_rfl) ?_ _
          go_wp2_with fail
          go_meet
          exact ⟨by first | rfl | trivial, gr_then (gr_al (gr_dr GC.out)) ga⟩
        exact AllReadyH.nil
      refine AllReadyH.cons (o := _) rfl (fun K hK => ?_) ?_
      · go_simp
        refine hK.out _ _ ?_ (fun hHeld => ?_)
        · (try dsimp only); refine HK.out _ ?_; (repeat (first | (with_reducible exact gr_rfl _) | (with_reducible refine gr_al ?_) | (with_reducible refine gr_dr ?_) | (with_reducible refine gr_then ?_ ga)))
        clear hK K
        try simp only [Act.put, List.setIfInBounds_toArray, List.set_cons_zero, List.set_cons_succ]
        refine wpAnyH_ready (rs := [2]) (by kernel_rfl) (by simp) ?_
        refine AllReadyH.cons (o := _) rfl (fun K hK => ?_) ?_
        · go_simp
          go_at_call 15; (with_reducible refine (HC60.out _).mono ?_); rintro e wa ⟨rfl, ga⟩; (try have hcvA := (form_byte wa qc hqc).str); (try (have hcvB := ((form_byte wc.drew qc hqc).kept ga).str; rw [show wc.drew.heap.size = wc.heap.size from rfl] at hcvB))
          refine hK.out _ _ ?_ (fun hHeld => ?_)
          · (try dsimp only); refine HK.out _ ?_; (repeat (first | (with_reducible exact gr_rfl _) | (with_reducible refine gr_al ?_) | (with_reducible refine gr_dr ?_) | (with_reducible refine gr_then ?_ ga)))
          clear hK K
          try simp only [Act.put, List.setIfInBounds_toArray, List.set_cons_zero, List.set_cons_succ]
          refine wpAnyH_take (i := 4) (oi := _) (v := ?v23) rfl (by kernel_rfl) (by kernel_rfl) (by kernel_rfl) (fun _ _ _ h => h) (Or.inl ⟨by rfl, ?hy23⟩) (by assumption) ?rest23
          case hy23 => ((intro w hSw; (try dsimp only at hSw); go_simp); try (with_reducible rfl))
          (try dsimp only [List.getElem_toArray, List.getElem_cons_succ, List.getElem_cons_zero]); try simp only [Act.put, List.setIfInBounds_toArray, List.set_cons_zero, List.set_cons_succ]
          refine wpAnyH_take (i := 9) (oi := _) (v := ?v24) rfl (by kernel_rfl) (by kernel_rfl) (by kernel_rfl) (fun _ _ _ h => h) (Or.inl ⟨by rfl, ?hy24⟩) (by assumption) ?rest24
          case hy24 => ((intro w hSw; (try dsimp only at hSw); go_simp); try (with_reducible rfl))
          (try dsimp only [List.getElem_toArray, List.getElem_cons_succ, List.getElem_cons_zero]); try simp only [Act.put, List.setIfInBounds_toArray, List.set_cons_zero, List.set_cons_succ]
          refine wpAnyH_take (i := 11) (oi := _) (v := ?v25) rfl (by kernel_rfl) (by kernel_rfl) (by kernel_rfl) (fun _ _ _ h => h) (Or.inl ⟨by rfl, ?hy25⟩) (by assumption) ?rest25
          case hy25 => ((intro w hSw; (try dsimp only at hSw); go_simp); try (with_reducible rfl))
          (try dsimp only [List.getElem_toArray, List.getElem_cons_succ, List.getElem_cons_zero]); try simp only [Act.put, List.setIfInBounds_toArray, List.set_cons_zero, List.set_cons_succ]
          refine wpAnyH_take (i := 12) (oi := _) (v := ?v26) rfl (by kernel_rfl) (by kernel_rfl) (by kernel_rfl) (fun _ _ _ h => h) (Or.inl ⟨by rfl, ?hy26⟩) (by assumption) ?rest26
          case hy26 => ((intro w hSw; (try dsimp only at hSw); go_simp); try (with_reducible rfl))
          (try dsimp only [List.getElem_toArray, List.getElem_cons_succ, List.getElem_cons_zero]); try simp only [Act.put, List.setIfInBounds_toArray, List.set_cons_zero, List.set_cons_succ]
          refine wpAnyH_done (by kernel_rfl) ?_ _
          go_wp2_with fail
          go_meet
          exact ⟨by first | rfl | trivial, gr_then (gr_al (gr_dr GC.out)) ga⟩
        exact AllReadyH.nil
      exact AllReadyH.nil
    exact AllReadyH.nil
  case rest =>
    obtain ⟨rfl, G7⟩ := hcut
    obtain ⟨w7, hw7⟩ : ∃ w7, wc = w7 := ⟨_, rfl⟩
    rw [hw7] at G7 ⊢
    have HG7 := Lib.hid G7
    have HQ7 := Lib.hid (HQ2.out.kept G7)
    obtain ⟨x, hxx⟩ : ∃ x, y0 ++ s ++ ch ++ s = x := ⟨_, rfl⟩
    rw [hxx] at hX ⊢
    have q2 := HQ7.out.cell 2 _ rfl
    clear G7 hw7 hxx hcv0 form_byte hb1 hb2 hb3 HCH hch hchs
    go_wp2_with fail
    refine (HC210.out w7).mono ?_
    rintro e w8 ⟨rfl, g8⟩
    have HQ8 := Lib.hid (HQ7.out.kept g8)
    have G8 := Lib.hid (gr_then HG7.out g8)
    obtain ⟨wd, hwd⟩ : ∃ wd, w8.alloc (.cells #[.string x, .string s, .string y2] 46) = wd := ⟨_, rfl⟩
    have hgd : w8.grownBy wd none := by rw [← hwd]; exact gr_alloc _ _ _
    have RL := Row.new w8 [.string x, .string s, .string y2] 46
    simp only [List.toArray] at RL
    rw [hwd] at RL
    have HRL := Lib.hid RL
    have HWD := Lib.hid hwd
    have HD := Lib.hid (gr_then G8.out hgd)
    have q0 := (HQ8.out.kept hgd).cell 0 _ rfl
    have hq : ∃ nn : Int, qa % 8 - 1 = nn ∧ -1 ≤ nn ∧ nn ≤ 6 := ⟨_, rfl, by omega, by omega⟩
    obtain ⟨nn, hnn, hn0, hn1⟩ := hq
    have HMO := Lib.hid (fun w0 => rmod_any qa 8 w0 (by omega) (by omega) HQA.out.1 HQA.out.2)
    obtain ⟨md, hmd⟩ : ∃ md, qa % 8 = md := ⟨_, rfl⟩
    rw [hmd] at HMO hnn
    have hmb : 0 ≤ md ∧ md ≤ 7 := by omega
    clear q2 g8 RL hwd hgd hmd
    go_wp2_with (rw [HWD.out])
    refine (HMO.out wd).mono ?_
    rintro e w9 ⟨rfl, rfl⟩
    clear q0 HMO
    have HA := Lib.hid (fun (x : ByteArray) (hx : x.size ≤ 1000) (w0 : World) (g : wd.grownBy w0 none) => pfind_any u ps x nn w0 (tabis_grown HT.out (gr_then G2.out (gr_then HD.out g))) (HU.out w0 (gr_then HD.out g)) HSZ.out.1 (by omega) HSZ.out.2)
    have HB := Lib.hid (fun (x : ByteArray) (hx : x.size ≤ 1000) (w0 : World) (g : wd.grownBy w0 none) => rfind_any u ps x nn w0 (HU.out w0 (gr_then HD.out g)) HSZ.out.1 (by omega) HSZ.out.2 (by omega))
    have HA2 := Lib.hid (fun (x : ByteArray) (hx : x.size ≤ 1000) (w0 : World) (g : wd.grownBy w0 none) => pcnt_any u ps x w0 (tabis_grown HT.out (gr_then G2.out (gr_then HD.out g))) (HU.out w0 (gr_then HD.out g)) HSZ.out.1 (by omega) HSZ.out.2)
    have HB2 := Lib.hid (fun (x : ByteArray) (hx : x.size ≤ 1000) (w0 : World) (g : wd.grownBy w0 none) => rcount_any u ps x w0 (HU.out w0 (gr_then HD.out g)) HSZ.out.1 (by omega) HSZ.out.2)
    have HXS := Lib.hid (show ∀ i, i < 3 → ∃ z : ByteArray, [Value.string x, .string s, .string y2][i]? = some (.string z) ∧ z.size ≤ 1000 from by
      intro i hi
      rcases (show i = 0 ∨ i = 1 ∨ i = 2 by omega) with rfl | rfl | rfl
      · exact ⟨_, rfl, hX⟩
      · exact ⟨_, rfl, by omega⟩
      · exact ⟨_, rfl, by omega⟩)
    go_wp2_with fail
    go_loopw [13] (fun i wr => ∃ j : Nat, j ≤ 3 ∧ i = .int .i64 (j : Int) ∧ Hid (wd.grownBy wr none)) (fun i _ => 3 - (intOf i).toNat)
    case atStart => exact ⟨0, by omega, rfl, Lib.hid (gr_rfl wd)⟩
    case round =>
      obtain ⟨i, hi, rfl, GI⟩ := hrel
      by_cases hi5 : i < 3
      rotate_left
      · have hi5i : ¬ (i : Int) < 3 := by omega
        go_wp2
        go_ret
        exact ⟨rfl, gr_then G2.out (gr_then HD.out GI.out)⟩
      have hi5i : (i : Int) < 3 := by omega
      obtain ⟨z, hz, hzs⟩ := HXS.out i hi5
      have HKI := Lib.hid (show ∀ w', wd.grownBy w' none → w'.cell? ⟨w8.heap.size, i, none⟩ = some (.string z) from fun w' g => (HRL.out.kept g).cell i _ hz)
      have A1 := Lib.hid (HA.out z hzs)
      have B1 := Lib.hid (HB.out z hzs)
      have C1 := Lib.hid (HA2.out z hzs)
      have C2 := Lib.hid (HB2.out z hzs)
      generalize findsL ps z.data.toList = fs at *
      unfold findV at A1 B1
      generalize findL fs nn = fr at *
      obtain ⟨fa, fb, fc⟩ := fr
      simp only at A1 B1
      generalize fs.length = fm at *
      have c1 := HKI.out wr GI.out
      clear hz HA HB HA2 HB2
      go_wp2_with fail
      refine (A1.out wr GI.out).mono ?_
      rintro e wp ⟨rfl, gp⟩
      have GIp := Lib.hid (gr_then GI.out gp)
      have c2 := HKI.out wp GIp.out
      clear c1 gp A1
      go_wp2_with fail
      refine (B1.out wp GIp.out).mono ?_
      rintro e wq ⟨rfl, gq⟩
      have GI2 := Lib.hid (gr_then GIp.out gq)
      clear c2 gq B1
      go_wp2_with fail
      refine wp_region_held_drew (S := (fun w' => w'.cell? ⟨w8.heap.size, i, none⟩ = some (.string z))) (by kernel_rfl) ?_ (fun hHeld => ?_)
      · exact HKI.out _ (gr_dr GI2.out)
      refine wpAnyH_take (i := 0) (oi := _) (v := ?z1) rfl (by kernel_rfl) (by kernel_rfl) (by kernel_rfl) (fun _ _ _ h => h) (Or.inl ⟨by rfl, ?iy1⟩) (by assumption) ?sest1
      case iy1 => ((intro w hSw; (try dsimp only at hSw); go_simp); try (with_reducible rfl))
      (try dsimp only [List.getElem_toArray, List.getElem_cons_succ, List.getElem_cons_zero]); try simp only [Act.put, List.setIfInBounds_toArray, List.set_cons_zero, List.set_cons_succ]
      refine wpAnyH_take (i := 1) (oi := _) (v := ?z2) rfl (by kernel_rfl) (by kernel_rfl) (by kernel_rfl) (fun _ _ _ h => h) (Or.inl ⟨by rfl, ?iy2⟩) (by assumption) ?sest2
      case iy2 => ((intro w hSw; (try dsimp only at hSw); go_simp); try (with_reducible rfl))
      (try dsimp only [List.getElem_toArray, List.getElem_cons_succ, List.getElem_cons_zero]); try simp only [Act.put, List.setIfInBounds_toArray, List.set_cons_zero, List.set_cons_succ]
      refine wpAnyH_take (i := 2) (oi := _) (v := ?z3) rfl (by kernel_rfl) (by kernel_rfl) (by kernel_rfl) (fun _ _ _ h => h) (Or.inl ⟨by rfl, ?iy3⟩) (by assumption) ?sest3
      case iy3 => ((intro w hSw; (try dsimp only at hSw); go_simp); try (with_reducible rfl))
      (try dsimp only [List.getElem_toArray, List.getElem_cons_succ, List.getElem_cons_zero]); try simp only [Act.put, List.setIfInBounds_toArray, List.set_cons_zero, List.set_cons_succ]
      refine wpAnyH_take (i := 3) (oi := _) (v := ?z4) rfl (by kernel_rfl) (by kernel_rfl) (by kernel_rfl) (fun _ _ _ h => h) (Or.inl ⟨by rfl, ?iy4⟩) (by assumption) ?sest4
      case iy4 => ((intro w hSw; (try dsimp only at hSw); go_simp); try (with_reducible rfl))
      (try dsimp only [List.getElem_toArray, List.getElem_cons_succ, List.getElem_cons_zero]); try simp only [Act.put, List.setIfInBounds_toArray, List.set_cons_zero, List.set_cons_succ]
      refine wpAnyH_take (i := 4) (oi := _) (v := ?z5) rfl (by kernel_rfl) (by kernel_rfl) (by kernel_rfl) (fun _ _ _ h => h) (Or.inl ⟨by rfl, ?iy5⟩) (by assumption) ?sest5
      case iy5 => ((intro w hSw; (try dsimp only at hSw); go_simp); try (with_reducible rfl))
      (try dsimp only [List.getElem_toArray, List.getElem_cons_succ, List.getElem_cons_zero]); try simp only [Act.put, List.setIfInBounds_toArray, List.set_cons_zero, List.set_cons_succ]
      refine wpAnyH_take (i := 5) (oi := _) (v := ?z6) rfl (by kernel_rfl) (by kernel_rfl) (by kernel_rfl) (fun _ _ _ h => h) (Or.inl ⟨by rfl, ?iy6⟩) (by assumption) ?sest6
      case iy6 => ((intro w hSw; (try dsimp only at hSw); go_simp); try (with_reducible rfl))
      (try dsimp only [List.getElem_toArray, List.getElem_cons_succ, List.getElem_cons_zero]); try simp only [Act.put, List.setIfInBounds_toArray, List.set_cons_zero, List.set_cons_succ]
      refine wpAnyH_take (i := 6) (oi := _) (v := ?z7) rfl (by kernel_rfl) (by kernel_rfl) (by kernel_rfl) (fun _ _ _ h => h) (Or.inl ⟨by rfl, ?iy7⟩) (by assumption) ?sest7
      case iy7 => ((intro w hSw; (try dsimp only at hSw); go_simp); try (with_reducible rfl))
      (try dsimp only [List.getElem_toArray, List.getElem_cons_succ, List.getElem_cons_zero]); try simp only [Act.put, List.setIfInBounds_toArray, List.set_cons_zero, List.set_cons_succ]
      refine wpAnyH_take (i := 7) (oi := _) (v := ?z8) rfl (by kernel_rfl) (by kernel_rfl) (by kernel_rfl) (fun _ _ _ h => h) (Or.inl ⟨by rfl, ?iy8⟩) (by assumption) ?sest8
      case iy8 => ((intro w hSw; (try dsimp only at hSw); go_simp); try (with_reducible rfl))
      (try dsimp only [List.getElem_toArray, List.getElem_cons_succ, List.getElem_cons_zero]); try simp only [Act.put, List.setIfInBounds_toArray, List.set_cons_zero, List.set_cons_succ]
      refine wpAnyH_take (i := 8) (oi := _) (v := ?z9) rfl (by kernel_rfl) (by kernel_rfl) (by kernel_rfl) (fun _ _ _ h => h) (Or.inl ⟨by rfl, ?iy9⟩) (by assumption) ?sest9
      case iy9 => ((intro w hSw; (try dsimp only at hSw); go_simp); try (with_reducible rfl))
      (try dsimp only [List.getElem_toArray, List.getElem_cons_succ, List.getElem_cons_zero]); try simp only [Act.put, List.setIfInBounds_toArray, List.set_cons_zero, List.set_cons_succ]
      refine wpAnyH_take (i := 9) (oi := _) (v := ?z10) rfl (by kernel_rfl) (by kernel_rfl) (by kernel_rfl) (fun _ _ _ h => h) (Or.inl ⟨by rfl, ?iy10⟩) (by assumption) ?sest10
      case iy10 => ((intro w hSw; (try dsimp only at hSw); go_simp); try (with_reducible rfl))
      (try dsimp only [List.getElem_toArray, List.getElem_cons_succ, List.getElem_cons_zero]); try simp only [Act.put, List.setIfInBounds_toArray, List.set_cons_zero, List.set_cons_succ]
      refine wpAnyH_take (i := 10) (oi := _) (v := ?z11) rfl (by kernel_rfl) (by kernel_rfl) (by kernel_rfl) (fun _ _ _ h => h) (Or.inl ⟨by rfl, ?iy11⟩) (by assumption) ?sest11
      case iy11 => ((intro w hSw; (try dsimp only at hSw); go_simp); try (with_reducible rfl))
      (try dsimp only [List.getElem_toArray, List.getElem_cons_succ, List.getElem_cons_zero]); try simp only [Act.put, List.setIfInBounds_toArray, List.set_cons_zero, List.set_cons_succ]
      refine wpAnyH_take (i := 11) (oi := _) (v := ?z12) rfl (by kernel_rfl) (by kernel_rfl) (by kernel_rfl) (fun _ _ _ h => h) (Or.inl ⟨by rfl, ?iy12⟩) (by assumption) ?sest12
      case iy12 => ((intro w hSw; (try dsimp only at hSw); go_simp); try (with_reducible rfl))
      (try dsimp only [List.getElem_toArray, List.getElem_cons_succ, List.getElem_cons_zero]); try simp only [Act.put, List.setIfInBounds_toArray, List.set_cons_zero, List.set_cons_succ]
      refine wpAnyH_take (i := 12) (oi := _) (v := ?z13) rfl (by kernel_rfl) (by kernel_rfl) (by kernel_rfl) (fun _ _ _ h => h) (Or.inl ⟨by rfl, ?iy13⟩) (by assumption) ?sest13
      case iy13 => ((intro w hSw; (try dsimp only at hSw); go_simp); try (with_reducible rfl))
      (try dsimp only [List.getElem_toArray, List.getElem_cons_succ, List.getElem_cons_zero]); try simp only [Act.put, List.setIfInBounds_toArray, List.set_cons_zero, List.set_cons_succ]
      refine wpAnyH_take (i := 13) (oi := _) (v := ?z14) rfl (by kernel_rfl) (by kernel_rfl) (by kernel_rfl) (fun _ _ _ h => h) (Or.inl ⟨by rfl, ?iy14⟩) (by assumption) ?sest14
      case iy14 => ((intro w hSw; (try dsimp only at hSw); go_simp); try (with_reducible rfl))
      (try dsimp only [List.getElem_toArray, List.getElem_cons_succ, List.getElem_cons_zero]); try simp only [Act.put, List.setIfInBounds_toArray, List.set_cons_zero, List.set_cons_succ]
      refine wpAnyH_take (i := 14) (oi := _) (v := ?z15) rfl (by kernel_rfl) (by kernel_rfl) (by kernel_rfl) (fun _ _ _ h => h) (Or.inl ⟨by rfl, ?iy15⟩) (by assumption) ?sest15
      case iy15 => ((intro w hSw; (try dsimp only at hSw); go_simp); try (with_reducible rfl))
      (try dsimp only [List.getElem_toArray, List.getElem_cons_succ, List.getElem_cons_zero]); try simp only [Act.put, List.setIfInBounds_toArray, List.set_cons_zero, List.set_cons_succ]
      refine wpAnyH_take (i := 15) (oi := _) (v := ?z16) rfl (by kernel_rfl) (by kernel_rfl) (by kernel_rfl) (fun _ _ _ h => h) (Or.inl ⟨by rfl, ?iy16⟩) (by assumption) ?sest16
      case iy16 => ((intro w hSw; (try dsimp only at hSw); go_simp); try (with_reducible rfl))
      (try dsimp only [List.getElem_toArray, List.getElem_cons_succ, List.getElem_cons_zero]); try simp only [Act.put, List.setIfInBounds_toArray, List.set_cons_zero, List.set_cons_succ]
      refine wpAnyH_take (i := 16) (oi := _) (v := ?z17) rfl (by kernel_rfl) (by kernel_rfl) (by kernel_rfl) (fun _ _ _ h => h) (Or.inl ⟨by rfl, ?iy17⟩) (by assumption) ?sest17
      case iy17 => ((intro w hSw; (try dsimp only at hSw); go_simp); try (with_reducible rfl))
      (try dsimp only [List.getElem_toArray, List.getElem_cons_succ, List.getElem_cons_zero]); try simp only [Act.put, List.setIfInBounds_toArray, List.set_cons_zero, List.set_cons_succ]
      refine wpAnyH_take (i := 17) (oi := _) (v := ?z18) rfl (by kernel_rfl) (by kernel_rfl) (by kernel_rfl) (fun _ _ _ h => h) (Or.inl ⟨by rfl, ?iy18⟩) (by assumption) ?sest18
      case iy18 => ((intro w hSw; (try dsimp only at hSw); go_simp); try (with_reducible rfl))
      (try dsimp only [List.getElem_toArray, List.getElem_cons_succ, List.getElem_cons_zero]); try simp only [Act.put, List.setIfInBounds_toArray, List.set_cons_zero, List.set_cons_succ]
      refine wpAnyH_take (i := 19) (oi := _) (v := ?z19) rfl (by kernel_rfl) (by kernel_rfl) (by kernel_rfl) (fun _ _ _ h => h) (Or.inl ⟨by rfl, ?iy19⟩) (by assumption) ?sest19
      case iy19 => ((intro w hSw; (try dsimp only at hSw); go_simp); try (with_reducible rfl))
      (try dsimp only [List.getElem_toArray, List.getElem_cons_succ, List.getElem_cons_zero]); try simp only [Act.put, List.setIfInBounds_toArray, List.set_cons_zero, List.set_cons_succ]
      refine wpAnyH_take (i := 20) (oi := _) (v := ?z20) rfl (by kernel_rfl) (by kernel_rfl) (by kernel_rfl) (fun _ _ _ h => h) (Or.inl ⟨by rfl, ?iy20⟩) (by assumption) ?sest20
      case iy20 => ((intro w hSw; (try dsimp only at hSw); go_simp); try (with_reducible rfl))
      (try dsimp only [List.getElem_toArray, List.getElem_cons_succ, List.getElem_cons_zero]); try simp only [Act.put, List.setIfInBounds_toArray, List.set_cons_zero, List.set_cons_succ]
      refine wpAnyH_take (i := 21) (oi := _) (v := ?z21) rfl (by kernel_rfl) (by kernel_rfl) (by kernel_rfl) (fun _ _ _ h => h) (Or.inl ⟨by rfl, ?iy21⟩) (by assumption) ?sest21
      case iy21 => ((intro w hSw; (try dsimp only at hSw); go_simp); try (with_reducible rfl))
      (try dsimp only [List.getElem_toArray, List.getElem_cons_succ, List.getElem_cons_zero]); try simp only [Act.put, List.setIfInBounds_toArray, List.set_cons_zero, List.set_cons_succ]
      refine wpAnyH_take (i := 22) (oi := _) (v := ?z22) rfl (by kernel_rfl) (by kernel_rfl) (by kernel_rfl) (fun _ _ _ h => h) (Or.inl ⟨by rfl, ?iy22⟩) (by assumption) ?sest22
      case iy22 => ((intro w hSw; (try dsimp only at hSw); go_simp); try (with_reducible rfl))
      (try dsimp only [List.getElem_toArray, List.getElem_cons_succ, List.getElem_cons_zero]); try simp only [Act.put, List.setIfInBounds_toArray, List.set_cons_zero, List.set_cons_succ]
      refine wpAnyH_ready (rs := [18]) (by kernel_rfl) (by simp) ?_
      refine AllReadyH.cons (o := _) rfl (fun K hK => ?_) ?_
      · go_simp
        go_at_call 25; (with_reducible refine (C1.out _ (by repeat (first | (with_reducible exact GI2.out) | (with_reducible refine gr_dr ?_)))).mono ?_); rintro e wx ⟨rfl, gx⟩
        refine hK.out _ _ ?_ (fun hHeld => ?_)
        · (try dsimp only); refine HKI.out _ ?_; repeat (first | (with_reducible exact GI2.out) | (with_reducible refine gr_dr ?_) | (with_reducible refine gr_then ?_ gy) | (with_reducible refine gr_then ?_ gx))
        clear hK K
        try simp only [Act.put, List.setIfInBounds_toArray, List.set_cons_zero, List.set_cons_succ]
        refine wpAnyH_ready (rs := [23]) (by kernel_rfl) (by simp) ?_
        refine AllReadyH.cons (o := _) rfl (fun K hK => ?_) ?_
        · go_simp
          go_at_call 26; (with_reducible refine (C2.out _ (by repeat (first | (with_reducible exact GI2.out) | (with_reducible refine gr_dr ?_) | (with_reducible refine gr_then ?_ gx)))).mono ?_); rintro e wy ⟨rfl, gy⟩
          refine hK.out _ _ ?_ (fun hHeld => ?_)
          · (try dsimp only); refine HKI.out _ ?_; repeat (first | (with_reducible exact GI2.out) | (with_reducible refine gr_dr ?_) | (with_reducible refine gr_then ?_ gy) | (with_reducible refine gr_then ?_ gx))
          clear hK K
          try simp only [Act.put, List.setIfInBounds_toArray, List.set_cons_zero, List.set_cons_succ]
          refine wpAnyH_take (i := 24) (oi := _) (v := ?z25) rfl (by kernel_rfl) (by kernel_rfl) (by kernel_rfl) (fun _ _ _ h => h) (Or.inl ⟨by rfl, ?iy25⟩) (by assumption) ?sest25
          case iy25 => ((intro w hSw; (try dsimp only at hSw); go_simp); try (with_reducible rfl))
          (try dsimp only [List.getElem_toArray, List.getElem_cons_succ, List.getElem_cons_zero]); try simp only [Act.put, List.setIfInBounds_toArray, List.set_cons_zero, List.set_cons_succ]
          refine wpAnyH_take (i := 25) (oi := _) (v := ?z26) rfl (by kernel_rfl) (by kernel_rfl) (by kernel_rfl) (fun _ _ _ h => h) (Or.inl ⟨by rfl, ?iy26⟩) (by assumption) ?sest26
          case iy26 => ((intro w hSw; (try dsimp only at hSw); go_simp); try (with_reducible rfl))
          (try dsimp only [List.getElem_toArray, List.getElem_cons_succ, List.getElem_cons_zero]); try simp only [Act.put, List.setIfInBounds_toArray, List.set_cons_zero, List.set_cons_succ]
          refine wpAnyH_done (by kernel_rfl) ?_ _
          go_wp2
          exact ⟨⟨i + 1, by omega, by simp, Lib.hid (gr_then (gr_then (gr_dr GI2.out) gx) gy)⟩, by simp only [intOf]; omega⟩
        exact AllReadyH.nil
      exact AllReadyH.nil
end Go.Proofs.YtgkegbcdiadkdaaDoor
namespace Go.Proofs.YtgkegbcdiadkdaaDoor
open Go.ChangeShapes Go.WideShapes Go.ChangeAt Go.RowKit Pt

set_option maxRecDepth 1000000 in
set_option maxHeartbeats 4000000 in
theorem finds_lifted (os : Os) (started : os.Started) (H : Type) (enc : TypeId × Value → H) :
    ReturnsInHanded {} Tryd.checked os 6 .any (fun w args => (Rows.patternFindsSpec.pre enc Tryd.prog Tryd.f6 Rows.patternFindsRow.domain false w args ∧ laidMet Tryd.prog Rows.patternFindsRow.laid w) ∧ sizedMet enc Tryd.prog Tryd.f6 (OpenSpec.ofChange Rows.patternFindsSpec) false w args)
      (Rows.patternFindsSpec.post enc Tryd.prog Tryd.f6 false true false false) := by
  refine returnsInHanded_of_change_and (C := Tryd.checked) (X := fun w _ => laidMet Tryd.prog Rows.patternFindsRow.laid w) (fun _ _ _ hh h => h.of_heap hh) own0 started (by kernel_rfl) Tryd.func6
    (ChangeSpec.witness_at (enc := enc) (C := Tryd.checked) (os := os) (X := fun w _ => laidMet Tryd.prog Rows.patternFindsRow.laid w) false (laidWorld os) #[.slice none 0 0, .slice none 0 0, .agg #[.int .i64 0, .int .u8 0, .string ⟨#[]⟩]] 8 rfl (by kernel_rfl) (by kernel_rfl) (by kernel_rfl) (by kernel_rfl) (by kernel_rfl) (laid_at os _)) ?_
  intro W base args ds gs before hval0 hW hcnd0 _ hL _
  have hval : ∀ (j : Nat) t v, Tryd.f6.params[j]? = some t → args[j]? = some v → Value.okWide Tryd.prog W .any base t v := hval0
  have hW' := hW
  obtain ⟨p, q, hA0, hV, rfl, hfz, hnd⟩ := hW
  have hA : DataW.TrodAll enc Tryd.prog W 0 (fun _ => true) true Tryd.f6.params.toList args.toList ds p := hA0
  rw [Tryd.params6] at hA hval
  obtain ⟨v0, v1, v2, d0, d1, d2, p0, p1, p2, rfl, rfl, rfl, h0, h1, h2⟩ := trodAll_three hA
  obtain ⟨rfl, rfl⟩ := trodVars_none hV
  clear hA0 hval0 hA
  simp only [List.append_nil] at hW'
  have k0 := hval 0 22 v0 rfl rfl
  have k1 := hval 1 22 v1 rfl rfl
  have k2 := hval 2 38 v2 rfl rfl
  have w0 := ints_arg k0 h0
  have w1 := ints_arg k1 h1
  obtain ⟨n2, c2, s2, rfl, w2, x2, y2⟩ := edit_arg k2 h2
  refine (finds_true v0 v1 n2 c2 s2 W (tab_of hL) w0 w1 w2 x2 y2).mono fun e W' ⟨he, hg⟩ => ?_
  subst he
  have hb : Below W.heap.size W W' := gr_low hg
  have hlt : ∀ x ∈ p0 ++ p1 ++ p2, x.block < W.heap.size := fun x hx => by simpa using hW'.lt x hx
  have hl0 : ∀ x ∈ p0, x.block < W.heap.size := fun x hx => hlt x (by simp [hx])
  have hl1 : ∀ x ∈ p1, x.block < W.heap.size := fun x hx => hlt x (by simp [hx])
  have hl2 : ∀ x ∈ p2, x.block < W.heap.size := fun x hx => hlt x (by simp [hx])
  refine ⟨_, rfl, _, _, _, [], p0 ++ p1 ++ p2, [], hW', ?_, ?_, rfl, hb.frame _, fun h => by cases h⟩
  · exact trodAll_mk1 (shut_bool Tryd.underlying4 true)
  · have h3 := trodAll_mk3 (Below.trod laidOut0 (by kernel_rfl) (of_decide_eq_true (by kernel_rfl)) h0 hb hl0) (Below.trod laidOut0 (by kernel_rfl) (of_decide_eq_true (by kernel_rfl)) h1 hb hl1) (Below.trod laidOut0 (by kernel_rfl) (of_decide_eq_true (by kernel_rfl)) h2 hb hl2)
    rw [← List.append_assoc] at h3
    exact h3

theorem finds_row : Rows.PatternFindsSaid :=
  OpenClaim.holds_of_wide 6 Tryd.f6 rfl rfl rfl rfl rfl rfl rfl ⟨rfl, rfl, rfl, rfl, rfl⟩ rfl rfl rfl rfl rfl (by kernel_rfl) Tryd.func6 (by kernel_rfl)
    (of_decide_eq_true (by kernel_rfl)) (by unfold Func.isWrapper; first | (rw [if_pos (by decide +kernel)]; kernel_rfl) | (rw [if_neg (by decide +kernel)]; exact ⟨rfl, rfl⟩))
    (fun os started H enc _ => finds_lifted os started H enc)
end Go.Proofs.YtgkegbcdiadkdaaDoor
