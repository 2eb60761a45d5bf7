/- The law of the claim at the level of the call, and its row: Sw. -/
import Derived.Test.YtaejnklgnegkhaaGreatDoorBBase
namespace Go.Proofs.YtaejnklgnegkhaaGreatDoor
open Go.RowKit Pt Sh

set_option maxRecDepth 100000 in
set_option maxHeartbeats 4000000 in
theorem within_any (a a' : S5) (w : World) (hb : a.b.size ≤ 1000000) (he : a.e.size ≤ 1000000) (hb' : a'.b.size ≤ 1000000) (he' : a'.e.size ≤ 1000000) :
    Calls Tryz.prog 22 #[vS a, vS a'] w (BoolIs (withD a a') w) := by
  have HKA := Lib.hid (fun w0 => canon_any a w0 hb he)
  have HKB := Lib.hid (fun w0 => canon_any a' w0 hb' he')
  have hla := canon_le hb he
  have hlb := canon_le hb' he'
  have hda := canon_bd a
  have hdb := canon_bd a'
  have HW := Lib.hid (show withD a a' ↔ (canonD a = none5 ∨ ((canonD a').l ≤ (canonD a).l ∧ (canonD a).m ≤ (canonD a').m ∧ Sub (canonD a).c (canonD a').c ∧ (canonD a').b.data.toList <+: (canonD a).b.data.toList ∧ (canonD a').e.data.toList <:+ (canonD a).e.data.toList)) from Iff.rfl)
  generalize hww : withD a a' = W at *
  generalize hkk : canonD a = k at *
  generalize hkk' : canonD a' = k' at *
  obtain ⟨l, m, c, b, e⟩ := a
  obtain ⟨l', m', c', b', e'⟩ := a'
  obtain ⟨kl, km, kc, kb, ke⟩ := k
  obtain ⟨ql, qm, qc, qb, qe⟩ := k'
  have RA := ((Row.new w (five ⟨l, m, c, b, e⟩) 24).al (o := .cells #[.int .i64 l', .int .i64 m', .int .i64 c', .string b', .string e'] 24))
  have RB := (Row.new (w.alloc (.cells #[.int .i64 l, .int .i64 m, .int .i64 c, .string b, .string e] 24)) (five ⟨l', m', c', b', e'⟩) 24)
  rw [World.size_alloc] at RB
  simp only [List.toArray] at RA RB
  obtain ⟨wz, hwz⟩ : ∃ wz, (w.alloc (.cells #[.int .i64 l, .int .i64 m, .int .i64 c, .string b, .string e] 24)).alloc (.cells #[.int .i64 l', .int .i64 m', .int .i64 c', .string b', .string e'] 24) = wz := ⟨_, rfl⟩
  rw [hwz] at RA RB
  have HRA := Lib.hid RA
  have HRB := Lib.hid RB
  have HGZ := Lib.hid (show w.grownBy wz none from by rw [← hwz]; exact gr_then (gr_alloc _ _ _) (gr_alloc _ _ _))
  have HWZ := Lib.hid hwz
  have a0 := RA.cell 0 _ rfl
  have a1 := RA.cell 1 _ rfl
  have a2 := RA.cell 2 _ rfl
  have a3 := RA.cell 3 _ rfl
  have a4 := RA.cell 4 _ rfl
  have b0 := RB.cell 0 _ rfl
  have b1 := RB.cell 1 _ rfl
  have b2 := RB.cell 2 _ rfl
  have b3 := RB.cell 3 _ rfl
  have b4 := RB.cell 4 _ rfl
  clear RA RB hwz hb he hb' he' hkk hkk' hww
  go_enter Tryz.func22, Tryz.ntmps22
  go_wp2_with fail
  rw [HWZ.out]
  go_cut [4] from 5 to 8 (fun p wx => p = .bool false ∧ Row wx w.heap.size (five ⟨kl, km, kc, kb, ke⟩) 24 ∧ Row wx (w.heap.size + 1) (five ⟨ql, qm, qc, qb, qe⟩) 24 ∧ w.grownBy wx none)
  case first =>
    go_region_with (first
      | (go_at_call 42; with_reducible refine (HKA.out _).mono ?_; rintro e1 w1 ⟨rfl, g1⟩; have d0 := (HRB.out.kept (gr_then (gr_dr (gr_rfl wz)) g1)).cell 0 _ rfl; have d1 := (HRB.out.kept (gr_then (gr_dr (gr_rfl wz)) g1)).cell 1 _ rfl; have d2 := (HRB.out.kept (gr_then (gr_dr (gr_rfl wz)) g1)).cell 2 _ rfl; have d3 := (HRB.out.kept (gr_then (gr_dr (gr_rfl wz)) g1)).cell 3 _ rfl; have d4 := (HRB.out.kept (gr_then (gr_dr (gr_rfl wz)) g1)).cell 4 _ rfl)
      | (go_at_call 42; with_reducible refine (HKB.out _).mono ?_; rintro e2 w2 ⟨rfl, g2⟩; have p0 := (HRA.out.kept (gr_then (gr_then (gr_dr (gr_rfl wz)) g1) g2)).cell 0 _ rfl; have pf0 := (HRA.out.kept (gr_then (gr_then (gr_dr (gr_rfl wz)) g1) g2)).fr 0; have q0 := (HRB.out.kept (gr_then (gr_then (gr_dr (gr_rfl wz)) g1) g2)).cell 0 _ rfl; have qf0 := (HRB.out.kept (gr_then (gr_then (gr_dr (gr_rfl wz)) g1) g2)).fr 0; have p1 := (HRA.out.kept (gr_then (gr_then (gr_dr (gr_rfl wz)) g1) g2)).cell 1 _ rfl; have pf1 := (HRA.out.kept (gr_then (gr_then (gr_dr (gr_rfl wz)) g1) g2)).fr 1; have q1 := (HRB.out.kept (gr_then (gr_then (gr_dr (gr_rfl wz)) g1) g2)).cell 1 _ rfl; have qf1 := (HRB.out.kept (gr_then (gr_then (gr_dr (gr_rfl wz)) g1) g2)).fr 1; have p2 := (HRA.out.kept (gr_then (gr_then (gr_dr (gr_rfl wz)) g1) g2)).cell 2 _ rfl; have pf2 := (HRA.out.kept (gr_then (gr_then (gr_dr (gr_rfl wz)) g1) g2)).fr 2; have q2 := (HRB.out.kept (gr_then (gr_then (gr_dr (gr_rfl wz)) g1) g2)).cell 2 _ rfl; have qf2 := (HRB.out.kept (gr_then (gr_then (gr_dr (gr_rfl wz)) g1) g2)).fr 2; have p3 := (HRA.out.kept (gr_then (gr_then (gr_dr (gr_rfl wz)) g1) g2)).cell 3 _ rfl; have pf3 := (HRA.out.kept (gr_then (gr_then (gr_dr (gr_rfl wz)) g1) g2)).fr 3; have q3 := (HRB.out.kept (gr_then (gr_then (gr_dr (gr_rfl wz)) g1) g2)).cell 3 _ rfl; have qf3 := (HRB.out.kept (gr_then (gr_then (gr_dr (gr_rfl wz)) g1) g2)).fr 3; have p4 := (HRA.out.kept (gr_then (gr_then (gr_dr (gr_rfl wz)) g1) g2)).cell 4 _ rfl; have pf4 := (HRA.out.kept (gr_then (gr_then (gr_dr (gr_rfl wz)) g1) g2)).fr 4; have q4 := (HRB.out.kept (gr_then (gr_then (gr_dr (gr_rfl wz)) g1) g2)).cell 4 _ rfl; have qf4 := (HRB.out.kept (gr_then (gr_then (gr_dr (gr_rfl wz)) g1) g2)).fr 4))
    all_goals
      have G : wz.grownBy w2 none := gr_then (gr_then (gr_dr (gr_rfl wz)) g1) g2
      go_wp2_with fail
      go_meet
      exact ⟨rfl, ((HRA.out.kept G).five (v0 := .int .i64 kl) (v1 := .int .i64 km) (v2 := .int .i64 kc) (v3 := .string kb) (v4 := .string ke)).keep5 (by omega), ((HRB.out.kept G).keep5 (by omega)).five, gr_five (gr_five (gr_then HGZ.out G) (Nat.le_refl _)) (by omega)⟩
  case rest =>
    obtain ⟨rfl, RA, RB, GW⟩ := hcut
    obtain ⟨w7, hw7⟩ : ∃ w7, wc = w7 := ⟨_, rfl⟩
    rw [hw7] at RA RB GW ⊢
    have HRA := Lib.hid RA
    have HRB := Lib.hid RB
    have HGW := Lib.hid GW
    have HNS := Lib.hid nos0
    clear hw7 RA RB GW a0 a1 a2 a3 a4 b0 b1 b2 b3 b4
    have hnl := nil_list
    have HP := Lib.hid (fun w0 => Tryz.strings_HasPrefix kb qb w0)
    have HU := Lib.hid (fun w0 => Tryz.strings_HasSuffix ke qe w0 (by have := hla.2; omega))
    have HSUB := Lib.hid (show bits .andNot .i64 kc qc = 0 ↔ Sub kc qc from andn_zero)
    have HPB := Lib.hid (has_pre kb.data.toList qb.data.toList)
    have HUE := Lib.hid (has_suf ke.data.toList qe.data.toList)
    generalize Lib.hasPrefix kb.data.toList qb.data.toList = hp at *
    generalize Lib.hasSuffix ke.data.toList qe.data.toList = hu at *
    clear hdb
    rcases hda with h | h
    · obtain ⟨rfl, rfl, rfl, rfl, rfl⟩ : kl = 1 ∧ km = 0 ∧ kc = 0 ∧ kb = ⟨#[]⟩ ∧ ke = ⟨#[]⟩ := by
        unfold none5 at h; cases h; exact ⟨rfl, rfl, rfl, rfl, rfl⟩
      clear h hla hlb
      have HK := Lib.hid (show ∀ w', w7.grownBy w' none → (w'.cell? ⟨w.heap.size, 0, none⟩ = some (.int .i64 1) ∧ w'.cell? ⟨w.heap.size, 1, none⟩ = some (.int .i64 0) ∧ w'.cell? ⟨w.heap.size, 2, none⟩ = some (.int .i64 0) ∧ w'.cell? ⟨w.heap.size, 3, none⟩ = some (.string ⟨#[]⟩) ∧ w'.cell? ⟨w.heap.size, 4, none⟩ = some (.string ⟨#[]⟩) ∧ w'.cell? ⟨w.heap.size + 1, 0, none⟩ = some (.int .i64 ql) ∧ w'.cell? ⟨w.heap.size + 1, 1, none⟩ = some (.int .i64 qm) ∧ w'.cell? ⟨w.heap.size + 1, 2, none⟩ = some (.int .i64 qc) ∧ w'.cell? ⟨w.heap.size + 1, 3, none⟩ = some (.string qb) ∧ w'.cell? ⟨w.heap.size + 1, 4, none⟩ = some (.string qe)) from fun w' h => ⟨(HRA.out.kept h).cell 0 _ rfl, (HRA.out.kept h).cell 1 _ rfl, (HRA.out.kept h).cell 2 _ rfl, (HRA.out.kept h).cell 3 _ rfl, (HRA.out.kept h).cell 4 _ rfl, (HRB.out.kept h).cell 0 _ rfl, (HRB.out.kept h).cell 1 _ rfl, (HRB.out.kept h).cell 2 _ rfl, (HRB.out.kept h).cell 3 _ rfl, (HRB.out.kept h).cell 4 _ rfl⟩)
      go_wp2_with fail
      refine wp_region_held_drew (S := (fun w' => w'.cell? ⟨w.heap.size, 0, none⟩ = some (.int .i64 1) ∧ w'.cell? ⟨w.heap.size, 1, none⟩ = some (.int .i64 0) ∧ w'.cell? ⟨w.heap.size, 2, none⟩ = some (.int .i64 0) ∧ w'.cell? ⟨w.heap.size, 3, none⟩ = some (.string ⟨#[]⟩) ∧ w'.cell? ⟨w.heap.size, 4, none⟩ = some (.string ⟨#[]⟩) ∧ w'.cell? ⟨w.heap.size + 1, 0, none⟩ = some (.int .i64 ql) ∧ w'.cell? ⟨w.heap.size + 1, 1, none⟩ = some (.int .i64 qm) ∧ w'.cell? ⟨w.heap.size + 1, 2, none⟩ = some (.int .i64 qc) ∧ w'.cell? ⟨w.heap.size + 1, 3, none⟩ = some (.string qb) ∧ w'.cell? ⟨w.heap.size + 1, 4, none⟩ = some (.string qe))) (by kernel_rfl) ?_ (fun hHeld => ?_)
      · refine HK.out _ ?_; (repeat (first | (with_reducible exact gr_rfl _) | (with_reducible refine gr_dr ?_) | (with_reducible refine gr_then ?_ hx)))
      refine wpAnyH_take (i := 0) (oi := _) (v := ?v1) rfl (by kernel_rfl) (by kernel_rfl) (by kernel_rfl) (fun _ _ _ h => h) (Or.inl ⟨by rfl, ?hy1⟩) (by assumption) ?rest1
      case hy1 => ((intro w hSw; (try dsimp only at hSw); go_simp); try (with_reducible rfl))
      ((try dsimp only [List.getElem_toArray, List.getElem_cons_succ, List.getElem_cons_zero]); try simp only [Act.put, List.setIfInBounds_toArray, List.set_cons_zero, List.set_cons_succ])
      refine wpAnyH_ready (rs := [1]) (by kernel_rfl) (by simp) ?_
      refine AllReadyH.cons (o := _) rfl (fun K hK => ?_) AllReadyH.nil
      go_simp
      go_at_call 43; (with_reducible refine (HNS.out _).mono ?_); rintro ex wx ⟨rfl, hx⟩
      refine hK.out _ _ ?_ (fun hHeld => ?_)
      · (try dsimp only); refine HK.out _ ?_; (repeat (first | (with_reducible exact gr_rfl _) | (with_reducible refine gr_dr ?_) | (with_reducible refine gr_then ?_ hx)))
      clear hK K
      ((try dsimp only [List.getElem_toArray, List.getElem_cons_succ, List.getElem_cons_zero]); try simp only [Act.put, List.setIfInBounds_toArray, List.set_cons_zero, List.set_cons_succ])
      refine wpAnyH_take (i := 2) (oi := _) (v := ?v2) rfl (by kernel_rfl) (by kernel_rfl) (by kernel_rfl) (fun _ _ _ h => h) (Or.inl ⟨by rfl, ?hy2⟩) (by assumption) ?rest2
      case hy2 => ((intro w hSw; (try dsimp only at hSw); go_simp); try (with_reducible rfl))
      ((try dsimp only [List.getElem_toArray, List.getElem_cons_succ, List.getElem_cons_zero]); try simp only [Act.put, List.setIfInBounds_toArray, List.set_cons_zero, List.set_cons_succ])
      refine wpAnyH_take (i := 3) (oi := _) (v := ?v3) rfl (by kernel_rfl) (by kernel_rfl) (by kernel_rfl) (fun _ _ _ h => h) (Or.inl ⟨by rfl, ?hy3⟩) (by assumption) ?rest3
      case hy3 => ((intro w hSw; (try dsimp only at hSw); go_simp); try (with_reducible rfl))
      ((try dsimp only [List.getElem_toArray, List.getElem_cons_succ, List.getElem_cons_zero]); try simp only [Act.put, List.setIfInBounds_toArray, List.set_cons_zero, List.set_cons_succ])
      refine wpAnyH_take (i := 4) (oi := _) (v := _) rfl (by kernel_rfl) (by kernel_rfl) (by kernel_rfl) (fun _ _ _ h => h) (Or.inr ⟨by rfl, rfl⟩) (by assumption) ?rest4
      ((try dsimp only [List.getElem_toArray, List.getElem_cons_succ, List.getElem_cons_zero]); try simp only [Act.put, List.setIfInBounds_toArray, List.set_cons_zero, List.set_cons_succ])
      refine wpAnyH_take (i := 5) (oi := _) (v := _) rfl (by kernel_rfl) (by kernel_rfl) (by kernel_rfl) (fun _ _ _ h => h) (Or.inr ⟨by rfl, rfl⟩) (by assumption) ?rest5
      ((try dsimp only [List.getElem_toArray, List.getElem_cons_succ, List.getElem_cons_zero]); try simp only [Act.put, List.setIfInBounds_toArray, List.set_cons_zero, List.set_cons_succ])
      refine wpAnyH_take (i := 6) (oi := _) (v := _) rfl (by kernel_rfl) (by kernel_rfl) (by kernel_rfl) (fun _ _ _ h => h) (Or.inr ⟨by rfl, rfl⟩) (by assumption) ?rest6
      ((try dsimp only [List.getElem_toArray, List.getElem_cons_succ, List.getElem_cons_zero]); try simp only [Act.put, List.setIfInBounds_toArray, List.set_cons_zero, List.set_cons_succ])
      refine wpAnyH_take (i := 7) (oi := _) (v := _) rfl (by kernel_rfl) (by kernel_rfl) (by kernel_rfl) (fun _ _ _ h => h) (Or.inr ⟨by rfl, rfl⟩) (by assumption) ?rest7
      ((try dsimp only [List.getElem_toArray, List.getElem_cons_succ, List.getElem_cons_zero]); try simp only [Act.put, List.setIfInBounds_toArray, List.set_cons_zero, List.set_cons_succ])
      refine wpAnyH_take (i := 8) (oi := _) (v := _) rfl (by kernel_rfl) (by kernel_rfl) (by kernel_rfl) (fun _ _ _ h => h) (Or.inr ⟨by rfl, rfl⟩) (by assumption) ?rest8
      ((try dsimp only [List.getElem_toArray, List.getElem_cons_succ, List.getElem_cons_zero]); try simp only [Act.put, List.setIfInBounds_toArray, List.set_cons_zero, List.set_cons_succ])
      refine wpAnyH_take (i := 9) (oi := _) (v := _) rfl (by kernel_rfl) (by kernel_rfl) (by kernel_rfl) (fun _ _ _ h => h) (Or.inr ⟨by rfl, rfl⟩) (by assumption) ?rest9
      ((try dsimp only [List.getElem_toArray, List.getElem_cons_succ, List.getElem_cons_zero]); try simp only [Act.put, List.setIfInBounds_toArray, List.set_cons_zero, List.set_cons_succ])
      refine wpAnyH_take (i := 10) (oi := _) (v := _) rfl (by kernel_rfl) (by kernel_rfl) (by kernel_rfl) (fun _ _ _ h => h) (Or.inr ⟨by rfl, rfl⟩) (by assumption) ?rest10
      ((try dsimp only [List.getElem_toArray, List.getElem_cons_succ, List.getElem_cons_zero]); try simp only [Act.put, List.setIfInBounds_toArray, List.set_cons_zero, List.set_cons_succ])
      refine wpAnyH_take (i := 11) (oi := _) (v := _) rfl (by kernel_rfl) (by kernel_rfl) (by kernel_rfl) (fun _ _ _ h => h) (Or.inr ⟨by rfl, rfl⟩) (by assumption) ?rest11
      ((try dsimp only [List.getElem_toArray, List.getElem_cons_succ, List.getElem_cons_zero]); try simp only [Act.put, List.setIfInBounds_toArray, List.set_cons_zero, List.set_cons_succ])
      refine wpAnyH_take (i := 12) (oi := _) (v := _) rfl (by kernel_rfl) (by kernel_rfl) (by kernel_rfl) (fun _ _ _ h => h) (Or.inr ⟨by rfl, rfl⟩) (by assumption) ?rest12
      ((try dsimp only [List.getElem_toArray, List.getElem_cons_succ, List.getElem_cons_zero]); try simp only [Act.put, List.setIfInBounds_toArray, List.set_cons_zero, List.set_cons_succ])
      refine wpAnyH_take (i := 13) (oi := _) (v := _) rfl (by kernel_rfl) (by kernel_rfl) (by kernel_rfl) (fun _ _ _ h => h) (Or.inr ⟨by rfl, rfl⟩) (by assumption) ?rest13
      ((try dsimp only [List.getElem_toArray, List.getElem_cons_succ, List.getElem_cons_zero]); try simp only [Act.put, List.setIfInBounds_toArray, List.set_cons_zero, List.set_cons_succ])
      refine wpAnyH_take (i := 14) (oi := _) (v := _) rfl (by kernel_rfl) (by kernel_rfl) (by kernel_rfl) (fun _ _ _ h => h) (Or.inr ⟨by rfl, rfl⟩) (by assumption) ?rest14
      ((try dsimp only [List.getElem_toArray, List.getElem_cons_succ, List.getElem_cons_zero]); try simp only [Act.put, List.setIfInBounds_toArray, List.set_cons_zero, List.set_cons_succ])
      refine wpAnyH_take (i := 15) (oi := _) (v := _) rfl (by kernel_rfl) (by kernel_rfl) (by kernel_rfl) (fun _ _ _ h => h) (Or.inr ⟨by rfl, rfl⟩) (by assumption) ?rest15
      ((try dsimp only [List.getElem_toArray, List.getElem_cons_succ, List.getElem_cons_zero]); try simp only [Act.put, List.setIfInBounds_toArray, List.set_cons_zero, List.set_cons_succ])
      refine wpAnyH_take (i := 16) (oi := _) (v := _) rfl (by kernel_rfl) (by kernel_rfl) (by kernel_rfl) (fun _ _ _ h => h) (Or.inr ⟨by rfl, rfl⟩) (by assumption) ?rest16
      ((try dsimp only [List.getElem_toArray, List.getElem_cons_succ, List.getElem_cons_zero]); try simp only [Act.put, List.setIfInBounds_toArray, List.set_cons_zero, List.set_cons_succ])
      refine wpAnyH_take (i := 17) (oi := _) (v := _) rfl (by kernel_rfl) (by kernel_rfl) (by kernel_rfl) (fun _ _ _ h => h) (Or.inr ⟨by rfl, rfl⟩) (by assumption) ?rest17
      ((try dsimp only [List.getElem_toArray, List.getElem_cons_succ, List.getElem_cons_zero]); try simp only [Act.put, List.setIfInBounds_toArray, List.set_cons_zero, List.set_cons_succ])
      refine wpAnyH_take (i := 18) (oi := _) (v := _) rfl (by kernel_rfl) (by kernel_rfl) (by kernel_rfl) (fun _ _ _ h => h) (Or.inr ⟨by rfl, rfl⟩) (by assumption) ?rest18
      ((try dsimp only [List.getElem_toArray, List.getElem_cons_succ, List.getElem_cons_zero]); try simp only [Act.put, List.setIfInBounds_toArray, List.set_cons_zero, List.set_cons_succ])
      refine wpAnyH_take (i := 19) (oi := _) (v := _) rfl (by kernel_rfl) (by kernel_rfl) (by kernel_rfl) (fun _ _ _ h => h) (Or.inr ⟨by rfl, rfl⟩) (by assumption) ?rest19
      ((try dsimp only [List.getElem_toArray, List.getElem_cons_succ, List.getElem_cons_zero]); try simp only [Act.put, List.setIfInBounds_toArray, List.set_cons_zero, List.set_cons_succ])
      refine wpAnyH_take (i := 20) (oi := _) (v := _) rfl (by kernel_rfl) (by kernel_rfl) (by kernel_rfl) (fun _ _ _ h => h) (Or.inr ⟨by rfl, rfl⟩) (by assumption) ?rest20
      ((try dsimp only [List.getElem_toArray, List.getElem_cons_succ, List.getElem_cons_zero]); try simp only [Act.put, List.setIfInBounds_toArray, List.set_cons_zero, List.set_cons_succ])
      refine wpAnyH_take (i := 21) (oi := _) (v := _) rfl (by kernel_rfl) (by kernel_rfl) (by kernel_rfl) (fun _ _ _ h => h) (Or.inr ⟨by rfl, rfl⟩) (by assumption) ?rest21
      ((try dsimp only [List.getElem_toArray, List.getElem_cons_succ, List.getElem_cons_zero]); try simp only [Act.put, List.setIfInBounds_toArray, List.set_cons_zero, List.set_cons_succ])
      refine wpAnyH_take (i := 22) (oi := _) (v := _) rfl (by kernel_rfl) (by kernel_rfl) (by kernel_rfl) (fun _ _ _ h => h) (Or.inr ⟨by rfl, rfl⟩) (by assumption) ?rest22
      ((try dsimp only [List.getElem_toArray, List.getElem_cons_succ, List.getElem_cons_zero]); try simp only [Act.put, List.setIfInBounds_toArray, List.set_cons_zero, List.set_cons_succ])
      refine wpAnyH_take (i := 23) (oi := _) (v := _) rfl (by kernel_rfl) (by kernel_rfl) (by kernel_rfl) (fun _ _ _ h => h) (Or.inr ⟨by rfl, rfl⟩) (by assumption) ?rest23
      ((try dsimp only [List.getElem_toArray, List.getElem_cons_succ, List.getElem_cons_zero]); try simp only [Act.put, List.setIfInBounds_toArray, List.set_cons_zero, List.set_cons_succ])
      refine wpAnyH_take (i := 24) (oi := _) (v := _) rfl (by kernel_rfl) (by kernel_rfl) (by kernel_rfl) (fun _ _ _ h => h) (Or.inr ⟨by rfl, rfl⟩) (by assumption) ?rest24
      ((try dsimp only [List.getElem_toArray, List.getElem_cons_succ, List.getElem_cons_zero]); try simp only [Act.put, List.setIfInBounds_toArray, List.set_cons_zero, List.set_cons_succ])
      refine wpAnyH_take (i := 25) (oi := _) (v := _) rfl (by kernel_rfl) (by kernel_rfl) (by kernel_rfl) (fun _ _ _ h => h) (Or.inr ⟨by rfl, rfl⟩) (by assumption) ?rest25
      ((try dsimp only [List.getElem_toArray, List.getElem_cons_succ, List.getElem_cons_zero]); try simp only [Act.put, List.setIfInBounds_toArray, List.set_cons_zero, List.set_cons_succ])
      refine wpAnyH_take (i := 26) (oi := _) (v := _) rfl (by kernel_rfl) (by kernel_rfl) (by kernel_rfl) (fun _ _ _ h => h) (Or.inr ⟨by rfl, rfl⟩) (by assumption) ?rest26
      ((try dsimp only [List.getElem_toArray, List.getElem_cons_succ, List.getElem_cons_zero]); try simp only [Act.put, List.setIfInBounds_toArray, List.set_cons_zero, List.set_cons_succ])
      refine wpAnyH_take (i := 27) (oi := _) (v := _) rfl (by kernel_rfl) (by kernel_rfl) (by kernel_rfl) (fun _ _ _ h => h) (Or.inr ⟨by rfl, rfl⟩) (by assumption) ?rest27
      ((try dsimp only [List.getElem_toArray, List.getElem_cons_succ, List.getElem_cons_zero]); try simp only [Act.put, List.setIfInBounds_toArray, List.set_cons_zero, List.set_cons_succ])
      refine wpAnyH_take (i := 28) (oi := _) (v := _) rfl (by kernel_rfl) (by kernel_rfl) (by kernel_rfl) (fun _ _ _ h => h) (Or.inr ⟨by rfl, rfl⟩) (by assumption) ?rest28
      ((try dsimp only [List.getElem_toArray, List.getElem_cons_succ, List.getElem_cons_zero]); try simp only [Act.put, List.setIfInBounds_toArray, List.set_cons_zero, List.set_cons_succ])
      refine wpAnyH_take (i := 29) (oi := _) (v := _) rfl (by kernel_rfl) (by kernel_rfl) (by kernel_rfl) (fun _ _ _ h => h) (Or.inr ⟨by rfl, rfl⟩) (by assumption) ?rest29
      ((try dsimp only [List.getElem_toArray, List.getElem_cons_succ, List.getElem_cons_zero]); try simp only [Act.put, List.setIfInBounds_toArray, List.set_cons_zero, List.set_cons_succ])
      refine wpAnyH_take (i := 30) (oi := _) (v := _) rfl (by kernel_rfl) (by kernel_rfl) (by kernel_rfl) (fun _ _ _ h => h) (Or.inr ⟨by rfl, rfl⟩) (by assumption) ?rest30
      ((try dsimp only [List.getElem_toArray, List.getElem_cons_succ, List.getElem_cons_zero]); try simp only [Act.put, List.setIfInBounds_toArray, List.set_cons_zero, List.set_cons_succ])
      refine wpAnyH_take (i := 31) (oi := _) (v := _) rfl (by kernel_rfl) (by kernel_rfl) (by kernel_rfl) (fun _ _ _ h => h) (Or.inr ⟨by rfl, rfl⟩) (by assumption) ?rest31
      ((try dsimp only [List.getElem_toArray, List.getElem_cons_succ, List.getElem_cons_zero]); try simp only [Act.put, List.setIfInBounds_toArray, List.set_cons_zero, List.set_cons_succ])
      refine wpAnyH_take (i := 32) (oi := _) (v := _) rfl (by kernel_rfl) (by kernel_rfl) (by kernel_rfl) (fun _ _ _ h => h) (Or.inr ⟨by rfl, rfl⟩) (by assumption) ?rest32
      ((try dsimp only [List.getElem_toArray, List.getElem_cons_succ, List.getElem_cons_zero]); try simp only [Act.put, List.setIfInBounds_toArray, List.set_cons_zero, List.set_cons_succ])
      refine wpAnyH_take (i := 33) (oi := _) (v := _) rfl (by kernel_rfl) (by kernel_rfl) (by kernel_rfl) (fun _ _ _ h => h) (Or.inr ⟨by rfl, rfl⟩) (by assumption) ?rest33
      ((try dsimp only [List.getElem_toArray, List.getElem_cons_succ, List.getElem_cons_zero]); try simp only [Act.put, List.setIfInBounds_toArray, List.set_cons_zero, List.set_cons_succ])
      refine wpAnyH_take (i := 34) (oi := _) (v := _) rfl (by kernel_rfl) (by kernel_rfl) (by kernel_rfl) (fun _ _ _ h => h) (Or.inr ⟨by rfl, rfl⟩) (by assumption) ?rest34
      ((try dsimp only [List.getElem_toArray, List.getElem_cons_succ, List.getElem_cons_zero]); try simp only [Act.put, List.setIfInBounds_toArray, List.set_cons_zero, List.set_cons_succ])
      refine wpAnyH_take (i := 35) (oi := _) (v := _) rfl (by kernel_rfl) (by kernel_rfl) (by kernel_rfl) (fun _ _ _ h => h) (Or.inr ⟨by rfl, rfl⟩) (by assumption) ?rest35
      ((try dsimp only [List.getElem_toArray, List.getElem_cons_succ, List.getElem_cons_zero]); try simp only [Act.put, List.setIfInBounds_toArray, List.set_cons_zero, List.set_cons_succ])
      refine wpAnyH_take (i := 36) (oi := _) (v := _) rfl (by kernel_rfl) (by kernel_rfl) (by kernel_rfl) (fun _ _ _ h => h) (Or.inr ⟨by rfl, rfl⟩) (by assumption) ?rest36
      ((try dsimp only [List.getElem_toArray, List.getElem_cons_succ, List.getElem_cons_zero]); try simp only [Act.put, List.setIfInBounds_toArray, List.set_cons_zero, List.set_cons_succ])
      refine wpAnyH_take (i := 37) (oi := _) (v := _) rfl (by kernel_rfl) (by kernel_rfl) (by kernel_rfl) (fun _ _ _ h => h) (Or.inr ⟨by rfl, rfl⟩) (by assumption) ?rest37
      ((try dsimp only [List.getElem_toArray, List.getElem_cons_succ, List.getElem_cons_zero]); try simp only [Act.put, List.setIfInBounds_toArray, List.set_cons_zero, List.set_cons_succ])
      refine wpAnyH_take (i := 38) (oi := _) (v := ?v38) rfl (by kernel_rfl) (by kernel_rfl) (by kernel_rfl) (fun _ _ _ h => h) (Or.inl ⟨by rfl, ?hy38⟩) (by assumption) ?rest38
      case hy38 => ((intro w hSw; (try dsimp only at hSw); go_simp); try (with_reducible rfl))
      ((try dsimp only [List.getElem_toArray, List.getElem_cons_succ, List.getElem_cons_zero]); try simp only [Act.put, List.setIfInBounds_toArray, List.set_cons_zero, List.set_cons_succ])
      refine wpAnyH_take (i := 39) (oi := _) (v := ?v39) rfl (by kernel_rfl) (by kernel_rfl) (by kernel_rfl) (fun _ _ _ h => h) (Or.inl ⟨by rfl, ?hy39⟩) (by assumption) ?rest39
      case hy39 => ((intro w hSw; (try dsimp only at hSw); go_simp); try (with_reducible rfl))
      ((try dsimp only [List.getElem_toArray, List.getElem_cons_succ, List.getElem_cons_zero]); try simp only [Act.put, List.setIfInBounds_toArray, List.set_cons_zero, List.set_cons_succ])
      refine wpAnyH_done (by kernel_rfl) ?_ _
      go_wp2
      go_ret
      exact BoolIs.yes rfl (HW.out.2 (.inl rfl)) (gr_then HGW.out (gr_then (gr_dr (gr_rfl w7)) hx))
    · have hkn : (⟨kl, km, kc, kb, ke⟩ : S5) ≠ none5 := fun h0 => by unfold none5 at h0; cases h0; omega
      have hk2 : (kl == 1) = false ∨ (kl = 1 ∧ (km == 0) = false) := by
        by_cases h1 : kl = 1
        · exact .inr ⟨h1, by rw [beq_eq_false_iff_ne]; omega⟩
        · exact .inl (by rw [beq_eq_false_iff_ne]; exact h1)
      have HKN := Lib.hid hkn
      clear h hkn hla hlb
      obtain ⟨z, hz⟩ : ∃ z, bits .andNot .i64 kc qc = z := ⟨_, rfl⟩
      have HZ := Lib.hid hz
      rcases hk2 with hk2 | ⟨rfl, hk2⟩
      · by_cases h1 : ql ≤ kl
        rotate_left
        · have h1d : decide (ql ≤ kl) = false := decide_eq_false h1
          have H1 := Lib.hid h1
          clear h1 hz
          have HK := Lib.hid (show ∀ w', w7.grownBy w' none → (w'.cell? ⟨w.heap.size, 0, none⟩ = some (.int .i64 kl) ∧ w'.cell? ⟨w.heap.size, 1, none⟩ = some (.int .i64 km) ∧ w'.cell? ⟨w.heap.size, 2, none⟩ = some (.int .i64 kc) ∧ w'.cell? ⟨w.heap.size, 3, none⟩ = some (.string kb) ∧ w'.cell? ⟨w.heap.size, 4, none⟩ = some (.string ke) ∧ w'.cell? ⟨w.heap.size + 1, 0, none⟩ = some (.int .i64 ql) ∧ w'.cell? ⟨w.heap.size + 1, 1, none⟩ = some (.int .i64 qm) ∧ w'.cell? ⟨w.heap.size + 1, 2, none⟩ = some (.int .i64 qc) ∧ w'.cell? ⟨w.heap.size + 1, 3, none⟩ = some (.string qb) ∧ w'.cell? ⟨w.heap.size + 1, 4, none⟩ = some (.string qe)) from fun w' h => ⟨(HRA.out.kept h).cell 0 _ rfl, (HRA.out.kept h).cell 1 _ rfl, (HRA.out.kept h).cell 2 _ rfl, (HRA.out.kept h).cell 3 _ rfl, (HRA.out.kept h).cell 4 _ rfl, (HRB.out.kept h).cell 0 _ rfl, (HRB.out.kept h).cell 1 _ rfl, (HRB.out.kept h).cell 2 _ rfl, (HRB.out.kept h).cell 3 _ rfl, (HRB.out.kept h).cell 4 _ rfl⟩)
          go_wp2_with fail
          refine wp_region_held_drew (S := (fun w' => w'.cell? ⟨w.heap.size, 0, none⟩ = some (.int .i64 kl) ∧ w'.cell? ⟨w.heap.size, 1, none⟩ = some (.int .i64 km) ∧ w'.cell? ⟨w.heap.size, 2, none⟩ = some (.int .i64 kc) ∧ w'.cell? ⟨w.heap.size, 3, none⟩ = some (.string kb) ∧ w'.cell? ⟨w.heap.size, 4, none⟩ = some (.string ke) ∧ w'.cell? ⟨w.heap.size + 1, 0, none⟩ = some (.int .i64 ql) ∧ w'.cell? ⟨w.heap.size + 1, 1, none⟩ = some (.int .i64 qm) ∧ w'.cell? ⟨w.heap.size + 1, 2, none⟩ = some (.int .i64 qc) ∧ w'.cell? ⟨w.heap.size + 1, 3, none⟩ = some (.string qb) ∧ w'.cell? ⟨w.heap.size + 1, 4, none⟩ = some (.string qe))) (by kernel_rfl) ?_ (fun hHeld => ?_)
          · refine HK.out _ ?_; (repeat (first | (with_reducible exact gr_rfl _) | (with_reducible refine gr_dr ?_) | (with_reducible refine gr_then ?_ hx)))
          refine wpAnyH_take (i := 0) (oi := _) (v := ?v40) rfl (by kernel_rfl) (by kernel_rfl) (by kernel_rfl) (fun _ _ _ h => h) (Or.inl ⟨by rfl, ?hy40⟩) (by assumption) ?rest40
          case hy40 => ((intro w hSw; (try dsimp only at hSw); go_simp); try (with_reducible rfl))
          ((try dsimp only [List.getElem_toArray, List.getElem_cons_succ, List.getElem_cons_zero]); try simp only [Act.put, List.setIfInBounds_toArray, List.set_cons_zero, List.set_cons_succ])
          refine wpAnyH_ready (rs := [1]) (by kernel_rfl) (by simp) ?_
          refine AllReadyH.cons (o := _) rfl (fun K hK => ?_) AllReadyH.nil
          go_simp
          go_at_call 43; (with_reducible refine (HNS.out _).mono ?_); rintro ex wx ⟨rfl, hx⟩
          refine hK.out _ _ ?_ (fun hHeld => ?_)
          · (try dsimp only); refine HK.out _ ?_; (repeat (first | (with_reducible exact gr_rfl _) | (with_reducible refine gr_dr ?_) | (with_reducible refine gr_then ?_ hx)))
          clear hK K
          ((try dsimp only [List.getElem_toArray, List.getElem_cons_succ, List.getElem_cons_zero]); try simp only [Act.put, List.setIfInBounds_toArray, List.set_cons_zero, List.set_cons_succ])
          refine wpAnyH_take (i := 2) (oi := _) (v := ?v41) rfl (by kernel_rfl) (by kernel_rfl) (by kernel_rfl) (fun _ _ _ h => h) (Or.inl ⟨by rfl, ?hy41⟩) (by assumption) ?rest41
          case hy41 => ((intro w hSw; (try dsimp only at hSw); go_simp); try (with_reducible rfl))
          ((try dsimp only [List.getElem_toArray, List.getElem_cons_succ, List.getElem_cons_zero]); try simp only [Act.put, List.setIfInBounds_toArray, List.set_cons_zero, List.set_cons_succ])
          refine wpAnyH_take (i := 3) (oi := _) (v := ?v42) rfl (by kernel_rfl) (by kernel_rfl) (by kernel_rfl) (fun _ _ _ h => h) (Or.inl ⟨by rfl, ?hy42⟩) (by assumption) ?rest42
          case hy42 => ((intro w hSw; (try dsimp only at hSw); go_simp); try (with_reducible rfl))
          ((try dsimp only [List.getElem_toArray, List.getElem_cons_succ, List.getElem_cons_zero]); try simp only [Act.put, List.setIfInBounds_toArray, List.set_cons_zero, List.set_cons_succ])
          refine wpAnyH_take (i := 4) (oi := _) (v := ?v43) rfl (by kernel_rfl) (by kernel_rfl) (by kernel_rfl) (fun _ _ _ h => h) (Or.inl ⟨by rfl, ?hy43⟩) (by assumption) ?rest43
          case hy43 => ((intro w hSw; (try dsimp only at hSw); go_simp); try (with_reducible rfl))
          ((try dsimp only [List.getElem_toArray, List.getElem_cons_succ, List.getElem_cons_zero]); try simp only [Act.put, List.setIfInBounds_toArray, List.set_cons_zero, List.set_cons_succ])
          refine wpAnyH_take (i := 5) (oi := _) (v := ?v44) rfl (by kernel_rfl) (by kernel_rfl) (by kernel_rfl) (fun _ _ _ h => h) (Or.inl ⟨by rfl, ?hy44⟩) (by assumption) ?rest44
          case hy44 => ((intro w hSw; (try dsimp only at hSw); go_simp); try (with_reducible rfl))
          ((try dsimp only [List.getElem_toArray, List.getElem_cons_succ, List.getElem_cons_zero]); try simp only [Act.put, List.setIfInBounds_toArray, List.set_cons_zero, List.set_cons_succ])
          refine wpAnyH_take (i := 6) (oi := _) (v := ?v45) rfl (by kernel_rfl) (by kernel_rfl) (by kernel_rfl) (fun _ _ _ h => h) (Or.inl ⟨by rfl, ?hy45⟩) (by assumption) ?rest45
          case hy45 => ((intro w hSw; (try dsimp only at hSw); go_simp); try (with_reducible rfl))
          ((try dsimp only [List.getElem_toArray, List.getElem_cons_succ, List.getElem_cons_zero]); try simp only [Act.put, List.setIfInBounds_toArray, List.set_cons_zero, List.set_cons_succ])
          refine wpAnyH_take (i := 7) (oi := _) (v := ?v46) rfl (by kernel_rfl) (by kernel_rfl) (by kernel_rfl) (fun _ _ _ h => h) (Or.inl ⟨by rfl, ?hy46⟩) (by assumption) ?rest46
          case hy46 => ((intro w hSw; (try dsimp only at hSw); go_simp); try (with_reducible rfl))
          ((try dsimp only [List.getElem_toArray, List.getElem_cons_succ, List.getElem_cons_zero]); try simp only [Act.put, List.setIfInBounds_toArray, List.set_cons_zero, List.set_cons_succ])
          refine wpAnyH_take (i := 8) (oi := _) (v := ?v47) rfl (by kernel_rfl) (by kernel_rfl) (by kernel_rfl) (fun _ _ _ h => h) (Or.inl ⟨by rfl, ?hy47⟩) (by assumption) ?rest47
          case hy47 => ((intro w hSw; (try dsimp only at hSw); go_simp); try (with_reducible rfl))
          ((try dsimp only [List.getElem_toArray, List.getElem_cons_succ, List.getElem_cons_zero]); try simp only [Act.put, List.setIfInBounds_toArray, List.set_cons_zero, List.set_cons_succ])
          refine wpAnyH_take (i := 9) (oi := _) (v := ?v48) rfl (by kernel_rfl) (by kernel_rfl) (by kernel_rfl) (fun _ _ _ h => h) (Or.inl ⟨by rfl, ?hy48⟩) (by assumption) ?rest48
          case hy48 => ((intro w hSw; (try dsimp only at hSw); go_simp); try (with_reducible rfl))
          ((try dsimp only [List.getElem_toArray, List.getElem_cons_succ, List.getElem_cons_zero]); try simp only [Act.put, List.setIfInBounds_toArray, List.set_cons_zero, List.set_cons_succ])
          refine wpAnyH_take (i := 10) (oi := _) (v := _) rfl (by kernel_rfl) (by kernel_rfl) (by kernel_rfl) (fun _ _ _ h => h) (Or.inr ⟨by rfl, rfl⟩) (by assumption) ?rest49
          ((try dsimp only [List.getElem_toArray, List.getElem_cons_succ, List.getElem_cons_zero]); try simp only [Act.put, List.setIfInBounds_toArray, List.set_cons_zero, List.set_cons_succ])
          refine wpAnyH_take (i := 11) (oi := _) (v := _) rfl (by kernel_rfl) (by kernel_rfl) (by kernel_rfl) (fun _ _ _ h => h) (Or.inr ⟨by rfl, rfl⟩) (by assumption) ?rest50
          ((try dsimp only [List.getElem_toArray, List.getElem_cons_succ, List.getElem_cons_zero]); try simp only [Act.put, List.setIfInBounds_toArray, List.set_cons_zero, List.set_cons_succ])
          refine wpAnyH_take (i := 12) (oi := _) (v := _) rfl (by kernel_rfl) (by kernel_rfl) (by kernel_rfl) (fun _ _ _ h => h) (Or.inr ⟨by rfl, rfl⟩) (by assumption) ?rest51
          ((try dsimp only [List.getElem_toArray, List.getElem_cons_succ, List.getElem_cons_zero]); try simp only [Act.put, List.setIfInBounds_toArray, List.set_cons_zero, List.set_cons_succ])
          refine wpAnyH_take (i := 13) (oi := _) (v := _) rfl (by kernel_rfl) (by kernel_rfl) (by kernel_rfl) (fun _ _ _ h => h) (Or.inr ⟨by rfl, rfl⟩) (by assumption) ?rest52
          ((try dsimp only [List.getElem_toArray, List.getElem_cons_succ, List.getElem_cons_zero]); try simp only [Act.put, List.setIfInBounds_toArray, List.set_cons_zero, List.set_cons_succ])
          refine wpAnyH_take (i := 14) (oi := _) (v := _) rfl (by kernel_rfl) (by kernel_rfl) (by kernel_rfl) (fun _ _ _ h => h) (Or.inr ⟨by rfl, rfl⟩) (by assumption) ?rest53
          ((try dsimp only [List.getElem_toArray, List.getElem_cons_succ, List.getElem_cons_zero]); try simp only [Act.put, List.setIfInBounds_toArray, List.set_cons_zero, List.set_cons_succ])
          refine wpAnyH_take (i := 15) (oi := _) (v := ?v54) rfl (by kernel_rfl) (by kernel_rfl) (by kernel_rfl) (fun _ _ _ h => h) (Or.inl ⟨by rfl, ?hy54⟩) (by assumption) ?rest54
          case hy54 => ((intro w hSw; (try dsimp only at hSw); go_simp); try (with_reducible rfl))
          ((try dsimp only [List.getElem_toArray, List.getElem_cons_succ, List.getElem_cons_zero]); try simp only [Act.put, List.setIfInBounds_toArray, List.set_cons_zero, List.set_cons_succ])
          refine wpAnyH_take (i := 16) (oi := _) (v := ?v55) rfl (by kernel_rfl) (by kernel_rfl) (by kernel_rfl) (fun _ _ _ h => h) (Or.inl ⟨by rfl, ?hy55⟩) (by assumption) ?rest55
          case hy55 => ((intro w hSw; (try dsimp only at hSw); go_simp); try (with_reducible rfl))
          ((try dsimp only [List.getElem_toArray, List.getElem_cons_succ, List.getElem_cons_zero]); try simp only [Act.put, List.setIfInBounds_toArray, List.set_cons_zero, List.set_cons_succ])
          refine wpAnyH_take (i := 17) (oi := _) (v := _) rfl (by kernel_rfl) (by kernel_rfl) (by kernel_rfl) (fun _ _ _ h => h) (Or.inr ⟨by rfl, rfl⟩) (by assumption) ?rest56
          ((try dsimp only [List.getElem_toArray, List.getElem_cons_succ, List.getElem_cons_zero]); try simp only [Act.put, List.setIfInBounds_toArray, List.set_cons_zero, List.set_cons_succ])
          refine wpAnyH_take (i := 18) (oi := _) (v := _) rfl (by kernel_rfl) (by kernel_rfl) (by kernel_rfl) (fun _ _ _ h => h) (Or.inr ⟨by rfl, rfl⟩) (by assumption) ?rest57
          ((try dsimp only [List.getElem_toArray, List.getElem_cons_succ, List.getElem_cons_zero]); try simp only [Act.put, List.setIfInBounds_toArray, List.set_cons_zero, List.set_cons_succ])
          refine wpAnyH_take (i := 19) (oi := _) (v := _) rfl (by kernel_rfl) (by kernel_rfl) (by kernel_rfl) (fun _ _ _ h => h) (Or.inr ⟨by rfl, rfl⟩) (by assumption) ?rest58
          ((try dsimp only [List.getElem_toArray, List.getElem_cons_succ, List.getElem_cons_zero]); try simp only [Act.put, List.setIfInBounds_toArray, List.set_cons_zero, List.set_cons_succ])
          refine wpAnyH_take (i := 20) (oi := _) (v := _) rfl (by kernel_rfl) (by kernel_rfl) (by kernel_rfl) (fun _ _ _ h => h) (Or.inr ⟨by rfl, rfl⟩) (by assumption) ?rest59
          ((try dsimp only [List.getElem_toArray, List.getElem_cons_succ, List.getElem_cons_zero]); try simp only [Act.put, List.setIfInBounds_toArray, List.set_cons_zero, List.set_cons_succ])
          refine wpAnyH_take (i := 21) (oi := _) (v := _) rfl (by kernel_rfl) (by kernel_rfl) (by kernel_rfl) (fun _ _ _ h => h) (Or.inr ⟨by rfl, rfl⟩) (by assumption) ?rest60
          ((try dsimp only [List.getElem_toArray, List.getElem_cons_succ, List.getElem_cons_zero]); try simp only [Act.put, List.setIfInBounds_toArray, List.set_cons_zero, List.set_cons_succ])
          refine wpAnyH_take (i := 22) (oi := _) (v := _) rfl (by kernel_rfl) (by kernel_rfl) (by kernel_rfl) (fun _ _ _ h => h) (Or.inr ⟨by rfl, rfl⟩) (by assumption) ?rest61
          ((try dsimp only [List.getElem_toArray, List.getElem_cons_succ, List.getElem_cons_zero]); try simp only [Act.put, List.setIfInBounds_toArray, List.set_cons_zero, List.set_cons_succ])
          refine wpAnyH_take (i := 23) (oi := _) (v := ?v62) rfl (by kernel_rfl) (by kernel_rfl) (by kernel_rfl) (fun _ _ _ h => h) (Or.inl ⟨by rfl, ?hy62⟩) (by assumption) ?rest62
          case hy62 => ((intro w hSw; (try dsimp only at hSw); go_simp); try (with_reducible rfl))
          ((try dsimp only [List.getElem_toArray, List.getElem_cons_succ, List.getElem_cons_zero]); try simp only [Act.put, List.setIfInBounds_toArray, List.set_cons_zero, List.set_cons_succ])
          refine wpAnyH_take (i := 24) (oi := _) (v := ?v63) rfl (by kernel_rfl) (by kernel_rfl) (by kernel_rfl) (fun _ _ _ h => h) (Or.inl ⟨by rfl, ?hy63⟩) (by assumption) ?rest63
          case hy63 => ((intro w hSw; (try dsimp only at hSw); go_simp); try (with_reducible rfl))
          ((try dsimp only [List.getElem_toArray, List.getElem_cons_succ, List.getElem_cons_zero]); try simp only [Act.put, List.setIfInBounds_toArray, List.set_cons_zero, List.set_cons_succ])
          refine wpAnyH_take (i := 25) (oi := _) (v := _) rfl (by kernel_rfl) (by kernel_rfl) (by kernel_rfl) (fun _ _ _ h => h) (Or.inr ⟨by rfl, rfl⟩) (by assumption) ?rest64
          ((try dsimp only [List.getElem_toArray, List.getElem_cons_succ, List.getElem_cons_zero]); try simp only [Act.put, List.setIfInBounds_toArray, List.set_cons_zero, List.set_cons_succ])
          refine wpAnyH_take (i := 26) (oi := _) (v := _) rfl (by kernel_rfl) (by kernel_rfl) (by kernel_rfl) (fun _ _ _ h => h) (Or.inr ⟨by rfl, rfl⟩) (by assumption) ?rest65
          ((try dsimp only [List.getElem_toArray, List.getElem_cons_succ, List.getElem_cons_zero]); try simp only [Act.put, List.setIfInBounds_toArray, List.set_cons_zero, List.set_cons_succ])
          refine wpAnyH_take (i := 27) (oi := _) (v := _) rfl (by kernel_rfl) (by kernel_rfl) (by kernel_rfl) (fun _ _ _ h => h) (Or.inr ⟨by rfl, rfl⟩) (by assumption) ?rest66
          ((try dsimp only [List.getElem_toArray, List.getElem_cons_succ, List.getElem_cons_zero]); try simp only [Act.put, List.setIfInBounds_toArray, List.set_cons_zero, List.set_cons_succ])
          refine wpAnyH_take (i := 28) (oi := _) (v := _) rfl (by kernel_rfl) (by kernel_rfl) (by kernel_rfl) (fun _ _ _ h => h) (Or.inr ⟨by rfl, rfl⟩) (by assumption) ?rest67
          ((try dsimp only [List.getElem_toArray, List.getElem_cons_succ, List.getElem_cons_zero]); try simp only [Act.put, List.setIfInBounds_toArray, List.set_cons_zero, List.set_cons_succ])
          refine wpAnyH_take (i := 29) (oi := _) (v := _) rfl (by kernel_rfl) (by kernel_rfl) (by kernel_rfl) (fun _ _ _ h => h) (Or.inr ⟨by rfl, rfl⟩) (by assumption) ?rest68
          ((try dsimp only [List.getElem_toArray, List.getElem_cons_succ, List.getElem_cons_zero]); try simp only [Act.put, List.setIfInBounds_toArray, List.set_cons_zero, List.set_cons_succ])
          refine wpAnyH_take (i := 30) (oi := _) (v := ?v69) rfl (by kernel_rfl) (by kernel_rfl) (by kernel_rfl) (fun _ _ _ h => h) (Or.inl ⟨by rfl, ?hy69⟩) (by assumption) ?rest69
          case hy69 => ((intro w hSw; (try dsimp only at hSw); go_simp); try (with_reducible rfl))
          ((try dsimp only [List.getElem_toArray, List.getElem_cons_succ, List.getElem_cons_zero]); try simp only [Act.put, List.setIfInBounds_toArray, List.set_cons_zero, List.set_cons_succ])
          refine wpAnyH_take (i := 31) (oi := _) (v := ?v70) rfl (by kernel_rfl) (by kernel_rfl) (by kernel_rfl) (fun _ _ _ h => h) (Or.inl ⟨by rfl, ?hy70⟩) (by assumption) ?rest70
          case hy70 => ((intro w hSw; (try dsimp only at hSw); go_simp); try (with_reducible rfl))
          ((try dsimp only [List.getElem_toArray, List.getElem_cons_succ, List.getElem_cons_zero]); try simp only [Act.put, List.setIfInBounds_toArray, List.set_cons_zero, List.set_cons_succ])
          refine wpAnyH_take (i := 32) (oi := _) (v := _) rfl (by kernel_rfl) (by kernel_rfl) (by kernel_rfl) (fun _ _ _ h => h) (Or.inr ⟨by rfl, rfl⟩) (by assumption) ?rest71
          ((try dsimp only [List.getElem_toArray, List.getElem_cons_succ, List.getElem_cons_zero]); try simp only [Act.put, List.setIfInBounds_toArray, List.set_cons_zero, List.set_cons_succ])
          refine wpAnyH_take (i := 33) (oi := _) (v := _) rfl (by kernel_rfl) (by kernel_rfl) (by kernel_rfl) (fun _ _ _ h => h) (Or.inr ⟨by rfl, rfl⟩) (by assumption) ?rest72
          ((try dsimp only [List.getElem_toArray, List.getElem_cons_succ, List.getElem_cons_zero]); try simp only [Act.put, List.setIfInBounds_toArray, List.set_cons_zero, List.set_cons_succ])
          refine wpAnyH_take (i := 34) (oi := _) (v := _) rfl (by kernel_rfl) (by kernel_rfl) (by kernel_rfl) (fun _ _ _ h => h) (Or.inr ⟨by rfl, rfl⟩) (by assumption) ?rest73
          ((try dsimp only [List.getElem_toArray, List.getElem_cons_succ, List.getElem_cons_zero]); try simp only [Act.put, List.setIfInBounds_toArray, List.set_cons_zero, List.set_cons_succ])
          refine wpAnyH_take (i := 35) (oi := _) (v := _) rfl (by kernel_rfl) (by kernel_rfl) (by kernel_rfl) (fun _ _ _ h => h) (Or.inr ⟨by rfl, rfl⟩) (by assumption) ?rest74
          ((try dsimp only [List.getElem_toArray, List.getElem_cons_succ, List.getElem_cons_zero]); try simp only [Act.put, List.setIfInBounds_toArray, List.set_cons_zero, List.set_cons_succ])
          refine wpAnyH_take (i := 36) (oi := _) (v := _) rfl (by kernel_rfl) (by kernel_rfl) (by kernel_rfl) (fun _ _ _ h => h) (Or.inr ⟨by rfl, rfl⟩) (by assumption) ?rest75
          ((try dsimp only [List.getElem_toArray, List.getElem_cons_succ, List.getElem_cons_zero]); try simp only [Act.put, List.setIfInBounds_toArray, List.set_cons_zero, List.set_cons_succ])
          refine wpAnyH_take (i := 37) (oi := _) (v := ?v76) rfl (by kernel_rfl) (by kernel_rfl) (by kernel_rfl) (fun _ _ _ h => h) (Or.inl ⟨by rfl, ?hy76⟩) (by assumption) ?rest76
          case hy76 => ((intro w hSw; (try dsimp only at hSw); go_simp); try (with_reducible rfl))
          ((try dsimp only [List.getElem_toArray, List.getElem_cons_succ, List.getElem_cons_zero]); try simp only [Act.put, List.setIfInBounds_toArray, List.set_cons_zero, List.set_cons_succ])
          refine wpAnyH_take (i := 38) (oi := _) (v := ?v77) rfl (by kernel_rfl) (by kernel_rfl) (by kernel_rfl) (fun _ _ _ h => h) (Or.inl ⟨by rfl, ?hy77⟩) (by assumption) ?rest77
          case hy77 => ((intro w hSw; (try dsimp only at hSw); go_simp); try (with_reducible rfl))
          ((try dsimp only [List.getElem_toArray, List.getElem_cons_succ, List.getElem_cons_zero]); try simp only [Act.put, List.setIfInBounds_toArray, List.set_cons_zero, List.set_cons_succ])
          refine wpAnyH_take (i := 39) (oi := _) (v := ?v78) rfl (by kernel_rfl) (by kernel_rfl) (by kernel_rfl) (fun _ _ _ h => h) (Or.inl ⟨by rfl, ?hy78⟩) (by assumption) ?rest78
          case hy78 => ((intro w hSw; (try dsimp only at hSw); go_simp); try (with_reducible rfl))
          ((try dsimp only [List.getElem_toArray, List.getElem_cons_succ, List.getElem_cons_zero]); try simp only [Act.put, List.setIfInBounds_toArray, List.set_cons_zero, List.set_cons_succ])
          refine wpAnyH_done (by kernel_rfl) ?_ _
          go_wp2
          go_ret
          exact BoolIs.no rfl (fun h => by rcases HW.out.1 h with h | h; exact absurd h HKN.out; have h1 := h.1; have h2 := H1.out; (try simp only at h1); omega) (gr_then HGW.out (gr_then (gr_dr (gr_rfl w7)) hx))
        have h1d : decide (ql ≤ kl) = true := decide_eq_true h1
        have H1 := Lib.hid h1
        by_cases h2 : km ≤ qm
        rotate_left
        · have h2d : decide (km ≤ qm) = false := decide_eq_false h2
          have H2 := Lib.hid h2
          clear h2 hz
          have HK := Lib.hid (show ∀ w', w7.grownBy w' none → (w'.cell? ⟨w.heap.size, 0, none⟩ = some (.int .i64 kl) ∧ w'.cell? ⟨w.heap.size, 1, none⟩ = some (.int .i64 km) ∧ w'.cell? ⟨w.heap.size, 2, none⟩ = some (.int .i64 kc) ∧ w'.cell? ⟨w.heap.size, 3, none⟩ = some (.string kb) ∧ w'.cell? ⟨w.heap.size, 4, none⟩ = some (.string ke) ∧ w'.cell? ⟨w.heap.size + 1, 0, none⟩ = some (.int .i64 ql) ∧ w'.cell? ⟨w.heap.size + 1, 1, none⟩ = some (.int .i64 qm) ∧ w'.cell? ⟨w.heap.size + 1, 2, none⟩ = some (.int .i64 qc) ∧ w'.cell? ⟨w.heap.size + 1, 3, none⟩ = some (.string qb) ∧ w'.cell? ⟨w.heap.size + 1, 4, none⟩ = some (.string qe)) from fun w' h => ⟨(HRA.out.kept h).cell 0 _ rfl, (HRA.out.kept h).cell 1 _ rfl, (HRA.out.kept h).cell 2 _ rfl, (HRA.out.kept h).cell 3 _ rfl, (HRA.out.kept h).cell 4 _ rfl, (HRB.out.kept h).cell 0 _ rfl, (HRB.out.kept h).cell 1 _ rfl, (HRB.out.kept h).cell 2 _ rfl, (HRB.out.kept h).cell 3 _ rfl, (HRB.out.kept h).cell 4 _ rfl⟩)
          go_wp2_with fail
          refine wp_region_held_drew (S := (fun w' => w'.cell? ⟨w.heap.size, 0, none⟩ = some (.int .i64 kl) ∧ w'.cell? ⟨w.heap.size, 1, none⟩ = some (.int .i64 km) ∧ w'.cell? ⟨w.heap.size, 2, none⟩ = some (.int .i64 kc) ∧ w'.cell? ⟨w.heap.size, 3, none⟩ = some (.string kb) ∧ w'.cell? ⟨w.heap.size, 4, none⟩ = some (.string ke) ∧ w'.cell? ⟨w.heap.size + 1, 0, none⟩ = some (.int .i64 ql) ∧ w'.cell? ⟨w.heap.size + 1, 1, none⟩ = some (.int .i64 qm) ∧ w'.cell? ⟨w.heap.size + 1, 2, none⟩ = some (.int .i64 qc) ∧ w'.cell? ⟨w.heap.size + 1, 3, none⟩ = some (.string qb) ∧ w'.cell? ⟨w.heap.size + 1, 4, none⟩ = some (.string qe))) (by kernel_rfl) ?_ (fun hHeld => ?_)
          · refine HK.out _ ?_; (repeat (first | (with_reducible exact gr_rfl _) | (with_reducible refine gr_dr ?_) | (with_reducible refine gr_then ?_ hx)))
          refine wpAnyH_take (i := 0) (oi := _) (v := ?v79) rfl (by kernel_rfl) (by kernel_rfl) (by kernel_rfl) (fun _ _ _ h => h) (Or.inl ⟨by rfl, ?hy79⟩) (by assumption) ?rest79
          case hy79 => ((intro w hSw; (try dsimp only at hSw); go_simp); try (with_reducible rfl))
          ((try dsimp only [List.getElem_toArray, List.getElem_cons_succ, List.getElem_cons_zero]); try simp only [Act.put, List.setIfInBounds_toArray, List.set_cons_zero, List.set_cons_succ])
          refine wpAnyH_ready (rs := [1]) (by kernel_rfl) (by simp) ?_
          refine AllReadyH.cons (o := _) rfl (fun K hK => ?_) AllReadyH.nil
          go_simp
          go_at_call 43; (with_reducible refine (HNS.out _).mono ?_); rintro ex wx ⟨rfl, hx⟩
          refine hK.out _ _ ?_ (fun hHeld => ?_)
          · (try dsimp only); refine HK.out _ ?_; (repeat (first | (with_reducible exact gr_rfl _) | (with_reducible refine gr_dr ?_) | (with_reducible refine gr_then ?_ hx)))
          clear hK K
          ((try dsimp only [List.getElem_toArray, List.getElem_cons_succ, List.getElem_cons_zero]); try simp only [Act.put, List.setIfInBounds_toArray, List.set_cons_zero, List.set_cons_succ])
          refine wpAnyH_take (i := 2) (oi := _) (v := ?v80) rfl (by kernel_rfl) (by kernel_rfl) (by kernel_rfl) (fun _ _ _ h => h) (Or.inl ⟨by rfl, ?hy80⟩) (by assumption) ?rest80
          case hy80 => ((intro w hSw; (try dsimp only at hSw); go_simp); try (with_reducible rfl))
          ((try dsimp only [List.getElem_toArray, List.getElem_cons_succ, List.getElem_cons_zero]); try simp only [Act.put, List.setIfInBounds_toArray, List.set_cons_zero, List.set_cons_succ])
          refine wpAnyH_take (i := 3) (oi := _) (v := ?v81) rfl (by kernel_rfl) (by kernel_rfl) (by kernel_rfl) (fun _ _ _ h => h) (Or.inl ⟨by rfl, ?hy81⟩) (by assumption) ?rest81
          case hy81 => ((intro w hSw; (try dsimp only at hSw); go_simp); try (with_reducible rfl))
          ((try dsimp only [List.getElem_toArray, List.getElem_cons_succ, List.getElem_cons_zero]); try simp only [Act.put, List.setIfInBounds_toArray, List.set_cons_zero, List.set_cons_succ])
          refine wpAnyH_take (i := 4) (oi := _) (v := ?v82) rfl (by kernel_rfl) (by kernel_rfl) (by kernel_rfl) (fun _ _ _ h => h) (Or.inl ⟨by rfl, ?hy82⟩) (by assumption) ?rest82
          case hy82 => ((intro w hSw; (try dsimp only at hSw); go_simp); try (with_reducible rfl))
          ((try dsimp only [List.getElem_toArray, List.getElem_cons_succ, List.getElem_cons_zero]); try simp only [Act.put, List.setIfInBounds_toArray, List.set_cons_zero, List.set_cons_succ])
          refine wpAnyH_take (i := 5) (oi := _) (v := ?v83) rfl (by kernel_rfl) (by kernel_rfl) (by kernel_rfl) (fun _ _ _ h => h) (Or.inl ⟨by rfl, ?hy83⟩) (by assumption) ?rest83
          case hy83 => ((intro w hSw; (try dsimp only at hSw); go_simp); try (with_reducible rfl))
          ((try dsimp only [List.getElem_toArray, List.getElem_cons_succ, List.getElem_cons_zero]); try simp only [Act.put, List.setIfInBounds_toArray, List.set_cons_zero, List.set_cons_succ])
          refine wpAnyH_take (i := 6) (oi := _) (v := ?v84) rfl (by kernel_rfl) (by kernel_rfl) (by kernel_rfl) (fun _ _ _ h => h) (Or.inl ⟨by rfl, ?hy84⟩) (by assumption) ?rest84
          case hy84 => ((intro w hSw; (try dsimp only at hSw); go_simp); try (with_reducible rfl))
          ((try dsimp only [List.getElem_toArray, List.getElem_cons_succ, List.getElem_cons_zero]); try simp only [Act.put, List.setIfInBounds_toArray, List.set_cons_zero, List.set_cons_succ])
          refine wpAnyH_take (i := 7) (oi := _) (v := ?v85) rfl (by kernel_rfl) (by kernel_rfl) (by kernel_rfl) (fun _ _ _ h => h) (Or.inl ⟨by rfl, ?hy85⟩) (by assumption) ?rest85
          case hy85 => ((intro w hSw; (try dsimp only at hSw); go_simp); try (with_reducible rfl))
          ((try dsimp only [List.getElem_toArray, List.getElem_cons_succ, List.getElem_cons_zero]); try simp only [Act.put, List.setIfInBounds_toArray, List.set_cons_zero, List.set_cons_succ])
          refine wpAnyH_take (i := 8) (oi := _) (v := ?v86) rfl (by kernel_rfl) (by kernel_rfl) (by kernel_rfl) (fun _ _ _ h => h) (Or.inl ⟨by rfl, ?hy86⟩) (by assumption) ?rest86
          case hy86 => ((intro w hSw; (try dsimp only at hSw); go_simp); try (with_reducible rfl))
          ((try dsimp only [List.getElem_toArray, List.getElem_cons_succ, List.getElem_cons_zero]); try simp only [Act.put, List.setIfInBounds_toArray, List.set_cons_zero, List.set_cons_succ])
          refine wpAnyH_take (i := 9) (oi := _) (v := ?v87) rfl (by kernel_rfl) (by kernel_rfl) (by kernel_rfl) (fun _ _ _ h => h) (Or.inl ⟨by rfl, ?hy87⟩) (by assumption) ?rest87
          case hy87 => ((intro w hSw; (try dsimp only at hSw); go_simp); try (with_reducible rfl))
          ((try dsimp only [List.getElem_toArray, List.getElem_cons_succ, List.getElem_cons_zero]); try simp only [Act.put, List.setIfInBounds_toArray, List.set_cons_zero, List.set_cons_succ])
          refine wpAnyH_take (i := 10) (oi := _) (v := ?v88) rfl (by kernel_rfl) (by kernel_rfl) (by kernel_rfl) (fun _ _ _ h => h) (Or.inl ⟨by rfl, ?hy88⟩) (by assumption) ?rest88
          case hy88 => ((intro w hSw; (try dsimp only at hSw); go_simp); try (with_reducible rfl))
          ((try dsimp only [List.getElem_toArray, List.getElem_cons_succ, List.getElem_cons_zero]); try simp only [Act.put, List.setIfInBounds_toArray, List.set_cons_zero, List.set_cons_succ])
          refine wpAnyH_take (i := 11) (oi := _) (v := ?v89) rfl (by kernel_rfl) (by kernel_rfl) (by kernel_rfl) (fun _ _ _ h => h) (Or.inl ⟨by rfl, ?hy89⟩) (by assumption) ?rest89
          case hy89 => ((intro w hSw; (try dsimp only at hSw); go_simp); try (with_reducible rfl))
          ((try dsimp only [List.getElem_toArray, List.getElem_cons_succ, List.getElem_cons_zero]); try simp only [Act.put, List.setIfInBounds_toArray, List.set_cons_zero, List.set_cons_succ])
          refine wpAnyH_take (i := 12) (oi := _) (v := ?v90) rfl (by kernel_rfl) (by kernel_rfl) (by kernel_rfl) (fun _ _ _ h => h) (Or.inl ⟨by rfl, ?hy90⟩) (by assumption) ?rest90
          case hy90 => ((intro w hSw; (try dsimp only at hSw); go_simp); try (with_reducible rfl))
          ((try dsimp only [List.getElem_toArray, List.getElem_cons_succ, List.getElem_cons_zero]); try simp only [Act.put, List.setIfInBounds_toArray, List.set_cons_zero, List.set_cons_succ])
          refine wpAnyH_take (i := 13) (oi := _) (v := ?v91) rfl (by kernel_rfl) (by kernel_rfl) (by kernel_rfl) (fun _ _ _ h => h) (Or.inl ⟨by rfl, ?hy91⟩) (by assumption) ?rest91
          case hy91 => ((intro w hSw; (try dsimp only at hSw); go_simp); try (with_reducible rfl))
          ((try dsimp only [List.getElem_toArray, List.getElem_cons_succ, List.getElem_cons_zero]); try simp only [Act.put, List.setIfInBounds_toArray, List.set_cons_zero, List.set_cons_succ])
          refine wpAnyH_take (i := 14) (oi := _) (v := ?v92) rfl (by kernel_rfl) (by kernel_rfl) (by kernel_rfl) (fun _ _ _ h => h) (Or.inl ⟨by rfl, ?hy92⟩) (by assumption) ?rest92
          case hy92 => ((intro w hSw; (try dsimp only at hSw); go_simp); try (with_reducible rfl))
          ((try dsimp only [List.getElem_toArray, List.getElem_cons_succ, List.getElem_cons_zero]); try simp only [Act.put, List.setIfInBounds_toArray, List.set_cons_zero, List.set_cons_succ])
          refine wpAnyH_take (i := 15) (oi := _) (v := ?v93) rfl (by kernel_rfl) (by kernel_rfl) (by kernel_rfl) (fun _ _ _ h => h) (Or.inl ⟨by rfl, ?hy93⟩) (by assumption) ?rest93
          case hy93 => ((intro w hSw; (try dsimp only at hSw); go_simp); try (with_reducible rfl))
          ((try dsimp only [List.getElem_toArray, List.getElem_cons_succ, List.getElem_cons_zero]); try simp only [Act.put, List.setIfInBounds_toArray, List.set_cons_zero, List.set_cons_succ])
          refine wpAnyH_take (i := 16) (oi := _) (v := ?v94) rfl (by kernel_rfl) (by kernel_rfl) (by kernel_rfl) (fun _ _ _ h => h) (Or.inl ⟨by rfl, ?hy94⟩) (by assumption) ?rest94
          case hy94 => ((intro w hSw; (try dsimp only at hSw); go_simp); try (with_reducible rfl))
          ((try dsimp only [List.getElem_toArray, List.getElem_cons_succ, List.getElem_cons_zero]); try simp only [Act.put, List.setIfInBounds_toArray, List.set_cons_zero, List.set_cons_succ])
          refine wpAnyH_take (i := 17) (oi := _) (v := _) rfl (by kernel_rfl) (by kernel_rfl) (by kernel_rfl) (fun _ _ _ h => h) (Or.inr ⟨by rfl, rfl⟩) (by assumption) ?rest95
          ((try dsimp only [List.getElem_toArray, List.getElem_cons_succ, List.getElem_cons_zero]); try simp only [Act.put, List.setIfInBounds_toArray, List.set_cons_zero, List.set_cons_succ])
          refine wpAnyH_take (i := 18) (oi := _) (v := _) rfl (by kernel_rfl) (by kernel_rfl) (by kernel_rfl) (fun _ _ _ h => h) (Or.inr ⟨by rfl, rfl⟩) (by assumption) ?rest96
          ((try dsimp only [List.getElem_toArray, List.getElem_cons_succ, List.getElem_cons_zero]); try simp only [Act.put, List.setIfInBounds_toArray, List.set_cons_zero, List.set_cons_succ])
          refine wpAnyH_take (i := 19) (oi := _) (v := _) rfl (by kernel_rfl) (by kernel_rfl) (by kernel_rfl) (fun _ _ _ h => h) (Or.inr ⟨by rfl, rfl⟩) (by assumption) ?rest97
          ((try dsimp only [List.getElem_toArray, List.getElem_cons_succ, List.getElem_cons_zero]); try simp only [Act.put, List.setIfInBounds_toArray, List.set_cons_zero, List.set_cons_succ])
          refine wpAnyH_take (i := 20) (oi := _) (v := _) rfl (by kernel_rfl) (by kernel_rfl) (by kernel_rfl) (fun _ _ _ h => h) (Or.inr ⟨by rfl, rfl⟩) (by assumption) ?rest98
          ((try dsimp only [List.getElem_toArray, List.getElem_cons_succ, List.getElem_cons_zero]); try simp only [Act.put, List.setIfInBounds_toArray, List.set_cons_zero, List.set_cons_succ])
          refine wpAnyH_take (i := 21) (oi := _) (v := _) rfl (by kernel_rfl) (by kernel_rfl) (by kernel_rfl) (fun _ _ _ h => h) (Or.inr ⟨by rfl, rfl⟩) (by assumption) ?rest99
          ((try dsimp only [List.getElem_toArray, List.getElem_cons_succ, List.getElem_cons_zero]); try simp only [Act.put, List.setIfInBounds_toArray, List.set_cons_zero, List.set_cons_succ])
          refine wpAnyH_take (i := 22) (oi := _) (v := _) rfl (by kernel_rfl) (by kernel_rfl) (by kernel_rfl) (fun _ _ _ h => h) (Or.inr ⟨by rfl, rfl⟩) (by assumption) ?rest100
          ((try dsimp only [List.getElem_toArray, List.getElem_cons_succ, List.getElem_cons_zero]); try simp only [Act.put, List.setIfInBounds_toArray, List.set_cons_zero, List.set_cons_succ])
          refine wpAnyH_take (i := 23) (oi := _) (v := ?v101) rfl (by kernel_rfl) (by kernel_rfl) (by kernel_rfl) (fun _ _ _ h => h) (Or.inl ⟨by rfl, ?hy101⟩) (by assumption) ?rest101
          case hy101 => ((intro w hSw; (try dsimp only at hSw); go_simp); try (with_reducible rfl))
          ((try dsimp only [List.getElem_toArray, List.getElem_cons_succ, List.getElem_cons_zero]); try simp only [Act.put, List.setIfInBounds_toArray, List.set_cons_zero, List.set_cons_succ])
          refine wpAnyH_take (i := 24) (oi := _) (v := ?v102) rfl (by kernel_rfl) (by kernel_rfl) (by kernel_rfl) (fun _ _ _ h => h) (Or.inl ⟨by rfl, ?hy102⟩) (by assumption) ?rest102
          case hy102 => ((intro w hSw; (try dsimp only at hSw); go_simp); try (with_reducible rfl))
          ((try dsimp only [List.getElem_toArray, List.getElem_cons_succ, List.getElem_cons_zero]); try simp only [Act.put, List.setIfInBounds_toArray, List.set_cons_zero, List.set_cons_succ])
          refine wpAnyH_take (i := 25) (oi := _) (v := _) rfl (by kernel_rfl) (by kernel_rfl) (by kernel_rfl) (fun _ _ _ h => h) (Or.inr ⟨by rfl, rfl⟩) (by assumption) ?rest103
          ((try dsimp only [List.getElem_toArray, List.getElem_cons_succ, List.getElem_cons_zero]); try simp only [Act.put, List.setIfInBounds_toArray, List.set_cons_zero, List.set_cons_succ])
          refine wpAnyH_take (i := 26) (oi := _) (v := _) rfl (by kernel_rfl) (by kernel_rfl) (by kernel_rfl) (fun _ _ _ h => h) (Or.inr ⟨by rfl, rfl⟩) (by assumption) ?rest104
          ((try dsimp only [List.getElem_toArray, List.getElem_cons_succ, List.getElem_cons_zero]); try simp only [Act.put, List.setIfInBounds_toArray, List.set_cons_zero, List.set_cons_succ])
          refine wpAnyH_take (i := 27) (oi := _) (v := _) rfl (by kernel_rfl) (by kernel_rfl) (by kernel_rfl) (fun _ _ _ h => h) (Or.inr ⟨by rfl, rfl⟩) (by assumption) ?rest105
          ((try dsimp only [List.getElem_toArray, List.getElem_cons_succ, List.getElem_cons_zero]); try simp only [Act.put, List.setIfInBounds_toArray, List.set_cons_zero, List.set_cons_succ])
          refine wpAnyH_take (i := 28) (oi := _) (v := _) rfl (by kernel_rfl) (by kernel_rfl) (by kernel_rfl) (fun _ _ _ h => h) (Or.inr ⟨by rfl, rfl⟩) (by assumption) ?rest106
          ((try dsimp only [List.getElem_toArray, List.getElem_cons_succ, List.getElem_cons_zero]); try simp only [Act.put, List.setIfInBounds_toArray, List.set_cons_zero, List.set_cons_succ])
          refine wpAnyH_take (i := 29) (oi := _) (v := _) rfl (by kernel_rfl) (by kernel_rfl) (by kernel_rfl) (fun _ _ _ h => h) (Or.inr ⟨by rfl, rfl⟩) (by assumption) ?rest107
          ((try dsimp only [List.getElem_toArray, List.getElem_cons_succ, List.getElem_cons_zero]); try simp only [Act.put, List.setIfInBounds_toArray, List.set_cons_zero, List.set_cons_succ])
          refine wpAnyH_take (i := 30) (oi := _) (v := ?v108) rfl (by kernel_rfl) (by kernel_rfl) (by kernel_rfl) (fun _ _ _ h => h) (Or.inl ⟨by rfl, ?hy108⟩) (by assumption) ?rest108
          case hy108 => ((intro w hSw; (try dsimp only at hSw); go_simp); try (with_reducible rfl))
          ((try dsimp only [List.getElem_toArray, List.getElem_cons_succ, List.getElem_cons_zero]); try simp only [Act.put, List.setIfInBounds_toArray, List.set_cons_zero, List.set_cons_succ])
          refine wpAnyH_take (i := 31) (oi := _) (v := ?v109) rfl (by kernel_rfl) (by kernel_rfl) (by kernel_rfl) (fun _ _ _ h => h) (Or.inl ⟨by rfl, ?hy109⟩) (by assumption) ?rest109
          case hy109 => ((intro w hSw; (try dsimp only at hSw); go_simp); try (with_reducible rfl))
          ((try dsimp only [List.getElem_toArray, List.getElem_cons_succ, List.getElem_cons_zero]); try simp only [Act.put, List.setIfInBounds_toArray, List.set_cons_zero, List.set_cons_succ])
          refine wpAnyH_take (i := 32) (oi := _) (v := _) rfl (by kernel_rfl) (by kernel_rfl) (by kernel_rfl) (fun _ _ _ h => h) (Or.inr ⟨by rfl, rfl⟩) (by assumption) ?rest110
          ((try dsimp only [List.getElem_toArray, List.getElem_cons_succ, List.getElem_cons_zero]); try simp only [Act.put, List.setIfInBounds_toArray, List.set_cons_zero, List.set_cons_succ])
          refine wpAnyH_take (i := 33) (oi := _) (v := _) rfl (by kernel_rfl) (by kernel_rfl) (by kernel_rfl) (fun _ _ _ h => h) (Or.inr ⟨by rfl, rfl⟩) (by assumption) ?rest111
          ((try dsimp only [List.getElem_toArray, List.getElem_cons_succ, List.getElem_cons_zero]); try simp only [Act.put, List.setIfInBounds_toArray, List.set_cons_zero, List.set_cons_succ])
          refine wpAnyH_take (i := 34) (oi := _) (v := _) rfl (by kernel_rfl) (by kernel_rfl) (by kernel_rfl) (fun _ _ _ h => h) (Or.inr ⟨by rfl, rfl⟩) (by assumption) ?rest112
          ((try dsimp only [List.getElem_toArray, List.getElem_cons_succ, List.getElem_cons_zero]); try simp only [Act.put, List.setIfInBounds_toArray, List.set_cons_zero, List.set_cons_succ])
          refine wpAnyH_take (i := 35) (oi := _) (v := _) rfl (by kernel_rfl) (by kernel_rfl) (by kernel_rfl) (fun _ _ _ h => h) (Or.inr ⟨by rfl, rfl⟩) (by assumption) ?rest113
          ((try dsimp only [List.getElem_toArray, List.getElem_cons_succ, List.getElem_cons_zero]); try simp only [Act.put, List.setIfInBounds_toArray, List.set_cons_zero, List.set_cons_succ])
          refine wpAnyH_take (i := 36) (oi := _) (v := _) rfl (by kernel_rfl) (by kernel_rfl) (by kernel_rfl) (fun _ _ _ h => h) (Or.inr ⟨by rfl, rfl⟩) (by assumption) ?rest114
          ((try dsimp only [List.getElem_toArray, List.getElem_cons_succ, List.getElem_cons_zero]); try simp only [Act.put, List.setIfInBounds_toArray, List.set_cons_zero, List.set_cons_succ])
          refine wpAnyH_take (i := 37) (oi := _) (v := ?v115) rfl (by kernel_rfl) (by kernel_rfl) (by kernel_rfl) (fun _ _ _ h => h) (Or.inl ⟨by rfl, ?hy115⟩) (by assumption) ?rest115
          case hy115 => ((intro w hSw; (try dsimp only at hSw); go_simp); try (with_reducible rfl))
          ((try dsimp only [List.getElem_toArray, List.getElem_cons_succ, List.getElem_cons_zero]); try simp only [Act.put, List.setIfInBounds_toArray, List.set_cons_zero, List.set_cons_succ])
          refine wpAnyH_take (i := 38) (oi := _) (v := ?v116) rfl (by kernel_rfl) (by kernel_rfl) (by kernel_rfl) (fun _ _ _ h => h) (Or.inl ⟨by rfl, ?hy116⟩) (by assumption) ?rest116
          case hy116 => ((intro w hSw; (try dsimp only at hSw); go_simp); try (with_reducible rfl))
          ((try dsimp only [List.getElem_toArray, List.getElem_cons_succ, List.getElem_cons_zero]); try simp only [Act.put, List.setIfInBounds_toArray, List.set_cons_zero, List.set_cons_succ])
          refine wpAnyH_take (i := 39) (oi := _) (v := ?v117) rfl (by kernel_rfl) (by kernel_rfl) (by kernel_rfl) (fun _ _ _ h => h) (Or.inl ⟨by rfl, ?hy117⟩) (by assumption) ?rest117
          case hy117 => ((intro w hSw; (try dsimp only at hSw); go_simp); try (with_reducible rfl))
          ((try dsimp only [List.getElem_toArray, List.getElem_cons_succ, List.getElem_cons_zero]); try simp only [Act.put, List.setIfInBounds_toArray, List.set_cons_zero, List.set_cons_succ])
          refine wpAnyH_done (by kernel_rfl) ?_ _
          go_wp2
          go_ret
          exact BoolIs.no rfl (fun h => by rcases HW.out.1 h with h | h; exact absurd h HKN.out; have h1 := h.2.1; have h2 := H2.out; (try simp only at h1); omega) (gr_then HGW.out (gr_then (gr_dr (gr_rfl w7)) hx))
        have h2d : decide (km ≤ qm) = true := decide_eq_true h2
        have H2 := Lib.hid h2
        by_cases h3 : z = 0
        rotate_left
        · have h3d : (z == 0) = false := by rw [beq_eq_false_iff_ne]; exact h3
          have H3 := Lib.hid h3
          clear h3
          have HK := Lib.hid (show ∀ w', w7.grownBy w' none → (w'.cell? ⟨w.heap.size, 0, none⟩ = some (.int .i64 kl) ∧ w'.cell? ⟨w.heap.size, 1, none⟩ = some (.int .i64 km) ∧ w'.cell? ⟨w.heap.size, 2, none⟩ = some (.int .i64 kc) ∧ w'.cell? ⟨w.heap.size, 3, none⟩ = some (.string kb) ∧ w'.cell? ⟨w.heap.size, 4, none⟩ = some (.string ke) ∧ w'.cell? ⟨w.heap.size + 1, 0, none⟩ = some (.int .i64 ql) ∧ w'.cell? ⟨w.heap.size + 1, 1, none⟩ = some (.int .i64 qm) ∧ w'.cell? ⟨w.heap.size + 1, 2, none⟩ = some (.int .i64 qc) ∧ w'.cell? ⟨w.heap.size + 1, 3, none⟩ = some (.string qb) ∧ w'.cell? ⟨w.heap.size + 1, 4, none⟩ = some (.string qe)) from fun w' h => ⟨(HRA.out.kept h).cell 0 _ rfl, (HRA.out.kept h).cell 1 _ rfl, (HRA.out.kept h).cell 2 _ rfl, (HRA.out.kept h).cell 3 _ rfl, (HRA.out.kept h).cell 4 _ rfl, (HRB.out.kept h).cell 0 _ rfl, (HRB.out.kept h).cell 1 _ rfl, (HRB.out.kept h).cell 2 _ rfl, (HRB.out.kept h).cell 3 _ rfl, (HRB.out.kept h).cell 4 _ rfl⟩)
          go_wp2_with fail
          refine wp_region_held_drew (S := (fun w' => w'.cell? ⟨w.heap.size, 0, none⟩ = some (.int .i64 kl) ∧ w'.cell? ⟨w.heap.size, 1, none⟩ = some (.int .i64 km) ∧ w'.cell? ⟨w.heap.size, 2, none⟩ = some (.int .i64 kc) ∧ w'.cell? ⟨w.heap.size, 3, none⟩ = some (.string kb) ∧ w'.cell? ⟨w.heap.size, 4, none⟩ = some (.string ke) ∧ w'.cell? ⟨w.heap.size + 1, 0, none⟩ = some (.int .i64 ql) ∧ w'.cell? ⟨w.heap.size + 1, 1, none⟩ = some (.int .i64 qm) ∧ w'.cell? ⟨w.heap.size + 1, 2, none⟩ = some (.int .i64 qc) ∧ w'.cell? ⟨w.heap.size + 1, 3, none⟩ = some (.string qb) ∧ w'.cell? ⟨w.heap.size + 1, 4, none⟩ = some (.string qe))) (by kernel_rfl) ?_ (fun hHeld => ?_)
          · refine HK.out _ ?_; (repeat (first | (with_reducible exact gr_rfl _) | (with_reducible refine gr_dr ?_) | (with_reducible refine gr_then ?_ hx)))
          refine wpAnyH_take (i := 0) (oi := _) (v := ?v118) rfl (by kernel_rfl) (by kernel_rfl) (by kernel_rfl) (fun _ _ _ h => h) (Or.inl ⟨by rfl, ?hy118⟩) (by assumption) ?rest118
          case hy118 => ((intro w hSw; (try dsimp only at hSw); go_simp); try (with_reducible rfl))
          ((try dsimp only [List.getElem_toArray, List.getElem_cons_succ, List.getElem_cons_zero]); try simp only [Act.put, List.setIfInBounds_toArray, List.set_cons_zero, List.set_cons_succ])
          refine wpAnyH_ready (rs := [1]) (by kernel_rfl) (by simp) ?_
          refine AllReadyH.cons (o := _) rfl (fun K hK => ?_) AllReadyH.nil
          go_simp
          go_at_call 43; (with_reducible refine (HNS.out _).mono ?_); rintro ex wx ⟨rfl, hx⟩
          refine hK.out _ _ ?_ (fun hHeld => ?_)
          · (try dsimp only); refine HK.out _ ?_; (repeat (first | (with_reducible exact gr_rfl _) | (with_reducible refine gr_dr ?_) | (with_reducible refine gr_then ?_ hx)))
          clear hK K
          ((try dsimp only [List.getElem_toArray, List.getElem_cons_succ, List.getElem_cons_zero]); try simp only [Act.put, List.setIfInBounds_toArray, List.set_cons_zero, List.set_cons_succ])
          refine wpAnyH_take (i := 2) (oi := _) (v := ?v119) rfl (by kernel_rfl) (by kernel_rfl) (by kernel_rfl) (fun _ _ _ h => h) (Or.inl ⟨by rfl, ?hy119⟩) (by assumption) ?rest119
          case hy119 => ((intro w hSw; (try dsimp only at hSw); go_simp); try (with_reducible rfl))
          ((try dsimp only [List.getElem_toArray, List.getElem_cons_succ, List.getElem_cons_zero]); try simp only [Act.put, List.setIfInBounds_toArray, List.set_cons_zero, List.set_cons_succ])
          refine wpAnyH_take (i := 3) (oi := _) (v := ?v120) rfl (by kernel_rfl) (by kernel_rfl) (by kernel_rfl) (fun _ _ _ h => h) (Or.inl ⟨by rfl, ?hy120⟩) (by assumption) ?rest120
          case hy120 => ((intro w hSw; (try dsimp only at hSw); go_simp); try (with_reducible rfl))
          ((try dsimp only [List.getElem_toArray, List.getElem_cons_succ, List.getElem_cons_zero]); try simp only [Act.put, List.setIfInBounds_toArray, List.set_cons_zero, List.set_cons_succ])
          refine wpAnyH_take (i := 4) (oi := _) (v := ?v121) rfl (by kernel_rfl) (by kernel_rfl) (by kernel_rfl) (fun _ _ _ h => h) (Or.inl ⟨by rfl, ?hy121⟩) (by assumption) ?rest121
          case hy121 => ((intro w hSw; (try dsimp only at hSw); go_simp); try (with_reducible rfl))
          ((try dsimp only [List.getElem_toArray, List.getElem_cons_succ, List.getElem_cons_zero]); try simp only [Act.put, List.setIfInBounds_toArray, List.set_cons_zero, List.set_cons_succ])
          refine wpAnyH_take (i := 5) (oi := _) (v := ?v122) rfl (by kernel_rfl) (by kernel_rfl) (by kernel_rfl) (fun _ _ _ h => h) (Or.inl ⟨by rfl, ?hy122⟩) (by assumption) ?rest122
          case hy122 => ((intro w hSw; (try dsimp only at hSw); go_simp); try (with_reducible rfl))
          ((try dsimp only [List.getElem_toArray, List.getElem_cons_succ, List.getElem_cons_zero]); try simp only [Act.put, List.setIfInBounds_toArray, List.set_cons_zero, List.set_cons_succ])
          refine wpAnyH_take (i := 6) (oi := _) (v := ?v123) rfl (by kernel_rfl) (by kernel_rfl) (by kernel_rfl) (fun _ _ _ h => h) (Or.inl ⟨by rfl, ?hy123⟩) (by assumption) ?rest123
          case hy123 => ((intro w hSw; (try dsimp only at hSw); go_simp); try (with_reducible rfl))
          ((try dsimp only [List.getElem_toArray, List.getElem_cons_succ, List.getElem_cons_zero]); try simp only [Act.put, List.setIfInBounds_toArray, List.set_cons_zero, List.set_cons_succ])
          refine wpAnyH_take (i := 7) (oi := _) (v := ?v124) rfl (by kernel_rfl) (by kernel_rfl) (by kernel_rfl) (fun _ _ _ h => h) (Or.inl ⟨by rfl, ?hy124⟩) (by assumption) ?rest124
          case hy124 => ((intro w hSw; (try dsimp only at hSw); go_simp); try (with_reducible rfl))
          ((try dsimp only [List.getElem_toArray, List.getElem_cons_succ, List.getElem_cons_zero]); try simp only [Act.put, List.setIfInBounds_toArray, List.set_cons_zero, List.set_cons_succ])
          refine wpAnyH_take (i := 8) (oi := _) (v := ?v125) rfl (by kernel_rfl) (by kernel_rfl) (by kernel_rfl) (fun _ _ _ h => h) (Or.inl ⟨by rfl, ?hy125⟩) (by assumption) ?rest125
          case hy125 => ((intro w hSw; (try dsimp only at hSw); go_simp); try (with_reducible rfl))
          ((try dsimp only [List.getElem_toArray, List.getElem_cons_succ, List.getElem_cons_zero]); try simp only [Act.put, List.setIfInBounds_toArray, List.set_cons_zero, List.set_cons_succ])
          refine wpAnyH_take (i := 9) (oi := _) (v := ?v126) rfl (by kernel_rfl) (by kernel_rfl) (by kernel_rfl) (fun _ _ _ h => h) (Or.inl ⟨by rfl, ?hy126⟩) (by assumption) ?rest126
          case hy126 => ((intro w hSw; (try dsimp only at hSw); go_simp); try (with_reducible rfl))
          ((try dsimp only [List.getElem_toArray, List.getElem_cons_succ, List.getElem_cons_zero]); try simp only [Act.put, List.setIfInBounds_toArray, List.set_cons_zero, List.set_cons_succ])
          refine wpAnyH_take (i := 10) (oi := _) (v := ?v127) rfl (by kernel_rfl) (by kernel_rfl) (by kernel_rfl) (fun _ _ _ h => h) (Or.inl ⟨by rfl, ?hy127⟩) (by assumption) ?rest127
          case hy127 => ((intro w hSw; (try dsimp only at hSw); go_simp); try (with_reducible rfl))
          ((try dsimp only [List.getElem_toArray, List.getElem_cons_succ, List.getElem_cons_zero]); try simp only [Act.put, List.setIfInBounds_toArray, List.set_cons_zero, List.set_cons_succ])
          refine wpAnyH_take (i := 11) (oi := _) (v := ?v128) rfl (by kernel_rfl) (by kernel_rfl) (by kernel_rfl) (fun _ _ _ h => h) (Or.inl ⟨by rfl, ?hy128⟩) (by assumption) ?rest128
          case hy128 => ((intro w hSw; (try dsimp only at hSw); go_simp); try (with_reducible rfl))
          ((try dsimp only [List.getElem_toArray, List.getElem_cons_succ, List.getElem_cons_zero]); try simp only [Act.put, List.setIfInBounds_toArray, List.set_cons_zero, List.set_cons_succ])
          refine wpAnyH_take (i := 12) (oi := _) (v := ?v129) rfl (by kernel_rfl) (by kernel_rfl) (by kernel_rfl) (fun _ _ _ h => h) (Or.inl ⟨by rfl, ?hy129⟩) (by assumption) ?rest129
          case hy129 => ((intro w hSw; (try dsimp only at hSw); go_simp); try (with_reducible rfl))
          ((try dsimp only [List.getElem_toArray, List.getElem_cons_succ, List.getElem_cons_zero]); try simp only [Act.put, List.setIfInBounds_toArray, List.set_cons_zero, List.set_cons_succ])
          refine wpAnyH_take (i := 13) (oi := _) (v := ?v130) rfl (by kernel_rfl) (by kernel_rfl) (by kernel_rfl) (fun _ _ _ h => h) (Or.inl ⟨by rfl, ?hy130⟩) (by assumption) ?rest130
          case hy130 => ((intro w hSw; (try dsimp only at hSw); go_simp); try (with_reducible rfl))
          ((try dsimp only [List.getElem_toArray, List.getElem_cons_succ, List.getElem_cons_zero]); try simp only [Act.put, List.setIfInBounds_toArray, List.set_cons_zero, List.set_cons_succ])
          refine wpAnyH_take (i := 14) (oi := _) (v := ?v131) rfl (by kernel_rfl) (by kernel_rfl) (by kernel_rfl) (fun _ _ _ h => h) (Or.inl ⟨by rfl, ?hy131⟩) (by assumption) ?rest131
          case hy131 => ((intro w hSw; (try dsimp only at hSw); go_simp); try (with_reducible rfl))
          ((try dsimp only [List.getElem_toArray, List.getElem_cons_succ, List.getElem_cons_zero]); try simp only [Act.put, List.setIfInBounds_toArray, List.set_cons_zero, List.set_cons_succ])
          refine wpAnyH_take (i := 15) (oi := _) (v := ?v132) rfl (by kernel_rfl) (by kernel_rfl) (by kernel_rfl) (fun _ _ _ h => h) (Or.inl ⟨by rfl, ?hy132⟩) (by assumption) ?rest132
          case hy132 => ((intro w hSw; (try dsimp only at hSw); go_simp); try (with_reducible rfl))
          ((try dsimp only [List.getElem_toArray, List.getElem_cons_succ, List.getElem_cons_zero]); try simp only [Act.put, List.setIfInBounds_toArray, List.set_cons_zero, List.set_cons_succ])
          refine wpAnyH_take (i := 16) (oi := _) (v := ?v133) rfl (by kernel_rfl) (by kernel_rfl) (by kernel_rfl) (fun _ _ _ h => h) (Or.inl ⟨by rfl, ?hy133⟩) (by assumption) ?rest133
          case hy133 => ((intro w hSw; (try dsimp only at hSw); go_simp); try (with_reducible rfl))
          ((try dsimp only [List.getElem_toArray, List.getElem_cons_succ, List.getElem_cons_zero]); try simp only [Act.put, List.setIfInBounds_toArray, List.set_cons_zero, List.set_cons_succ])
          refine wpAnyH_take (i := 17) (oi := _) (v := ?v134) rfl (by kernel_rfl) (by kernel_rfl) (by kernel_rfl) (fun _ _ _ h => h) (Or.inl ⟨by rfl, ?hy134⟩) (by assumption) ?rest134
          case hy134 => ((intro w hSw; (try dsimp only at hSw); go_simp); try (with_reducible rfl))
          ((try dsimp only [List.getElem_toArray, List.getElem_cons_succ, List.getElem_cons_zero]); try simp only [Act.put, List.setIfInBounds_toArray, List.set_cons_zero, List.set_cons_succ])
          refine wpAnyH_take (i := 18) (oi := _) (v := ?v135) rfl (by kernel_rfl) (by kernel_rfl) (by kernel_rfl) (fun _ _ _ h => h) (Or.inl ⟨by rfl, ?hy135⟩) (by assumption) ?rest135
          case hy135 => ((intro w hSw; (try dsimp only at hSw); go_simp); try (with_reducible rfl))
          ((try dsimp only [List.getElem_toArray, List.getElem_cons_succ, List.getElem_cons_zero]); try simp only [Act.put, List.setIfInBounds_toArray, List.set_cons_zero, List.set_cons_succ])
          refine wpAnyH_take (i := 19) (oi := _) (v := ?v136) rfl (by kernel_rfl) (by kernel_rfl) (by kernel_rfl) (fun _ _ _ h => h) (Or.inl ⟨by rfl, ?hy136⟩) (by assumption) ?rest136
          case hy136 => ((intro w hSw; (try dsimp only at hSw); go_simp); try (with_reducible rfl))
          ((try dsimp only [List.getElem_toArray, List.getElem_cons_succ, List.getElem_cons_zero]); try simp only [Act.put, List.setIfInBounds_toArray, List.set_cons_zero, List.set_cons_succ])
          refine wpAnyH_take (i := 20) (oi := _) (v := ?v137) rfl (by kernel_rfl) (by kernel_rfl) (by kernel_rfl) (fun _ _ _ h => h) (Or.inl ⟨by rfl, ?hy137⟩) (by assumption) ?rest137
          case hy137 => ((intro w hSw; (try dsimp only at hSw); go_simp); try (with_reducible rfl))
          ((try dsimp only [List.getElem_toArray, List.getElem_cons_succ, List.getElem_cons_zero]); try simp only [Act.put, List.setIfInBounds_toArray, List.set_cons_zero, List.set_cons_succ])
          refine wpAnyH_take (i := 21) (oi := _) (v := ?v138) rfl (by kernel_rfl) (by kernel_rfl) (by kernel_rfl) (fun _ _ _ h => h) (Or.inl ⟨by rfl, ?hy138⟩) (by assumption) ?rest138
          case hy138 => ((intro w hSw; (try dsimp only at hSw); go_simp); try (with_reducible rfl))
          ((try dsimp only [List.getElem_toArray, List.getElem_cons_succ, List.getElem_cons_zero]); try simp only [Act.put, List.setIfInBounds_toArray, List.set_cons_zero, List.set_cons_succ])
          refine wpAnyH_take (i := 22) (oi := _) (v := ?v139) rfl (by kernel_rfl) (by kernel_rfl) (by kernel_rfl) (fun _ _ _ h => h) (Or.inl ⟨by rfl, ?hy139⟩) (by assumption) ?rest139
          case hy139 => ((intro w hSw; (try dsimp only at hSw); go_simp); try (with_reducible rfl))
          ((try dsimp only [List.getElem_toArray, List.getElem_cons_succ, List.getElem_cons_zero]); try simp only [Act.put, List.setIfInBounds_toArray, List.set_cons_zero, List.set_cons_succ])
          refine wpAnyH_take (i := 23) (oi := _) (v := ?v140) rfl (by kernel_rfl) (by kernel_rfl) (by kernel_rfl) (fun _ _ _ h => h) (Or.inl ⟨by rfl, ?hy140⟩) (by assumption) ?rest140
          case hy140 => ((intro w hSw; (try dsimp only at hSw); go_simp); try (with_reducible rfl))
          ((try dsimp only [List.getElem_toArray, List.getElem_cons_succ, List.getElem_cons_zero]); try simp only [Act.put, List.setIfInBounds_toArray, List.set_cons_zero, List.set_cons_succ])
          refine wpAnyH_take (i := 24) (oi := _) (v := ?v141) rfl (by kernel_rfl) (by kernel_rfl) (by kernel_rfl) (fun _ _ _ h => h) (Or.inl ⟨by rfl, ?hy141⟩) (by assumption) ?rest141
          case hy141 => ((intro w hSw; (try dsimp only at hSw); go_simp); try (with_reducible rfl))
          ((try dsimp only [List.getElem_toArray, List.getElem_cons_succ, List.getElem_cons_zero]); try simp only [Act.put, List.setIfInBounds_toArray, List.set_cons_zero, List.set_cons_succ])
          refine wpAnyH_take (i := 25) (oi := _) (v := _) rfl (by kernel_rfl) (by kernel_rfl) (by kernel_rfl) (fun _ _ _ h => h) (Or.inr ⟨by rfl, rfl⟩) (by assumption) ?rest142
          ((try dsimp only [List.getElem_toArray, List.getElem_cons_succ, List.getElem_cons_zero]); try simp only [Act.put, List.setIfInBounds_toArray, List.set_cons_zero, List.set_cons_succ])
          refine wpAnyH_take (i := 26) (oi := _) (v := _) rfl (by kernel_rfl) (by kernel_rfl) (by kernel_rfl) (fun _ _ _ h => h) (Or.inr ⟨by rfl, rfl⟩) (by assumption) ?rest143
          ((try dsimp only [List.getElem_toArray, List.getElem_cons_succ, List.getElem_cons_zero]); try simp only [Act.put, List.setIfInBounds_toArray, List.set_cons_zero, List.set_cons_succ])
          refine wpAnyH_take (i := 27) (oi := _) (v := _) rfl (by kernel_rfl) (by kernel_rfl) (by kernel_rfl) (fun _ _ _ h => h) (Or.inr ⟨by rfl, rfl⟩) (by assumption) ?rest144
          ((try dsimp only [List.getElem_toArray, List.getElem_cons_succ, List.getElem_cons_zero]); try simp only [Act.put, List.setIfInBounds_toArray, List.set_cons_zero, List.set_cons_succ])
          refine wpAnyH_take (i := 28) (oi := _) (v := _) rfl (by kernel_rfl) (by kernel_rfl) (by kernel_rfl) (fun _ _ _ h => h) (Or.inr ⟨by rfl, rfl⟩) (by assumption) ?rest145
          ((try dsimp only [List.getElem_toArray, List.getElem_cons_succ, List.getElem_cons_zero]); try simp only [Act.put, List.setIfInBounds_toArray, List.set_cons_zero, List.set_cons_succ])
          refine wpAnyH_take (i := 29) (oi := _) (v := _) rfl (by kernel_rfl) (by kernel_rfl) (by kernel_rfl) (fun _ _ _ h => h) (Or.inr ⟨by rfl, rfl⟩) (by assumption) ?rest146
          ((try dsimp only [List.getElem_toArray, List.getElem_cons_succ, List.getElem_cons_zero]); try simp only [Act.put, List.setIfInBounds_toArray, List.set_cons_zero, List.set_cons_succ])
          refine wpAnyH_take (i := 30) (oi := _) (v := ?v147) rfl (by kernel_rfl) (by kernel_rfl) (by kernel_rfl) (fun _ _ _ h => h) (Or.inl ⟨by rfl, ?hy147⟩) (by assumption) ?rest147
          case hy147 => ((intro w hSw; (try dsimp only at hSw); go_simp); try (with_reducible rfl))
          ((try dsimp only [List.getElem_toArray, List.getElem_cons_succ, List.getElem_cons_zero]); try simp only [Act.put, List.setIfInBounds_toArray, List.set_cons_zero, List.set_cons_succ])
          refine wpAnyH_take (i := 31) (oi := _) (v := ?v148) rfl (by kernel_rfl) (by kernel_rfl) (by kernel_rfl) (fun _ _ _ h => h) (Or.inl ⟨by rfl, ?hy148⟩) (by assumption) ?rest148
          case hy148 => ((intro w hSw; (try dsimp only at hSw); go_simp); try (with_reducible rfl))
          ((try dsimp only [List.getElem_toArray, List.getElem_cons_succ, List.getElem_cons_zero]); try simp only [Act.put, List.setIfInBounds_toArray, List.set_cons_zero, List.set_cons_succ])
          refine wpAnyH_take (i := 32) (oi := _) (v := _) rfl (by kernel_rfl) (by kernel_rfl) (by kernel_rfl) (fun _ _ _ h => h) (Or.inr ⟨by rfl, rfl⟩) (by assumption) ?rest149
          ((try dsimp only [List.getElem_toArray, List.getElem_cons_succ, List.getElem_cons_zero]); try simp only [Act.put, List.setIfInBounds_toArray, List.set_cons_zero, List.set_cons_succ])
          refine wpAnyH_take (i := 33) (oi := _) (v := _) rfl (by kernel_rfl) (by kernel_rfl) (by kernel_rfl) (fun _ _ _ h => h) (Or.inr ⟨by rfl, rfl⟩) (by assumption) ?rest150
          ((try dsimp only [List.getElem_toArray, List.getElem_cons_succ, List.getElem_cons_zero]); try simp only [Act.put, List.setIfInBounds_toArray, List.set_cons_zero, List.set_cons_succ])
          refine wpAnyH_take (i := 34) (oi := _) (v := _) rfl (by kernel_rfl) (by kernel_rfl) (by kernel_rfl) (fun _ _ _ h => h) (Or.inr ⟨by rfl, rfl⟩) (by assumption) ?rest151
          ((try dsimp only [List.getElem_toArray, List.getElem_cons_succ, List.getElem_cons_zero]); try simp only [Act.put, List.setIfInBounds_toArray, List.set_cons_zero, List.set_cons_succ])
          refine wpAnyH_take (i := 35) (oi := _) (v := _) rfl (by kernel_rfl) (by kernel_rfl) (by kernel_rfl) (fun _ _ _ h => h) (Or.inr ⟨by rfl, rfl⟩) (by assumption) ?rest152
          ((try dsimp only [List.getElem_toArray, List.getElem_cons_succ, List.getElem_cons_zero]); try simp only [Act.put, List.setIfInBounds_toArray, List.set_cons_zero, List.set_cons_succ])
          refine wpAnyH_take (i := 36) (oi := _) (v := _) rfl (by kernel_rfl) (by kernel_rfl) (by kernel_rfl) (fun _ _ _ h => h) (Or.inr ⟨by rfl, rfl⟩) (by assumption) ?rest153
          ((try dsimp only [List.getElem_toArray, List.getElem_cons_succ, List.getElem_cons_zero]); try simp only [Act.put, List.setIfInBounds_toArray, List.set_cons_zero, List.set_cons_succ])
          refine wpAnyH_take (i := 37) (oi := _) (v := ?v154) rfl (by kernel_rfl) (by kernel_rfl) (by kernel_rfl) (fun _ _ _ h => h) (Or.inl ⟨by rfl, ?hy154⟩) (by assumption) ?rest154
          case hy154 => ((intro w hSw; (try dsimp only at hSw); go_simp); try (with_reducible rfl))
          ((try dsimp only [List.getElem_toArray, List.getElem_cons_succ, List.getElem_cons_zero]); try simp only [Act.put, List.setIfInBounds_toArray, List.set_cons_zero, List.set_cons_succ])
          refine wpAnyH_take (i := 38) (oi := _) (v := ?v155) rfl (by kernel_rfl) (by kernel_rfl) (by kernel_rfl) (fun _ _ _ h => h) (Or.inl ⟨by rfl, ?hy155⟩) (by assumption) ?rest155
          case hy155 => ((intro w hSw; (try dsimp only at hSw); go_simp); try (with_reducible rfl))
          ((try dsimp only [List.getElem_toArray, List.getElem_cons_succ, List.getElem_cons_zero]); try simp only [Act.put, List.setIfInBounds_toArray, List.set_cons_zero, List.set_cons_succ])
          refine wpAnyH_take (i := 39) (oi := _) (v := ?v156) rfl (by kernel_rfl) (by kernel_rfl) (by kernel_rfl) (fun _ _ _ h => h) (Or.inl ⟨by rfl, ?hy156⟩) (by assumption) ?rest156
          case hy156 => ((intro w hSw; (try dsimp only at hSw); go_simp); try (with_reducible rfl))
          ((try dsimp only [List.getElem_toArray, List.getElem_cons_succ, List.getElem_cons_zero]); try simp only [Act.put, List.setIfInBounds_toArray, List.set_cons_zero, List.set_cons_succ])
          refine wpAnyH_done (by kernel_rfl) ?_ _
          go_wp2
          go_ret
          exact BoolIs.no rfl (fun h => by rcases HW.out.1 h with h | h; exact absurd h HKN.out; exact H3.out (HZ.out.symm.trans (HSUB.out.2 h.2.2.1))) (gr_then HGW.out (gr_then (gr_dr (gr_rfl w7)) hx))
        subst h3
        have H3 := Lib.hid (HSUB.out.1 HZ.out)
        cases hp
        · skip
          have HK := Lib.hid (show ∀ w', w7.grownBy w' none → (w'.cell? ⟨w.heap.size, 0, none⟩ = some (.int .i64 kl) ∧ w'.cell? ⟨w.heap.size, 1, none⟩ = some (.int .i64 km) ∧ w'.cell? ⟨w.heap.size, 2, none⟩ = some (.int .i64 kc) ∧ w'.cell? ⟨w.heap.size, 3, none⟩ = some (.string kb) ∧ w'.cell? ⟨w.heap.size, 4, none⟩ = some (.string ke) ∧ w'.cell? ⟨w.heap.size + 1, 0, none⟩ = some (.int .i64 ql) ∧ w'.cell? ⟨w.heap.size + 1, 1, none⟩ = some (.int .i64 qm) ∧ w'.cell? ⟨w.heap.size + 1, 2, none⟩ = some (.int .i64 qc) ∧ w'.cell? ⟨w.heap.size + 1, 3, none⟩ = some (.string qb) ∧ w'.cell? ⟨w.heap.size + 1, 4, none⟩ = some (.string qe)) from fun w' h => ⟨(HRA.out.kept h).cell 0 _ rfl, (HRA.out.kept h).cell 1 _ rfl, (HRA.out.kept h).cell 2 _ rfl, (HRA.out.kept h).cell 3 _ rfl, (HRA.out.kept h).cell 4 _ rfl, (HRB.out.kept h).cell 0 _ rfl, (HRB.out.kept h).cell 1 _ rfl, (HRB.out.kept h).cell 2 _ rfl, (HRB.out.kept h).cell 3 _ rfl, (HRB.out.kept h).cell 4 _ rfl⟩)
          go_wp2_with fail
          refine wp_region_held_drew (S := (fun w' => w'.cell? ⟨w.heap.size, 0, none⟩ = some (.int .i64 kl) ∧ w'.cell? ⟨w.heap.size, 1, none⟩ = some (.int .i64 km) ∧ w'.cell? ⟨w.heap.size, 2, none⟩ = some (.int .i64 kc) ∧ w'.cell? ⟨w.heap.size, 3, none⟩ = some (.string kb) ∧ w'.cell? ⟨w.heap.size, 4, none⟩ = some (.string ke) ∧ w'.cell? ⟨w.heap.size + 1, 0, none⟩ = some (.int .i64 ql) ∧ w'.cell? ⟨w.heap.size + 1, 1, none⟩ = some (.int .i64 qm) ∧ w'.cell? ⟨w.heap.size + 1, 2, none⟩ = some (.int .i64 qc) ∧ w'.cell? ⟨w.heap.size + 1, 3, none⟩ = some (.string qb) ∧ w'.cell? ⟨w.heap.size + 1, 4, none⟩ = some (.string qe))) (by kernel_rfl) ?_ (fun hHeld => ?_)
          · refine HK.out _ ?_; (repeat (first | (with_reducible exact gr_rfl _) | (with_reducible refine gr_dr ?_) | (with_reducible refine gr_then ?_ hx)))
          refine wpAnyH_take (i := 0) (oi := _) (v := ?v157) rfl (by kernel_rfl) (by kernel_rfl) (by kernel_rfl) (fun _ _ _ h => h) (Or.inl ⟨by rfl, ?hy157⟩) (by assumption) ?rest157
          case hy157 => ((intro w hSw; (try dsimp only at hSw); go_simp); try (with_reducible rfl))
          ((try dsimp only [List.getElem_toArray, List.getElem_cons_succ, List.getElem_cons_zero]); try simp only [Act.put, List.setIfInBounds_toArray, List.set_cons_zero, List.set_cons_succ])
          refine wpAnyH_ready (rs := [1]) (by kernel_rfl) (by simp) ?_
          refine AllReadyH.cons (o := _) rfl (fun K hK => ?_) AllReadyH.nil
          go_simp
          go_at_call 43; (with_reducible refine (HNS.out _).mono ?_); rintro ex wx ⟨rfl, hx⟩
          refine hK.out _ _ ?_ (fun hHeld => ?_)
          · (try dsimp only); refine HK.out _ ?_; (repeat (first | (with_reducible exact gr_rfl _) | (with_reducible refine gr_dr ?_) | (with_reducible refine gr_then ?_ hx)))
          clear hK K
          ((try dsimp only [List.getElem_toArray, List.getElem_cons_succ, List.getElem_cons_zero]); try simp only [Act.put, List.setIfInBounds_toArray, List.set_cons_zero, List.set_cons_succ])
          refine wpAnyH_take (i := 2) (oi := _) (v := ?v158) rfl (by kernel_rfl) (by kernel_rfl) (by kernel_rfl) (fun _ _ _ h => h) (Or.inl ⟨by rfl, ?hy158⟩) (by assumption) ?rest158
          case hy158 => ((intro w hSw; (try dsimp only at hSw); go_simp); try (with_reducible rfl))
          ((try dsimp only [List.getElem_toArray, List.getElem_cons_succ, List.getElem_cons_zero]); try simp only [Act.put, List.setIfInBounds_toArray, List.set_cons_zero, List.set_cons_succ])
          refine wpAnyH_take (i := 3) (oi := _) (v := ?v159) rfl (by kernel_rfl) (by kernel_rfl) (by kernel_rfl) (fun _ _ _ h => h) (Or.inl ⟨by rfl, ?hy159⟩) (by assumption) ?rest159
          case hy159 => ((intro w hSw; (try dsimp only at hSw); go_simp); try (with_reducible rfl))
          ((try dsimp only [List.getElem_toArray, List.getElem_cons_succ, List.getElem_cons_zero]); try simp only [Act.put, List.setIfInBounds_toArray, List.set_cons_zero, List.set_cons_succ])
          refine wpAnyH_take (i := 4) (oi := _) (v := ?v160) rfl (by kernel_rfl) (by kernel_rfl) (by kernel_rfl) (fun _ _ _ h => h) (Or.inl ⟨by rfl, ?hy160⟩) (by assumption) ?rest160
          case hy160 => ((intro w hSw; (try dsimp only at hSw); go_simp); try (with_reducible rfl))
          ((try dsimp only [List.getElem_toArray, List.getElem_cons_succ, List.getElem_cons_zero]); try simp only [Act.put, List.setIfInBounds_toArray, List.set_cons_zero, List.set_cons_succ])
          refine wpAnyH_take (i := 5) (oi := _) (v := ?v161) rfl (by kernel_rfl) (by kernel_rfl) (by kernel_rfl) (fun _ _ _ h => h) (Or.inl ⟨by rfl, ?hy161⟩) (by assumption) ?rest161
          case hy161 => ((intro w hSw; (try dsimp only at hSw); go_simp); try (with_reducible rfl))
          ((try dsimp only [List.getElem_toArray, List.getElem_cons_succ, List.getElem_cons_zero]); try simp only [Act.put, List.setIfInBounds_toArray, List.set_cons_zero, List.set_cons_succ])
          refine wpAnyH_take (i := 6) (oi := _) (v := ?v162) rfl (by kernel_rfl) (by kernel_rfl) (by kernel_rfl) (fun _ _ _ h => h) (Or.inl ⟨by rfl, ?hy162⟩) (by assumption) ?rest162
          case hy162 => ((intro w hSw; (try dsimp only at hSw); go_simp); try (with_reducible rfl))
          ((try dsimp only [List.getElem_toArray, List.getElem_cons_succ, List.getElem_cons_zero]); try simp only [Act.put, List.setIfInBounds_toArray, List.set_cons_zero, List.set_cons_succ])
          refine wpAnyH_take (i := 7) (oi := _) (v := ?v163) rfl (by kernel_rfl) (by kernel_rfl) (by kernel_rfl) (fun _ _ _ h => h) (Or.inl ⟨by rfl, ?hy163⟩) (by assumption) ?rest163
          case hy163 => ((intro w hSw; (try dsimp only at hSw); go_simp); try (with_reducible rfl))
          ((try dsimp only [List.getElem_toArray, List.getElem_cons_succ, List.getElem_cons_zero]); try simp only [Act.put, List.setIfInBounds_toArray, List.set_cons_zero, List.set_cons_succ])
          refine wpAnyH_take (i := 8) (oi := _) (v := ?v164) rfl (by kernel_rfl) (by kernel_rfl) (by kernel_rfl) (fun _ _ _ h => h) (Or.inl ⟨by rfl, ?hy164⟩) (by assumption) ?rest164
          case hy164 => ((intro w hSw; (try dsimp only at hSw); go_simp); try (with_reducible rfl))
          ((try dsimp only [List.getElem_toArray, List.getElem_cons_succ, List.getElem_cons_zero]); try simp only [Act.put, List.setIfInBounds_toArray, List.set_cons_zero, List.set_cons_succ])
          refine wpAnyH_take (i := 9) (oi := _) (v := ?v165) rfl (by kernel_rfl) (by kernel_rfl) (by kernel_rfl) (fun _ _ _ h => h) (Or.inl ⟨by rfl, ?hy165⟩) (by assumption) ?rest165
          case hy165 => ((intro w hSw; (try dsimp only at hSw); go_simp); try (with_reducible rfl))
          ((try dsimp only [List.getElem_toArray, List.getElem_cons_succ, List.getElem_cons_zero]); try simp only [Act.put, List.setIfInBounds_toArray, List.set_cons_zero, List.set_cons_succ])
          refine wpAnyH_take (i := 10) (oi := _) (v := ?v166) rfl (by kernel_rfl) (by kernel_rfl) (by kernel_rfl) (fun _ _ _ h => h) (Or.inl ⟨by rfl, ?hy166⟩) (by assumption) ?rest166
          case hy166 => ((intro w hSw; (try dsimp only at hSw); go_simp); try (with_reducible rfl))
          ((try dsimp only [List.getElem_toArray, List.getElem_cons_succ, List.getElem_cons_zero]); try simp only [Act.put, List.setIfInBounds_toArray, List.set_cons_zero, List.set_cons_succ])
          refine wpAnyH_take (i := 11) (oi := _) (v := ?v167) rfl (by kernel_rfl) (by kernel_rfl) (by kernel_rfl) (fun _ _ _ h => h) (Or.inl ⟨by rfl, ?hy167⟩) (by assumption) ?rest167
          case hy167 => ((intro w hSw; (try dsimp only at hSw); go_simp); try (with_reducible rfl))
          ((try dsimp only [List.getElem_toArray, List.getElem_cons_succ, List.getElem_cons_zero]); try simp only [Act.put, List.setIfInBounds_toArray, List.set_cons_zero, List.set_cons_succ])
          refine wpAnyH_take (i := 12) (oi := _) (v := ?v168) rfl (by kernel_rfl) (by kernel_rfl) (by kernel_rfl) (fun _ _ _ h => h) (Or.inl ⟨by rfl, ?hy168⟩) (by assumption) ?rest168
          case hy168 => ((intro w hSw; (try dsimp only at hSw); go_simp); try (with_reducible rfl))
          ((try dsimp only [List.getElem_toArray, List.getElem_cons_succ, List.getElem_cons_zero]); try simp only [Act.put, List.setIfInBounds_toArray, List.set_cons_zero, List.set_cons_succ])
          refine wpAnyH_take (i := 13) (oi := _) (v := ?v169) rfl (by kernel_rfl) (by kernel_rfl) (by kernel_rfl) (fun _ _ _ h => h) (Or.inl ⟨by rfl, ?hy169⟩) (by assumption) ?rest169
          case hy169 => ((intro w hSw; (try dsimp only at hSw); go_simp); try (with_reducible rfl))
          ((try dsimp only [List.getElem_toArray, List.getElem_cons_succ, List.getElem_cons_zero]); try simp only [Act.put, List.setIfInBounds_toArray, List.set_cons_zero, List.set_cons_succ])
          refine wpAnyH_take (i := 14) (oi := _) (v := ?v170) rfl (by kernel_rfl) (by kernel_rfl) (by kernel_rfl) (fun _ _ _ h => h) (Or.inl ⟨by rfl, ?hy170⟩) (by assumption) ?rest170
          case hy170 => ((intro w hSw; (try dsimp only at hSw); go_simp); try (with_reducible rfl))
          ((try dsimp only [List.getElem_toArray, List.getElem_cons_succ, List.getElem_cons_zero]); try simp only [Act.put, List.setIfInBounds_toArray, List.set_cons_zero, List.set_cons_succ])
          refine wpAnyH_take (i := 15) (oi := _) (v := ?v171) rfl (by kernel_rfl) (by kernel_rfl) (by kernel_rfl) (fun _ _ _ h => h) (Or.inl ⟨by rfl, ?hy171⟩) (by assumption) ?rest171
          case hy171 => ((intro w hSw; (try dsimp only at hSw); go_simp); try (with_reducible rfl))
          ((try dsimp only [List.getElem_toArray, List.getElem_cons_succ, List.getElem_cons_zero]); try simp only [Act.put, List.setIfInBounds_toArray, List.set_cons_zero, List.set_cons_succ])
          refine wpAnyH_take (i := 16) (oi := _) (v := ?v172) rfl (by kernel_rfl) (by kernel_rfl) (by kernel_rfl) (fun _ _ _ h => h) (Or.inl ⟨by rfl, ?hy172⟩) (by assumption) ?rest172
          case hy172 => ((intro w hSw; (try dsimp only at hSw); go_simp); try (with_reducible rfl))
          ((try dsimp only [List.getElem_toArray, List.getElem_cons_succ, List.getElem_cons_zero]); try simp only [Act.put, List.setIfInBounds_toArray, List.set_cons_zero, List.set_cons_succ])
          refine wpAnyH_take (i := 17) (oi := _) (v := ?v173) rfl (by kernel_rfl) (by kernel_rfl) (by kernel_rfl) (fun _ _ _ h => h) (Or.inl ⟨by rfl, ?hy173⟩) (by assumption) ?rest173
          case hy173 => ((intro w hSw; (try dsimp only at hSw); go_simp); try (with_reducible rfl))
          ((try dsimp only [List.getElem_toArray, List.getElem_cons_succ, List.getElem_cons_zero]); try simp only [Act.put, List.setIfInBounds_toArray, List.set_cons_zero, List.set_cons_succ])
          refine wpAnyH_take (i := 18) (oi := _) (v := ?v174) rfl (by kernel_rfl) (by kernel_rfl) (by kernel_rfl) (fun _ _ _ h => h) (Or.inl ⟨by rfl, ?hy174⟩) (by assumption) ?rest174
          case hy174 => ((intro w hSw; (try dsimp only at hSw); go_simp); try (with_reducible rfl))
          ((try dsimp only [List.getElem_toArray, List.getElem_cons_succ, List.getElem_cons_zero]); try simp only [Act.put, List.setIfInBounds_toArray, List.set_cons_zero, List.set_cons_succ])
          refine wpAnyH_take (i := 19) (oi := _) (v := ?v175) rfl (by kernel_rfl) (by kernel_rfl) (by kernel_rfl) (fun _ _ _ h => h) (Or.inl ⟨by rfl, ?hy175⟩) (by assumption) ?rest175
          case hy175 => ((intro w hSw; (try dsimp only at hSw); go_simp); try (with_reducible rfl))
          ((try dsimp only [List.getElem_toArray, List.getElem_cons_succ, List.getElem_cons_zero]); try simp only [Act.put, List.setIfInBounds_toArray, List.set_cons_zero, List.set_cons_succ])
          refine wpAnyH_take (i := 20) (oi := _) (v := ?v176) rfl (by kernel_rfl) (by kernel_rfl) (by kernel_rfl) (fun _ _ _ h => h) (Or.inl ⟨by rfl, ?hy176⟩) (by assumption) ?rest176
          case hy176 => ((intro w hSw; (try dsimp only at hSw); go_simp); try (with_reducible rfl))
          ((try dsimp only [List.getElem_toArray, List.getElem_cons_succ, List.getElem_cons_zero]); try simp only [Act.put, List.setIfInBounds_toArray, List.set_cons_zero, List.set_cons_succ])
          refine wpAnyH_take (i := 21) (oi := _) (v := ?v177) rfl (by kernel_rfl) (by kernel_rfl) (by kernel_rfl) (fun _ _ _ h => h) (Or.inl ⟨by rfl, ?hy177⟩) (by assumption) ?rest177
          case hy177 => ((intro w hSw; (try dsimp only at hSw); go_simp); try (with_reducible rfl))
          ((try dsimp only [List.getElem_toArray, List.getElem_cons_succ, List.getElem_cons_zero]); try simp only [Act.put, List.setIfInBounds_toArray, List.set_cons_zero, List.set_cons_succ])
          refine wpAnyH_take (i := 22) (oi := _) (v := ?v178) rfl (by kernel_rfl) (by kernel_rfl) (by kernel_rfl) (fun _ _ _ h => h) (Or.inl ⟨by rfl, ?hy178⟩) (by assumption) ?rest178
          case hy178 => ((intro w hSw; (try dsimp only at hSw); go_simp); try (with_reducible rfl))
          ((try dsimp only [List.getElem_toArray, List.getElem_cons_succ, List.getElem_cons_zero]); try simp only [Act.put, List.setIfInBounds_toArray, List.set_cons_zero, List.set_cons_succ])
          refine wpAnyH_take (i := 23) (oi := _) (v := ?v179) rfl (by kernel_rfl) (by kernel_rfl) (by kernel_rfl) (fun _ _ _ h => h) (Or.inl ⟨by rfl, ?hy179⟩) (by assumption) ?rest179
          case hy179 => ((intro w hSw; (try dsimp only at hSw); go_simp); try (with_reducible rfl))
          ((try dsimp only [List.getElem_toArray, List.getElem_cons_succ, List.getElem_cons_zero]); try simp only [Act.put, List.setIfInBounds_toArray, List.set_cons_zero, List.set_cons_succ])
          refine wpAnyH_take (i := 24) (oi := _) (v := ?v180) rfl (by kernel_rfl) (by kernel_rfl) (by kernel_rfl) (fun _ _ _ h => h) (Or.inl ⟨by rfl, ?hy180⟩) (by assumption) ?rest180
          case hy180 => ((intro w hSw; (try dsimp only at hSw); go_simp); try (with_reducible rfl))
          ((try dsimp only [List.getElem_toArray, List.getElem_cons_succ, List.getElem_cons_zero]); try simp only [Act.put, List.setIfInBounds_toArray, List.set_cons_zero, List.set_cons_succ])
          refine wpAnyH_take (i := 25) (oi := _) (v := ?v181) rfl (by kernel_rfl) (by kernel_rfl) (by kernel_rfl) (fun _ _ _ h => h) (Or.inl ⟨by rfl, ?hy181⟩) (by assumption) ?rest181
          case hy181 => ((intro w hSw; (try dsimp only at hSw); go_simp); try (with_reducible rfl))
          ((try dsimp only [List.getElem_toArray, List.getElem_cons_succ, List.getElem_cons_zero]); try simp only [Act.put, List.setIfInBounds_toArray, List.set_cons_zero, List.set_cons_succ])
          refine wpAnyH_take (i := 26) (oi := _) (v := ?v182) rfl (by kernel_rfl) (by kernel_rfl) (by kernel_rfl) (fun _ _ _ h => h) (Or.inl ⟨by rfl, ?hy182⟩) (by assumption) ?rest182
          case hy182 => ((intro w hSw; (try dsimp only at hSw); go_simp); try (with_reducible rfl))
          ((try dsimp only [List.getElem_toArray, List.getElem_cons_succ, List.getElem_cons_zero]); try simp only [Act.put, List.setIfInBounds_toArray, List.set_cons_zero, List.set_cons_succ])
          refine wpAnyH_take (i := 27) (oi := _) (v := ?v183) rfl (by kernel_rfl) (by kernel_rfl) (by kernel_rfl) (fun _ _ _ h => h) (Or.inl ⟨by rfl, ?hy183⟩) (by assumption) ?rest183
          case hy183 => ((intro w hSw; (try dsimp only at hSw); go_simp); try (with_reducible rfl))
          ((try dsimp only [List.getElem_toArray, List.getElem_cons_succ, List.getElem_cons_zero]); try simp only [Act.put, List.setIfInBounds_toArray, List.set_cons_zero, List.set_cons_succ])
          refine wpAnyH_take (i := 28) (oi := _) (v := ?v184) rfl (by kernel_rfl) (by kernel_rfl) (by kernel_rfl) (fun _ _ _ h => h) (Or.inl ⟨by rfl, ?hy184⟩) (by assumption) ?rest184
          case hy184 => ((intro w hSw; (try dsimp only at hSw); go_simp); try (with_reducible rfl))
          ((try dsimp only [List.getElem_toArray, List.getElem_cons_succ, List.getElem_cons_zero]); try simp only [Act.put, List.setIfInBounds_toArray, List.set_cons_zero, List.set_cons_succ])
          refine wpAnyH_ready (rs := [29]) (by kernel_rfl) (by simp) ?_
          refine AllReadyH.cons (o := _) rfl (fun K hK => ?_) AllReadyH.nil
          go_simp
          go_at_call 46; (with_reducible refine (HP.out _).mono ?_); rintro ep wp ⟨rfl, rfl⟩
          refine hK.out _ _ ?_ (fun hHeld => ?_)
          · (try dsimp only); refine HK.out _ ?_; (repeat (first | (with_reducible exact gr_rfl _) | (with_reducible refine gr_dr ?_) | (with_reducible refine gr_then ?_ hx)))
          clear hK K
          ((try dsimp only [List.getElem_toArray, List.getElem_cons_succ, List.getElem_cons_zero]); try simp only [Act.put, List.setIfInBounds_toArray, List.set_cons_zero, List.set_cons_succ])
          refine wpAnyH_take (i := 30) (oi := _) (v := ?v185) rfl (by kernel_rfl) (by kernel_rfl) (by kernel_rfl) (fun _ _ _ h => h) (Or.inl ⟨by rfl, ?hy185⟩) (by assumption) ?rest185
          case hy185 => ((intro w hSw; (try dsimp only at hSw); go_simp); try (with_reducible rfl))
          ((try dsimp only [List.getElem_toArray, List.getElem_cons_succ, List.getElem_cons_zero]); try simp only [Act.put, List.setIfInBounds_toArray, List.set_cons_zero, List.set_cons_succ])
          refine wpAnyH_take (i := 31) (oi := _) (v := ?v186) rfl (by kernel_rfl) (by kernel_rfl) (by kernel_rfl) (fun _ _ _ h => h) (Or.inl ⟨by rfl, ?hy186⟩) (by assumption) ?rest186
          case hy186 => ((intro w hSw; (try dsimp only at hSw); go_simp); try (with_reducible rfl))
          ((try dsimp only [List.getElem_toArray, List.getElem_cons_succ, List.getElem_cons_zero]); try simp only [Act.put, List.setIfInBounds_toArray, List.set_cons_zero, List.set_cons_succ])
          refine wpAnyH_take (i := 32) (oi := _) (v := _) rfl (by kernel_rfl) (by kernel_rfl) (by kernel_rfl) (fun _ _ _ h => h) (Or.inr ⟨by rfl, rfl⟩) (by assumption) ?rest187
          ((try dsimp only [List.getElem_toArray, List.getElem_cons_succ, List.getElem_cons_zero]); try simp only [Act.put, List.setIfInBounds_toArray, List.set_cons_zero, List.set_cons_succ])
          refine wpAnyH_take (i := 33) (oi := _) (v := _) rfl (by kernel_rfl) (by kernel_rfl) (by kernel_rfl) (fun _ _ _ h => h) (Or.inr ⟨by rfl, rfl⟩) (by assumption) ?rest188
          ((try dsimp only [List.getElem_toArray, List.getElem_cons_succ, List.getElem_cons_zero]); try simp only [Act.put, List.setIfInBounds_toArray, List.set_cons_zero, List.set_cons_succ])
          refine wpAnyH_take (i := 34) (oi := _) (v := _) rfl (by kernel_rfl) (by kernel_rfl) (by kernel_rfl) (fun _ _ _ h => h) (Or.inr ⟨by rfl, rfl⟩) (by assumption) ?rest189
          ((try dsimp only [List.getElem_toArray, List.getElem_cons_succ, List.getElem_cons_zero]); try simp only [Act.put, List.setIfInBounds_toArray, List.set_cons_zero, List.set_cons_succ])
          refine wpAnyH_take (i := 35) (oi := _) (v := _) rfl (by kernel_rfl) (by kernel_rfl) (by kernel_rfl) (fun _ _ _ h => h) (Or.inr ⟨by rfl, rfl⟩) (by assumption) ?rest190
          ((try dsimp only [List.getElem_toArray, List.getElem_cons_succ, List.getElem_cons_zero]); try simp only [Act.put, List.setIfInBounds_toArray, List.set_cons_zero, List.set_cons_succ])
          refine wpAnyH_take (i := 36) (oi := _) (v := _) rfl (by kernel_rfl) (by kernel_rfl) (by kernel_rfl) (fun _ _ _ h => h) (Or.inr ⟨by rfl, rfl⟩) (by assumption) ?rest191
          ((try dsimp only [List.getElem_toArray, List.getElem_cons_succ, List.getElem_cons_zero]); try simp only [Act.put, List.setIfInBounds_toArray, List.set_cons_zero, List.set_cons_succ])
          refine wpAnyH_take (i := 37) (oi := _) (v := ?v192) rfl (by kernel_rfl) (by kernel_rfl) (by kernel_rfl) (fun _ _ _ h => h) (Or.inl ⟨by rfl, ?hy192⟩) (by assumption) ?rest192
          case hy192 => ((intro w hSw; (try dsimp only at hSw); go_simp); try (with_reducible rfl))
          ((try dsimp only [List.getElem_toArray, List.getElem_cons_succ, List.getElem_cons_zero]); try simp only [Act.put, List.setIfInBounds_toArray, List.set_cons_zero, List.set_cons_succ])
          refine wpAnyH_take (i := 38) (oi := _) (v := ?v193) rfl (by kernel_rfl) (by kernel_rfl) (by kernel_rfl) (fun _ _ _ h => h) (Or.inl ⟨by rfl, ?hy193⟩) (by assumption) ?rest193
          case hy193 => ((intro w hSw; (try dsimp only at hSw); go_simp); try (with_reducible rfl))
          ((try dsimp only [List.getElem_toArray, List.getElem_cons_succ, List.getElem_cons_zero]); try simp only [Act.put, List.setIfInBounds_toArray, List.set_cons_zero, List.set_cons_succ])
          refine wpAnyH_take (i := 39) (oi := _) (v := ?v194) rfl (by kernel_rfl) (by kernel_rfl) (by kernel_rfl) (fun _ _ _ h => h) (Or.inl ⟨by rfl, ?hy194⟩) (by assumption) ?rest194
          case hy194 => ((intro w hSw; (try dsimp only at hSw); go_simp); try (with_reducible rfl))
          ((try dsimp only [List.getElem_toArray, List.getElem_cons_succ, List.getElem_cons_zero]); try simp only [Act.put, List.setIfInBounds_toArray, List.set_cons_zero, List.set_cons_succ])
          refine wpAnyH_done (by kernel_rfl) ?_ _
          go_wp2
          go_ret
          exact BoolIs.no rfl (fun h => by rcases HW.out.1 h with h | h; exact absurd h HKN.out; have h1 := HPB.out.2 h.2.2.2.1; simp at h1) (gr_then HGW.out (gr_then (gr_dr (gr_rfl w7)) hx))
        have H4 := Lib.hid (HPB.out.1 (by first | rfl | trivial))
        cases hu
        · skip
          have HK := Lib.hid (show ∀ w', w7.grownBy w' none → (w'.cell? ⟨w.heap.size, 0, none⟩ = some (.int .i64 kl) ∧ w'.cell? ⟨w.heap.size, 1, none⟩ = some (.int .i64 km) ∧ w'.cell? ⟨w.heap.size, 2, none⟩ = some (.int .i64 kc) ∧ w'.cell? ⟨w.heap.size, 3, none⟩ = some (.string kb) ∧ w'.cell? ⟨w.heap.size, 4, none⟩ = some (.string ke) ∧ w'.cell? ⟨w.heap.size + 1, 0, none⟩ = some (.int .i64 ql) ∧ w'.cell? ⟨w.heap.size + 1, 1, none⟩ = some (.int .i64 qm) ∧ w'.cell? ⟨w.heap.size + 1, 2, none⟩ = some (.int .i64 qc) ∧ w'.cell? ⟨w.heap.size + 1, 3, none⟩ = some (.string qb) ∧ w'.cell? ⟨w.heap.size + 1, 4, none⟩ = some (.string qe)) from fun w' h => ⟨(HRA.out.kept h).cell 0 _ rfl, (HRA.out.kept h).cell 1 _ rfl, (HRA.out.kept h).cell 2 _ rfl, (HRA.out.kept h).cell 3 _ rfl, (HRA.out.kept h).cell 4 _ rfl, (HRB.out.kept h).cell 0 _ rfl, (HRB.out.kept h).cell 1 _ rfl, (HRB.out.kept h).cell 2 _ rfl, (HRB.out.kept h).cell 3 _ rfl, (HRB.out.kept h).cell 4 _ rfl⟩)
          go_wp2_with fail
          refine wp_region_held_drew (S := (fun w' => w'.cell? ⟨w.heap.size, 0, none⟩ = some (.int .i64 kl) ∧ w'.cell? ⟨w.heap.size, 1, none⟩ = some (.int .i64 km) ∧ w'.cell? ⟨w.heap.size, 2, none⟩ = some (.int .i64 kc) ∧ w'.cell? ⟨w.heap.size, 3, none⟩ = some (.string kb) ∧ w'.cell? ⟨w.heap.size, 4, none⟩ = some (.string ke) ∧ w'.cell? ⟨w.heap.size + 1, 0, none⟩ = some (.int .i64 ql) ∧ w'.cell? ⟨w.heap.size + 1, 1, none⟩ = some (.int .i64 qm) ∧ w'.cell? ⟨w.heap.size + 1, 2, none⟩ = some (.int .i64 qc) ∧ w'.cell? ⟨w.heap.size + 1, 3, none⟩ = some (.string qb) ∧ w'.cell? ⟨w.heap.size + 1, 4, none⟩ = some (.string qe))) (by kernel_rfl) ?_ (fun hHeld => ?_)
          · refine HK.out _ ?_; (repeat (first | (with_reducible exact gr_rfl _) | (with_reducible refine gr_dr ?_) | (with_reducible refine gr_then ?_ hx)))
          refine wpAnyH_take (i := 0) (oi := _) (v := ?v195) rfl (by kernel_rfl) (by kernel_rfl) (by kernel_rfl) (fun _ _ _ h => h) (Or.inl ⟨by rfl, ?hy195⟩) (by assumption) ?rest195
          case hy195 => ((intro w hSw; (try dsimp only at hSw); go_simp); try (with_reducible rfl))
          ((try dsimp only [List.getElem_toArray, List.getElem_cons_succ, List.getElem_cons_zero]); try simp only [Act.put, List.setIfInBounds_toArray, List.set_cons_zero, List.set_cons_succ])
          refine wpAnyH_ready (rs := [1]) (by kernel_rfl) (by simp) ?_
          refine AllReadyH.cons (o := _) rfl (fun K hK => ?_) AllReadyH.nil
          go_simp
          go_at_call 43; (with_reducible refine (HNS.out _).mono ?_); rintro ex wx ⟨rfl, hx⟩
          refine hK.out _ _ ?_ (fun hHeld => ?_)
          · (try dsimp only); refine HK.out _ ?_; (repeat (first | (with_reducible exact gr_rfl _) | (with_reducible refine gr_dr ?_) | (with_reducible refine gr_then ?_ hx)))
          clear hK K
          ((try dsimp only [List.getElem_toArray, List.getElem_cons_succ, List.getElem_cons_zero]); try simp only [Act.put, List.setIfInBounds_toArray, List.set_cons_zero, List.set_cons_succ])
          refine wpAnyH_take (i := 2) (oi := _) (v := ?v196) rfl (by kernel_rfl) (by kernel_rfl) (by kernel_rfl) (fun _ _ _ h => h) (Or.inl ⟨by rfl, ?hy196⟩) (by assumption) ?rest196
          case hy196 => ((intro w hSw; (try dsimp only at hSw); go_simp); try (with_reducible rfl))
          ((try dsimp only [List.getElem_toArray, List.getElem_cons_succ, List.getElem_cons_zero]); try simp only [Act.put, List.setIfInBounds_toArray, List.set_cons_zero, List.set_cons_succ])
          refine wpAnyH_take (i := 3) (oi := _) (v := ?v197) rfl (by kernel_rfl) (by kernel_rfl) (by kernel_rfl) (fun _ _ _ h => h) (Or.inl ⟨by rfl, ?hy197⟩) (by assumption) ?rest197
          case hy197 => ((intro w hSw; (try dsimp only at hSw); go_simp); try (with_reducible rfl))
          ((try dsimp only [List.getElem_toArray, List.getElem_cons_succ, List.getElem_cons_zero]); try simp only [Act.put, List.setIfInBounds_toArray, List.set_cons_zero, List.set_cons_succ])
          refine wpAnyH_take (i := 4) (oi := _) (v := ?v198) rfl (by kernel_rfl) (by kernel_rfl) (by kernel_rfl) (fun _ _ _ h => h) (Or.inl ⟨by rfl, ?hy198⟩) (by assumption) ?rest198
          case hy198 => ((intro w hSw; (try dsimp only at hSw); go_simp); try (with_reducible rfl))
          ((try dsimp only [List.getElem_toArray, List.getElem_cons_succ, List.getElem_cons_zero]); try simp only [Act.put, List.setIfInBounds_toArray, List.set_cons_zero, List.set_cons_succ])
          refine wpAnyH_take (i := 5) (oi := _) (v := ?v199) rfl (by kernel_rfl) (by kernel_rfl) (by kernel_rfl) (fun _ _ _ h => h) (Or.inl ⟨by rfl, ?hy199⟩) (by assumption) ?rest199
          case hy199 => ((intro w hSw; (try dsimp only at hSw); go_simp); try (with_reducible rfl))
          ((try dsimp only [List.getElem_toArray, List.getElem_cons_succ, List.getElem_cons_zero]); try simp only [Act.put, List.setIfInBounds_toArray, List.set_cons_zero, List.set_cons_succ])
          refine wpAnyH_take (i := 6) (oi := _) (v := ?v200) rfl (by kernel_rfl) (by kernel_rfl) (by kernel_rfl) (fun _ _ _ h => h) (Or.inl ⟨by rfl, ?hy200⟩) (by assumption) ?rest200
          case hy200 => ((intro w hSw; (try dsimp only at hSw); go_simp); try (with_reducible rfl))
          ((try dsimp only [List.getElem_toArray, List.getElem_cons_succ, List.getElem_cons_zero]); try simp only [Act.put, List.setIfInBounds_toArray, List.set_cons_zero, List.set_cons_succ])
          refine wpAnyH_take (i := 7) (oi := _) (v := ?v201) rfl (by kernel_rfl) (by kernel_rfl) (by kernel_rfl) (fun _ _ _ h => h) (Or.inl ⟨by rfl, ?hy201⟩) (by assumption) ?rest201
          case hy201 => ((intro w hSw; (try dsimp only at hSw); go_simp); try (with_reducible rfl))
          ((try dsimp only [List.getElem_toArray, List.getElem_cons_succ, List.getElem_cons_zero]); try simp only [Act.put, List.setIfInBounds_toArray, List.set_cons_zero, List.set_cons_succ])
          refine wpAnyH_take (i := 8) (oi := _) (v := ?v202) rfl (by kernel_rfl) (by kernel_rfl) (by kernel_rfl) (fun _ _ _ h => h) (Or.inl ⟨by rfl, ?hy202⟩) (by assumption) ?rest202
          case hy202 => ((intro w hSw; (try dsimp only at hSw); go_simp); try (with_reducible rfl))
          ((try dsimp only [List.getElem_toArray, List.getElem_cons_succ, List.getElem_cons_zero]); try simp only [Act.put, List.setIfInBounds_toArray, List.set_cons_zero, List.set_cons_succ])
          refine wpAnyH_take (i := 9) (oi := _) (v := ?v203) rfl (by kernel_rfl) (by kernel_rfl) (by kernel_rfl) (fun _ _ _ h => h) (Or.inl ⟨by rfl, ?hy203⟩) (by assumption) ?rest203
          case hy203 => ((intro w hSw; (try dsimp only at hSw); go_simp); try (with_reducible rfl))
          ((try dsimp only [List.getElem_toArray, List.getElem_cons_succ, List.getElem_cons_zero]); try simp only [Act.put, List.setIfInBounds_toArray, List.set_cons_zero, List.set_cons_succ])
          refine wpAnyH_take (i := 10) (oi := _) (v := ?v204) rfl (by kernel_rfl) (by kernel_rfl) (by kernel_rfl) (fun _ _ _ h => h) (Or.inl ⟨by rfl, ?hy204⟩) (by assumption) ?rest204
          case hy204 => ((intro w hSw; (try dsimp only at hSw); go_simp); try (with_reducible rfl))
          ((try dsimp only [List.getElem_toArray, List.getElem_cons_succ, List.getElem_cons_zero]); try simp only [Act.put, List.setIfInBounds_toArray, List.set_cons_zero, List.set_cons_succ])
          refine wpAnyH_take (i := 11) (oi := _) (v := ?v205) rfl (by kernel_rfl) (by kernel_rfl) (by kernel_rfl) (fun _ _ _ h => h) (Or.inl ⟨by rfl, ?hy205⟩) (by assumption) ?rest205
          case hy205 => ((intro w hSw; (try dsimp only at hSw); go_simp); try (with_reducible rfl))
          ((try dsimp only [List.getElem_toArray, List.getElem_cons_succ, List.getElem_cons_zero]); try simp only [Act.put, List.setIfInBounds_toArray, List.set_cons_zero, List.set_cons_succ])
          refine wpAnyH_take (i := 12) (oi := _) (v := ?v206) rfl (by kernel_rfl) (by kernel_rfl) (by kernel_rfl) (fun _ _ _ h => h) (Or.inl ⟨by rfl, ?hy206⟩) (by assumption) ?rest206
          case hy206 => ((intro w hSw; (try dsimp only at hSw); go_simp); try (with_reducible rfl))
          ((try dsimp only [List.getElem_toArray, List.getElem_cons_succ, List.getElem_cons_zero]); try simp only [Act.put, List.setIfInBounds_toArray, List.set_cons_zero, List.set_cons_succ])
          refine wpAnyH_take (i := 13) (oi := _) (v := ?v207) rfl (by kernel_rfl) (by kernel_rfl) (by kernel_rfl) (fun _ _ _ h => h) (Or.inl ⟨by rfl, ?hy207⟩) (by assumption) ?rest207
          case hy207 => ((intro w hSw; (try dsimp only at hSw); go_simp); try (with_reducible rfl))
          ((try dsimp only [List.getElem_toArray, List.getElem_cons_succ, List.getElem_cons_zero]); try simp only [Act.put, List.setIfInBounds_toArray, List.set_cons_zero, List.set_cons_succ])
          refine wpAnyH_take (i := 14) (oi := _) (v := ?v208) rfl (by kernel_rfl) (by kernel_rfl) (by kernel_rfl) (fun _ _ _ h => h) (Or.inl ⟨by rfl, ?hy208⟩) (by assumption) ?rest208
          case hy208 => ((intro w hSw; (try dsimp only at hSw); go_simp); try (with_reducible rfl))
          ((try dsimp only [List.getElem_toArray, List.getElem_cons_succ, List.getElem_cons_zero]); try simp only [Act.put, List.setIfInBounds_toArray, List.set_cons_zero, List.set_cons_succ])
          refine wpAnyH_take (i := 15) (oi := _) (v := ?v209) rfl (by kernel_rfl) (by kernel_rfl) (by kernel_rfl) (fun _ _ _ h => h) (Or.inl ⟨by rfl, ?hy209⟩) (by assumption) ?rest209
          case hy209 => ((intro w hSw; (try dsimp only at hSw); go_simp); try (with_reducible rfl))
          ((try dsimp only [List.getElem_toArray, List.getElem_cons_succ, List.getElem_cons_zero]); try simp only [Act.put, List.setIfInBounds_toArray, List.set_cons_zero, List.set_cons_succ])
          refine wpAnyH_take (i := 16) (oi := _) (v := ?v210) rfl (by kernel_rfl) (by kernel_rfl) (by kernel_rfl) (fun _ _ _ h => h) (Or.inl ⟨by rfl, ?hy210⟩) (by assumption) ?rest210
          case hy210 => ((intro w hSw; (try dsimp only at hSw); go_simp); try (with_reducible rfl))
          ((try dsimp only [List.getElem_toArray, List.getElem_cons_succ, List.getElem_cons_zero]); try simp only [Act.put, List.setIfInBounds_toArray, List.set_cons_zero, List.set_cons_succ])
          refine wpAnyH_take (i := 17) (oi := _) (v := ?v211) rfl (by kernel_rfl) (by kernel_rfl) (by kernel_rfl) (fun _ _ _ h => h) (Or.inl ⟨by rfl, ?hy211⟩) (by assumption) ?rest211
          case hy211 => ((intro w hSw; (try dsimp only at hSw); go_simp); try (with_reducible rfl))
          ((try dsimp only [List.getElem_toArray, List.getElem_cons_succ, List.getElem_cons_zero]); try simp only [Act.put, List.setIfInBounds_toArray, List.set_cons_zero, List.set_cons_succ])
          refine wpAnyH_take (i := 18) (oi := _) (v := ?v212) rfl (by kernel_rfl) (by kernel_rfl) (by kernel_rfl) (fun _ _ _ h => h) (Or.inl ⟨by rfl, ?hy212⟩) (by assumption) ?rest212
          case hy212 => ((intro w hSw; (try dsimp only at hSw); go_simp); try (with_reducible rfl))
          ((try dsimp only [List.getElem_toArray, List.getElem_cons_succ, List.getElem_cons_zero]); try simp only [Act.put, List.setIfInBounds_toArray, List.set_cons_zero, List.set_cons_succ])
          refine wpAnyH_take (i := 19) (oi := _) (v := ?v213) rfl (by kernel_rfl) (by kernel_rfl) (by kernel_rfl) (fun _ _ _ h => h) (Or.inl ⟨by rfl, ?hy213⟩) (by assumption) ?rest213
          case hy213 => ((intro w hSw; (try dsimp only at hSw); go_simp); try (with_reducible rfl))
          ((try dsimp only [List.getElem_toArray, List.getElem_cons_succ, List.getElem_cons_zero]); try simp only [Act.put, List.setIfInBounds_toArray, List.set_cons_zero, List.set_cons_succ])
          refine wpAnyH_take (i := 20) (oi := _) (v := ?v214) rfl (by kernel_rfl) (by kernel_rfl) (by kernel_rfl) (fun _ _ _ h => h) (Or.inl ⟨by rfl, ?hy214⟩) (by assumption) ?rest214
          case hy214 => ((intro w hSw; (try dsimp only at hSw); go_simp); try (with_reducible rfl))
          ((try dsimp only [List.getElem_toArray, List.getElem_cons_succ, List.getElem_cons_zero]); try simp only [Act.put, List.setIfInBounds_toArray, List.set_cons_zero, List.set_cons_succ])
          refine wpAnyH_take (i := 21) (oi := _) (v := ?v215) rfl (by kernel_rfl) (by kernel_rfl) (by kernel_rfl) (fun _ _ _ h => h) (Or.inl ⟨by rfl, ?hy215⟩) (by assumption) ?rest215
          case hy215 => ((intro w hSw; (try dsimp only at hSw); go_simp); try (with_reducible rfl))
          ((try dsimp only [List.getElem_toArray, List.getElem_cons_succ, List.getElem_cons_zero]); try simp only [Act.put, List.setIfInBounds_toArray, List.set_cons_zero, List.set_cons_succ])
          refine wpAnyH_take (i := 22) (oi := _) (v := ?v216) rfl (by kernel_rfl) (by kernel_rfl) (by kernel_rfl) (fun _ _ _ h => h) (Or.inl ⟨by rfl, ?hy216⟩) (by assumption) ?rest216
          case hy216 => ((intro w hSw; (try dsimp only at hSw); go_simp); try (with_reducible rfl))
          ((try dsimp only [List.getElem_toArray, List.getElem_cons_succ, List.getElem_cons_zero]); try simp only [Act.put, List.setIfInBounds_toArray, List.set_cons_zero, List.set_cons_succ])
          refine wpAnyH_take (i := 23) (oi := _) (v := ?v217) rfl (by kernel_rfl) (by kernel_rfl) (by kernel_rfl) (fun _ _ _ h => h) (Or.inl ⟨by rfl, ?hy217⟩) (by assumption) ?rest217
          case hy217 => ((intro w hSw; (try dsimp only at hSw); go_simp); try (with_reducible rfl))
          ((try dsimp only [List.getElem_toArray, List.getElem_cons_succ, List.getElem_cons_zero]); try simp only [Act.put, List.setIfInBounds_toArray, List.set_cons_zero, List.set_cons_succ])
          refine wpAnyH_take (i := 24) (oi := _) (v := ?v218) rfl (by kernel_rfl) (by kernel_rfl) (by kernel_rfl) (fun _ _ _ h => h) (Or.inl ⟨by rfl, ?hy218⟩) (by assumption) ?rest218
          case hy218 => ((intro w hSw; (try dsimp only at hSw); go_simp); try (with_reducible rfl))
          ((try dsimp only [List.getElem_toArray, List.getElem_cons_succ, List.getElem_cons_zero]); try simp only [Act.put, List.setIfInBounds_toArray, List.set_cons_zero, List.set_cons_succ])
          refine wpAnyH_take (i := 25) (oi := _) (v := ?v219) rfl (by kernel_rfl) (by kernel_rfl) (by kernel_rfl) (fun _ _ _ h => h) (Or.inl ⟨by rfl, ?hy219⟩) (by assumption) ?rest219
          case hy219 => ((intro w hSw; (try dsimp only at hSw); go_simp); try (with_reducible rfl))
          ((try dsimp only [List.getElem_toArray, List.getElem_cons_succ, List.getElem_cons_zero]); try simp only [Act.put, List.setIfInBounds_toArray, List.set_cons_zero, List.set_cons_succ])
          refine wpAnyH_take (i := 26) (oi := _) (v := ?v220) rfl (by kernel_rfl) (by kernel_rfl) (by kernel_rfl) (fun _ _ _ h => h) (Or.inl ⟨by rfl, ?hy220⟩) (by assumption) ?rest220
          case hy220 => ((intro w hSw; (try dsimp only at hSw); go_simp); try (with_reducible rfl))
          ((try dsimp only [List.getElem_toArray, List.getElem_cons_succ, List.getElem_cons_zero]); try simp only [Act.put, List.setIfInBounds_toArray, List.set_cons_zero, List.set_cons_succ])
          refine wpAnyH_take (i := 27) (oi := _) (v := ?v221) rfl (by kernel_rfl) (by kernel_rfl) (by kernel_rfl) (fun _ _ _ h => h) (Or.inl ⟨by rfl, ?hy221⟩) (by assumption) ?rest221
          case hy221 => ((intro w hSw; (try dsimp only at hSw); go_simp); try (with_reducible rfl))
          ((try dsimp only [List.getElem_toArray, List.getElem_cons_succ, List.getElem_cons_zero]); try simp only [Act.put, List.setIfInBounds_toArray, List.set_cons_zero, List.set_cons_succ])
          refine wpAnyH_take (i := 28) (oi := _) (v := ?v222) rfl (by kernel_rfl) (by kernel_rfl) (by kernel_rfl) (fun _ _ _ h => h) (Or.inl ⟨by rfl, ?hy222⟩) (by assumption) ?rest222
          case hy222 => ((intro w hSw; (try dsimp only at hSw); go_simp); try (with_reducible rfl))
          ((try dsimp only [List.getElem_toArray, List.getElem_cons_succ, List.getElem_cons_zero]); try simp only [Act.put, List.setIfInBounds_toArray, List.set_cons_zero, List.set_cons_succ])
          refine wpAnyH_ready (rs := [29]) (by kernel_rfl) (by simp) ?_
          refine AllReadyH.cons (o := _) rfl (fun K hK => ?_) AllReadyH.nil
          go_simp
          go_at_call 46; (with_reducible refine (HP.out _).mono ?_); rintro ep wp ⟨rfl, rfl⟩
          refine hK.out _ _ ?_ (fun hHeld => ?_)
          · (try dsimp only); refine HK.out _ ?_; (repeat (first | (with_reducible exact gr_rfl _) | (with_reducible refine gr_dr ?_) | (with_reducible refine gr_then ?_ hx)))
          clear hK K
          ((try dsimp only [List.getElem_toArray, List.getElem_cons_succ, List.getElem_cons_zero]); try simp only [Act.put, List.setIfInBounds_toArray, List.set_cons_zero, List.set_cons_succ])
          refine wpAnyH_take (i := 30) (oi := _) (v := ?v223) rfl (by kernel_rfl) (by kernel_rfl) (by kernel_rfl) (fun _ _ _ h => h) (Or.inl ⟨by rfl, ?hy223⟩) (by assumption) ?rest223
          case hy223 => ((intro w hSw; (try dsimp only at hSw); go_simp); try (with_reducible rfl))
          ((try dsimp only [List.getElem_toArray, List.getElem_cons_succ, List.getElem_cons_zero]); try simp only [Act.put, List.setIfInBounds_toArray, List.set_cons_zero, List.set_cons_succ])
          refine wpAnyH_take (i := 31) (oi := _) (v := ?v224) rfl (by kernel_rfl) (by kernel_rfl) (by kernel_rfl) (fun _ _ _ h => h) (Or.inl ⟨by rfl, ?hy224⟩) (by assumption) ?rest224
          case hy224 => ((intro w hSw; (try dsimp only at hSw); go_simp); try (with_reducible rfl))
          ((try dsimp only [List.getElem_toArray, List.getElem_cons_succ, List.getElem_cons_zero]); try simp only [Act.put, List.setIfInBounds_toArray, List.set_cons_zero, List.set_cons_succ])
          refine wpAnyH_take (i := 32) (oi := _) (v := ?v225) rfl (by kernel_rfl) (by kernel_rfl) (by kernel_rfl) (fun _ _ _ h => h) (Or.inl ⟨by rfl, ?hy225⟩) (by assumption) ?rest225
          case hy225 => ((intro w hSw; (try dsimp only at hSw); go_simp); try (with_reducible rfl))
          ((try dsimp only [List.getElem_toArray, List.getElem_cons_succ, List.getElem_cons_zero]); try simp only [Act.put, List.setIfInBounds_toArray, List.set_cons_zero, List.set_cons_succ])
          refine wpAnyH_take (i := 33) (oi := _) (v := ?v226) rfl (by kernel_rfl) (by kernel_rfl) (by kernel_rfl) (fun _ _ _ h => h) (Or.inl ⟨by rfl, ?hy226⟩) (by assumption) ?rest226
          case hy226 => ((intro w hSw; (try dsimp only at hSw); go_simp); try (with_reducible rfl))
          ((try dsimp only [List.getElem_toArray, List.getElem_cons_succ, List.getElem_cons_zero]); try simp only [Act.put, List.setIfInBounds_toArray, List.set_cons_zero, List.set_cons_succ])
          refine wpAnyH_take (i := 34) (oi := _) (v := ?v227) rfl (by kernel_rfl) (by kernel_rfl) (by kernel_rfl) (fun _ _ _ h => h) (Or.inl ⟨by rfl, ?hy227⟩) (by assumption) ?rest227
          case hy227 => ((intro w hSw; (try dsimp only at hSw); go_simp); try (with_reducible rfl))
          ((try dsimp only [List.getElem_toArray, List.getElem_cons_succ, List.getElem_cons_zero]); try simp only [Act.put, List.setIfInBounds_toArray, List.set_cons_zero, List.set_cons_succ])
          refine wpAnyH_take (i := 35) (oi := _) (v := ?v228) rfl (by kernel_rfl) (by kernel_rfl) (by kernel_rfl) (fun _ _ _ h => h) (Or.inl ⟨by rfl, ?hy228⟩) (by assumption) ?rest228
          case hy228 => ((intro w hSw; (try dsimp only at hSw); go_simp); try (with_reducible rfl))
          ((try dsimp only [List.getElem_toArray, List.getElem_cons_succ, List.getElem_cons_zero]); try simp only [Act.put, List.setIfInBounds_toArray, List.set_cons_zero, List.set_cons_succ])
          refine wpAnyH_ready (rs := [36]) (by kernel_rfl) (by simp) ?_
          refine AllReadyH.cons (o := _) rfl (fun K hK => ?_) AllReadyH.nil
          go_simp
          go_at_call 47; (with_reducible refine (HU.out _).mono ?_); rintro eu wu ⟨rfl, rfl⟩
          refine hK.out _ _ ?_ (fun hHeld => ?_)
          · (try dsimp only); refine HK.out _ ?_; (repeat (first | (with_reducible exact gr_rfl _) | (with_reducible refine gr_dr ?_) | (with_reducible refine gr_then ?_ hx)))
          clear hK K
          ((try dsimp only [List.getElem_toArray, List.getElem_cons_succ, List.getElem_cons_zero]); try simp only [Act.put, List.setIfInBounds_toArray, List.set_cons_zero, List.set_cons_succ])
          refine wpAnyH_take (i := 37) (oi := _) (v := ?v229) rfl (by kernel_rfl) (by kernel_rfl) (by kernel_rfl) (fun _ _ _ h => h) (Or.inl ⟨by rfl, ?hy229⟩) (by assumption) ?rest229
          case hy229 => ((intro w hSw; (try dsimp only at hSw); go_simp); try (with_reducible rfl))
          ((try dsimp only [List.getElem_toArray, List.getElem_cons_succ, List.getElem_cons_zero]); try simp only [Act.put, List.setIfInBounds_toArray, List.set_cons_zero, List.set_cons_succ])
          refine wpAnyH_take (i := 38) (oi := _) (v := ?v230) rfl (by kernel_rfl) (by kernel_rfl) (by kernel_rfl) (fun _ _ _ h => h) (Or.inl ⟨by rfl, ?hy230⟩) (by assumption) ?rest230
          case hy230 => ((intro w hSw; (try dsimp only at hSw); go_simp); try (with_reducible rfl))
          ((try dsimp only [List.getElem_toArray, List.getElem_cons_succ, List.getElem_cons_zero]); try simp only [Act.put, List.setIfInBounds_toArray, List.set_cons_zero, List.set_cons_succ])
          refine wpAnyH_take (i := 39) (oi := _) (v := ?v231) rfl (by kernel_rfl) (by kernel_rfl) (by kernel_rfl) (fun _ _ _ h => h) (Or.inl ⟨by rfl, ?hy231⟩) (by assumption) ?rest231
          case hy231 => ((intro w hSw; (try dsimp only at hSw); go_simp); try (with_reducible rfl))
          ((try dsimp only [List.getElem_toArray, List.getElem_cons_succ, List.getElem_cons_zero]); try simp only [Act.put, List.setIfInBounds_toArray, List.set_cons_zero, List.set_cons_succ])
          refine wpAnyH_done (by kernel_rfl) ?_ _
          go_wp2
          go_ret
          exact BoolIs.no rfl (fun h => by rcases HW.out.1 h with h | h; exact absurd h HKN.out; have h1 := HUE.out.2 h.2.2.2.2; simp at h1) (gr_then HGW.out (gr_then (gr_dr (gr_rfl w7)) hx))
        have H5 := Lib.hid (HUE.out.1 (by first | rfl | trivial))
        have HK := Lib.hid (show ∀ w', w7.grownBy w' none → (w'.cell? ⟨w.heap.size, 0, none⟩ = some (.int .i64 kl) ∧ w'.cell? ⟨w.heap.size, 1, none⟩ = some (.int .i64 km) ∧ w'.cell? ⟨w.heap.size, 2, none⟩ = some (.int .i64 kc) ∧ w'.cell? ⟨w.heap.size, 3, none⟩ = some (.string kb) ∧ w'.cell? ⟨w.heap.size, 4, none⟩ = some (.string ke) ∧ w'.cell? ⟨w.heap.size + 1, 0, none⟩ = some (.int .i64 ql) ∧ w'.cell? ⟨w.heap.size + 1, 1, none⟩ = some (.int .i64 qm) ∧ w'.cell? ⟨w.heap.size + 1, 2, none⟩ = some (.int .i64 qc) ∧ w'.cell? ⟨w.heap.size + 1, 3, none⟩ = some (.string qb) ∧ w'.cell? ⟨w.heap.size + 1, 4, none⟩ = some (.string qe)) from fun w' h => ⟨(HRA.out.kept h).cell 0 _ rfl, (HRA.out.kept h).cell 1 _ rfl, (HRA.out.kept h).cell 2 _ rfl, (HRA.out.kept h).cell 3 _ rfl, (HRA.out.kept h).cell 4 _ rfl, (HRB.out.kept h).cell 0 _ rfl, (HRB.out.kept h).cell 1 _ rfl, (HRB.out.kept h).cell 2 _ rfl, (HRB.out.kept h).cell 3 _ rfl, (HRB.out.kept h).cell 4 _ rfl⟩)
        go_wp2_with fail
        refine wp_region_held_drew (S := (fun w' => w'.cell? ⟨w.heap.size, 0, none⟩ = some (.int .i64 kl) ∧ w'.cell? ⟨w.heap.size, 1, none⟩ = some (.int .i64 km) ∧ w'.cell? ⟨w.heap.size, 2, none⟩ = some (.int .i64 kc) ∧ w'.cell? ⟨w.heap.size, 3, none⟩ = some (.string kb) ∧ w'.cell? ⟨w.heap.size, 4, none⟩ = some (.string ke) ∧ w'.cell? ⟨w.heap.size + 1, 0, none⟩ = some (.int .i64 ql) ∧ w'.cell? ⟨w.heap.size + 1, 1, none⟩ = some (.int .i64 qm) ∧ w'.cell? ⟨w.heap.size + 1, 2, none⟩ = some (.int .i64 qc) ∧ w'.cell? ⟨w.heap.size + 1, 3, none⟩ = some (.string qb) ∧ w'.cell? ⟨w.heap.size + 1, 4, none⟩ = some (.string qe))) (by kernel_rfl) ?_ (fun hHeld => ?_)
        · refine HK.out _ ?_; (repeat (first | (with_reducible exact gr_rfl _) | (with_reducible refine gr_dr ?_) | (with_reducible refine gr_then ?_ hx)))
        refine wpAnyH_take (i := 0) (oi := _) (v := ?v232) rfl (by kernel_rfl) (by kernel_rfl) (by kernel_rfl) (fun _ _ _ h => h) (Or.inl ⟨by rfl, ?hy232⟩) (by assumption) ?rest232
        case hy232 => ((intro w hSw; (try dsimp only at hSw); go_simp); try (with_reducible rfl))
        ((try dsimp only [List.getElem_toArray, List.getElem_cons_succ, List.getElem_cons_zero]); try simp only [Act.put, List.setIfInBounds_toArray, List.set_cons_zero, List.set_cons_succ])
        refine wpAnyH_ready (rs := [1]) (by kernel_rfl) (by simp) ?_
        refine AllReadyH.cons (o := _) rfl (fun K hK => ?_) AllReadyH.nil
        go_simp
        go_at_call 43; (with_reducible refine (HNS.out _).mono ?_); rintro ex wx ⟨rfl, hx⟩
        refine hK.out _ _ ?_ (fun hHeld => ?_)
        · (try dsimp only); refine HK.out _ ?_; (repeat (first | (with_reducible exact gr_rfl _) | (with_reducible refine gr_dr ?_) | (with_reducible refine gr_then ?_ hx)))
        clear hK K
        ((try dsimp only [List.getElem_toArray, List.getElem_cons_succ, List.getElem_cons_zero]); try simp only [Act.put, List.setIfInBounds_toArray, List.set_cons_zero, List.set_cons_succ])
        refine wpAnyH_take (i := 2) (oi := _) (v := ?v233) rfl (by kernel_rfl) (by kernel_rfl) (by kernel_rfl) (fun _ _ _ h => h) (Or.inl ⟨by rfl, ?hy233⟩) (by assumption) ?rest233
        case hy233 => ((intro w hSw; (try dsimp only at hSw); go_simp); try (with_reducible rfl))
        ((try dsimp only [List.getElem_toArray, List.getElem_cons_succ, List.getElem_cons_zero]); try simp only [Act.put, List.setIfInBounds_toArray, List.set_cons_zero, List.set_cons_succ])
        refine wpAnyH_take (i := 3) (oi := _) (v := ?v234) rfl (by kernel_rfl) (by kernel_rfl) (by kernel_rfl) (fun _ _ _ h => h) (Or.inl ⟨by rfl, ?hy234⟩) (by assumption) ?rest234
        case hy234 => ((intro w hSw; (try dsimp only at hSw); go_simp); try (with_reducible rfl))
        ((try dsimp only [List.getElem_toArray, List.getElem_cons_succ, List.getElem_cons_zero]); try simp only [Act.put, List.setIfInBounds_toArray, List.set_cons_zero, List.set_cons_succ])
        refine wpAnyH_take (i := 4) (oi := _) (v := ?v235) rfl (by kernel_rfl) (by kernel_rfl) (by kernel_rfl) (fun _ _ _ h => h) (Or.inl ⟨by rfl, ?hy235⟩) (by assumption) ?rest235
        case hy235 => ((intro w hSw; (try dsimp only at hSw); go_simp); try (with_reducible rfl))
        ((try dsimp only [List.getElem_toArray, List.getElem_cons_succ, List.getElem_cons_zero]); try simp only [Act.put, List.setIfInBounds_toArray, List.set_cons_zero, List.set_cons_succ])
        refine wpAnyH_take (i := 5) (oi := _) (v := ?v236) rfl (by kernel_rfl) (by kernel_rfl) (by kernel_rfl) (fun _ _ _ h => h) (Or.inl ⟨by rfl, ?hy236⟩) (by assumption) ?rest236
        case hy236 => ((intro w hSw; (try dsimp only at hSw); go_simp); try (with_reducible rfl))
        ((try dsimp only [List.getElem_toArray, List.getElem_cons_succ, List.getElem_cons_zero]); try simp only [Act.put, List.setIfInBounds_toArray, List.set_cons_zero, List.set_cons_succ])
        refine wpAnyH_take (i := 6) (oi := _) (v := ?v237) rfl (by kernel_rfl) (by kernel_rfl) (by kernel_rfl) (fun _ _ _ h => h) (Or.inl ⟨by rfl, ?hy237⟩) (by assumption) ?rest237
        case hy237 => ((intro w hSw; (try dsimp only at hSw); go_simp); try (with_reducible rfl))
        ((try dsimp only [List.getElem_toArray, List.getElem_cons_succ, List.getElem_cons_zero]); try simp only [Act.put, List.setIfInBounds_toArray, List.set_cons_zero, List.set_cons_succ])
        refine wpAnyH_take (i := 7) (oi := _) (v := ?v238) rfl (by kernel_rfl) (by kernel_rfl) (by kernel_rfl) (fun _ _ _ h => h) (Or.inl ⟨by rfl, ?hy238⟩) (by assumption) ?rest238
        case hy238 => ((intro w hSw; (try dsimp only at hSw); go_simp); try (with_reducible rfl))
        ((try dsimp only [List.getElem_toArray, List.getElem_cons_succ, List.getElem_cons_zero]); try simp only [Act.put, List.setIfInBounds_toArray, List.set_cons_zero, List.set_cons_succ])
        refine wpAnyH_take (i := 8) (oi := _) (v := ?v239) rfl (by kernel_rfl) (by kernel_rfl) (by kernel_rfl) (fun _ _ _ h => h) (Or.inl ⟨by rfl, ?hy239⟩) (by assumption) ?rest239
        case hy239 => ((intro w hSw; (try dsimp only at hSw); go_simp); try (with_reducible rfl))
        ((try dsimp only [List.getElem_toArray, List.getElem_cons_succ, List.getElem_cons_zero]); try simp only [Act.put, List.setIfInBounds_toArray, List.set_cons_zero, List.set_cons_succ])
        refine wpAnyH_take (i := 9) (oi := _) (v := ?v240) rfl (by kernel_rfl) (by kernel_rfl) (by kernel_rfl) (fun _ _ _ h => h) (Or.inl ⟨by rfl, ?hy240⟩) (by assumption) ?rest240
        case hy240 => ((intro w hSw; (try dsimp only at hSw); go_simp); try (with_reducible rfl))
        ((try dsimp only [List.getElem_toArray, List.getElem_cons_succ, List.getElem_cons_zero]); try simp only [Act.put, List.setIfInBounds_toArray, List.set_cons_zero, List.set_cons_succ])
        refine wpAnyH_take (i := 10) (oi := _) (v := ?v241) rfl (by kernel_rfl) (by kernel_rfl) (by kernel_rfl) (fun _ _ _ h => h) (Or.inl ⟨by rfl, ?hy241⟩) (by assumption) ?rest241
        case hy241 => ((intro w hSw; (try dsimp only at hSw); go_simp); try (with_reducible rfl))
        ((try dsimp only [List.getElem_toArray, List.getElem_cons_succ, List.getElem_cons_zero]); try simp only [Act.put, List.setIfInBounds_toArray, List.set_cons_zero, List.set_cons_succ])
        refine wpAnyH_take (i := 11) (oi := _) (v := ?v242) rfl (by kernel_rfl) (by kernel_rfl) (by kernel_rfl) (fun _ _ _ h => h) (Or.inl ⟨by rfl, ?hy242⟩) (by assumption) ?rest242
        case hy242 => ((intro w hSw; (try dsimp only at hSw); go_simp); try (with_reducible rfl))
        ((try dsimp only [List.getElem_toArray, List.getElem_cons_succ, List.getElem_cons_zero]); try simp only [Act.put, List.setIfInBounds_toArray, List.set_cons_zero, List.set_cons_succ])
        refine wpAnyH_take (i := 12) (oi := _) (v := ?v243) rfl (by kernel_rfl) (by kernel_rfl) (by kernel_rfl) (fun _ _ _ h => h) (Or.inl ⟨by rfl, ?hy243⟩) (by assumption) ?rest243
        case hy243 => ((intro w hSw; (try dsimp only at hSw); go_simp); try (with_reducible rfl))
        ((try dsimp only [List.getElem_toArray, List.getElem_cons_succ, List.getElem_cons_zero]); try simp only [Act.put, List.setIfInBounds_toArray, List.set_cons_zero, List.set_cons_succ])
        refine wpAnyH_take (i := 13) (oi := _) (v := ?v244) rfl (by kernel_rfl) (by kernel_rfl) (by kernel_rfl) (fun _ _ _ h => h) (Or.inl ⟨by rfl, ?hy244⟩) (by assumption) ?rest244
        case hy244 => ((intro w hSw; (try dsimp only at hSw); go_simp); try (with_reducible rfl))
        ((try dsimp only [List.getElem_toArray, List.getElem_cons_succ, List.getElem_cons_zero]); try simp only [Act.put, List.setIfInBounds_toArray, List.set_cons_zero, List.set_cons_succ])
        refine wpAnyH_take (i := 14) (oi := _) (v := ?v245) rfl (by kernel_rfl) (by kernel_rfl) (by kernel_rfl) (fun _ _ _ h => h) (Or.inl ⟨by rfl, ?hy245⟩) (by assumption) ?rest245
        case hy245 => ((intro w hSw; (try dsimp only at hSw); go_simp); try (with_reducible rfl))
        ((try dsimp only [List.getElem_toArray, List.getElem_cons_succ, List.getElem_cons_zero]); try simp only [Act.put, List.setIfInBounds_toArray, List.set_cons_zero, List.set_cons_succ])
        refine wpAnyH_take (i := 15) (oi := _) (v := ?v246) rfl (by kernel_rfl) (by kernel_rfl) (by kernel_rfl) (fun _ _ _ h => h) (Or.inl ⟨by rfl, ?hy246⟩) (by assumption) ?rest246
        case hy246 => ((intro w hSw; (try dsimp only at hSw); go_simp); try (with_reducible rfl))
        ((try dsimp only [List.getElem_toArray, List.getElem_cons_succ, List.getElem_cons_zero]); try simp only [Act.put, List.setIfInBounds_toArray, List.set_cons_zero, List.set_cons_succ])
        refine wpAnyH_take (i := 16) (oi := _) (v := ?v247) rfl (by kernel_rfl) (by kernel_rfl) (by kernel_rfl) (fun _ _ _ h => h) (Or.inl ⟨by rfl, ?hy247⟩) (by assumption) ?rest247
        case hy247 => ((intro w hSw; (try dsimp only at hSw); go_simp); try (with_reducible rfl))
        ((try dsimp only [List.getElem_toArray, List.getElem_cons_succ, List.getElem_cons_zero]); try simp only [Act.put, List.setIfInBounds_toArray, List.set_cons_zero, List.set_cons_succ])
        refine wpAnyH_take (i := 17) (oi := _) (v := ?v248) rfl (by kernel_rfl) (by kernel_rfl) (by kernel_rfl) (fun _ _ _ h => h) (Or.inl ⟨by rfl, ?hy248⟩) (by assumption) ?rest248
        case hy248 => ((intro w hSw; (try dsimp only at hSw); go_simp); try (with_reducible rfl))
        ((try dsimp only [List.getElem_toArray, List.getElem_cons_succ, List.getElem_cons_zero]); try simp only [Act.put, List.setIfInBounds_toArray, List.set_cons_zero, List.set_cons_succ])
        refine wpAnyH_take (i := 18) (oi := _) (v := ?v249) rfl (by kernel_rfl) (by kernel_rfl) (by kernel_rfl) (fun _ _ _ h => h) (Or.inl ⟨by rfl, ?hy249⟩) (by assumption) ?rest249
        case hy249 => ((intro w hSw; (try dsimp only at hSw); go_simp); try (with_reducible rfl))
        ((try dsimp only [List.getElem_toArray, List.getElem_cons_succ, List.getElem_cons_zero]); try simp only [Act.put, List.setIfInBounds_toArray, List.set_cons_zero, List.set_cons_succ])
        refine wpAnyH_take (i := 19) (oi := _) (v := ?v250) rfl (by kernel_rfl) (by kernel_rfl) (by kernel_rfl) (fun _ _ _ h => h) (Or.inl ⟨by rfl, ?hy250⟩) (by assumption) ?rest250
        case hy250 => ((intro w hSw; (try dsimp only at hSw); go_simp); try (with_reducible rfl))
        ((try dsimp only [List.getElem_toArray, List.getElem_cons_succ, List.getElem_cons_zero]); try simp only [Act.put, List.setIfInBounds_toArray, List.set_cons_zero, List.set_cons_succ])
        refine wpAnyH_take (i := 20) (oi := _) (v := ?v251) rfl (by kernel_rfl) (by kernel_rfl) (by kernel_rfl) (fun _ _ _ h => h) (Or.inl ⟨by rfl, ?hy251⟩) (by assumption) ?rest251
        case hy251 => ((intro w hSw; (try dsimp only at hSw); go_simp); try (with_reducible rfl))
        ((try dsimp only [List.getElem_toArray, List.getElem_cons_succ, List.getElem_cons_zero]); try simp only [Act.put, List.setIfInBounds_toArray, List.set_cons_zero, List.set_cons_succ])
        refine wpAnyH_take (i := 21) (oi := _) (v := ?v252) rfl (by kernel_rfl) (by kernel_rfl) (by kernel_rfl) (fun _ _ _ h => h) (Or.inl ⟨by rfl, ?hy252⟩) (by assumption) ?rest252
        case hy252 => ((intro w hSw; (try dsimp only at hSw); go_simp); try (with_reducible rfl))
        ((try dsimp only [List.getElem_toArray, List.getElem_cons_succ, List.getElem_cons_zero]); try simp only [Act.put, List.setIfInBounds_toArray, List.set_cons_zero, List.set_cons_succ])
        refine wpAnyH_take (i := 22) (oi := _) (v := ?v253) rfl (by kernel_rfl) (by kernel_rfl) (by kernel_rfl) (fun _ _ _ h => h) (Or.inl ⟨by rfl, ?hy253⟩) (by assumption) ?rest253
        case hy253 => ((intro w hSw; (try dsimp only at hSw); go_simp); try (with_reducible rfl))
        ((try dsimp only [List.getElem_toArray, List.getElem_cons_succ, List.getElem_cons_zero]); try simp only [Act.put, List.setIfInBounds_toArray, List.set_cons_zero, List.set_cons_succ])
        refine wpAnyH_take (i := 23) (oi := _) (v := ?v254) rfl (by kernel_rfl) (by kernel_rfl) (by kernel_rfl) (fun _ _ _ h => h) (Or.inl ⟨by rfl, ?hy254⟩) (by assumption) ?rest254
        case hy254 => ((intro w hSw; (try dsimp only at hSw); go_simp); try (with_reducible rfl))
        ((try dsimp only [List.getElem_toArray, List.getElem_cons_succ, List.getElem_cons_zero]); try simp only [Act.put, List.setIfInBounds_toArray, List.set_cons_zero, List.set_cons_succ])
        refine wpAnyH_take (i := 24) (oi := _) (v := ?v255) rfl (by kernel_rfl) (by kernel_rfl) (by kernel_rfl) (fun _ _ _ h => h) (Or.inl ⟨by rfl, ?hy255⟩) (by assumption) ?rest255
        case hy255 => ((intro w hSw; (try dsimp only at hSw); go_simp); try (with_reducible rfl))
        ((try dsimp only [List.getElem_toArray, List.getElem_cons_succ, List.getElem_cons_zero]); try simp only [Act.put, List.setIfInBounds_toArray, List.set_cons_zero, List.set_cons_succ])
        refine wpAnyH_take (i := 25) (oi := _) (v := ?v256) rfl (by kernel_rfl) (by kernel_rfl) (by kernel_rfl) (fun _ _ _ h => h) (Or.inl ⟨by rfl, ?hy256⟩) (by assumption) ?rest256
        case hy256 => ((intro w hSw; (try dsimp only at hSw); go_simp); try (with_reducible rfl))
        ((try dsimp only [List.getElem_toArray, List.getElem_cons_succ, List.getElem_cons_zero]); try simp only [Act.put, List.setIfInBounds_toArray, List.set_cons_zero, List.set_cons_succ])
        refine wpAnyH_take (i := 26) (oi := _) (v := ?v257) rfl (by kernel_rfl) (by kernel_rfl) (by kernel_rfl) (fun _ _ _ h => h) (Or.inl ⟨by rfl, ?hy257⟩) (by assumption) ?rest257
        case hy257 => ((intro w hSw; (try dsimp only at hSw); go_simp); try (with_reducible rfl))
        ((try dsimp only [List.getElem_toArray, List.getElem_cons_succ, List.getElem_cons_zero]); try simp only [Act.put, List.setIfInBounds_toArray, List.set_cons_zero, List.set_cons_succ])
        refine wpAnyH_take (i := 27) (oi := _) (v := ?v258) rfl (by kernel_rfl) (by kernel_rfl) (by kernel_rfl) (fun _ _ _ h => h) (Or.inl ⟨by rfl, ?hy258⟩) (by assumption) ?rest258
        case hy258 => ((intro w hSw; (try dsimp only at hSw); go_simp); try (with_reducible rfl))
        ((try dsimp only [List.getElem_toArray, List.getElem_cons_succ, List.getElem_cons_zero]); try simp only [Act.put, List.setIfInBounds_toArray, List.set_cons_zero, List.set_cons_succ])
        refine wpAnyH_take (i := 28) (oi := _) (v := ?v259) rfl (by kernel_rfl) (by kernel_rfl) (by kernel_rfl) (fun _ _ _ h => h) (Or.inl ⟨by rfl, ?hy259⟩) (by assumption) ?rest259
        case hy259 => ((intro w hSw; (try dsimp only at hSw); go_simp); try (with_reducible rfl))
        ((try dsimp only [List.getElem_toArray, List.getElem_cons_succ, List.getElem_cons_zero]); try simp only [Act.put, List.setIfInBounds_toArray, List.set_cons_zero, List.set_cons_succ])
        refine wpAnyH_ready (rs := [29]) (by kernel_rfl) (by simp) ?_
        refine AllReadyH.cons (o := _) rfl (fun K hK => ?_) AllReadyH.nil
        go_simp
        go_at_call 46; (with_reducible refine (HP.out _).mono ?_); rintro ep wp ⟨rfl, rfl⟩
        refine hK.out _ _ ?_ (fun hHeld => ?_)
        · (try dsimp only); refine HK.out _ ?_; (repeat (first | (with_reducible exact gr_rfl _) | (with_reducible refine gr_dr ?_) | (with_reducible refine gr_then ?_ hx)))
        clear hK K
        ((try dsimp only [List.getElem_toArray, List.getElem_cons_succ, List.getElem_cons_zero]); try simp only [Act.put, List.setIfInBounds_toArray, List.set_cons_zero, List.set_cons_succ])
        refine wpAnyH_take (i := 30) (oi := _) (v := ?v260) rfl (by kernel_rfl) (by kernel_rfl) (by kernel_rfl) (fun _ _ _ h => h) (Or.inl ⟨by rfl, ?hy260⟩) (by assumption) ?rest260
        case hy260 => ((intro w hSw; (try dsimp only at hSw); go_simp); try (with_reducible rfl))
        ((try dsimp only [List.getElem_toArray, List.getElem_cons_succ, List.getElem_cons_zero]); try simp only [Act.put, List.setIfInBounds_toArray, List.set_cons_zero, List.set_cons_succ])
        refine wpAnyH_take (i := 31) (oi := _) (v := ?v261) rfl (by kernel_rfl) (by kernel_rfl) (by kernel_rfl) (fun _ _ _ h => h) (Or.inl ⟨by rfl, ?hy261⟩) (by assumption) ?rest261
        case hy261 => ((intro w hSw; (try dsimp only at hSw); go_simp); try (with_reducible rfl))
        ((try dsimp only [List.getElem_toArray, List.getElem_cons_succ, List.getElem_cons_zero]); try simp only [Act.put, List.setIfInBounds_toArray, List.set_cons_zero, List.set_cons_succ])
        refine wpAnyH_take (i := 32) (oi := _) (v := ?v262) rfl (by kernel_rfl) (by kernel_rfl) (by kernel_rfl) (fun _ _ _ h => h) (Or.inl ⟨by rfl, ?hy262⟩) (by assumption) ?rest262
        case hy262 => ((intro w hSw; (try dsimp only at hSw); go_simp); try (with_reducible rfl))
        ((try dsimp only [List.getElem_toArray, List.getElem_cons_succ, List.getElem_cons_zero]); try simp only [Act.put, List.setIfInBounds_toArray, List.set_cons_zero, List.set_cons_succ])
        refine wpAnyH_take (i := 33) (oi := _) (v := ?v263) rfl (by kernel_rfl) (by kernel_rfl) (by kernel_rfl) (fun _ _ _ h => h) (Or.inl ⟨by rfl, ?hy263⟩) (by assumption) ?rest263
        case hy263 => ((intro w hSw; (try dsimp only at hSw); go_simp); try (with_reducible rfl))
        ((try dsimp only [List.getElem_toArray, List.getElem_cons_succ, List.getElem_cons_zero]); try simp only [Act.put, List.setIfInBounds_toArray, List.set_cons_zero, List.set_cons_succ])
        refine wpAnyH_take (i := 34) (oi := _) (v := ?v264) rfl (by kernel_rfl) (by kernel_rfl) (by kernel_rfl) (fun _ _ _ h => h) (Or.inl ⟨by rfl, ?hy264⟩) (by assumption) ?rest264
        case hy264 => ((intro w hSw; (try dsimp only at hSw); go_simp); try (with_reducible rfl))
        ((try dsimp only [List.getElem_toArray, List.getElem_cons_succ, List.getElem_cons_zero]); try simp only [Act.put, List.setIfInBounds_toArray, List.set_cons_zero, List.set_cons_succ])
        refine wpAnyH_take (i := 35) (oi := _) (v := ?v265) rfl (by kernel_rfl) (by kernel_rfl) (by kernel_rfl) (fun _ _ _ h => h) (Or.inl ⟨by rfl, ?hy265⟩) (by assumption) ?rest265
        case hy265 => ((intro w hSw; (try dsimp only at hSw); go_simp); try (with_reducible rfl))
        ((try dsimp only [List.getElem_toArray, List.getElem_cons_succ, List.getElem_cons_zero]); try simp only [Act.put, List.setIfInBounds_toArray, List.set_cons_zero, List.set_cons_succ])
        refine wpAnyH_ready (rs := [36]) (by kernel_rfl) (by simp) ?_
        refine AllReadyH.cons (o := _) rfl (fun K hK => ?_) AllReadyH.nil
        go_simp
        go_at_call 47; (with_reducible refine (HU.out _).mono ?_); rintro eu wu ⟨rfl, rfl⟩
        refine hK.out _ _ ?_ (fun hHeld => ?_)
        · (try dsimp only); refine HK.out _ ?_; (repeat (first | (with_reducible exact gr_rfl _) | (with_reducible refine gr_dr ?_) | (with_reducible refine gr_then ?_ hx)))
        clear hK K
        ((try dsimp only [List.getElem_toArray, List.getElem_cons_succ, List.getElem_cons_zero]); try simp only [Act.put, List.setIfInBounds_toArray, List.set_cons_zero, List.set_cons_succ])
        refine wpAnyH_take (i := 37) (oi := _) (v := ?v266) rfl (by kernel_rfl) (by kernel_rfl) (by kernel_rfl) (fun _ _ _ h => h) (Or.inl ⟨by rfl, ?hy266⟩) (by assumption) ?rest266
        case hy266 => ((intro w hSw; (try dsimp only at hSw); go_simp); try (with_reducible rfl))
        ((try dsimp only [List.getElem_toArray, List.getElem_cons_succ, List.getElem_cons_zero]); try simp only [Act.put, List.setIfInBounds_toArray, List.set_cons_zero, List.set_cons_succ])
        refine wpAnyH_take (i := 38) (oi := _) (v := ?v267) rfl (by kernel_rfl) (by kernel_rfl) (by kernel_rfl) (fun _ _ _ h => h) (Or.inl ⟨by rfl, ?hy267⟩) (by assumption) ?rest267
        case hy267 => ((intro w hSw; (try dsimp only at hSw); go_simp); try (with_reducible rfl))
        ((try dsimp only [List.getElem_toArray, List.getElem_cons_succ, List.getElem_cons_zero]); try simp only [Act.put, List.setIfInBounds_toArray, List.set_cons_zero, List.set_cons_succ])
        refine wpAnyH_take (i := 39) (oi := _) (v := ?v268) rfl (by kernel_rfl) (by kernel_rfl) (by kernel_rfl) (fun _ _ _ h => h) (Or.inl ⟨by rfl, ?hy268⟩) (by assumption) ?rest268
        case hy268 => ((intro w hSw; (try dsimp only at hSw); go_simp); try (with_reducible rfl))
        ((try dsimp only [List.getElem_toArray, List.getElem_cons_succ, List.getElem_cons_zero]); try simp only [Act.put, List.setIfInBounds_toArray, List.set_cons_zero, List.set_cons_succ])
        refine wpAnyH_done (by kernel_rfl) ?_ _
        go_wp2
        go_ret
        exact BoolIs.yes rfl (HW.out.2 (.inr ⟨H1.out, H2.out, H3.out, H4.out, H5.out⟩)) (gr_then HGW.out (gr_then (gr_dr (gr_rfl w7)) hx))
      · by_cases h1 : ql ≤ 1
        rotate_left
        · have h1d : decide (ql ≤ 1) = false := decide_eq_false h1
          have H1 := Lib.hid h1
          clear h1 hz
          have HK := Lib.hid (show ∀ w', w7.grownBy w' none → (w'.cell? ⟨w.heap.size, 0, none⟩ = some (.int .i64 1) ∧ w'.cell? ⟨w.heap.size, 1, none⟩ = some (.int .i64 km) ∧ w'.cell? ⟨w.heap.size, 2, none⟩ = some (.int .i64 kc) ∧ w'.cell? ⟨w.heap.size, 3, none⟩ = some (.string kb) ∧ w'.cell? ⟨w.heap.size, 4, none⟩ = some (.string ke) ∧ w'.cell? ⟨w.heap.size + 1, 0, none⟩ = some (.int .i64 ql) ∧ w'.cell? ⟨w.heap.size + 1, 1, none⟩ = some (.int .i64 qm) ∧ w'.cell? ⟨w.heap.size + 1, 2, none⟩ = some (.int .i64 qc) ∧ w'.cell? ⟨w.heap.size + 1, 3, none⟩ = some (.string qb) ∧ w'.cell? ⟨w.heap.size + 1, 4, none⟩ = some (.string qe)) from fun w' h => ⟨(HRA.out.kept h).cell 0 _ rfl, (HRA.out.kept h).cell 1 _ rfl, (HRA.out.kept h).cell 2 _ rfl, (HRA.out.kept h).cell 3 _ rfl, (HRA.out.kept h).cell 4 _ rfl, (HRB.out.kept h).cell 0 _ rfl, (HRB.out.kept h).cell 1 _ rfl, (HRB.out.kept h).cell 2 _ rfl, (HRB.out.kept h).cell 3 _ rfl, (HRB.out.kept h).cell 4 _ rfl⟩)
          go_wp2_with fail
          refine wp_region_held_drew (S := (fun w' => w'.cell? ⟨w.heap.size, 0, none⟩ = some (.int .i64 1) ∧ w'.cell? ⟨w.heap.size, 1, none⟩ = some (.int .i64 km) ∧ w'.cell? ⟨w.heap.size, 2, none⟩ = some (.int .i64 kc) ∧ w'.cell? ⟨w.heap.size, 3, none⟩ = some (.string kb) ∧ w'.cell? ⟨w.heap.size, 4, none⟩ = some (.string ke) ∧ w'.cell? ⟨w.heap.size + 1, 0, none⟩ = some (.int .i64 ql) ∧ w'.cell? ⟨w.heap.size + 1, 1, none⟩ = some (.int .i64 qm) ∧ w'.cell? ⟨w.heap.size + 1, 2, none⟩ = some (.int .i64 qc) ∧ w'.cell? ⟨w.heap.size + 1, 3, none⟩ = some (.string qb) ∧ w'.cell? ⟨w.heap.size + 1, 4, none⟩ = some (.string qe))) (by kernel_rfl) ?_ (fun hHeld => ?_)
          · refine HK.out _ ?_; (repeat (first | (with_reducible exact gr_rfl _) | (with_reducible refine gr_dr ?_) | (with_reducible refine gr_then ?_ hx)))
          refine wpAnyH_take (i := 0) (oi := _) (v := ?v269) rfl (by kernel_rfl) (by kernel_rfl) (by kernel_rfl) (fun _ _ _ h => h) (Or.inl ⟨by rfl, ?hy269⟩) (by assumption) ?rest269
          case hy269 => ((intro w hSw; (try dsimp only at hSw); go_simp); try (with_reducible rfl))
          ((try dsimp only [List.getElem_toArray, List.getElem_cons_succ, List.getElem_cons_zero]); try simp only [Act.put, List.setIfInBounds_toArray, List.set_cons_zero, List.set_cons_succ])
          refine wpAnyH_ready (rs := [1]) (by kernel_rfl) (by simp) ?_
          refine AllReadyH.cons (o := _) rfl (fun K hK => ?_) AllReadyH.nil
          go_simp
          go_at_call 43; (with_reducible refine (HNS.out _).mono ?_); rintro ex wx ⟨rfl, hx⟩
          refine hK.out _ _ ?_ (fun hHeld => ?_)
          · (try dsimp only); refine HK.out _ ?_; (repeat (first | (with_reducible exact gr_rfl _) | (with_reducible refine gr_dr ?_) | (with_reducible refine gr_then ?_ hx)))
          clear hK K
          ((try dsimp only [List.getElem_toArray, List.getElem_cons_succ, List.getElem_cons_zero]); try simp only [Act.put, List.setIfInBounds_toArray, List.set_cons_zero, List.set_cons_succ])
          refine wpAnyH_take (i := 2) (oi := _) (v := ?v270) rfl (by kernel_rfl) (by kernel_rfl) (by kernel_rfl) (fun _ _ _ h => h) (Or.inl ⟨by rfl, ?hy270⟩) (by assumption) ?rest270
          case hy270 => ((intro w hSw; (try dsimp only at hSw); go_simp); try (with_reducible rfl))
          ((try dsimp only [List.getElem_toArray, List.getElem_cons_succ, List.getElem_cons_zero]); try simp only [Act.put, List.setIfInBounds_toArray, List.set_cons_zero, List.set_cons_succ])
          refine wpAnyH_take (i := 3) (oi := _) (v := ?v271) rfl (by kernel_rfl) (by kernel_rfl) (by kernel_rfl) (fun _ _ _ h => h) (Or.inl ⟨by rfl, ?hy271⟩) (by assumption) ?rest271
          case hy271 => ((intro w hSw; (try dsimp only at hSw); go_simp); try (with_reducible rfl))
          ((try dsimp only [List.getElem_toArray, List.getElem_cons_succ, List.getElem_cons_zero]); try simp only [Act.put, List.setIfInBounds_toArray, List.set_cons_zero, List.set_cons_succ])
          refine wpAnyH_take (i := 4) (oi := _) (v := ?v272) rfl (by kernel_rfl) (by kernel_rfl) (by kernel_rfl) (fun _ _ _ h => h) (Or.inl ⟨by rfl, ?hy272⟩) (by assumption) ?rest272
          case hy272 => ((intro w hSw; (try dsimp only at hSw); go_simp); try (with_reducible rfl))
          ((try dsimp only [List.getElem_toArray, List.getElem_cons_succ, List.getElem_cons_zero]); try simp only [Act.put, List.setIfInBounds_toArray, List.set_cons_zero, List.set_cons_succ])
          refine wpAnyH_take (i := 5) (oi := _) (v := ?v273) rfl (by kernel_rfl) (by kernel_rfl) (by kernel_rfl) (fun _ _ _ h => h) (Or.inl ⟨by rfl, ?hy273⟩) (by assumption) ?rest273
          case hy273 => ((intro w hSw; (try dsimp only at hSw); go_simp); try (with_reducible rfl))
          ((try dsimp only [List.getElem_toArray, List.getElem_cons_succ, List.getElem_cons_zero]); try simp only [Act.put, List.setIfInBounds_toArray, List.set_cons_zero, List.set_cons_succ])
          refine wpAnyH_take (i := 6) (oi := _) (v := ?v274) rfl (by kernel_rfl) (by kernel_rfl) (by kernel_rfl) (fun _ _ _ h => h) (Or.inl ⟨by rfl, ?hy274⟩) (by assumption) ?rest274
          case hy274 => ((intro w hSw; (try dsimp only at hSw); go_simp); try (with_reducible rfl))
          ((try dsimp only [List.getElem_toArray, List.getElem_cons_succ, List.getElem_cons_zero]); try simp only [Act.put, List.setIfInBounds_toArray, List.set_cons_zero, List.set_cons_succ])
          refine wpAnyH_take (i := 7) (oi := _) (v := ?v275) rfl (by kernel_rfl) (by kernel_rfl) (by kernel_rfl) (fun _ _ _ h => h) (Or.inl ⟨by rfl, ?hy275⟩) (by assumption) ?rest275
          case hy275 => ((intro w hSw; (try dsimp only at hSw); go_simp); try (with_reducible rfl))
          ((try dsimp only [List.getElem_toArray, List.getElem_cons_succ, List.getElem_cons_zero]); try simp only [Act.put, List.setIfInBounds_toArray, List.set_cons_zero, List.set_cons_succ])
          refine wpAnyH_take (i := 8) (oi := _) (v := ?v276) rfl (by kernel_rfl) (by kernel_rfl) (by kernel_rfl) (fun _ _ _ h => h) (Or.inl ⟨by rfl, ?hy276⟩) (by assumption) ?rest276
          case hy276 => ((intro w hSw; (try dsimp only at hSw); go_simp); try (with_reducible rfl))
          ((try dsimp only [List.getElem_toArray, List.getElem_cons_succ, List.getElem_cons_zero]); try simp only [Act.put, List.setIfInBounds_toArray, List.set_cons_zero, List.set_cons_succ])
          refine wpAnyH_take (i := 9) (oi := _) (v := ?v277) rfl (by kernel_rfl) (by kernel_rfl) (by kernel_rfl) (fun _ _ _ h => h) (Or.inl ⟨by rfl, ?hy277⟩) (by assumption) ?rest277
          case hy277 => ((intro w hSw; (try dsimp only at hSw); go_simp); try (with_reducible rfl))
          ((try dsimp only [List.getElem_toArray, List.getElem_cons_succ, List.getElem_cons_zero]); try simp only [Act.put, List.setIfInBounds_toArray, List.set_cons_zero, List.set_cons_succ])
          refine wpAnyH_take (i := 10) (oi := _) (v := _) rfl (by kernel_rfl) (by kernel_rfl) (by kernel_rfl) (fun _ _ _ h => h) (Or.inr ⟨by rfl, rfl⟩) (by assumption) ?rest278
          ((try dsimp only [List.getElem_toArray, List.getElem_cons_succ, List.getElem_cons_zero]); try simp only [Act.put, List.setIfInBounds_toArray, List.set_cons_zero, List.set_cons_succ])
          refine wpAnyH_take (i := 11) (oi := _) (v := _) rfl (by kernel_rfl) (by kernel_rfl) (by kernel_rfl) (fun _ _ _ h => h) (Or.inr ⟨by rfl, rfl⟩) (by assumption) ?rest279
          ((try dsimp only [List.getElem_toArray, List.getElem_cons_succ, List.getElem_cons_zero]); try simp only [Act.put, List.setIfInBounds_toArray, List.set_cons_zero, List.set_cons_succ])
          refine wpAnyH_take (i := 12) (oi := _) (v := _) rfl (by kernel_rfl) (by kernel_rfl) (by kernel_rfl) (fun _ _ _ h => h) (Or.inr ⟨by rfl, rfl⟩) (by assumption) ?rest280
          ((try dsimp only [List.getElem_toArray, List.getElem_cons_succ, List.getElem_cons_zero]); try simp only [Act.put, List.setIfInBounds_toArray, List.set_cons_zero, List.set_cons_succ])
          refine wpAnyH_take (i := 13) (oi := _) (v := _) rfl (by kernel_rfl) (by kernel_rfl) (by kernel_rfl) (fun _ _ _ h => h) (Or.inr ⟨by rfl, rfl⟩) (by assumption) ?rest281
          ((try dsimp only [List.getElem_toArray, List.getElem_cons_succ, List.getElem_cons_zero]); try simp only [Act.put, List.setIfInBounds_toArray, List.set_cons_zero, List.set_cons_succ])
          refine wpAnyH_take (i := 14) (oi := _) (v := _) rfl (by kernel_rfl) (by kernel_rfl) (by kernel_rfl) (fun _ _ _ h => h) (Or.inr ⟨by rfl, rfl⟩) (by assumption) ?rest282
          ((try dsimp only [List.getElem_toArray, List.getElem_cons_succ, List.getElem_cons_zero]); try simp only [Act.put, List.setIfInBounds_toArray, List.set_cons_zero, List.set_cons_succ])
          refine wpAnyH_take (i := 15) (oi := _) (v := ?v283) rfl (by kernel_rfl) (by kernel_rfl) (by kernel_rfl) (fun _ _ _ h => h) (Or.inl ⟨by rfl, ?hy283⟩) (by assumption) ?rest283
          case hy283 => ((intro w hSw; (try dsimp only at hSw); go_simp); try (with_reducible rfl))
          ((try dsimp only [List.getElem_toArray, List.getElem_cons_succ, List.getElem_cons_zero]); try simp only [Act.put, List.setIfInBounds_toArray, List.set_cons_zero, List.set_cons_succ])
          refine wpAnyH_take (i := 16) (oi := _) (v := ?v284) rfl (by kernel_rfl) (by kernel_rfl) (by kernel_rfl) (fun _ _ _ h => h) (Or.inl ⟨by rfl, ?hy284⟩) (by assumption) ?rest284
          case hy284 => ((intro w hSw; (try dsimp only at hSw); go_simp); try (with_reducible rfl))
          ((try dsimp only [List.getElem_toArray, List.getElem_cons_succ, List.getElem_cons_zero]); try simp only [Act.put, List.setIfInBounds_toArray, List.set_cons_zero, List.set_cons_succ])
          refine wpAnyH_take (i := 17) (oi := _) (v := _) rfl (by kernel_rfl) (by kernel_rfl) (by kernel_rfl) (fun _ _ _ h => h) (Or.inr ⟨by rfl, rfl⟩) (by assumption) ?rest285
          ((try dsimp only [List.getElem_toArray, List.getElem_cons_succ, List.getElem_cons_zero]); try simp only [Act.put, List.setIfInBounds_toArray, List.set_cons_zero, List.set_cons_succ])
          refine wpAnyH_take (i := 18) (oi := _) (v := _) rfl (by kernel_rfl) (by kernel_rfl) (by kernel_rfl) (fun _ _ _ h => h) (Or.inr ⟨by rfl, rfl⟩) (by assumption) ?rest286
          ((try dsimp only [List.getElem_toArray, List.getElem_cons_succ, List.getElem_cons_zero]); try simp only [Act.put, List.setIfInBounds_toArray, List.set_cons_zero, List.set_cons_succ])
          refine wpAnyH_take (i := 19) (oi := _) (v := _) rfl (by kernel_rfl) (by kernel_rfl) (by kernel_rfl) (fun _ _ _ h => h) (Or.inr ⟨by rfl, rfl⟩) (by assumption) ?rest287
          ((try dsimp only [List.getElem_toArray, List.getElem_cons_succ, List.getElem_cons_zero]); try simp only [Act.put, List.setIfInBounds_toArray, List.set_cons_zero, List.set_cons_succ])
          refine wpAnyH_take (i := 20) (oi := _) (v := _) rfl (by kernel_rfl) (by kernel_rfl) (by kernel_rfl) (fun _ _ _ h => h) (Or.inr ⟨by rfl, rfl⟩) (by assumption) ?rest288
          ((try dsimp only [List.getElem_toArray, List.getElem_cons_succ, List.getElem_cons_zero]); try simp only [Act.put, List.setIfInBounds_toArray, List.set_cons_zero, List.set_cons_succ])
          refine wpAnyH_take (i := 21) (oi := _) (v := _) rfl (by kernel_rfl) (by kernel_rfl) (by kernel_rfl) (fun _ _ _ h => h) (Or.inr ⟨by rfl, rfl⟩) (by assumption) ?rest289
          ((try dsimp only [List.getElem_toArray, List.getElem_cons_succ, List.getElem_cons_zero]); try simp only [Act.put, List.setIfInBounds_toArray, List.set_cons_zero, List.set_cons_succ])
          refine wpAnyH_take (i := 22) (oi := _) (v := _) rfl (by kernel_rfl) (by kernel_rfl) (by kernel_rfl) (fun _ _ _ h => h) (Or.inr ⟨by rfl, rfl⟩) (by assumption) ?rest290
          ((try dsimp only [List.getElem_toArray, List.getElem_cons_succ, List.getElem_cons_zero]); try simp only [Act.put, List.setIfInBounds_toArray, List.set_cons_zero, List.set_cons_succ])
          refine wpAnyH_take (i := 23) (oi := _) (v := ?v291) rfl (by kernel_rfl) (by kernel_rfl) (by kernel_rfl) (fun _ _ _ h => h) (Or.inl ⟨by rfl, ?hy291⟩) (by assumption) ?rest291
          case hy291 => ((intro w hSw; (try dsimp only at hSw); go_simp); try (with_reducible rfl))
          ((try dsimp only [List.getElem_toArray, List.getElem_cons_succ, List.getElem_cons_zero]); try simp only [Act.put, List.setIfInBounds_toArray, List.set_cons_zero, List.set_cons_succ])
          refine wpAnyH_take (i := 24) (oi := _) (v := ?v292) rfl (by kernel_rfl) (by kernel_rfl) (by kernel_rfl) (fun _ _ _ h => h) (Or.inl ⟨by rfl, ?hy292⟩) (by assumption) ?rest292
          case hy292 => ((intro w hSw; (try dsimp only at hSw); go_simp); try (with_reducible rfl))
          ((try dsimp only [List.getElem_toArray, List.getElem_cons_succ, List.getElem_cons_zero]); try simp only [Act.put, List.setIfInBounds_toArray, List.set_cons_zero, List.set_cons_succ])
          refine wpAnyH_take (i := 25) (oi := _) (v := _) rfl (by kernel_rfl) (by kernel_rfl) (by kernel_rfl) (fun _ _ _ h => h) (Or.inr ⟨by rfl, rfl⟩) (by assumption) ?rest293
          ((try dsimp only [List.getElem_toArray, List.getElem_cons_succ, List.getElem_cons_zero]); try simp only [Act.put, List.setIfInBounds_toArray, List.set_cons_zero, List.set_cons_succ])
          refine wpAnyH_take (i := 26) (oi := _) (v := _) rfl (by kernel_rfl) (by kernel_rfl) (by kernel_rfl) (fun _ _ _ h => h) (Or.inr ⟨by rfl, rfl⟩) (by assumption) ?rest294
          ((try dsimp only [List.getElem_toArray, List.getElem_cons_succ, List.getElem_cons_zero]); try simp only [Act.put, List.setIfInBounds_toArray, List.set_cons_zero, List.set_cons_succ])
          refine wpAnyH_take (i := 27) (oi := _) (v := _) rfl (by kernel_rfl) (by kernel_rfl) (by kernel_rfl) (fun _ _ _ h => h) (Or.inr ⟨by rfl, rfl⟩) (by assumption) ?rest295
          ((try dsimp only [List.getElem_toArray, List.getElem_cons_succ, List.getElem_cons_zero]); try simp only [Act.put, List.setIfInBounds_toArray, List.set_cons_zero, List.set_cons_succ])
          refine wpAnyH_take (i := 28) (oi := _) (v := _) rfl (by kernel_rfl) (by kernel_rfl) (by kernel_rfl) (fun _ _ _ h => h) (Or.inr ⟨by rfl, rfl⟩) (by assumption) ?rest296
          ((try dsimp only [List.getElem_toArray, List.getElem_cons_succ, List.getElem_cons_zero]); try simp only [Act.put, List.setIfInBounds_toArray, List.set_cons_zero, List.set_cons_succ])
          refine wpAnyH_take (i := 29) (oi := _) (v := _) rfl (by kernel_rfl) (by kernel_rfl) (by kernel_rfl) (fun _ _ _ h => h) (Or.inr ⟨by rfl, rfl⟩) (by assumption) ?rest297
          ((try dsimp only [List.getElem_toArray, List.getElem_cons_succ, List.getElem_cons_zero]); try simp only [Act.put, List.setIfInBounds_toArray, List.set_cons_zero, List.set_cons_succ])
          refine wpAnyH_take (i := 30) (oi := _) (v := ?v298) rfl (by kernel_rfl) (by kernel_rfl) (by kernel_rfl) (fun _ _ _ h => h) (Or.inl ⟨by rfl, ?hy298⟩) (by assumption) ?rest298
          case hy298 => ((intro w hSw; (try dsimp only at hSw); go_simp); try (with_reducible rfl))
          ((try dsimp only [List.getElem_toArray, List.getElem_cons_succ, List.getElem_cons_zero]); try simp only [Act.put, List.setIfInBounds_toArray, List.set_cons_zero, List.set_cons_succ])
          refine wpAnyH_take (i := 31) (oi := _) (v := ?v299) rfl (by kernel_rfl) (by kernel_rfl) (by kernel_rfl) (fun _ _ _ h => h) (Or.inl ⟨by rfl, ?hy299⟩) (by assumption) ?rest299
          case hy299 => ((intro w hSw; (try dsimp only at hSw); go_simp); try (with_reducible rfl))
          ((try dsimp only [List.getElem_toArray, List.getElem_cons_succ, List.getElem_cons_zero]); try simp only [Act.put, List.setIfInBounds_toArray, List.set_cons_zero, List.set_cons_succ])
          refine wpAnyH_take (i := 32) (oi := _) (v := _) rfl (by kernel_rfl) (by kernel_rfl) (by kernel_rfl) (fun _ _ _ h => h) (Or.inr ⟨by rfl, rfl⟩) (by assumption) ?rest300
          ((try dsimp only [List.getElem_toArray, List.getElem_cons_succ, List.getElem_cons_zero]); try simp only [Act.put, List.setIfInBounds_toArray, List.set_cons_zero, List.set_cons_succ])
          refine wpAnyH_take (i := 33) (oi := _) (v := _) rfl (by kernel_rfl) (by kernel_rfl) (by kernel_rfl) (fun _ _ _ h => h) (Or.inr ⟨by rfl, rfl⟩) (by assumption) ?rest301
          ((try dsimp only [List.getElem_toArray, List.getElem_cons_succ, List.getElem_cons_zero]); try simp only [Act.put, List.setIfInBounds_toArray, List.set_cons_zero, List.set_cons_succ])
          refine wpAnyH_take (i := 34) (oi := _) (v := _) rfl (by kernel_rfl) (by kernel_rfl) (by kernel_rfl) (fun _ _ _ h => h) (Or.inr ⟨by rfl, rfl⟩) (by assumption) ?rest302
          ((try dsimp only [List.getElem_toArray, List.getElem_cons_succ, List.getElem_cons_zero]); try simp only [Act.put, List.setIfInBounds_toArray, List.set_cons_zero, List.set_cons_succ])
          refine wpAnyH_take (i := 35) (oi := _) (v := _) rfl (by kernel_rfl) (by kernel_rfl) (by kernel_rfl) (fun _ _ _ h => h) (Or.inr ⟨by rfl, rfl⟩) (by assumption) ?rest303
          ((try dsimp only [List.getElem_toArray, List.getElem_cons_succ, List.getElem_cons_zero]); try simp only [Act.put, List.setIfInBounds_toArray, List.set_cons_zero, List.set_cons_succ])
          refine wpAnyH_take (i := 36) (oi := _) (v := _) rfl (by kernel_rfl) (by kernel_rfl) (by kernel_rfl) (fun _ _ _ h => h) (Or.inr ⟨by rfl, rfl⟩) (by assumption) ?rest304
          ((try dsimp only [List.getElem_toArray, List.getElem_cons_succ, List.getElem_cons_zero]); try simp only [Act.put, List.setIfInBounds_toArray, List.set_cons_zero, List.set_cons_succ])
          refine wpAnyH_take (i := 37) (oi := _) (v := ?v305) rfl (by kernel_rfl) (by kernel_rfl) (by kernel_rfl) (fun _ _ _ h => h) (Or.inl ⟨by rfl, ?hy305⟩) (by assumption) ?rest305
          case hy305 => ((intro w hSw; (try dsimp only at hSw); go_simp); try (with_reducible rfl))
          ((try dsimp only [List.getElem_toArray, List.getElem_cons_succ, List.getElem_cons_zero]); try simp only [Act.put, List.setIfInBounds_toArray, List.set_cons_zero, List.set_cons_succ])
          refine wpAnyH_take (i := 38) (oi := _) (v := ?v306) rfl (by kernel_rfl) (by kernel_rfl) (by kernel_rfl) (fun _ _ _ h => h) (Or.inl ⟨by rfl, ?hy306⟩) (by assumption) ?rest306
          case hy306 => ((intro w hSw; (try dsimp only at hSw); go_simp); try (with_reducible rfl))
          ((try dsimp only [List.getElem_toArray, List.getElem_cons_succ, List.getElem_cons_zero]); try simp only [Act.put, List.setIfInBounds_toArray, List.set_cons_zero, List.set_cons_succ])
          refine wpAnyH_take (i := 39) (oi := _) (v := ?v307) rfl (by kernel_rfl) (by kernel_rfl) (by kernel_rfl) (fun _ _ _ h => h) (Or.inl ⟨by rfl, ?hy307⟩) (by assumption) ?rest307
          case hy307 => ((intro w hSw; (try dsimp only at hSw); go_simp); try (with_reducible rfl))
          ((try dsimp only [List.getElem_toArray, List.getElem_cons_succ, List.getElem_cons_zero]); try simp only [Act.put, List.setIfInBounds_toArray, List.set_cons_zero, List.set_cons_succ])
          refine wpAnyH_done (by kernel_rfl) ?_ _
          go_wp2
          go_ret
          exact BoolIs.no rfl (fun h => by rcases HW.out.1 h with h | h; exact absurd h HKN.out; have h1 := h.1; have h2 := H1.out; (try simp only at h1); omega) (gr_then HGW.out (gr_then (gr_dr (gr_rfl w7)) hx))
        have h1d : decide (ql ≤ 1) = true := decide_eq_true h1
        have H1 := Lib.hid h1
        by_cases h2 : km ≤ qm
        rotate_left
        · have h2d : decide (km ≤ qm) = false := decide_eq_false h2
          have H2 := Lib.hid h2
          clear h2 hz
          have HK := Lib.hid (show ∀ w', w7.grownBy w' none → (w'.cell? ⟨w.heap.size, 0, none⟩ = some (.int .i64 1) ∧ w'.cell? ⟨w.heap.size, 1, none⟩ = some (.int .i64 km) ∧ w'.cell? ⟨w.heap.size, 2, none⟩ = some (.int .i64 kc) ∧ w'.cell? ⟨w.heap.size, 3, none⟩ = some (.string kb) ∧ w'.cell? ⟨w.heap.size, 4, none⟩ = some (.string ke) ∧ w'.cell? ⟨w.heap.size + 1, 0, none⟩ = some (.int .i64 ql) ∧ w'.cell? ⟨w.heap.size + 1, 1, none⟩ = some (.int .i64 qm) ∧ w'.cell? ⟨w.heap.size + 1, 2, none⟩ = some (.int .i64 qc) ∧ w'.cell? ⟨w.heap.size + 1, 3, none⟩ = some (.string qb) ∧ w'.cell? ⟨w.heap.size + 1, 4, none⟩ = some (.string qe)) from fun w' h => ⟨(HRA.out.kept h).cell 0 _ rfl, (HRA.out.kept h).cell 1 _ rfl, (HRA.out.kept h).cell 2 _ rfl, (HRA.out.kept h).cell 3 _ rfl, (HRA.out.kept h).cell 4 _ rfl, (HRB.out.kept h).cell 0 _ rfl, (HRB.out.kept h).cell 1 _ rfl, (HRB.out.kept h).cell 2 _ rfl, (HRB.out.kept h).cell 3 _ rfl, (HRB.out.kept h).cell 4 _ rfl⟩)
          go_wp2_with fail
          refine wp_region_held_drew (S := (fun w' => w'.cell? ⟨w.heap.size, 0, none⟩ = some (.int .i64 1) ∧ w'.cell? ⟨w.heap.size, 1, none⟩ = some (.int .i64 km) ∧ w'.cell? ⟨w.heap.size, 2, none⟩ = some (.int .i64 kc) ∧ w'.cell? ⟨w.heap.size, 3, none⟩ = some (.string kb) ∧ w'.cell? ⟨w.heap.size, 4, none⟩ = some (.string ke) ∧ w'.cell? ⟨w.heap.size + 1, 0, none⟩ = some (.int .i64 ql) ∧ w'.cell? ⟨w.heap.size + 1, 1, none⟩ = some (.int .i64 qm) ∧ w'.cell? ⟨w.heap.size + 1, 2, none⟩ = some (.int .i64 qc) ∧ w'.cell? ⟨w.heap.size + 1, 3, none⟩ = some (.string qb) ∧ w'.cell? ⟨w.heap.size + 1, 4, none⟩ = some (.string qe))) (by kernel_rfl) ?_ (fun hHeld => ?_)
          · refine HK.out _ ?_; (repeat (first | (with_reducible exact gr_rfl _) | (with_reducible refine gr_dr ?_) | (with_reducible refine gr_then ?_ hx)))
          refine wpAnyH_take (i := 0) (oi := _) (v := ?v308) rfl (by kernel_rfl) (by kernel_rfl) (by kernel_rfl) (fun _ _ _ h => h) (Or.inl ⟨by rfl, ?hy308⟩) (by assumption) ?rest308
          case hy308 => ((intro w hSw; (try dsimp only at hSw); go_simp); try (with_reducible rfl))
          ((try dsimp only [List.getElem_toArray, List.getElem_cons_succ, List.getElem_cons_zero]); try simp only [Act.put, List.setIfInBounds_toArray, List.set_cons_zero, List.set_cons_succ])
          refine wpAnyH_ready (rs := [1]) (by kernel_rfl) (by simp) ?_
          refine AllReadyH.cons (o := _) rfl (fun K hK => ?_) AllReadyH.nil
          go_simp
          go_at_call 43; (with_reducible refine (HNS.out _).mono ?_); rintro ex wx ⟨rfl, hx⟩
          refine hK.out _ _ ?_ (fun hHeld => ?_)
          · (try dsimp only); refine HK.out _ ?_; (repeat (first | (with_reducible exact gr_rfl _) | (with_reducible refine gr_dr ?_) | (with_reducible refine gr_then ?_ hx)))
          clear hK K
          ((try dsimp only [List.getElem_toArray, List.getElem_cons_succ, List.getElem_cons_zero]); try simp only [Act.put, List.setIfInBounds_toArray, List.set_cons_zero, List.set_cons_succ])
          refine wpAnyH_take (i := 2) (oi := _) (v := ?v309) rfl (by kernel_rfl) (by kernel_rfl) (by kernel_rfl) (fun _ _ _ h => h) (Or.inl ⟨by rfl, ?hy309⟩) (by assumption) ?rest309
          case hy309 => ((intro w hSw; (try dsimp only at hSw); go_simp); try (with_reducible rfl))
          ((try dsimp only [List.getElem_toArray, List.getElem_cons_succ, List.getElem_cons_zero]); try simp only [Act.put, List.setIfInBounds_toArray, List.set_cons_zero, List.set_cons_succ])
          refine wpAnyH_take (i := 3) (oi := _) (v := ?v310) rfl (by kernel_rfl) (by kernel_rfl) (by kernel_rfl) (fun _ _ _ h => h) (Or.inl ⟨by rfl, ?hy310⟩) (by assumption) ?rest310
          case hy310 => ((intro w hSw; (try dsimp only at hSw); go_simp); try (with_reducible rfl))
          ((try dsimp only [List.getElem_toArray, List.getElem_cons_succ, List.getElem_cons_zero]); try simp only [Act.put, List.setIfInBounds_toArray, List.set_cons_zero, List.set_cons_succ])
          refine wpAnyH_take (i := 4) (oi := _) (v := ?v311) rfl (by kernel_rfl) (by kernel_rfl) (by kernel_rfl) (fun _ _ _ h => h) (Or.inl ⟨by rfl, ?hy311⟩) (by assumption) ?rest311
          case hy311 => ((intro w hSw; (try dsimp only at hSw); go_simp); try (with_reducible rfl))
          ((try dsimp only [List.getElem_toArray, List.getElem_cons_succ, List.getElem_cons_zero]); try simp only [Act.put, List.setIfInBounds_toArray, List.set_cons_zero, List.set_cons_succ])
          refine wpAnyH_take (i := 5) (oi := _) (v := ?v312) rfl (by kernel_rfl) (by kernel_rfl) (by kernel_rfl) (fun _ _ _ h => h) (Or.inl ⟨by rfl, ?hy312⟩) (by assumption) ?rest312
          case hy312 => ((intro w hSw; (try dsimp only at hSw); go_simp); try (with_reducible rfl))
          ((try dsimp only [List.getElem_toArray, List.getElem_cons_succ, List.getElem_cons_zero]); try simp only [Act.put, List.setIfInBounds_toArray, List.set_cons_zero, List.set_cons_succ])
          refine wpAnyH_take (i := 6) (oi := _) (v := ?v313) rfl (by kernel_rfl) (by kernel_rfl) (by kernel_rfl) (fun _ _ _ h => h) (Or.inl ⟨by rfl, ?hy313⟩) (by assumption) ?rest313
          case hy313 => ((intro w hSw; (try dsimp only at hSw); go_simp); try (with_reducible rfl))
          ((try dsimp only [List.getElem_toArray, List.getElem_cons_succ, List.getElem_cons_zero]); try simp only [Act.put, List.setIfInBounds_toArray, List.set_cons_zero, List.set_cons_succ])
          refine wpAnyH_take (i := 7) (oi := _) (v := ?v314) rfl (by kernel_rfl) (by kernel_rfl) (by kernel_rfl) (fun _ _ _ h => h) (Or.inl ⟨by rfl, ?hy314⟩) (by assumption) ?rest314
          case hy314 => ((intro w hSw; (try dsimp only at hSw); go_simp); try (with_reducible rfl))
          ((try dsimp only [List.getElem_toArray, List.getElem_cons_succ, List.getElem_cons_zero]); try simp only [Act.put, List.setIfInBounds_toArray, List.set_cons_zero, List.set_cons_succ])
          refine wpAnyH_take (i := 8) (oi := _) (v := ?v315) rfl (by kernel_rfl) (by kernel_rfl) (by kernel_rfl) (fun _ _ _ h => h) (Or.inl ⟨by rfl, ?hy315⟩) (by assumption) ?rest315
          case hy315 => ((intro w hSw; (try dsimp only at hSw); go_simp); try (with_reducible rfl))
          ((try dsimp only [List.getElem_toArray, List.getElem_cons_succ, List.getElem_cons_zero]); try simp only [Act.put, List.setIfInBounds_toArray, List.set_cons_zero, List.set_cons_succ])
          refine wpAnyH_take (i := 9) (oi := _) (v := ?v316) rfl (by kernel_rfl) (by kernel_rfl) (by kernel_rfl) (fun _ _ _ h => h) (Or.inl ⟨by rfl, ?hy316⟩) (by assumption) ?rest316
          case hy316 => ((intro w hSw; (try dsimp only at hSw); go_simp); try (with_reducible rfl))
          ((try dsimp only [List.getElem_toArray, List.getElem_cons_succ, List.getElem_cons_zero]); try simp only [Act.put, List.setIfInBounds_toArray, List.set_cons_zero, List.set_cons_succ])
          refine wpAnyH_take (i := 10) (oi := _) (v := ?v317) rfl (by kernel_rfl) (by kernel_rfl) (by kernel_rfl) (fun _ _ _ h => h) (Or.inl ⟨by rfl, ?hy317⟩) (by assumption) ?rest317
          case hy317 => ((intro w hSw; (try dsimp only at hSw); go_simp); try (with_reducible rfl))
          ((try dsimp only [List.getElem_toArray, List.getElem_cons_succ, List.getElem_cons_zero]); try simp only [Act.put, List.setIfInBounds_toArray, List.set_cons_zero, List.set_cons_succ])
          refine wpAnyH_take (i := 11) (oi := _) (v := ?v318) rfl (by kernel_rfl) (by kernel_rfl) (by kernel_rfl) (fun _ _ _ h => h) (Or.inl ⟨by rfl, ?hy318⟩) (by assumption) ?rest318
          case hy318 => ((intro w hSw; (try dsimp only at hSw); go_simp); try (with_reducible rfl))
          ((try dsimp only [List.getElem_toArray, List.getElem_cons_succ, List.getElem_cons_zero]); try simp only [Act.put, List.setIfInBounds_toArray, List.set_cons_zero, List.set_cons_succ])
          refine wpAnyH_take (i := 12) (oi := _) (v := ?v319) rfl (by kernel_rfl) (by kernel_rfl) (by kernel_rfl) (fun _ _ _ h => h) (Or.inl ⟨by rfl, ?hy319⟩) (by assumption) ?rest319
          case hy319 => ((intro w hSw; (try dsimp only at hSw); go_simp); try (with_reducible rfl))
          ((try dsimp only [List.getElem_toArray, List.getElem_cons_succ, List.getElem_cons_zero]); try simp only [Act.put, List.setIfInBounds_toArray, List.set_cons_zero, List.set_cons_succ])
          refine wpAnyH_take (i := 13) (oi := _) (v := ?v320) rfl (by kernel_rfl) (by kernel_rfl) (by kernel_rfl) (fun _ _ _ h => h) (Or.inl ⟨by rfl, ?hy320⟩) (by assumption) ?rest320
          case hy320 => ((intro w hSw; (try dsimp only at hSw); go_simp); try (with_reducible rfl))
          ((try dsimp only [List.getElem_toArray, List.getElem_cons_succ, List.getElem_cons_zero]); try simp only [Act.put, List.setIfInBounds_toArray, List.set_cons_zero, List.set_cons_succ])
          refine wpAnyH_take (i := 14) (oi := _) (v := ?v321) rfl (by kernel_rfl) (by kernel_rfl) (by kernel_rfl) (fun _ _ _ h => h) (Or.inl ⟨by rfl, ?hy321⟩) (by assumption) ?rest321
          case hy321 => ((intro w hSw; (try dsimp only at hSw); go_simp); try (with_reducible rfl))
          ((try dsimp only [List.getElem_toArray, List.getElem_cons_succ, List.getElem_cons_zero]); try simp only [Act.put, List.setIfInBounds_toArray, List.set_cons_zero, List.set_cons_succ])
          refine wpAnyH_take (i := 15) (oi := _) (v := ?v322) rfl (by kernel_rfl) (by kernel_rfl) (by kernel_rfl) (fun _ _ _ h => h) (Or.inl ⟨by rfl, ?hy322⟩) (by assumption) ?rest322
          case hy322 => ((intro w hSw; (try dsimp only at hSw); go_simp); try (with_reducible rfl))
          ((try dsimp only [List.getElem_toArray, List.getElem_cons_succ, List.getElem_cons_zero]); try simp only [Act.put, List.setIfInBounds_toArray, List.set_cons_zero, List.set_cons_succ])
          refine wpAnyH_take (i := 16) (oi := _) (v := ?v323) rfl (by kernel_rfl) (by kernel_rfl) (by kernel_rfl) (fun _ _ _ h => h) (Or.inl ⟨by rfl, ?hy323⟩) (by assumption) ?rest323
          case hy323 => ((intro w hSw; (try dsimp only at hSw); go_simp); try (with_reducible rfl))
          ((try dsimp only [List.getElem_toArray, List.getElem_cons_succ, List.getElem_cons_zero]); try simp only [Act.put, List.setIfInBounds_toArray, List.set_cons_zero, List.set_cons_succ])
          refine wpAnyH_take (i := 17) (oi := _) (v := _) rfl (by kernel_rfl) (by kernel_rfl) (by kernel_rfl) (fun _ _ _ h => h) (Or.inr ⟨by rfl, rfl⟩) (by assumption) ?rest324
          ((try dsimp only [List.getElem_toArray, List.getElem_cons_succ, List.getElem_cons_zero]); try simp only [Act.put, List.setIfInBounds_toArray, List.set_cons_zero, List.set_cons_succ])
          refine wpAnyH_take (i := 18) (oi := _) (v := _) rfl (by kernel_rfl) (by kernel_rfl) (by kernel_rfl) (fun _ _ _ h => h) (Or.inr ⟨by rfl, rfl⟩) (by assumption) ?rest325
          ((try dsimp only [List.getElem_toArray, List.getElem_cons_succ, List.getElem_cons_zero]); try simp only [Act.put, List.setIfInBounds_toArray, List.set_cons_zero, List.set_cons_succ])
          refine wpAnyH_take (i := 19) (oi := _) (v := _) rfl (by kernel_rfl) (by kernel_rfl) (by kernel_rfl) (fun _ _ _ h => h) (Or.inr ⟨by rfl, rfl⟩) (by assumption) ?rest326
          ((try dsimp only [List.getElem_toArray, List.getElem_cons_succ, List.getElem_cons_zero]); try simp only [Act.put, List.setIfInBounds_toArray, List.set_cons_zero, List.set_cons_succ])
          refine wpAnyH_take (i := 20) (oi := _) (v := _) rfl (by kernel_rfl) (by kernel_rfl) (by kernel_rfl) (fun _ _ _ h => h) (Or.inr ⟨by rfl, rfl⟩) (by assumption) ?rest327
          ((try dsimp only [List.getElem_toArray, List.getElem_cons_succ, List.getElem_cons_zero]); try simp only [Act.put, List.setIfInBounds_toArray, List.set_cons_zero, List.set_cons_succ])
          refine wpAnyH_take (i := 21) (oi := _) (v := _) rfl (by kernel_rfl) (by kernel_rfl) (by kernel_rfl) (fun _ _ _ h => h) (Or.inr ⟨by rfl, rfl⟩) (by assumption) ?rest328
          ((try dsimp only [List.getElem_toArray, List.getElem_cons_succ, List.getElem_cons_zero]); try simp only [Act.put, List.setIfInBounds_toArray, List.set_cons_zero, List.set_cons_succ])
          refine wpAnyH_take (i := 22) (oi := _) (v := _) rfl (by kernel_rfl) (by kernel_rfl) (by kernel_rfl) (fun _ _ _ h => h) (Or.inr ⟨by rfl, rfl⟩) (by assumption) ?rest329
          ((try dsimp only [List.getElem_toArray, List.getElem_cons_succ, List.getElem_cons_zero]); try simp only [Act.put, List.setIfInBounds_toArray, List.set_cons_zero, List.set_cons_succ])
          refine wpAnyH_take (i := 23) (oi := _) (v := ?v330) rfl (by kernel_rfl) (by kernel_rfl) (by kernel_rfl) (fun _ _ _ h => h) (Or.inl ⟨by rfl, ?hy330⟩) (by assumption) ?rest330
          case hy330 => ((intro w hSw; (try dsimp only at hSw); go_simp); try (with_reducible rfl))
          ((try dsimp only [List.getElem_toArray, List.getElem_cons_succ, List.getElem_cons_zero]); try simp only [Act.put, List.setIfInBounds_toArray, List.set_cons_zero, List.set_cons_succ])
          refine wpAnyH_take (i := 24) (oi := _) (v := ?v331) rfl (by kernel_rfl) (by kernel_rfl) (by kernel_rfl) (fun _ _ _ h => h) (Or.inl ⟨by rfl, ?hy331⟩) (by assumption) ?rest331
          case hy331 => ((intro w hSw; (try dsimp only at hSw); go_simp); try (with_reducible rfl))
          ((try dsimp only [List.getElem_toArray, List.getElem_cons_succ, List.getElem_cons_zero]); try simp only [Act.put, List.setIfInBounds_toArray, List.set_cons_zero, List.set_cons_succ])
          refine wpAnyH_take (i := 25) (oi := _) (v := _) rfl (by kernel_rfl) (by kernel_rfl) (by kernel_rfl) (fun _ _ _ h => h) (Or.inr ⟨by rfl, rfl⟩) (by assumption) ?rest332
          ((try dsimp only [List.getElem_toArray, List.getElem_cons_succ, List.getElem_cons_zero]); try simp only [Act.put, List.setIfInBounds_toArray, List.set_cons_zero, List.set_cons_succ])
          refine wpAnyH_take (i := 26) (oi := _) (v := _) rfl (by kernel_rfl) (by kernel_rfl) (by kernel_rfl) (fun _ _ _ h => h) (Or.inr ⟨by rfl, rfl⟩) (by assumption) ?rest333
          ((try dsimp only [List.getElem_toArray, List.getElem_cons_succ, List.getElem_cons_zero]); try simp only [Act.put, List.setIfInBounds_toArray, List.set_cons_zero, List.set_cons_succ])
          refine wpAnyH_take (i := 27) (oi := _) (v := _) rfl (by kernel_rfl) (by kernel_rfl) (by kernel_rfl) (fun _ _ _ h => h) (Or.inr ⟨by rfl, rfl⟩) (by assumption) ?rest334
          ((try dsimp only [List.getElem_toArray, List.getElem_cons_succ, List.getElem_cons_zero]); try simp only [Act.put, List.setIfInBounds_toArray, List.set_cons_zero, List.set_cons_succ])
          refine wpAnyH_take (i := 28) (oi := _) (v := _) rfl (by kernel_rfl) (by kernel_rfl) (by kernel_rfl) (fun _ _ _ h => h) (Or.inr ⟨by rfl, rfl⟩) (by assumption) ?rest335
          ((try dsimp only [List.getElem_toArray, List.getElem_cons_succ, List.getElem_cons_zero]); try simp only [Act.put, List.setIfInBounds_toArray, List.set_cons_zero, List.set_cons_succ])
          refine wpAnyH_take (i := 29) (oi := _) (v := _) rfl (by kernel_rfl) (by kernel_rfl) (by kernel_rfl) (fun _ _ _ h => h) (Or.inr ⟨by rfl, rfl⟩) (by assumption) ?rest336
          ((try dsimp only [List.getElem_toArray, List.getElem_cons_succ, List.getElem_cons_zero]); try simp only [Act.put, List.setIfInBounds_toArray, List.set_cons_zero, List.set_cons_succ])
          refine wpAnyH_take (i := 30) (oi := _) (v := ?v337) rfl (by kernel_rfl) (by kernel_rfl) (by kernel_rfl) (fun _ _ _ h => h) (Or.inl ⟨by rfl, ?hy337⟩) (by assumption) ?rest337
          case hy337 => ((intro w hSw; (try dsimp only at hSw); go_simp); try (with_reducible rfl))
          ((try dsimp only [List.getElem_toArray, List.getElem_cons_succ, List.getElem_cons_zero]); try simp only [Act.put, List.setIfInBounds_toArray, List.set_cons_zero, List.set_cons_succ])
          refine wpAnyH_take (i := 31) (oi := _) (v := ?v338) rfl (by kernel_rfl) (by kernel_rfl) (by kernel_rfl) (fun _ _ _ h => h) (Or.inl ⟨by rfl, ?hy338⟩) (by assumption) ?rest338
          case hy338 => ((intro w hSw; (try dsimp only at hSw); go_simp); try (with_reducible rfl))
          ((try dsimp only [List.getElem_toArray, List.getElem_cons_succ, List.getElem_cons_zero]); try simp only [Act.put, List.setIfInBounds_toArray, List.set_cons_zero, List.set_cons_succ])
          refine wpAnyH_take (i := 32) (oi := _) (v := _) rfl (by kernel_rfl) (by kernel_rfl) (by kernel_rfl) (fun _ _ _ h => h) (Or.inr ⟨by rfl, rfl⟩) (by assumption) ?rest339
          ((try dsimp only [List.getElem_toArray, List.getElem_cons_succ, List.getElem_cons_zero]); try simp only [Act.put, List.setIfInBounds_toArray, List.set_cons_zero, List.set_cons_succ])
          refine wpAnyH_take (i := 33) (oi := _) (v := _) rfl (by kernel_rfl) (by kernel_rfl) (by kernel_rfl) (fun _ _ _ h => h) (Or.inr ⟨by rfl, rfl⟩) (by assumption) ?rest340
          ((try dsimp only [List.getElem_toArray, List.getElem_cons_succ, List.getElem_cons_zero]); try simp only [Act.put, List.setIfInBounds_toArray, List.set_cons_zero, List.set_cons_succ])
          refine wpAnyH_take (i := 34) (oi := _) (v := _) rfl (by kernel_rfl) (by kernel_rfl) (by kernel_rfl) (fun _ _ _ h => h) (Or.inr ⟨by rfl, rfl⟩) (by assumption) ?rest341
          ((try dsimp only [List.getElem_toArray, List.getElem_cons_succ, List.getElem_cons_zero]); try simp only [Act.put, List.setIfInBounds_toArray, List.set_cons_zero, List.set_cons_succ])
          refine wpAnyH_take (i := 35) (oi := _) (v := _) rfl (by kernel_rfl) (by kernel_rfl) (by kernel_rfl) (fun _ _ _ h => h) (Or.inr ⟨by rfl, rfl⟩) (by assumption) ?rest342
          ((try dsimp only [List.getElem_toArray, List.getElem_cons_succ, List.getElem_cons_zero]); try simp only [Act.put, List.setIfInBounds_toArray, List.set_cons_zero, List.set_cons_succ])
          refine wpAnyH_take (i := 36) (oi := _) (v := _) rfl (by kernel_rfl) (by kernel_rfl) (by kernel_rfl) (fun _ _ _ h => h) (Or.inr ⟨by rfl, rfl⟩) (by assumption) ?rest343
          ((try dsimp only [List.getElem_toArray, List.getElem_cons_succ, List.getElem_cons_zero]); try simp only [Act.put, List.setIfInBounds_toArray, List.set_cons_zero, List.set_cons_succ])
          refine wpAnyH_take (i := 37) (oi := _) (v := ?v344) rfl (by kernel_rfl) (by kernel_rfl) (by kernel_rfl) (fun _ _ _ h => h) (Or.inl ⟨by rfl, ?hy344⟩) (by assumption) ?rest344
          case hy344 => ((intro w hSw; (try dsimp only at hSw); go_simp); try (with_reducible rfl))
          ((try dsimp only [List.getElem_toArray, List.getElem_cons_succ, List.getElem_cons_zero]); try simp only [Act.put, List.setIfInBounds_toArray, List.set_cons_zero, List.set_cons_succ])
          refine wpAnyH_take (i := 38) (oi := _) (v := ?v345) rfl (by kernel_rfl) (by kernel_rfl) (by kernel_rfl) (fun _ _ _ h => h) (Or.inl ⟨by rfl, ?hy345⟩) (by assumption) ?rest345
          case hy345 => ((intro w hSw; (try dsimp only at hSw); go_simp); try (with_reducible rfl))
          ((try dsimp only [List.getElem_toArray, List.getElem_cons_succ, List.getElem_cons_zero]); try simp only [Act.put, List.setIfInBounds_toArray, List.set_cons_zero, List.set_cons_succ])
          refine wpAnyH_take (i := 39) (oi := _) (v := ?v346) rfl (by kernel_rfl) (by kernel_rfl) (by kernel_rfl) (fun _ _ _ h => h) (Or.inl ⟨by rfl, ?hy346⟩) (by assumption) ?rest346
          case hy346 => ((intro w hSw; (try dsimp only at hSw); go_simp); try (with_reducible rfl))
          ((try dsimp only [List.getElem_toArray, List.getElem_cons_succ, List.getElem_cons_zero]); try simp only [Act.put, List.setIfInBounds_toArray, List.set_cons_zero, List.set_cons_succ])
          refine wpAnyH_done (by kernel_rfl) ?_ _
          go_wp2
          go_ret
          exact BoolIs.no rfl (fun h => by rcases HW.out.1 h with h | h; exact absurd h HKN.out; have h1 := h.2.1; have h2 := H2.out; (try simp only at h1); omega) (gr_then HGW.out (gr_then (gr_dr (gr_rfl w7)) hx))
        have h2d : decide (km ≤ qm) = true := decide_eq_true h2
        have H2 := Lib.hid h2
        by_cases h3 : z = 0
        rotate_left
        · have h3d : (z == 0) = false := by rw [beq_eq_false_iff_ne]; exact h3
          have H3 := Lib.hid h3
          clear h3
          have HK := Lib.hid (show ∀ w', w7.grownBy w' none → (w'.cell? ⟨w.heap.size, 0, none⟩ = some (.int .i64 1) ∧ w'.cell? ⟨w.heap.size, 1, none⟩ = some (.int .i64 km) ∧ w'.cell? ⟨w.heap.size, 2, none⟩ = some (.int .i64 kc) ∧ w'.cell? ⟨w.heap.size, 3, none⟩ = some (.string kb) ∧ w'.cell? ⟨w.heap.size, 4, none⟩ = some (.string ke) ∧ w'.cell? ⟨w.heap.size + 1, 0, none⟩ = some (.int .i64 ql) ∧ w'.cell? ⟨w.heap.size + 1, 1, none⟩ = some (.int .i64 qm) ∧ w'.cell? ⟨w.heap.size + 1, 2, none⟩ = some (.int .i64 qc) ∧ w'.cell? ⟨w.heap.size + 1, 3, none⟩ = some (.string qb) ∧ w'.cell? ⟨w.heap.size + 1, 4, none⟩ = some (.string qe)) from fun w' h => ⟨(HRA.out.kept h).cell 0 _ rfl, (HRA.out.kept h).cell 1 _ rfl, (HRA.out.kept h).cell 2 _ rfl, (HRA.out.kept h).cell 3 _ rfl, (HRA.out.kept h).cell 4 _ rfl, (HRB.out.kept h).cell 0 _ rfl, (HRB.out.kept h).cell 1 _ rfl, (HRB.out.kept h).cell 2 _ rfl, (HRB.out.kept h).cell 3 _ rfl, (HRB.out.kept h).cell 4 _ rfl⟩)
          go_wp2_with fail
          refine wp_region_held_drew (S := (fun w' => w'.cell? ⟨w.heap.size, 0, none⟩ = some (.int .i64 1) ∧ w'.cell? ⟨w.heap.size, 1, none⟩ = some (.int .i64 km) ∧ w'.cell? ⟨w.heap.size, 2, none⟩ = some (.int .i64 kc) ∧ w'.cell? ⟨w.heap.size, 3, none⟩ = some (.string kb) ∧ w'.cell? ⟨w.heap.size, 4, none⟩ = some (.string ke) ∧ w'.cell? ⟨w.heap.size + 1, 0, none⟩ = some (.int .i64 ql) ∧ w'.cell? ⟨w.heap.size + 1, 1, none⟩ = some (.int .i64 qm) ∧ w'.cell? ⟨w.heap.size + 1, 2, none⟩ = some (.int .i64 qc) ∧ w'.cell? ⟨w.heap.size + 1, 3, none⟩ = some (.string qb) ∧ w'.cell? ⟨w.heap.size + 1, 4, none⟩ = some (.string qe))) (by kernel_rfl) ?_ (fun hHeld => ?_)
          · refine HK.out _ ?_; (repeat (first | (with_reducible exact gr_rfl _) | (with_reducible refine gr_dr ?_) | (with_reducible refine gr_then ?_ hx)))
          refine wpAnyH_take (i := 0) (oi := _) (v := ?v347) rfl (by kernel_rfl) (by kernel_rfl) (by kernel_rfl) (fun _ _ _ h => h) (Or.inl ⟨by rfl, ?hy347⟩) (by assumption) ?rest347
          case hy347 => ((intro w hSw; (try dsimp only at hSw); go_simp); try (with_reducible rfl))
          ((try dsimp only [List.getElem_toArray, List.getElem_cons_succ, List.getElem_cons_zero]); try simp only [Act.put, List.setIfInBounds_toArray, List.set_cons_zero, List.set_cons_succ])
          refine wpAnyH_ready (rs := [1]) (by kernel_rfl) (by simp) ?_
          refine AllReadyH.cons (o := _) rfl (fun K hK => ?_) AllReadyH.nil
          go_simp
          go_at_call 43; (with_reducible refine (HNS.out _).mono ?_); rintro ex wx ⟨rfl, hx⟩
          refine hK.out _ _ ?_ (fun hHeld => ?_)
          · (try dsimp only); refine HK.out _ ?_; (repeat (first | (with_reducible exact gr_rfl _) | (with_reducible refine gr_dr ?_) | (with_reducible refine gr_then ?_ hx)))
          clear hK K
          ((try dsimp only [List.getElem_toArray, List.getElem_cons_succ, List.getElem_cons_zero]); try simp only [Act.put, List.setIfInBounds_toArray, List.set_cons_zero, List.set_cons_succ])
          refine wpAnyH_take (i := 2) (oi := _) (v := ?v348) rfl (by kernel_rfl) (by kernel_rfl) (by kernel_rfl) (fun _ _ _ h => h) (Or.inl ⟨by rfl, ?hy348⟩) (by assumption) ?rest348
          case hy348 => ((intro w hSw; (try dsimp only at hSw); go_simp); try (with_reducible rfl))
          ((try dsimp only [List.getElem_toArray, List.getElem_cons_succ, List.getElem_cons_zero]); try simp only [Act.put, List.setIfInBounds_toArray, List.set_cons_zero, List.set_cons_succ])
          refine wpAnyH_take (i := 3) (oi := _) (v := ?v349) rfl (by kernel_rfl) (by kernel_rfl) (by kernel_rfl) (fun _ _ _ h => h) (Or.inl ⟨by rfl, ?hy349⟩) (by assumption) ?rest349
          case hy349 => ((intro w hSw; (try dsimp only at hSw); go_simp); try (with_reducible rfl))
          ((try dsimp only [List.getElem_toArray, List.getElem_cons_succ, List.getElem_cons_zero]); try simp only [Act.put, List.setIfInBounds_toArray, List.set_cons_zero, List.set_cons_succ])
          refine wpAnyH_take (i := 4) (oi := _) (v := ?v350) rfl (by kernel_rfl) (by kernel_rfl) (by kernel_rfl) (fun _ _ _ h => h) (Or.inl ⟨by rfl, ?hy350⟩) (by assumption) ?rest350
          case hy350 => ((intro w hSw; (try dsimp only at hSw); go_simp); try (with_reducible rfl))
          ((try dsimp only [List.getElem_toArray, List.getElem_cons_succ, List.getElem_cons_zero]); try simp only [Act.put, List.setIfInBounds_toArray, List.set_cons_zero, List.set_cons_succ])
          refine wpAnyH_take (i := 5) (oi := _) (v := ?v351) rfl (by kernel_rfl) (by kernel_rfl) (by kernel_rfl) (fun _ _ _ h => h) (Or.inl ⟨by rfl, ?hy351⟩) (by assumption) ?rest351
          case hy351 => ((intro w hSw; (try dsimp only at hSw); go_simp); try (with_reducible rfl))
          ((try dsimp only [List.getElem_toArray, List.getElem_cons_succ, List.getElem_cons_zero]); try simp only [Act.put, List.setIfInBounds_toArray, List.set_cons_zero, List.set_cons_succ])
          refine wpAnyH_take (i := 6) (oi := _) (v := ?v352) rfl (by kernel_rfl) (by kernel_rfl) (by kernel_rfl) (fun _ _ _ h => h) (Or.inl ⟨by rfl, ?hy352⟩) (by assumption) ?rest352
          case hy352 => ((intro w hSw; (try dsimp only at hSw); go_simp); try (with_reducible rfl))
          ((try dsimp only [List.getElem_toArray, List.getElem_cons_succ, List.getElem_cons_zero]); try simp only [Act.put, List.setIfInBounds_toArray, List.set_cons_zero, List.set_cons_succ])
          refine wpAnyH_take (i := 7) (oi := _) (v := ?v353) rfl (by kernel_rfl) (by kernel_rfl) (by kernel_rfl) (fun _ _ _ h => h) (Or.inl ⟨by rfl, ?hy353⟩) (by assumption) ?rest353
          case hy353 => ((intro w hSw; (try dsimp only at hSw); go_simp); try (with_reducible rfl))
          ((try dsimp only [List.getElem_toArray, List.getElem_cons_succ, List.getElem_cons_zero]); try simp only [Act.put, List.setIfInBounds_toArray, List.set_cons_zero, List.set_cons_succ])
          refine wpAnyH_take (i := 8) (oi := _) (v := ?v354) rfl (by kernel_rfl) (by kernel_rfl) (by kernel_rfl) (fun _ _ _ h => h) (Or.inl ⟨by rfl, ?hy354⟩) (by assumption) ?rest354
          case hy354 => ((intro w hSw; (try dsimp only at hSw); go_simp); try (with_reducible rfl))
          ((try dsimp only [List.getElem_toArray, List.getElem_cons_succ, List.getElem_cons_zero]); try simp only [Act.put, List.setIfInBounds_toArray, List.set_cons_zero, List.set_cons_succ])
          refine wpAnyH_take (i := 9) (oi := _) (v := ?v355) rfl (by kernel_rfl) (by kernel_rfl) (by kernel_rfl) (fun _ _ _ h => h) (Or.inl ⟨by rfl, ?hy355⟩) (by assumption) ?rest355
          case hy355 => ((intro w hSw; (try dsimp only at hSw); go_simp); try (with_reducible rfl))
          ((try dsimp only [List.getElem_toArray, List.getElem_cons_succ, List.getElem_cons_zero]); try simp only [Act.put, List.setIfInBounds_toArray, List.set_cons_zero, List.set_cons_succ])
          refine wpAnyH_take (i := 10) (oi := _) (v := ?v356) rfl (by kernel_rfl) (by kernel_rfl) (by kernel_rfl) (fun _ _ _ h => h) (Or.inl ⟨by rfl, ?hy356⟩) (by assumption) ?rest356
          case hy356 => ((intro w hSw; (try dsimp only at hSw); go_simp); try (with_reducible rfl))
          ((try dsimp only [List.getElem_toArray, List.getElem_cons_succ, List.getElem_cons_zero]); try simp only [Act.put, List.setIfInBounds_toArray, List.set_cons_zero, List.set_cons_succ])
          refine wpAnyH_take (i := 11) (oi := _) (v := ?v357) rfl (by kernel_rfl) (by kernel_rfl) (by kernel_rfl) (fun _ _ _ h => h) (Or.inl ⟨by rfl, ?hy357⟩) (by assumption) ?rest357
          case hy357 => ((intro w hSw; (try dsimp only at hSw); go_simp); try (with_reducible rfl))
          ((try dsimp only [List.getElem_toArray, List.getElem_cons_succ, List.getElem_cons_zero]); try simp only [Act.put, List.setIfInBounds_toArray, List.set_cons_zero, List.set_cons_succ])
          refine wpAnyH_take (i := 12) (oi := _) (v := ?v358) rfl (by kernel_rfl) (by kernel_rfl) (by kernel_rfl) (fun _ _ _ h => h) (Or.inl ⟨by rfl, ?hy358⟩) (by assumption) ?rest358
          case hy358 => ((intro w hSw; (try dsimp only at hSw); go_simp); try (with_reducible rfl))
          ((try dsimp only [List.getElem_toArray, List.getElem_cons_succ, List.getElem_cons_zero]); try simp only [Act.put, List.setIfInBounds_toArray, List.set_cons_zero, List.set_cons_succ])
          refine wpAnyH_take (i := 13) (oi := _) (v := ?v359) rfl (by kernel_rfl) (by kernel_rfl) (by kernel_rfl) (fun _ _ _ h => h) (Or.inl ⟨by rfl, ?hy359⟩) (by assumption) ?rest359
          case hy359 => ((intro w hSw; (try dsimp only at hSw); go_simp); try (with_reducible rfl))
          ((try dsimp only [List.getElem_toArray, List.getElem_cons_succ, List.getElem_cons_zero]); try simp only [Act.put, List.setIfInBounds_toArray, List.set_cons_zero, List.set_cons_succ])
          refine wpAnyH_take (i := 14) (oi := _) (v := ?v360) rfl (by kernel_rfl) (by kernel_rfl) (by kernel_rfl) (fun _ _ _ h => h) (Or.inl ⟨by rfl, ?hy360⟩) (by assumption) ?rest360
          case hy360 => ((intro w hSw; (try dsimp only at hSw); go_simp); try (with_reducible rfl))
          ((try dsimp only [List.getElem_toArray, List.getElem_cons_succ, List.getElem_cons_zero]); try simp only [Act.put, List.setIfInBounds_toArray, List.set_cons_zero, List.set_cons_succ])
          refine wpAnyH_take (i := 15) (oi := _) (v := ?v361) rfl (by kernel_rfl) (by kernel_rfl) (by kernel_rfl) (fun _ _ _ h => h) (Or.inl ⟨by rfl, ?hy361⟩) (by assumption) ?rest361
          case hy361 => ((intro w hSw; (try dsimp only at hSw); go_simp); try (with_reducible rfl))
          ((try dsimp only [List.getElem_toArray, List.getElem_cons_succ, List.getElem_cons_zero]); try simp only [Act.put, List.setIfInBounds_toArray, List.set_cons_zero, List.set_cons_succ])
          refine wpAnyH_take (i := 16) (oi := _) (v := ?v362) rfl (by kernel_rfl) (by kernel_rfl) (by kernel_rfl) (fun _ _ _ h => h) (Or.inl ⟨by rfl, ?hy362⟩) (by assumption) ?rest362
          case hy362 => ((intro w hSw; (try dsimp only at hSw); go_simp); try (with_reducible rfl))
          ((try dsimp only [List.getElem_toArray, List.getElem_cons_succ, List.getElem_cons_zero]); try simp only [Act.put, List.setIfInBounds_toArray, List.set_cons_zero, List.set_cons_succ])
          refine wpAnyH_take (i := 17) (oi := _) (v := ?v363) rfl (by kernel_rfl) (by kernel_rfl) (by kernel_rfl) (fun _ _ _ h => h) (Or.inl ⟨by rfl, ?hy363⟩) (by assumption) ?rest363
          case hy363 => ((intro w hSw; (try dsimp only at hSw); go_simp); try (with_reducible rfl))
          ((try dsimp only [List.getElem_toArray, List.getElem_cons_succ, List.getElem_cons_zero]); try simp only [Act.put, List.setIfInBounds_toArray, List.set_cons_zero, List.set_cons_succ])
          refine wpAnyH_take (i := 18) (oi := _) (v := ?v364) rfl (by kernel_rfl) (by kernel_rfl) (by kernel_rfl) (fun _ _ _ h => h) (Or.inl ⟨by rfl, ?hy364⟩) (by assumption) ?rest364
          case hy364 => ((intro w hSw; (try dsimp only at hSw); go_simp); try (with_reducible rfl))
          ((try dsimp only [List.getElem_toArray, List.getElem_cons_succ, List.getElem_cons_zero]); try simp only [Act.put, List.setIfInBounds_toArray, List.set_cons_zero, List.set_cons_succ])
          refine wpAnyH_take (i := 19) (oi := _) (v := ?v365) rfl (by kernel_rfl) (by kernel_rfl) (by kernel_rfl) (fun _ _ _ h => h) (Or.inl ⟨by rfl, ?hy365⟩) (by assumption) ?rest365
          case hy365 => ((intro w hSw; (try dsimp only at hSw); go_simp); try (with_reducible rfl))
          ((try dsimp only [List.getElem_toArray, List.getElem_cons_succ, List.getElem_cons_zero]); try simp only [Act.put, List.setIfInBounds_toArray, List.set_cons_zero, List.set_cons_succ])
          refine wpAnyH_take (i := 20) (oi := _) (v := ?v366) rfl (by kernel_rfl) (by kernel_rfl) (by kernel_rfl) (fun _ _ _ h => h) (Or.inl ⟨by rfl, ?hy366⟩) (by assumption) ?rest366
          case hy366 => ((intro w hSw; (try dsimp only at hSw); go_simp); try (with_reducible rfl))
          ((try dsimp only [List.getElem_toArray, List.getElem_cons_succ, List.getElem_cons_zero]); try simp only [Act.put, List.setIfInBounds_toArray, List.set_cons_zero, List.set_cons_succ])
          refine wpAnyH_take (i := 21) (oi := _) (v := ?v367) rfl (by kernel_rfl) (by kernel_rfl) (by kernel_rfl) (fun _ _ _ h => h) (Or.inl ⟨by rfl, ?hy367⟩) (by assumption) ?rest367
          case hy367 => ((intro w hSw; (try dsimp only at hSw); go_simp); try (with_reducible rfl))
          ((try dsimp only [List.getElem_toArray, List.getElem_cons_succ, List.getElem_cons_zero]); try simp only [Act.put, List.setIfInBounds_toArray, List.set_cons_zero, List.set_cons_succ])
          refine wpAnyH_take (i := 22) (oi := _) (v := ?v368) rfl (by kernel_rfl) (by kernel_rfl) (by kernel_rfl) (fun _ _ _ h => h) (Or.inl ⟨by rfl, ?hy368⟩) (by assumption) ?rest368
          case hy368 => ((intro w hSw; (try dsimp only at hSw); go_simp); try (with_reducible rfl))
          ((try dsimp only [List.getElem_toArray, List.getElem_cons_succ, List.getElem_cons_zero]); try simp only [Act.put, List.setIfInBounds_toArray, List.set_cons_zero, List.set_cons_succ])
          refine wpAnyH_take (i := 23) (oi := _) (v := ?v369) rfl (by kernel_rfl) (by kernel_rfl) (by kernel_rfl) (fun _ _ _ h => h) (Or.inl ⟨by rfl, ?hy369⟩) (by assumption) ?rest369
          case hy369 => ((intro w hSw; (try dsimp only at hSw); go_simp); try (with_reducible rfl))
          ((try dsimp only [List.getElem_toArray, List.getElem_cons_succ, List.getElem_cons_zero]); try simp only [Act.put, List.setIfInBounds_toArray, List.set_cons_zero, List.set_cons_succ])
          refine wpAnyH_take (i := 24) (oi := _) (v := ?v370) rfl (by kernel_rfl) (by kernel_rfl) (by kernel_rfl) (fun _ _ _ h => h) (Or.inl ⟨by rfl, ?hy370⟩) (by assumption) ?rest370
          case hy370 => ((intro w hSw; (try dsimp only at hSw); go_simp); try (with_reducible rfl))
          ((try dsimp only [List.getElem_toArray, List.getElem_cons_succ, List.getElem_cons_zero]); try simp only [Act.put, List.setIfInBounds_toArray, List.set_cons_zero, List.set_cons_succ])
          refine wpAnyH_take (i := 25) (oi := _) (v := _) rfl (by kernel_rfl) (by kernel_rfl) (by kernel_rfl) (fun _ _ _ h => h) (Or.inr ⟨by rfl, rfl⟩) (by assumption) ?rest371
          ((try dsimp only [List.getElem_toArray, List.getElem_cons_succ, List.getElem_cons_zero]); try simp only [Act.put, List.setIfInBounds_toArray, List.set_cons_zero, List.set_cons_succ])
          refine wpAnyH_take (i := 26) (oi := _) (v := _) rfl (by kernel_rfl) (by kernel_rfl) (by kernel_rfl) (fun _ _ _ h => h) (Or.inr ⟨by rfl, rfl⟩) (by assumption) ?rest372
          ((try dsimp only [List.getElem_toArray, List.getElem_cons_succ, List.getElem_cons_zero]); try simp only [Act.put, List.setIfInBounds_toArray, List.set_cons_zero, List.set_cons_succ])
          refine wpAnyH_take (i := 27) (oi := _) (v := _) rfl (by kernel_rfl) (by kernel_rfl) (by kernel_rfl) (fun _ _ _ h => h) (Or.inr ⟨by rfl, rfl⟩) (by assumption) ?rest373
          ((try dsimp only [List.getElem_toArray, List.getElem_cons_succ, List.getElem_cons_zero]); try simp only [Act.put, List.setIfInBounds_toArray, List.set_cons_zero, List.set_cons_succ])
          refine wpAnyH_take (i := 28) (oi := _) (v := _) rfl (by kernel_rfl) (by kernel_rfl) (by kernel_rfl) (fun _ _ _ h => h) (Or.inr ⟨by rfl, rfl⟩) (by assumption) ?rest374
          ((try dsimp only [List.getElem_toArray, List.getElem_cons_succ, List.getElem_cons_zero]); try simp only [Act.put, List.setIfInBounds_toArray, List.set_cons_zero, List.set_cons_succ])
          refine wpAnyH_take (i := 29) (oi := _) (v := _) rfl (by kernel_rfl) (by kernel_rfl) (by kernel_rfl) (fun _ _ _ h => h) (Or.inr ⟨by rfl, rfl⟩) (by assumption) ?rest375
          ((try dsimp only [List.getElem_toArray, List.getElem_cons_succ, List.getElem_cons_zero]); try simp only [Act.put, List.setIfInBounds_toArray, List.set_cons_zero, List.set_cons_succ])
          refine wpAnyH_take (i := 30) (oi := _) (v := ?v376) rfl (by kernel_rfl) (by kernel_rfl) (by kernel_rfl) (fun _ _ _ h => h) (Or.inl ⟨by rfl, ?hy376⟩) (by assumption) ?rest376
          case hy376 => ((intro w hSw; (try dsimp only at hSw); go_simp); try (with_reducible rfl))
          ((try dsimp only [List.getElem_toArray, List.getElem_cons_succ, List.getElem_cons_zero]); try simp only [Act.put, List.setIfInBounds_toArray, List.set_cons_zero, List.set_cons_succ])
          refine wpAnyH_take (i := 31) (oi := _) (v := ?v377) rfl (by kernel_rfl) (by kernel_rfl) (by kernel_rfl) (fun _ _ _ h => h) (Or.inl ⟨by rfl, ?hy377⟩) (by assumption) ?rest377
          case hy377 => ((intro w hSw; (try dsimp only at hSw); go_simp); try (with_reducible rfl))
          ((try dsimp only [List.getElem_toArray, List.getElem_cons_succ, List.getElem_cons_zero]); try simp only [Act.put, List.setIfInBounds_toArray, List.set_cons_zero, List.set_cons_succ])
          refine wpAnyH_take (i := 32) (oi := _) (v := _) rfl (by kernel_rfl) (by kernel_rfl) (by kernel_rfl) (fun _ _ _ h => h) (Or.inr ⟨by rfl, rfl⟩) (by assumption) ?rest378
          ((try dsimp only [List.getElem_toArray, List.getElem_cons_succ, List.getElem_cons_zero]); try simp only [Act.put, List.setIfInBounds_toArray, List.set_cons_zero, List.set_cons_succ])
          refine wpAnyH_take (i := 33) (oi := _) (v := _) rfl (by kernel_rfl) (by kernel_rfl) (by kernel_rfl) (fun _ _ _ h => h) (Or.inr ⟨by rfl, rfl⟩) (by assumption) ?rest379
          ((try dsimp only [List.getElem_toArray, List.getElem_cons_succ, List.getElem_cons_zero]); try simp only [Act.put, List.setIfInBounds_toArray, List.set_cons_zero, List.set_cons_succ])
          refine wpAnyH_take (i := 34) (oi := _) (v := _) rfl (by kernel_rfl) (by kernel_rfl) (by kernel_rfl) (fun _ _ _ h => h) (Or.inr ⟨by rfl, rfl⟩) (by assumption) ?rest380
          ((try dsimp only [List.getElem_toArray, List.getElem_cons_succ, List.getElem_cons_zero]); try simp only [Act.put, List.setIfInBounds_toArray, List.set_cons_zero, List.set_cons_succ])
          refine wpAnyH_take (i := 35) (oi := _) (v := _) rfl (by kernel_rfl) (by kernel_rfl) (by kernel_rfl) (fun _ _ _ h => h) (Or.inr ⟨by rfl, rfl⟩) (by assumption) ?rest381
          ((try dsimp only [List.getElem_toArray, List.getElem_cons_succ, List.getElem_cons_zero]); try simp only [Act.put, List.setIfInBounds_toArray, List.set_cons_zero, List.set_cons_succ])
          refine wpAnyH_take (i := 36) (oi := _) (v := _) rfl (by kernel_rfl) (by kernel_rfl) (by kernel_rfl) (fun _ _ _ h => h) (Or.inr ⟨by rfl, rfl⟩) (by assumption) ?rest382
          ((try dsimp only [List.getElem_toArray, List.getElem_cons_succ, List.getElem_cons_zero]); try simp only [Act.put, List.setIfInBounds_toArray, List.set_cons_zero, List.set_cons_succ])
          refine wpAnyH_take (i := 37) (oi := _) (v := ?v383) rfl (by kernel_rfl) (by kernel_rfl) (by kernel_rfl) (fun _ _ _ h => h) (Or.inl ⟨by rfl, ?hy383⟩) (by assumption) ?rest383
          case hy383 => ((intro w hSw; (try dsimp only at hSw); go_simp); try (with_reducible rfl))
          ((try dsimp only [List.getElem_toArray, List.getElem_cons_succ, List.getElem_cons_zero]); try simp only [Act.put, List.setIfInBounds_toArray, List.set_cons_zero, List.set_cons_succ])
          refine wpAnyH_take (i := 38) (oi := _) (v := ?v384) rfl (by kernel_rfl) (by kernel_rfl) (by kernel_rfl) (fun _ _ _ h => h) (Or.inl ⟨by rfl, ?hy384⟩) (by assumption) ?rest384
          case hy384 => ((intro w hSw; (try dsimp only at hSw); go_simp); try (with_reducible rfl))
          ((try dsimp only [List.getElem_toArray, List.getElem_cons_succ, List.getElem_cons_zero]); try simp only [Act.put, List.setIfInBounds_toArray, List.set_cons_zero, List.set_cons_succ])
          refine wpAnyH_take (i := 39) (oi := _) (v := ?v385) rfl (by kernel_rfl) (by kernel_rfl) (by kernel_rfl) (fun _ _ _ h => h) (Or.inl ⟨by rfl, ?hy385⟩) (by assumption) ?rest385
          case hy385 => ((intro w hSw; (try dsimp only at hSw); go_simp); try (with_reducible rfl))
          ((try dsimp only [List.getElem_toArray, List.getElem_cons_succ, List.getElem_cons_zero]); try simp only [Act.put, List.setIfInBounds_toArray, List.set_cons_zero, List.set_cons_succ])
          refine wpAnyH_done (by kernel_rfl) ?_ _
          go_wp2
          go_ret
          exact BoolIs.no rfl (fun h => by rcases HW.out.1 h with h | h; exact absurd h HKN.out; exact H3.out (HZ.out.symm.trans (HSUB.out.2 h.2.2.1))) (gr_then HGW.out (gr_then (gr_dr (gr_rfl w7)) hx))
        subst h3
        have H3 := Lib.hid (HSUB.out.1 HZ.out)
        cases hp
        · skip
          have HK := Lib.hid (show ∀ w', w7.grownBy w' none → (w'.cell? ⟨w.heap.size, 0, none⟩ = some (.int .i64 1) ∧ w'.cell? ⟨w.heap.size, 1, none⟩ = some (.int .i64 km) ∧ w'.cell? ⟨w.heap.size, 2, none⟩ = some (.int .i64 kc) ∧ w'.cell? ⟨w.heap.size, 3, none⟩ = some (.string kb) ∧ w'.cell? ⟨w.heap.size, 4, none⟩ = some (.string ke) ∧ w'.cell? ⟨w.heap.size + 1, 0, none⟩ = some (.int .i64 ql) ∧ w'.cell? ⟨w.heap.size + 1, 1, none⟩ = some (.int .i64 qm) ∧ w'.cell? ⟨w.heap.size + 1, 2, none⟩ = some (.int .i64 qc) ∧ w'.cell? ⟨w.heap.size + 1, 3, none⟩ = some (.string qb) ∧ w'.cell? ⟨w.heap.size + 1, 4, none⟩ = some (.string qe)) from fun w' h => ⟨(HRA.out.kept h).cell 0 _ rfl, (HRA.out.kept h).cell 1 _ rfl, (HRA.out.kept h).cell 2 _ rfl, (HRA.out.kept h).cell 3 _ rfl, (HRA.out.kept h).cell 4 _ rfl, (HRB.out.kept h).cell 0 _ rfl, (HRB.out.kept h).cell 1 _ rfl, (HRB.out.kept h).cell 2 _ rfl, (HRB.out.kept h).cell 3 _ rfl, (HRB.out.kept h).cell 4 _ rfl⟩)
          go_wp2_with fail
          refine wp_region_held_drew (S := (fun w' => w'.cell? ⟨w.heap.size, 0, none⟩ = some (.int .i64 1) ∧ w'.cell? ⟨w.heap.size, 1, none⟩ = some (.int .i64 km) ∧ w'.cell? ⟨w.heap.size, 2, none⟩ = some (.int .i64 kc) ∧ w'.cell? ⟨w.heap.size, 3, none⟩ = some (.string kb) ∧ w'.cell? ⟨w.heap.size, 4, none⟩ = some (.string ke) ∧ w'.cell? ⟨w.heap.size + 1, 0, none⟩ = some (.int .i64 ql) ∧ w'.cell? ⟨w.heap.size + 1, 1, none⟩ = some (.int .i64 qm) ∧ w'.cell? ⟨w.heap.size + 1, 2, none⟩ = some (.int .i64 qc) ∧ w'.cell? ⟨w.heap.size + 1, 3, none⟩ = some (.string qb) ∧ w'.cell? ⟨w.heap.size + 1, 4, none⟩ = some (.string qe))) (by kernel_rfl) ?_ (fun hHeld => ?_)
          · refine HK.out _ ?_; (repeat (first | (with_reducible exact gr_rfl _) | (with_reducible refine gr_dr ?_) | (with_reducible refine gr_then ?_ hx)))
          refine wpAnyH_take (i := 0) (oi := _) (v := ?v386) rfl (by kernel_rfl) (by kernel_rfl) (by kernel_rfl) (fun _ _ _ h => h) (Or.inl ⟨by rfl, ?hy386⟩) (by assumption) ?rest386
          case hy386 => ((intro w hSw; (try dsimp only at hSw); go_simp); try (with_reducible rfl))
          ((try dsimp only [List.getElem_toArray, List.getElem_cons_succ, List.getElem_cons_zero]); try simp only [Act.put, List.setIfInBounds_toArray, List.set_cons_zero, List.set_cons_succ])
          refine wpAnyH_ready (rs := [1]) (by kernel_rfl) (by simp) ?_
          refine AllReadyH.cons (o := _) rfl (fun K hK => ?_) AllReadyH.nil
          go_simp
          go_at_call 43; (with_reducible refine (HNS.out _).mono ?_); rintro ex wx ⟨rfl, hx⟩
          refine hK.out _ _ ?_ (fun hHeld => ?_)
          · (try dsimp only); refine HK.out _ ?_; (repeat (first | (with_reducible exact gr_rfl _) | (with_reducible refine gr_dr ?_) | (with_reducible refine gr_then ?_ hx)))
          clear hK K
          ((try dsimp only [List.getElem_toArray, List.getElem_cons_succ, List.getElem_cons_zero]); try simp only [Act.put, List.setIfInBounds_toArray, List.set_cons_zero, List.set_cons_succ])
          refine wpAnyH_take (i := 2) (oi := _) (v := ?v387) rfl (by kernel_rfl) (by kernel_rfl) (by kernel_rfl) (fun _ _ _ h => h) (Or.inl ⟨by rfl, ?hy387⟩) (by assumption) ?rest387
          case hy387 => ((intro w hSw; (try dsimp only at hSw); go_simp); try (with_reducible rfl))
          ((try dsimp only [List.getElem_toArray, List.getElem_cons_succ, List.getElem_cons_zero]); try simp only [Act.put, List.setIfInBounds_toArray, List.set_cons_zero, List.set_cons_succ])
          refine wpAnyH_take (i := 3) (oi := _) (v := ?v388) rfl (by kernel_rfl) (by kernel_rfl) (by kernel_rfl) (fun _ _ _ h => h) (Or.inl ⟨by rfl, ?hy388⟩) (by assumption) ?rest388
          case hy388 => ((intro w hSw; (try dsimp only at hSw); go_simp); try (with_reducible rfl))
          ((try dsimp only [List.getElem_toArray, List.getElem_cons_succ, List.getElem_cons_zero]); try simp only [Act.put, List.setIfInBounds_toArray, List.set_cons_zero, List.set_cons_succ])
          refine wpAnyH_take (i := 4) (oi := _) (v := ?v389) rfl (by kernel_rfl) (by kernel_rfl) (by kernel_rfl) (fun _ _ _ h => h) (Or.inl ⟨by rfl, ?hy389⟩) (by assumption) ?rest389
          case hy389 => ((intro w hSw; (try dsimp only at hSw); go_simp); try (with_reducible rfl))
          ((try dsimp only [List.getElem_toArray, List.getElem_cons_succ, List.getElem_cons_zero]); try simp only [Act.put, List.setIfInBounds_toArray, List.set_cons_zero, List.set_cons_succ])
          refine wpAnyH_take (i := 5) (oi := _) (v := ?v390) rfl (by kernel_rfl) (by kernel_rfl) (by kernel_rfl) (fun _ _ _ h => h) (Or.inl ⟨by rfl, ?hy390⟩) (by assumption) ?rest390
          case hy390 => ((intro w hSw; (try dsimp only at hSw); go_simp); try (with_reducible rfl))
          ((try dsimp only [List.getElem_toArray, List.getElem_cons_succ, List.getElem_cons_zero]); try simp only [Act.put, List.setIfInBounds_toArray, List.set_cons_zero, List.set_cons_succ])
          refine wpAnyH_take (i := 6) (oi := _) (v := ?v391) rfl (by kernel_rfl) (by kernel_rfl) (by kernel_rfl) (fun _ _ _ h => h) (Or.inl ⟨by rfl, ?hy391⟩) (by assumption) ?rest391
          case hy391 => ((intro w hSw; (try dsimp only at hSw); go_simp); try (with_reducible rfl))
          ((try dsimp only [List.getElem_toArray, List.getElem_cons_succ, List.getElem_cons_zero]); try simp only [Act.put, List.setIfInBounds_toArray, List.set_cons_zero, List.set_cons_succ])
          refine wpAnyH_take (i := 7) (oi := _) (v := ?v392) rfl (by kernel_rfl) (by kernel_rfl) (by kernel_rfl) (fun _ _ _ h => h) (Or.inl ⟨by rfl, ?hy392⟩) (by assumption) ?rest392
          case hy392 => ((intro w hSw; (try dsimp only at hSw); go_simp); try (with_reducible rfl))
          ((try dsimp only [List.getElem_toArray, List.getElem_cons_succ, List.getElem_cons_zero]); try simp only [Act.put, List.setIfInBounds_toArray, List.set_cons_zero, List.set_cons_succ])
          refine wpAnyH_take (i := 8) (oi := _) (v := ?v393) rfl (by kernel_rfl) (by kernel_rfl) (by kernel_rfl) (fun _ _ _ h => h) (Or.inl ⟨by rfl, ?hy393⟩) (by assumption) ?rest393
          case hy393 => ((intro w hSw; (try dsimp only at hSw); go_simp); try (with_reducible rfl))
          ((try dsimp only [List.getElem_toArray, List.getElem_cons_succ, List.getElem_cons_zero]); try simp only [Act.put, List.setIfInBounds_toArray, List.set_cons_zero, List.set_cons_succ])
          refine wpAnyH_take (i := 9) (oi := _) (v := ?v394) rfl (by kernel_rfl) (by kernel_rfl) (by kernel_rfl) (fun _ _ _ h => h) (Or.inl ⟨by rfl, ?hy394⟩) (by assumption) ?rest394
          case hy394 => ((intro w hSw; (try dsimp only at hSw); go_simp); try (with_reducible rfl))
          ((try dsimp only [List.getElem_toArray, List.getElem_cons_succ, List.getElem_cons_zero]); try simp only [Act.put, List.setIfInBounds_toArray, List.set_cons_zero, List.set_cons_succ])
          refine wpAnyH_take (i := 10) (oi := _) (v := ?v395) rfl (by kernel_rfl) (by kernel_rfl) (by kernel_rfl) (fun _ _ _ h => h) (Or.inl ⟨by rfl, ?hy395⟩) (by assumption) ?rest395
          case hy395 => ((intro w hSw; (try dsimp only at hSw); go_simp); try (with_reducible rfl))
          ((try dsimp only [List.getElem_toArray, List.getElem_cons_succ, List.getElem_cons_zero]); try simp only [Act.put, List.setIfInBounds_toArray, List.set_cons_zero, List.set_cons_succ])
          refine wpAnyH_take (i := 11) (oi := _) (v := ?v396) rfl (by kernel_rfl) (by kernel_rfl) (by kernel_rfl) (fun _ _ _ h => h) (Or.inl ⟨by rfl, ?hy396⟩) (by assumption) ?rest396
          case hy396 => ((intro w hSw; (try dsimp only at hSw); go_simp); try (with_reducible rfl))
          ((try dsimp only [List.getElem_toArray, List.getElem_cons_succ, List.getElem_cons_zero]); try simp only [Act.put, List.setIfInBounds_toArray, List.set_cons_zero, List.set_cons_succ])
          refine wpAnyH_take (i := 12) (oi := _) (v := ?v397) rfl (by kernel_rfl) (by kernel_rfl) (by kernel_rfl) (fun _ _ _ h => h) (Or.inl ⟨by rfl, ?hy397⟩) (by assumption) ?rest397
          case hy397 => ((intro w hSw; (try dsimp only at hSw); go_simp); try (with_reducible rfl))
          ((try dsimp only [List.getElem_toArray, List.getElem_cons_succ, List.getElem_cons_zero]); try simp only [Act.put, List.setIfInBounds_toArray, List.set_cons_zero, List.set_cons_succ])
          refine wpAnyH_take (i := 13) (oi := _) (v := ?v398) rfl (by kernel_rfl) (by kernel_rfl) (by kernel_rfl) (fun _ _ _ h => h) (Or.inl ⟨by rfl, ?hy398⟩) (by assumption) ?rest398
          case hy398 => ((intro w hSw; (try dsimp only at hSw); go_simp); try (with_reducible rfl))
          ((try dsimp only [List.getElem_toArray, List.getElem_cons_succ, List.getElem_cons_zero]); try simp only [Act.put, List.setIfInBounds_toArray, List.set_cons_zero, List.set_cons_succ])
          refine wpAnyH_take (i := 14) (oi := _) (v := ?v399) rfl (by kernel_rfl) (by kernel_rfl) (by kernel_rfl) (fun _ _ _ h => h) (Or.inl ⟨by rfl, ?hy399⟩) (by assumption) ?rest399
          case hy399 => ((intro w hSw; (try dsimp only at hSw); go_simp); try (with_reducible rfl))
          ((try dsimp only [List.getElem_toArray, List.getElem_cons_succ, List.getElem_cons_zero]); try simp only [Act.put, List.setIfInBounds_toArray, List.set_cons_zero, List.set_cons_succ])
          refine wpAnyH_take (i := 15) (oi := _) (v := ?v400) rfl (by kernel_rfl) (by kernel_rfl) (by kernel_rfl) (fun _ _ _ h => h) (Or.inl ⟨by rfl, ?hy400⟩) (by assumption) ?rest400
          case hy400 => ((intro w hSw; (try dsimp only at hSw); go_simp); try (with_reducible rfl))
          ((try dsimp only [List.getElem_toArray, List.getElem_cons_succ, List.getElem_cons_zero]); try simp only [Act.put, List.setIfInBounds_toArray, List.set_cons_zero, List.set_cons_succ])
          refine wpAnyH_take (i := 16) (oi := _) (v := ?v401) rfl (by kernel_rfl) (by kernel_rfl) (by kernel_rfl) (fun _ _ _ h => h) (Or.inl ⟨by rfl, ?hy401⟩) (by assumption) ?rest401
          case hy401 => ((intro w hSw; (try dsimp only at hSw); go_simp); try (with_reducible rfl))
          ((try dsimp only [List.getElem_toArray, List.getElem_cons_succ, List.getElem_cons_zero]); try simp only [Act.put, List.setIfInBounds_toArray, List.set_cons_zero, List.set_cons_succ])
          refine wpAnyH_take (i := 17) (oi := _) (v := ?v402) rfl (by kernel_rfl) (by kernel_rfl) (by kernel_rfl) (fun _ _ _ h => h) (Or.inl ⟨by rfl, ?hy402⟩) (by assumption) ?rest402
          case hy402 => ((intro w hSw; (try dsimp only at hSw); go_simp); try (with_reducible rfl))
          ((try dsimp only [List.getElem_toArray, List.getElem_cons_succ, List.getElem_cons_zero]); try simp only [Act.put, List.setIfInBounds_toArray, List.set_cons_zero, List.set_cons_succ])
          refine wpAnyH_take (i := 18) (oi := _) (v := ?v403) rfl (by kernel_rfl) (by kernel_rfl) (by kernel_rfl) (fun _ _ _ h => h) (Or.inl ⟨by rfl, ?hy403⟩) (by assumption) ?rest403
          case hy403 => ((intro w hSw; (try dsimp only at hSw); go_simp); try (with_reducible rfl))
          ((try dsimp only [List.getElem_toArray, List.getElem_cons_succ, List.getElem_cons_zero]); try simp only [Act.put, List.setIfInBounds_toArray, List.set_cons_zero, List.set_cons_succ])
          refine wpAnyH_take (i := 19) (oi := _) (v := ?v404) rfl (by kernel_rfl) (by kernel_rfl) (by kernel_rfl) (fun _ _ _ h => h) (Or.inl ⟨by rfl, ?hy404⟩) (by assumption) ?rest404
          case hy404 => ((intro w hSw; (try dsimp only at hSw); go_simp); try (with_reducible rfl))
          ((try dsimp only [List.getElem_toArray, List.getElem_cons_succ, List.getElem_cons_zero]); try simp only [Act.put, List.setIfInBounds_toArray, List.set_cons_zero, List.set_cons_succ])
          refine wpAnyH_take (i := 20) (oi := _) (v := ?v405) rfl (by kernel_rfl) (by kernel_rfl) (by kernel_rfl) (fun _ _ _ h => h) (Or.inl ⟨by rfl, ?hy405⟩) (by assumption) ?rest405
          case hy405 => ((intro w hSw; (try dsimp only at hSw); go_simp); try (with_reducible rfl))
          ((try dsimp only [List.getElem_toArray, List.getElem_cons_succ, List.getElem_cons_zero]); try simp only [Act.put, List.setIfInBounds_toArray, List.set_cons_zero, List.set_cons_succ])
          refine wpAnyH_take (i := 21) (oi := _) (v := ?v406) rfl (by kernel_rfl) (by kernel_rfl) (by kernel_rfl) (fun _ _ _ h => h) (Or.inl ⟨by rfl, ?hy406⟩) (by assumption) ?rest406
          case hy406 => ((intro w hSw; (try dsimp only at hSw); go_simp); try (with_reducible rfl))
          ((try dsimp only [List.getElem_toArray, List.getElem_cons_succ, List.getElem_cons_zero]); try simp only [Act.put, List.setIfInBounds_toArray, List.set_cons_zero, List.set_cons_succ])
          refine wpAnyH_take (i := 22) (oi := _) (v := ?v407) rfl (by kernel_rfl) (by kernel_rfl) (by kernel_rfl) (fun _ _ _ h => h) (Or.inl ⟨by rfl, ?hy407⟩) (by assumption) ?rest407
          case hy407 => ((intro w hSw; (try dsimp only at hSw); go_simp); try (with_reducible rfl))
          ((try dsimp only [List.getElem_toArray, List.getElem_cons_succ, List.getElem_cons_zero]); try simp only [Act.put, List.setIfInBounds_toArray, List.set_cons_zero, List.set_cons_succ])
          refine wpAnyH_take (i := 23) (oi := _) (v := ?v408) rfl (by kernel_rfl) (by kernel_rfl) (by kernel_rfl) (fun _ _ _ h => h) (Or.inl ⟨by rfl, ?hy408⟩) (by assumption) ?rest408
          case hy408 => ((intro w hSw; (try dsimp only at hSw); go_simp); try (with_reducible rfl))
          ((try dsimp only [List.getElem_toArray, List.getElem_cons_succ, List.getElem_cons_zero]); try simp only [Act.put, List.setIfInBounds_toArray, List.set_cons_zero, List.set_cons_succ])
          refine wpAnyH_take (i := 24) (oi := _) (v := ?v409) rfl (by kernel_rfl) (by kernel_rfl) (by kernel_rfl) (fun _ _ _ h => h) (Or.inl ⟨by rfl, ?hy409⟩) (by assumption) ?rest409
          case hy409 => ((intro w hSw; (try dsimp only at hSw); go_simp); try (with_reducible rfl))
          ((try dsimp only [List.getElem_toArray, List.getElem_cons_succ, List.getElem_cons_zero]); try simp only [Act.put, List.setIfInBounds_toArray, List.set_cons_zero, List.set_cons_succ])
          refine wpAnyH_take (i := 25) (oi := _) (v := ?v410) rfl (by kernel_rfl) (by kernel_rfl) (by kernel_rfl) (fun _ _ _ h => h) (Or.inl ⟨by rfl, ?hy410⟩) (by assumption) ?rest410
          case hy410 => ((intro w hSw; (try dsimp only at hSw); go_simp); try (with_reducible rfl))
          ((try dsimp only [List.getElem_toArray, List.getElem_cons_succ, List.getElem_cons_zero]); try simp only [Act.put, List.setIfInBounds_toArray, List.set_cons_zero, List.set_cons_succ])
          refine wpAnyH_take (i := 26) (oi := _) (v := ?v411) rfl (by kernel_rfl) (by kernel_rfl) (by kernel_rfl) (fun _ _ _ h => h) (Or.inl ⟨by rfl, ?hy411⟩) (by assumption) ?rest411
          case hy411 => ((intro w hSw; (try dsimp only at hSw); go_simp); try (with_reducible rfl))
          ((try dsimp only [List.getElem_toArray, List.getElem_cons_succ, List.getElem_cons_zero]); try simp only [Act.put, List.setIfInBounds_toArray, List.set_cons_zero, List.set_cons_succ])
          refine wpAnyH_take (i := 27) (oi := _) (v := ?v412) rfl (by kernel_rfl) (by kernel_rfl) (by kernel_rfl) (fun _ _ _ h => h) (Or.inl ⟨by rfl, ?hy412⟩) (by assumption) ?rest412
          case hy412 => ((intro w hSw; (try dsimp only at hSw); go_simp); try (with_reducible rfl))
          ((try dsimp only [List.getElem_toArray, List.getElem_cons_succ, List.getElem_cons_zero]); try simp only [Act.put, List.setIfInBounds_toArray, List.set_cons_zero, List.set_cons_succ])
          refine wpAnyH_take (i := 28) (oi := _) (v := ?v413) rfl (by kernel_rfl) (by kernel_rfl) (by kernel_rfl) (fun _ _ _ h => h) (Or.inl ⟨by rfl, ?hy413⟩) (by assumption) ?rest413
          case hy413 => ((intro w hSw; (try dsimp only at hSw); go_simp); try (with_reducible rfl))
          ((try dsimp only [List.getElem_toArray, List.getElem_cons_succ, List.getElem_cons_zero]); try simp only [Act.put, List.setIfInBounds_toArray, List.set_cons_zero, List.set_cons_succ])
          refine wpAnyH_ready (rs := [29]) (by kernel_rfl) (by simp) ?_
          refine AllReadyH.cons (o := _) rfl (fun K hK => ?_) AllReadyH.nil
          go_simp
          go_at_call 46; (with_reducible refine (HP.out _).mono ?_); rintro ep wp ⟨rfl, rfl⟩
          refine hK.out _ _ ?_ (fun hHeld => ?_)
          · (try dsimp only); refine HK.out _ ?_; (repeat (first | (with_reducible exact gr_rfl _) | (with_reducible refine gr_dr ?_) | (with_reducible refine gr_then ?_ hx)))
          clear hK K
          ((try dsimp only [List.getElem_toArray, List.getElem_cons_succ, List.getElem_cons_zero]); try simp only [Act.put, List.setIfInBounds_toArray, List.set_cons_zero, List.set_cons_succ])
          refine wpAnyH_take (i := 30) (oi := _) (v := ?v414) rfl (by kernel_rfl) (by kernel_rfl) (by kernel_rfl) (fun _ _ _ h => h) (Or.inl ⟨by rfl, ?hy414⟩) (by assumption) ?rest414
          case hy414 => ((intro w hSw; (try dsimp only at hSw); go_simp); try (with_reducible rfl))
          ((try dsimp only [List.getElem_toArray, List.getElem_cons_succ, List.getElem_cons_zero]); try simp only [Act.put, List.setIfInBounds_toArray, List.set_cons_zero, List.set_cons_succ])
          refine wpAnyH_take (i := 31) (oi := _) (v := ?v415) rfl (by kernel_rfl) (by kernel_rfl) (by kernel_rfl) (fun _ _ _ h => h) (Or.inl ⟨by rfl, ?hy415⟩) (by assumption) ?rest415
          case hy415 => ((intro w hSw; (try dsimp only at hSw); go_simp); try (with_reducible rfl))
          ((try dsimp only [List.getElem_toArray, List.getElem_cons_succ, List.getElem_cons_zero]); try simp only [Act.put, List.setIfInBounds_toArray, List.set_cons_zero, List.set_cons_succ])
          refine wpAnyH_take (i := 32) (oi := _) (v := _) rfl (by kernel_rfl) (by kernel_rfl) (by kernel_rfl) (fun _ _ _ h => h) (Or.inr ⟨by rfl, rfl⟩) (by assumption) ?rest416
          ((try dsimp only [List.getElem_toArray, List.getElem_cons_succ, List.getElem_cons_zero]); try simp only [Act.put, List.setIfInBounds_toArray, List.set_cons_zero, List.set_cons_succ])
          refine wpAnyH_take (i := 33) (oi := _) (v := _) rfl (by kernel_rfl) (by kernel_rfl) (by kernel_rfl) (fun _ _ _ h => h) (Or.inr ⟨by rfl, rfl⟩) (by assumption) ?rest417
          ((try dsimp only [List.getElem_toArray, List.getElem_cons_succ, List.getElem_cons_zero]); try simp only [Act.put, List.setIfInBounds_toArray, List.set_cons_zero, List.set_cons_succ])
          refine wpAnyH_take (i := 34) (oi := _) (v := _) rfl (by kernel_rfl) (by kernel_rfl) (by kernel_rfl) (fun _ _ _ h => h) (Or.inr ⟨by rfl, rfl⟩) (by assumption) ?rest418
          ((try dsimp only [List.getElem_toArray, List.getElem_cons_succ, List.getElem_cons_zero]); try simp only [Act.put, List.setIfInBounds_toArray, List.set_cons_zero, List.set_cons_succ])
          refine wpAnyH_take (i := 35) (oi := _) (v := _) rfl (by kernel_rfl) (by kernel_rfl) (by kernel_rfl) (fun _ _ _ h => h) (Or.inr ⟨by rfl, rfl⟩) (by assumption) ?rest419
          ((try dsimp only [List.getElem_toArray, List.getElem_cons_succ, List.getElem_cons_zero]); try simp only [Act.put, List.setIfInBounds_toArray, List.set_cons_zero, List.set_cons_succ])
          refine wpAnyH_take (i := 36) (oi := _) (v := _) rfl (by kernel_rfl) (by kernel_rfl) (by kernel_rfl) (fun _ _ _ h => h) (Or.inr ⟨by rfl, rfl⟩) (by assumption) ?rest420
          ((try dsimp only [List.getElem_toArray, List.getElem_cons_succ, List.getElem_cons_zero]); try simp only [Act.put, List.setIfInBounds_toArray, List.set_cons_zero, List.set_cons_succ])
          refine wpAnyH_take (i := 37) (oi := _) (v := ?v421) rfl (by kernel_rfl) (by kernel_rfl) (by kernel_rfl) (fun _ _ _ h => h) (Or.inl ⟨by rfl, ?hy421⟩) (by assumption) ?rest421
          case hy421 => ((intro w hSw; (try dsimp only at hSw); go_simp); try (with_reducible rfl))
          ((try dsimp only [List.getElem_toArray, List.getElem_cons_succ, List.getElem_cons_zero]); try simp only [Act.put, List.setIfInBounds_toArray, List.set_cons_zero, List.set_cons_succ])
          refine wpAnyH_take (i := 38) (oi := _) (v := ?v422) rfl (by kernel_rfl) (by kernel_rfl) (by kernel_rfl) (fun _ _ _ h => h) (Or.inl ⟨by rfl, ?hy422⟩) (by assumption) ?rest422
          case hy422 => ((intro w hSw; (try dsimp only at hSw); go_simp); try (with_reducible rfl))
          ((try dsimp only [List.getElem_toArray, List.getElem_cons_succ, List.getElem_cons_zero]); try simp only [Act.put, List.setIfInBounds_toArray, List.set_cons_zero, List.set_cons_succ])
          refine wpAnyH_take (i := 39) (oi := _) (v := ?v423) rfl (by kernel_rfl) (by kernel_rfl) (by kernel_rfl) (fun _ _ _ h => h) (Or.inl ⟨by rfl, ?hy423⟩) (by assumption) ?rest423
          case hy423 => ((intro w hSw; (try dsimp only at hSw); go_simp); try (with_reducible rfl))
          ((try dsimp only [List.getElem_toArray, List.getElem_cons_succ, List.getElem_cons_zero]); try simp only [Act.put, List.setIfInBounds_toArray, List.set_cons_zero, List.set_cons_succ])
          refine wpAnyH_done (by kernel_rfl) ?_ _
          go_wp2
          go_ret
          exact BoolIs.no rfl (fun h => by rcases HW.out.1 h with h | h; exact absurd h HKN.out; have h1 := HPB.out.2 h.2.2.2.1; simp at h1) (gr_then HGW.out (gr_then (gr_dr (gr_rfl w7)) hx))
        have H4 := Lib.hid (HPB.out.1 (by first | rfl | trivial))
        cases hu
        · skip
          have HK := Lib.hid (show ∀ w', w7.grownBy w' none → (w'.cell? ⟨w.heap.size, 0, none⟩ = some (.int .i64 1) ∧ w'.cell? ⟨w.heap.size, 1, none⟩ = some (.int .i64 km) ∧ w'.cell? ⟨w.heap.size, 2, none⟩ = some (.int .i64 kc) ∧ w'.cell? ⟨w.heap.size, 3, none⟩ = some (.string kb) ∧ w'.cell? ⟨w.heap.size, 4, none⟩ = some (.string ke) ∧ w'.cell? ⟨w.heap.size + 1, 0, none⟩ = some (.int .i64 ql) ∧ w'.cell? ⟨w.heap.size + 1, 1, none⟩ = some (.int .i64 qm) ∧ w'.cell? ⟨w.heap.size + 1, 2, none⟩ = some (.int .i64 qc) ∧ w'.cell? ⟨w.heap.size + 1, 3, none⟩ = some (.string qb) ∧ w'.cell? ⟨w.heap.size + 1, 4, none⟩ = some (.string qe)) from fun w' h => ⟨(HRA.out.kept h).cell 0 _ rfl, (HRA.out.kept h).cell 1 _ rfl, (HRA.out.kept h).cell 2 _ rfl, (HRA.out.kept h).cell 3 _ rfl, (HRA.out.kept h).cell 4 _ rfl, (HRB.out.kept h).cell 0 _ rfl, (HRB.out.kept h).cell 1 _ rfl, (HRB.out.kept h).cell 2 _ rfl, (HRB.out.kept h).cell 3 _ rfl, (HRB.out.kept h).cell 4 _ rfl⟩)
          go_wp2_with fail
          refine wp_region_held_drew (S := (fun w' => w'.cell? ⟨w.heap.size, 0, none⟩ = some (.int .i64 1) ∧ w'.cell? ⟨w.heap.size, 1, none⟩ = some (.int .i64 km) ∧ w'.cell? ⟨w.heap.size, 2, none⟩ = some (.int .i64 kc) ∧ w'.cell? ⟨w.heap.size, 3, none⟩ = some (.string kb) ∧ w'.cell? ⟨w.heap.size, 4, none⟩ = some (.string ke) ∧ w'.cell? ⟨w.heap.size + 1, 0, none⟩ = some (.int .i64 ql) ∧ w'.cell? ⟨w.heap.size + 1, 1, none⟩ = some (.int .i64 qm) ∧ w'.cell? ⟨w.heap.size + 1, 2, none⟩ = some (.int .i64 qc) ∧ w'.cell? ⟨w.heap.size + 1, 3, none⟩ = some (.string qb) ∧ w'.cell? ⟨w.heap.size + 1, 4, none⟩ = some (.string qe))) (by kernel_rfl) ?_ (fun hHeld => ?_)
          · refine HK.out _ ?_; (repeat (first | (with_reducible exact gr_rfl _) | (with_reducible refine gr_dr ?_) | (with_reducible refine gr_then ?_ hx)))
          refine wpAnyH_take (i := 0) (oi := _) (v := ?v424) rfl (by kernel_rfl) (by kernel_rfl) (by kernel_rfl) (fun _ _ _ h => h) (Or.inl ⟨by rfl, ?hy424⟩) (by assumption) ?rest424
          case hy424 => ((intro w hSw; (try dsimp only at hSw); go_simp); try (with_reducible rfl))
          ((try dsimp only [List.getElem_toArray, List.getElem_cons_succ, List.getElem_cons_zero]); try simp only [Act.put, List.setIfInBounds_toArray, List.set_cons_zero, List.set_cons_succ])
          refine wpAnyH_ready (rs := [1]) (by kernel_rfl) (by simp) ?_
          refine AllReadyH.cons (o := _) rfl (fun K hK => ?_) AllReadyH.nil
          go_simp
          go_at_call 43; (with_reducible refine (HNS.out _).mono ?_); rintro ex wx ⟨rfl, hx⟩
          refine hK.out _ _ ?_ (fun hHeld => ?_)
          · (try dsimp only); refine HK.out _ ?_; (repeat (first | (with_reducible exact gr_rfl _) | (with_reducible refine gr_dr ?_) | (with_reducible refine gr_then ?_ hx)))
          clear hK K
          ((try dsimp only [List.getElem_toArray, List.getElem_cons_succ, List.getElem_cons_zero]); try simp only [Act.put, List.setIfInBounds_toArray, List.set_cons_zero, List.set_cons_succ])
          refine wpAnyH_take (i := 2) (oi := _) (v := ?v425) rfl (by kernel_rfl) (by kernel_rfl) (by kernel_rfl) (fun _ _ _ h => h) (Or.inl ⟨by rfl, ?hy425⟩) (by assumption) ?rest425
          case hy425 => ((intro w hSw; (try dsimp only at hSw); go_simp); try (with_reducible rfl))
          ((try dsimp only [List.getElem_toArray, List.getElem_cons_succ, List.getElem_cons_zero]); try simp only [Act.put, List.setIfInBounds_toArray, List.set_cons_zero, List.set_cons_succ])
          refine wpAnyH_take (i := 3) (oi := _) (v := ?v426) rfl (by kernel_rfl) (by kernel_rfl) (by kernel_rfl) (fun _ _ _ h => h) (Or.inl ⟨by rfl, ?hy426⟩) (by assumption) ?rest426
          case hy426 => ((intro w hSw; (try dsimp only at hSw); go_simp); try (with_reducible rfl))
          ((try dsimp only [List.getElem_toArray, List.getElem_cons_succ, List.getElem_cons_zero]); try simp only [Act.put, List.setIfInBounds_toArray, List.set_cons_zero, List.set_cons_succ])
          refine wpAnyH_take (i := 4) (oi := _) (v := ?v427) rfl (by kernel_rfl) (by kernel_rfl) (by kernel_rfl) (fun _ _ _ h => h) (Or.inl ⟨by rfl, ?hy427⟩) (by assumption) ?rest427
          case hy427 => ((intro w hSw; (try dsimp only at hSw); go_simp); try (with_reducible rfl))
          ((try dsimp only [List.getElem_toArray, List.getElem_cons_succ, List.getElem_cons_zero]); try simp only [Act.put, List.setIfInBounds_toArray, List.set_cons_zero, List.set_cons_succ])
          refine wpAnyH_take (i := 5) (oi := _) (v := ?v428) rfl (by kernel_rfl) (by kernel_rfl) (by kernel_rfl) (fun _ _ _ h => h) (Or.inl ⟨by rfl, ?hy428⟩) (by assumption) ?rest428
          case hy428 => ((intro w hSw; (try dsimp only at hSw); go_simp); try (with_reducible rfl))
          ((try dsimp only [List.getElem_toArray, List.getElem_cons_succ, List.getElem_cons_zero]); try simp only [Act.put, List.setIfInBounds_toArray, List.set_cons_zero, List.set_cons_succ])
          refine wpAnyH_take (i := 6) (oi := _) (v := ?v429) rfl (by kernel_rfl) (by kernel_rfl) (by kernel_rfl) (fun _ _ _ h => h) (Or.inl ⟨by rfl, ?hy429⟩) (by assumption) ?rest429
          case hy429 => ((intro w hSw; (try dsimp only at hSw); go_simp); try (with_reducible rfl))
          ((try dsimp only [List.getElem_toArray, List.getElem_cons_succ, List.getElem_cons_zero]); try simp only [Act.put, List.setIfInBounds_toArray, List.set_cons_zero, List.set_cons_succ])
          refine wpAnyH_take (i := 7) (oi := _) (v := ?v430) rfl (by kernel_rfl) (by kernel_rfl) (by kernel_rfl) (fun _ _ _ h => h) (Or.inl ⟨by rfl, ?hy430⟩) (by assumption) ?rest430
          case hy430 => ((intro w hSw; (try dsimp only at hSw); go_simp); try (with_reducible rfl))
          ((try dsimp only [List.getElem_toArray, List.getElem_cons_succ, List.getElem_cons_zero]); try simp only [Act.put, List.setIfInBounds_toArray, List.set_cons_zero, List.set_cons_succ])
          refine wpAnyH_take (i := 8) (oi := _) (v := ?v431) rfl (by kernel_rfl) (by kernel_rfl) (by kernel_rfl) (fun _ _ _ h => h) (Or.inl ⟨by rfl, ?hy431⟩) (by assumption) ?rest431
          case hy431 => ((intro w hSw; (try dsimp only at hSw); go_simp); try (with_reducible rfl))
          ((try dsimp only [List.getElem_toArray, List.getElem_cons_succ, List.getElem_cons_zero]); try simp only [Act.put, List.setIfInBounds_toArray, List.set_cons_zero, List.set_cons_succ])
          refine wpAnyH_take (i := 9) (oi := _) (v := ?v432) rfl (by kernel_rfl) (by kernel_rfl) (by kernel_rfl) (fun _ _ _ h => h) (Or.inl ⟨by rfl, ?hy432⟩) (by assumption) ?rest432
          case hy432 => ((intro w hSw; (try dsimp only at hSw); go_simp); try (with_reducible rfl))
          ((try dsimp only [List.getElem_toArray, List.getElem_cons_succ, List.getElem_cons_zero]); try simp only [Act.put, List.setIfInBounds_toArray, List.set_cons_zero, List.set_cons_succ])
          refine wpAnyH_take (i := 10) (oi := _) (v := ?v433) rfl (by kernel_rfl) (by kernel_rfl) (by kernel_rfl) (fun _ _ _ h => h) (Or.inl ⟨by rfl, ?hy433⟩) (by assumption) ?rest433
          case hy433 => ((intro w hSw; (try dsimp only at hSw); go_simp); try (with_reducible rfl))
          ((try dsimp only [List.getElem_toArray, List.getElem_cons_succ, List.getElem_cons_zero]); try simp only [Act.put, List.setIfInBounds_toArray, List.set_cons_zero, List.set_cons_succ])
          refine wpAnyH_take (i := 11) (oi := _) (v := ?v434) rfl (by kernel_rfl) (by kernel_rfl) (by kernel_rfl) (fun _ _ _ h => h) (Or.inl ⟨by rfl, ?hy434⟩) (by assumption) ?rest434
          case hy434 => ((intro w hSw; (try dsimp only at hSw); go_simp); try (with_reducible rfl))
          ((try dsimp only [List.getElem_toArray, List.getElem_cons_succ, List.getElem_cons_zero]); try simp only [Act.put, List.setIfInBounds_toArray, List.set_cons_zero, List.set_cons_succ])
          refine wpAnyH_take (i := 12) (oi := _) (v := ?v435) rfl (by kernel_rfl) (by kernel_rfl) (by kernel_rfl) (fun _ _ _ h => h) (Or.inl ⟨by rfl, ?hy435⟩) (by assumption) ?rest435
          case hy435 => ((intro w hSw; (try dsimp only at hSw); go_simp); try (with_reducible rfl))
          ((try dsimp only [List.getElem_toArray, List.getElem_cons_succ, List.getElem_cons_zero]); try simp only [Act.put, List.setIfInBounds_toArray, List.set_cons_zero, List.set_cons_succ])
          refine wpAnyH_take (i := 13) (oi := _) (v := ?v436) rfl (by kernel_rfl) (by kernel_rfl) (by kernel_rfl) (fun _ _ _ h => h) (Or.inl ⟨by rfl, ?hy436⟩) (by assumption) ?rest436
          case hy436 => ((intro w hSw; (try dsimp only at hSw); go_simp); try (with_reducible rfl))
          ((try dsimp only [List.getElem_toArray, List.getElem_cons_succ, List.getElem_cons_zero]); try simp only [Act.put, List.setIfInBounds_toArray, List.set_cons_zero, List.set_cons_succ])
          refine wpAnyH_take (i := 14) (oi := _) (v := ?v437) rfl (by kernel_rfl) (by kernel_rfl) (by kernel_rfl) (fun _ _ _ h => h) (Or.inl ⟨by rfl, ?hy437⟩) (by assumption) ?rest437
          case hy437 => ((intro w hSw; (try dsimp only at hSw); go_simp); try (with_reducible rfl))
          ((try dsimp only [List.getElem_toArray, List.getElem_cons_succ, List.getElem_cons_zero]); try simp only [Act.put, List.setIfInBounds_toArray, List.set_cons_zero, List.set_cons_succ])
          refine wpAnyH_take (i := 15) (oi := _) (v := ?v438) rfl (by kernel_rfl) (by kernel_rfl) (by kernel_rfl) (fun _ _ _ h => h) (Or.inl ⟨by rfl, ?hy438⟩) (by assumption) ?rest438
          case hy438 => ((intro w hSw; (try dsimp only at hSw); go_simp); try (with_reducible rfl))
          ((try dsimp only [List.getElem_toArray, List.getElem_cons_succ, List.getElem_cons_zero]); try simp only [Act.put, List.setIfInBounds_toArray, List.set_cons_zero, List.set_cons_succ])
          refine wpAnyH_take (i := 16) (oi := _) (v := ?v439) rfl (by kernel_rfl) (by kernel_rfl) (by kernel_rfl) (fun _ _ _ h => h) (Or.inl ⟨by rfl, ?hy439⟩) (by assumption) ?rest439
          case hy439 => ((intro w hSw; (try dsimp only at hSw); go_simp); try (with_reducible rfl))
          ((try dsimp only [List.getElem_toArray, List.getElem_cons_succ, List.getElem_cons_zero]); try simp only [Act.put, List.setIfInBounds_toArray, List.set_cons_zero, List.set_cons_succ])
          refine wpAnyH_take (i := 17) (oi := _) (v := ?v440) rfl (by kernel_rfl) (by kernel_rfl) (by kernel_rfl) (fun _ _ _ h => h) (Or.inl ⟨by rfl, ?hy440⟩) (by assumption) ?rest440
          case hy440 => ((intro w hSw; (try dsimp only at hSw); go_simp); try (with_reducible rfl))
          ((try dsimp only [List.getElem_toArray, List.getElem_cons_succ, List.getElem_cons_zero]); try simp only [Act.put, List.setIfInBounds_toArray, List.set_cons_zero, List.set_cons_succ])
          refine wpAnyH_take (i := 18) (oi := _) (v := ?v441) rfl (by kernel_rfl) (by kernel_rfl) (by kernel_rfl) (fun _ _ _ h => h) (Or.inl ⟨by rfl, ?hy441⟩) (by assumption) ?rest441
          case hy441 => ((intro w hSw; (try dsimp only at hSw); go_simp); try (with_reducible rfl))
          ((try dsimp only [List.getElem_toArray, List.getElem_cons_succ, List.getElem_cons_zero]); try simp only [Act.put, List.setIfInBounds_toArray, List.set_cons_zero, List.set_cons_succ])
          refine wpAnyH_take (i := 19) (oi := _) (v := ?v442) rfl (by kernel_rfl) (by kernel_rfl) (by kernel_rfl) (fun _ _ _ h => h) (Or.inl ⟨by rfl, ?hy442⟩) (by assumption) ?rest442
          case hy442 => ((intro w hSw; (try dsimp only at hSw); go_simp); try (with_reducible rfl))
          ((try dsimp only [List.getElem_toArray, List.getElem_cons_succ, List.getElem_cons_zero]); try simp only [Act.put, List.setIfInBounds_toArray, List.set_cons_zero, List.set_cons_succ])
          refine wpAnyH_take (i := 20) (oi := _) (v := ?v443) rfl (by kernel_rfl) (by kernel_rfl) (by kernel_rfl) (fun _ _ _ h => h) (Or.inl ⟨by rfl, ?hy443⟩) (by assumption) ?rest443
          case hy443 => ((intro w hSw; (try dsimp only at hSw); go_simp); try (with_reducible rfl))
          ((try dsimp only [List.getElem_toArray, List.getElem_cons_succ, List.getElem_cons_zero]); try simp only [Act.put, List.setIfInBounds_toArray, List.set_cons_zero, List.set_cons_succ])
          refine wpAnyH_take (i := 21) (oi := _) (v := ?v444) rfl (by kernel_rfl) (by kernel_rfl) (by kernel_rfl) (fun _ _ _ h => h) (Or.inl ⟨by rfl, ?hy444⟩) (by assumption) ?rest444
          case hy444 => ((intro w hSw; (try dsimp only at hSw); go_simp); try (with_reducible rfl))
          ((try dsimp only [List.getElem_toArray, List.getElem_cons_succ, List.getElem_cons_zero]); try simp only [Act.put, List.setIfInBounds_toArray, List.set_cons_zero, List.set_cons_succ])
          refine wpAnyH_take (i := 22) (oi := _) (v := ?v445) rfl (by kernel_rfl) (by kernel_rfl) (by kernel_rfl) (fun _ _ _ h => h) (Or.inl ⟨by rfl, ?hy445⟩) (by assumption) ?rest445
          case hy445 => ((intro w hSw; (try dsimp only at hSw); go_simp); try (with_reducible rfl))
          ((try dsimp only [List.getElem_toArray, List.getElem_cons_succ, List.getElem_cons_zero]); try simp only [Act.put, List.setIfInBounds_toArray, List.set_cons_zero, List.set_cons_succ])
          refine wpAnyH_take (i := 23) (oi := _) (v := ?v446) rfl (by kernel_rfl) (by kernel_rfl) (by kernel_rfl) (fun _ _ _ h => h) (Or.inl ⟨by rfl, ?hy446⟩) (by assumption) ?rest446
          case hy446 => ((intro w hSw; (try dsimp only at hSw); go_simp); try (with_reducible rfl))
          ((try dsimp only [List.getElem_toArray, List.getElem_cons_succ, List.getElem_cons_zero]); try simp only [Act.put, List.setIfInBounds_toArray, List.set_cons_zero, List.set_cons_succ])
          refine wpAnyH_take (i := 24) (oi := _) (v := ?v447) rfl (by kernel_rfl) (by kernel_rfl) (by kernel_rfl) (fun _ _ _ h => h) (Or.inl ⟨by rfl, ?hy447⟩) (by assumption) ?rest447
          case hy447 => ((intro w hSw; (try dsimp only at hSw); go_simp); try (with_reducible rfl))
          ((try dsimp only [List.getElem_toArray, List.getElem_cons_succ, List.getElem_cons_zero]); try simp only [Act.put, List.setIfInBounds_toArray, List.set_cons_zero, List.set_cons_succ])
          refine wpAnyH_take (i := 25) (oi := _) (v := ?v448) rfl (by kernel_rfl) (by kernel_rfl) (by kernel_rfl) (fun _ _ _ h => h) (Or.inl ⟨by rfl, ?hy448⟩) (by assumption) ?rest448
          case hy448 => ((intro w hSw; (try dsimp only at hSw); go_simp); try (with_reducible rfl))
          ((try dsimp only [List.getElem_toArray, List.getElem_cons_succ, List.getElem_cons_zero]); try simp only [Act.put, List.setIfInBounds_toArray, List.set_cons_zero, List.set_cons_succ])
          refine wpAnyH_take (i := 26) (oi := _) (v := ?v449) rfl (by kernel_rfl) (by kernel_rfl) (by kernel_rfl) (fun _ _ _ h => h) (Or.inl ⟨by rfl, ?hy449⟩) (by assumption) ?rest449
          case hy449 => ((intro w hSw; (try dsimp only at hSw); go_simp); try (with_reducible rfl))
          ((try dsimp only [List.getElem_toArray, List.getElem_cons_succ, List.getElem_cons_zero]); try simp only [Act.put, List.setIfInBounds_toArray, List.set_cons_zero, List.set_cons_succ])
          refine wpAnyH_take (i := 27) (oi := _) (v := ?v450) rfl (by kernel_rfl) (by kernel_rfl) (by kernel_rfl) (fun _ _ _ h => h) (Or.inl ⟨by rfl, ?hy450⟩) (by assumption) ?rest450
          case hy450 => ((intro w hSw; (try dsimp only at hSw); go_simp); try (with_reducible rfl))
          ((try dsimp only [List.getElem_toArray, List.getElem_cons_succ, List.getElem_cons_zero]); try simp only [Act.put, List.setIfInBounds_toArray, List.set_cons_zero, List.set_cons_succ])
          refine wpAnyH_take (i := 28) (oi := _) (v := ?v451) rfl (by kernel_rfl) (by kernel_rfl) (by kernel_rfl) (fun _ _ _ h => h) (Or.inl ⟨by rfl, ?hy451⟩) (by assumption) ?rest451
          case hy451 => ((intro w hSw; (try dsimp only at hSw); go_simp); try (with_reducible rfl))
          ((try dsimp only [List.getElem_toArray, List.getElem_cons_succ, List.getElem_cons_zero]); try simp only [Act.put, List.setIfInBounds_toArray, List.set_cons_zero, List.set_cons_succ])
          refine wpAnyH_ready (rs := [29]) (by kernel_rfl) (by simp) ?_
          refine AllReadyH.cons (o := _) rfl (fun K hK => ?_) AllReadyH.nil
          go_simp
          go_at_call 46; (with_reducible refine (HP.out _).mono ?_); rintro ep wp ⟨rfl, rfl⟩
          refine hK.out _ _ ?_ (fun hHeld => ?_)
          · (try dsimp only); refine HK.out _ ?_; (repeat (first | (with_reducible exact gr_rfl _) | (with_reducible refine gr_dr ?_) | (with_reducible refine gr_then ?_ hx)))
          clear hK K
          ((try dsimp only [List.getElem_toArray, List.getElem_cons_succ, List.getElem_cons_zero]); try simp only [Act.put, List.setIfInBounds_toArray, List.set_cons_zero, List.set_cons_succ])
          refine wpAnyH_take (i := 30) (oi := _) (v := ?v452) rfl (by kernel_rfl) (by kernel_rfl) (by kernel_rfl) (fun _ _ _ h => h) (Or.inl ⟨by rfl, ?hy452⟩) (by assumption) ?rest452
          case hy452 => ((intro w hSw; (try dsimp only at hSw); go_simp); try (with_reducible rfl))
          ((try dsimp only [List.getElem_toArray, List.getElem_cons_succ, List.getElem_cons_zero]); try simp only [Act.put, List.setIfInBounds_toArray, List.set_cons_zero, List.set_cons_succ])
          refine wpAnyH_take (i := 31) (oi := _) (v := ?v453) rfl (by kernel_rfl) (by kernel_rfl) (by kernel_rfl) (fun _ _ _ h => h) (Or.inl ⟨by rfl, ?hy453⟩) (by assumption) ?rest453
          case hy453 => ((intro w hSw; (try dsimp only at hSw); go_simp); try (with_reducible rfl))
          ((try dsimp only [List.getElem_toArray, List.getElem_cons_succ, List.getElem_cons_zero]); try simp only [Act.put, List.setIfInBounds_toArray, List.set_cons_zero, List.set_cons_succ])
          refine wpAnyH_take (i := 32) (oi := _) (v := ?v454) rfl (by kernel_rfl) (by kernel_rfl) (by kernel_rfl) (fun _ _ _ h => h) (Or.inl ⟨by rfl, ?hy454⟩) (by assumption) ?rest454
          case hy454 => ((intro w hSw; (try dsimp only at hSw); go_simp); try (with_reducible rfl))
          ((try dsimp only [List.getElem_toArray, List.getElem_cons_succ, List.getElem_cons_zero]); try simp only [Act.put, List.setIfInBounds_toArray, List.set_cons_zero, List.set_cons_succ])
          refine wpAnyH_take (i := 33) (oi := _) (v := ?v455) rfl (by kernel_rfl) (by kernel_rfl) (by kernel_rfl) (fun _ _ _ h => h) (Or.inl ⟨by rfl, ?hy455⟩) (by assumption) ?rest455
          case hy455 => ((intro w hSw; (try dsimp only at hSw); go_simp); try (with_reducible rfl))
          ((try dsimp only [List.getElem_toArray, List.getElem_cons_succ, List.getElem_cons_zero]); try simp only [Act.put, List.setIfInBounds_toArray, List.set_cons_zero, List.set_cons_succ])
          refine wpAnyH_take (i := 34) (oi := _) (v := ?v456) rfl (by kernel_rfl) (by kernel_rfl) (by kernel_rfl) (fun _ _ _ h => h) (Or.inl ⟨by rfl, ?hy456⟩) (by assumption) ?rest456
          case hy456 => ((intro w hSw; (try dsimp only at hSw); go_simp); try (with_reducible rfl))
          ((try dsimp only [List.getElem_toArray, List.getElem_cons_succ, List.getElem_cons_zero]); try simp only [Act.put, List.setIfInBounds_toArray, List.set_cons_zero, List.set_cons_succ])
          refine wpAnyH_take (i := 35) (oi := _) (v := ?v457) rfl (by kernel_rfl) (by kernel_rfl) (by kernel_rfl) (fun _ _ _ h => h) (Or.inl ⟨by rfl, ?hy457⟩) (by assumption) ?rest457
          case hy457 => ((intro w hSw; (try dsimp only at hSw); go_simp); try (with_reducible rfl))
          ((try dsimp only [List.getElem_toArray, List.getElem_cons_succ, List.getElem_cons_zero]); try simp only [Act.put, List.setIfInBounds_toArray, List.set_cons_zero, List.set_cons_succ])
          refine wpAnyH_ready (rs := [36]) (by kernel_rfl) (by simp) ?_
          refine AllReadyH.cons (o := _) rfl (fun K hK => ?_) AllReadyH.nil
          go_simp
          go_at_call 47; (with_reducible refine (HU.out _).mono ?_); rintro eu wu ⟨rfl, rfl⟩
          refine hK.out _ _ ?_ (fun hHeld => ?_)
          · (try dsimp only); refine HK.out _ ?_; (repeat (first | (with_reducible exact gr_rfl _) | (with_reducible refine gr_dr ?_) | (with_reducible refine gr_then ?_ hx)))
          clear hK K
          ((try dsimp only [List.getElem_toArray, List.getElem_cons_succ, List.getElem_cons_zero]); try simp only [Act.put, List.setIfInBounds_toArray, List.set_cons_zero, List.set_cons_succ])
          refine wpAnyH_take (i := 37) (oi := _) (v := ?v458) rfl (by kernel_rfl) (by kernel_rfl) (by kernel_rfl) (fun _ _ _ h => h) (Or.inl ⟨by rfl, ?hy458⟩) (by assumption) ?rest458
          case hy458 => ((intro w hSw; (try dsimp only at hSw); go_simp); try (with_reducible rfl))
          ((try dsimp only [List.getElem_toArray, List.getElem_cons_succ, List.getElem_cons_zero]); try simp only [Act.put, List.setIfInBounds_toArray, List.set_cons_zero, List.set_cons_succ])
          refine wpAnyH_take (i := 38) (oi := _) (v := ?v459) rfl (by kernel_rfl) (by kernel_rfl) (by kernel_rfl) (fun _ _ _ h => h) (Or.inl ⟨by rfl, ?hy459⟩) (by assumption) ?rest459
          case hy459 => ((intro w hSw; (try dsimp only at hSw); go_simp); try (with_reducible rfl))
          ((try dsimp only [List.getElem_toArray, List.getElem_cons_succ, List.getElem_cons_zero]); try simp only [Act.put, List.setIfInBounds_toArray, List.set_cons_zero, List.set_cons_succ])
          refine wpAnyH_take (i := 39) (oi := _) (v := ?v460) rfl (by kernel_rfl) (by kernel_rfl) (by kernel_rfl) (fun _ _ _ h => h) (Or.inl ⟨by rfl, ?hy460⟩) (by assumption) ?rest460
          case hy460 => ((intro w hSw; (try dsimp only at hSw); go_simp); try (with_reducible rfl))
          ((try dsimp only [List.getElem_toArray, List.getElem_cons_succ, List.getElem_cons_zero]); try simp only [Act.put, List.setIfInBounds_toArray, List.set_cons_zero, List.set_cons_succ])
          refine wpAnyH_done (by kernel_rfl) ?_ _
          go_wp2
          go_ret
          exact BoolIs.no rfl (fun h => by rcases HW.out.1 h with h | h; exact absurd h HKN.out; have h1 := HUE.out.2 h.2.2.2.2; simp at h1) (gr_then HGW.out (gr_then (gr_dr (gr_rfl w7)) hx))
        have H5 := Lib.hid (HUE.out.1 (by first | rfl | trivial))
        have HK := Lib.hid (show ∀ w', w7.grownBy w' none → (w'.cell? ⟨w.heap.size, 0, none⟩ = some (.int .i64 1) ∧ w'.cell? ⟨w.heap.size, 1, none⟩ = some (.int .i64 km) ∧ w'.cell? ⟨w.heap.size, 2, none⟩ = some (.int .i64 kc) ∧ w'.cell? ⟨w.heap.size, 3, none⟩ = some (.string kb) ∧ w'.cell? ⟨w.heap.size, 4, none⟩ = some (.string ke) ∧ w'.cell? ⟨w.heap.size + 1, 0, none⟩ = some (.int .i64 ql) ∧ w'.cell? ⟨w.heap.size + 1, 1, none⟩ = some (.int .i64 qm) ∧ w'.cell? ⟨w.heap.size + 1, 2, none⟩ = some (.int .i64 qc) ∧ w'.cell? ⟨w.heap.size + 1, 3, none⟩ = some (.string qb) ∧ w'.cell? ⟨w.heap.size + 1, 4, none⟩ = some (.string qe)) from fun w' h => ⟨(HRA.out.kept h).cell 0 _ rfl, (HRA.out.kept h).cell 1 _ rfl, (HRA.out.kept h).cell 2 _ rfl, (HRA.out.kept h).cell 3 _ rfl, (HRA.out.kept h).cell 4 _ rfl, (HRB.out.kept h).cell 0 _ rfl, (HRB.out.kept h).cell 1 _ rfl, (HRB.out.kept h).cell 2 _ rfl, (HRB.out.kept h).cell 3 _ rfl, (HRB.out.kept h).cell 4 _ rfl⟩)
        go_wp2_with fail
        refine wp_region_held_drew (S := (fun w' => w'.cell? ⟨w.heap.size, 0, none⟩ = some (.int .i64 1) ∧ w'.cell? ⟨w.heap.size, 1, none⟩ = some (.int .i64 km) ∧ w'.cell? ⟨w.heap.size, 2, none⟩ = some (.int .i64 kc) ∧ w'.cell? ⟨w.heap.size, 3, none⟩ = some (.string kb) ∧ w'.cell? ⟨w.heap.size, 4, none⟩ = some (.string ke) ∧ w'.cell? ⟨w.heap.size + 1, 0, none⟩ = some (.int .i64 ql) ∧ w'.cell? ⟨w.heap.size + 1, 1, none⟩ = some (.int .i64 qm) ∧ w'.cell? ⟨w.heap.size + 1, 2, none⟩ = some (.int .i64 qc) ∧ w'.cell? ⟨w.heap.size + 1, 3, none⟩ = some (.string qb) ∧ w'.cell? ⟨w.heap.size + 1, 4, none⟩ = some (.string qe))) (by kernel_rfl) ?_ (fun hHeld => ?_)
        · refine HK.out _ ?_; (repeat (first | (with_reducible exact gr_rfl _) | (with_reducible refine gr_dr ?_) | (with_reducible refine gr_then ?_ hx)))
        refine wpAnyH_take (i := 0) (oi := _) (v := ?v461) rfl (by kernel_rfl) (by kernel_rfl) (by kernel_rfl) (fun _ _ _ h => h) (Or.inl ⟨by rfl, ?hy461⟩) (by assumption) ?rest461
        case hy461 => ((intro w hSw; (try dsimp only at hSw); go_simp); try (with_reducible rfl))
        ((try dsimp only [List.getElem_toArray, List.getElem_cons_succ, List.getElem_cons_zero]); try simp only [Act.put, List.setIfInBounds_toArray, List.set_cons_zero, List.set_cons_succ])
        refine wpAnyH_ready (rs := [1]) (by kernel_rfl) (by simp) ?_
        refine AllReadyH.cons (o := _) rfl (fun K hK => ?_) AllReadyH.nil
        go_simp
        go_at_call 43; (with_reducible refine (HNS.out _).mono ?_); rintro ex wx ⟨rfl, hx⟩
        refine hK.out _ _ ?_ (fun hHeld => ?_)
        · (try dsimp only); refine HK.out _ ?_; (repeat (first | (with_reducible exact gr_rfl _) | (with_reducible refine gr_dr ?_) | (with_reducible refine gr_then ?_ hx)))
        clear hK K
        ((try dsimp only [List.getElem_toArray, List.getElem_cons_succ, List.getElem_cons_zero]); try simp only [Act.put, List.setIfInBounds_toArray, List.set_cons_zero, List.set_cons_succ])
        refine wpAnyH_take (i := 2) (oi := _) (v := ?v462) rfl (by kernel_rfl) (by kernel_rfl) (by kernel_rfl) (fun _ _ _ h => h) (Or.inl ⟨by rfl, ?hy462⟩) (by assumption) ?rest462
        case hy462 => ((intro w hSw; (try dsimp only at hSw); go_simp); try (with_reducible rfl))
        ((try dsimp only [List.getElem_toArray, List.getElem_cons_succ, List.getElem_cons_zero]); try simp only [Act.put, List.setIfInBounds_toArray, List.set_cons_zero, List.set_cons_succ])
        refine wpAnyH_take (i := 3) (oi := _) (v := ?v463) rfl (by kernel_rfl) (by kernel_rfl) (by kernel_rfl) (fun _ _ _ h => h) (Or.inl ⟨by rfl, ?hy463⟩) (by assumption) ?rest463
        case hy463 => ((intro w hSw; (try dsimp only at hSw); go_simp); try (with_reducible rfl))
        ((try dsimp only [List.getElem_toArray, List.getElem_cons_succ, List.getElem_cons_zero]); try simp only [Act.put, List.setIfInBounds_toArray, List.set_cons_zero, List.set_cons_succ])
        refine wpAnyH_take (i := 4) (oi := _) (v := ?v464) rfl (by kernel_rfl) (by kernel_rfl) (by kernel_rfl) (fun _ _ _ h => h) (Or.inl ⟨by rfl, ?hy464⟩) (by assumption) ?rest464
        case hy464 => ((intro w hSw; (try dsimp only at hSw); go_simp); try (with_reducible rfl))
        ((try dsimp only [List.getElem_toArray, List.getElem_cons_succ, List.getElem_cons_zero]); try simp only [Act.put, List.setIfInBounds_toArray, List.set_cons_zero, List.set_cons_succ])
        refine wpAnyH_take (i := 5) (oi := _) (v := ?v465) rfl (by kernel_rfl) (by kernel_rfl) (by kernel_rfl) (fun _ _ _ h => h) (Or.inl ⟨by rfl, ?hy465⟩) (by assumption) ?rest465
        case hy465 => ((intro w hSw; (try dsimp only at hSw); go_simp); try (with_reducible rfl))
        ((try dsimp only [List.getElem_toArray, List.getElem_cons_succ, List.getElem_cons_zero]); try simp only [Act.put, List.setIfInBounds_toArray, List.set_cons_zero, List.set_cons_succ])
        refine wpAnyH_take (i := 6) (oi := _) (v := ?v466) rfl (by kernel_rfl) (by kernel_rfl) (by kernel_rfl) (fun _ _ _ h => h) (Or.inl ⟨by rfl, ?hy466⟩) (by assumption) ?rest466
        case hy466 => ((intro w hSw; (try dsimp only at hSw); go_simp); try (with_reducible rfl))
        ((try dsimp only [List.getElem_toArray, List.getElem_cons_succ, List.getElem_cons_zero]); try simp only [Act.put, List.setIfInBounds_toArray, List.set_cons_zero, List.set_cons_succ])
        refine wpAnyH_take (i := 7) (oi := _) (v := ?v467) rfl (by kernel_rfl) (by kernel_rfl) (by kernel_rfl) (fun _ _ _ h => h) (Or.inl ⟨by rfl, ?hy467⟩) (by assumption) ?rest467
        case hy467 => ((intro w hSw; (try dsimp only at hSw); go_simp); try (with_reducible rfl))
        ((try dsimp only [List.getElem_toArray, List.getElem_cons_succ, List.getElem_cons_zero]); try simp only [Act.put, List.setIfInBounds_toArray, List.set_cons_zero, List.set_cons_succ])
        refine wpAnyH_take (i := 8) (oi := _) (v := ?v468) rfl (by kernel_rfl) (by kernel_rfl) (by kernel_rfl) (fun _ _ _ h => h) (Or.inl ⟨by rfl, ?hy468⟩) (by assumption) ?rest468
        case hy468 => ((intro w hSw; (try dsimp only at hSw); go_simp); try (with_reducible rfl))
        ((try dsimp only [List.getElem_toArray, List.getElem_cons_succ, List.getElem_cons_zero]); try simp only [Act.put, List.setIfInBounds_toArray, List.set_cons_zero, List.set_cons_succ])
        refine wpAnyH_take (i := 9) (oi := _) (v := ?v469) rfl (by kernel_rfl) (by kernel_rfl) (by kernel_rfl) (fun _ _ _ h => h) (Or.inl ⟨by rfl, ?hy469⟩) (by assumption) ?rest469
        case hy469 => ((intro w hSw; (try dsimp only at hSw); go_simp); try (with_reducible rfl))
        ((try dsimp only [List.getElem_toArray, List.getElem_cons_succ, List.getElem_cons_zero]); try simp only [Act.put, List.setIfInBounds_toArray, List.set_cons_zero, List.set_cons_succ])
        refine wpAnyH_take (i := 10) (oi := _) (v := ?v470) rfl (by kernel_rfl) (by kernel_rfl) (by kernel_rfl) (fun _ _ _ h => h) (Or.inl ⟨by rfl, ?hy470⟩) (by assumption) ?rest470
        case hy470 => ((intro w hSw; (try dsimp only at hSw); go_simp); try (with_reducible rfl))
        ((try dsimp only [List.getElem_toArray, List.getElem_cons_succ, List.getElem_cons_zero]); try simp only [Act.put, List.setIfInBounds_toArray, List.set_cons_zero, List.set_cons_succ])
        refine wpAnyH_take (i := 11) (oi := _) (v := ?v471) rfl (by kernel_rfl) (by kernel_rfl) (by kernel_rfl) (fun _ _ _ h => h) (Or.inl ⟨by rfl, ?hy471⟩) (by assumption) ?rest471
        case hy471 => ((intro w hSw; (try dsimp only at hSw); go_simp); try (with_reducible rfl))
        ((try dsimp only [List.getElem_toArray, List.getElem_cons_succ, List.getElem_cons_zero]); try simp only [Act.put, List.setIfInBounds_toArray, List.set_cons_zero, List.set_cons_succ])
        refine wpAnyH_take (i := 12) (oi := _) (v := ?v472) rfl (by kernel_rfl) (by kernel_rfl) (by kernel_rfl) (fun _ _ _ h => h) (Or.inl ⟨by rfl, ?hy472⟩) (by assumption) ?rest472
        case hy472 => ((intro w hSw; (try dsimp only at hSw); go_simp); try (with_reducible rfl))
        ((try dsimp only [List.getElem_toArray, List.getElem_cons_succ, List.getElem_cons_zero]); try simp only [Act.put, List.setIfInBounds_toArray, List.set_cons_zero, List.set_cons_succ])
        refine wpAnyH_take (i := 13) (oi := _) (v := ?v473) rfl (by kernel_rfl) (by kernel_rfl) (by kernel_rfl) (fun _ _ _ h => h) (Or.inl ⟨by rfl, ?hy473⟩) (by assumption) ?rest473
        case hy473 => ((intro w hSw; (try dsimp only at hSw); go_simp); try (with_reducible rfl))
        ((try dsimp only [List.getElem_toArray, List.getElem_cons_succ, List.getElem_cons_zero]); try simp only [Act.put, List.setIfInBounds_toArray, List.set_cons_zero, List.set_cons_succ])
        refine wpAnyH_take (i := 14) (oi := _) (v := ?v474) rfl (by kernel_rfl) (by kernel_rfl) (by kernel_rfl) (fun _ _ _ h => h) (Or.inl ⟨by rfl, ?hy474⟩) (by assumption) ?rest474
        case hy474 => ((intro w hSw; (try dsimp only at hSw); go_simp); try (with_reducible rfl))
        ((try dsimp only [List.getElem_toArray, List.getElem_cons_succ, List.getElem_cons_zero]); try simp only [Act.put, List.setIfInBounds_toArray, List.set_cons_zero, List.set_cons_succ])
        refine wpAnyH_take (i := 15) (oi := _) (v := ?v475) rfl (by kernel_rfl) (by kernel_rfl) (by kernel_rfl) (fun _ _ _ h => h) (Or.inl ⟨by rfl, ?hy475⟩) (by assumption) ?rest475
        case hy475 => ((intro w hSw; (try dsimp only at hSw); go_simp); try (with_reducible rfl))
        ((try dsimp only [List.getElem_toArray, List.getElem_cons_succ, List.getElem_cons_zero]); try simp only [Act.put, List.setIfInBounds_toArray, List.set_cons_zero, List.set_cons_succ])
        refine wpAnyH_take (i := 16) (oi := _) (v := ?v476) rfl (by kernel_rfl) (by kernel_rfl) (by kernel_rfl) (fun _ _ _ h => h) (Or.inl ⟨by rfl, ?hy476⟩) (by assumption) ?rest476
        case hy476 => ((intro w hSw; (try dsimp only at hSw); go_simp); try (with_reducible rfl))
        ((try dsimp only [List.getElem_toArray, List.getElem_cons_succ, List.getElem_cons_zero]); try simp only [Act.put, List.setIfInBounds_toArray, List.set_cons_zero, List.set_cons_succ])
        refine wpAnyH_take (i := 17) (oi := _) (v := ?v477) rfl (by kernel_rfl) (by kernel_rfl) (by kernel_rfl) (fun _ _ _ h => h) (Or.inl ⟨by rfl, ?hy477⟩) (by assumption) ?rest477
        case hy477 => ((intro w hSw; (try dsimp only at hSw); go_simp); try (with_reducible rfl))
        ((try dsimp only [List.getElem_toArray, List.getElem_cons_succ, List.getElem_cons_zero]); try simp only [Act.put, List.setIfInBounds_toArray, List.set_cons_zero, List.set_cons_succ])
        refine wpAnyH_take (i := 18) (oi := _) (v := ?v478) rfl (by kernel_rfl) (by kernel_rfl) (by kernel_rfl) (fun _ _ _ h => h) (Or.inl ⟨by rfl, ?hy478⟩) (by assumption) ?rest478
        case hy478 => ((intro w hSw; (try dsimp only at hSw); go_simp); try (with_reducible rfl))
        ((try dsimp only [List.getElem_toArray, List.getElem_cons_succ, List.getElem_cons_zero]); try simp only [Act.put, List.setIfInBounds_toArray, List.set_cons_zero, List.set_cons_succ])
        refine wpAnyH_take (i := 19) (oi := _) (v := ?v479) rfl (by kernel_rfl) (by kernel_rfl) (by kernel_rfl) (fun _ _ _ h => h) (Or.inl ⟨by rfl, ?hy479⟩) (by assumption) ?rest479
        case hy479 => ((intro w hSw; (try dsimp only at hSw); go_simp); try (with_reducible rfl))
        ((try dsimp only [List.getElem_toArray, List.getElem_cons_succ, List.getElem_cons_zero]); try simp only [Act.put, List.setIfInBounds_toArray, List.set_cons_zero, List.set_cons_succ])
        refine wpAnyH_take (i := 20) (oi := _) (v := ?v480) rfl (by kernel_rfl) (by kernel_rfl) (by kernel_rfl) (fun _ _ _ h => h) (Or.inl ⟨by rfl, ?hy480⟩) (by assumption) ?rest480
        case hy480 => ((intro w hSw; (try dsimp only at hSw); go_simp); try (with_reducible rfl))
        ((try dsimp only [List.getElem_toArray, List.getElem_cons_succ, List.getElem_cons_zero]); try simp only [Act.put, List.setIfInBounds_toArray, List.set_cons_zero, List.set_cons_succ])
        refine wpAnyH_take (i := 21) (oi := _) (v := ?v481) rfl (by kernel_rfl) (by kernel_rfl) (by kernel_rfl) (fun _ _ _ h => h) (Or.inl ⟨by rfl, ?hy481⟩) (by assumption) ?rest481
        case hy481 => ((intro w hSw; (try dsimp only at hSw); go_simp); try (with_reducible rfl))
        ((try dsimp only [List.getElem_toArray, List.getElem_cons_succ, List.getElem_cons_zero]); try simp only [Act.put, List.setIfInBounds_toArray, List.set_cons_zero, List.set_cons_succ])
        refine wpAnyH_take (i := 22) (oi := _) (v := ?v482) rfl (by kernel_rfl) (by kernel_rfl) (by kernel_rfl) (fun _ _ _ h => h) (Or.inl ⟨by rfl, ?hy482⟩) (by assumption) ?rest482
        case hy482 => ((intro w hSw; (try dsimp only at hSw); go_simp); try (with_reducible rfl))
        ((try dsimp only [List.getElem_toArray, List.getElem_cons_succ, List.getElem_cons_zero]); try simp only [Act.put, List.setIfInBounds_toArray, List.set_cons_zero, List.set_cons_succ])
        refine wpAnyH_take (i := 23) (oi := _) (v := ?v483) rfl (by kernel_rfl) (by kernel_rfl) (by kernel_rfl) (fun _ _ _ h => h) (Or.inl ⟨by rfl, ?hy483⟩) (by assumption) ?rest483
        case hy483 => ((intro w hSw; (try dsimp only at hSw); go_simp); try (with_reducible rfl))
        ((try dsimp only [List.getElem_toArray, List.getElem_cons_succ, List.getElem_cons_zero]); try simp only [Act.put, List.setIfInBounds_toArray, List.set_cons_zero, List.set_cons_succ])
        refine wpAnyH_take (i := 24) (oi := _) (v := ?v484) rfl (by kernel_rfl) (by kernel_rfl) (by kernel_rfl) (fun _ _ _ h => h) (Or.inl ⟨by rfl, ?hy484⟩) (by assumption) ?rest484
        case hy484 => ((intro w hSw; (try dsimp only at hSw); go_simp); try (with_reducible rfl))
        ((try dsimp only [List.getElem_toArray, List.getElem_cons_succ, List.getElem_cons_zero]); try simp only [Act.put, List.setIfInBounds_toArray, List.set_cons_zero, List.set_cons_succ])
        refine wpAnyH_take (i := 25) (oi := _) (v := ?v485) rfl (by kernel_rfl) (by kernel_rfl) (by kernel_rfl) (fun _ _ _ h => h) (Or.inl ⟨by rfl, ?hy485⟩) (by assumption) ?rest485
        case hy485 => ((intro w hSw; (try dsimp only at hSw); go_simp); try (with_reducible rfl))
        ((try dsimp only [List.getElem_toArray, List.getElem_cons_succ, List.getElem_cons_zero]); try simp only [Act.put, List.setIfInBounds_toArray, List.set_cons_zero, List.set_cons_succ])
        refine wpAnyH_take (i := 26) (oi := _) (v := ?v486) rfl (by kernel_rfl) (by kernel_rfl) (by kernel_rfl) (fun _ _ _ h => h) (Or.inl ⟨by rfl, ?hy486⟩) (by assumption) ?rest486
        case hy486 => ((intro w hSw; (try dsimp only at hSw); go_simp); try (with_reducible rfl))
        ((try dsimp only [List.getElem_toArray, List.getElem_cons_succ, List.getElem_cons_zero]); try simp only [Act.put, List.setIfInBounds_toArray, List.set_cons_zero, List.set_cons_succ])
        refine wpAnyH_take (i := 27) (oi := _) (v := ?v487) rfl (by kernel_rfl) (by kernel_rfl) (by kernel_rfl) (fun _ _ _ h => h) (Or.inl ⟨by rfl, ?hy487⟩) (by assumption) ?rest487
        case hy487 => ((intro w hSw; (try dsimp only at hSw); go_simp); try (with_reducible rfl))
        ((try dsimp only [List.getElem_toArray, List.getElem_cons_succ, List.getElem_cons_zero]); try simp only [Act.put, List.setIfInBounds_toArray, List.set_cons_zero, List.set_cons_succ])
        refine wpAnyH_take (i := 28) (oi := _) (v := ?v488) rfl (by kernel_rfl) (by kernel_rfl) (by kernel_rfl) (fun _ _ _ h => h) (Or.inl ⟨by rfl, ?hy488⟩) (by assumption) ?rest488
        case hy488 => ((intro w hSw; (try dsimp only at hSw); go_simp); try (with_reducible rfl))
        ((try dsimp only [List.getElem_toArray, List.getElem_cons_succ, List.getElem_cons_zero]); try simp only [Act.put, List.setIfInBounds_toArray, List.set_cons_zero, List.set_cons_succ])
        refine wpAnyH_ready (rs := [29]) (by kernel_rfl) (by simp) ?_
        refine AllReadyH.cons (o := _) rfl (fun K hK => ?_) AllReadyH.nil
        go_simp
        go_at_call 46; (with_reducible refine (HP.out _).mono ?_); rintro ep wp ⟨rfl, rfl⟩
        refine hK.out _ _ ?_ (fun hHeld => ?_)
        · (try dsimp only); refine HK.out _ ?_; (repeat (first | (with_reducible exact gr_rfl _) | (with_reducible refine gr_dr ?_) | (with_reducible refine gr_then ?_ hx)))
        clear hK K
        ((try dsimp only [List.getElem_toArray, List.getElem_cons_succ, List.getElem_cons_zero]); try simp only [Act.put, List.setIfInBounds_toArray, List.set_cons_zero, List.set_cons_succ])
        refine wpAnyH_take (i := 30) (oi := _) (v := ?v489) rfl (by kernel_rfl) (by kernel_rfl) (by kernel_rfl) (fun _ _ _ h => h) (Or.inl ⟨by rfl, ?hy489⟩) (by assumption) ?rest489
        case hy489 => ((intro w hSw; (try dsimp only at hSw); go_simp); try (with_reducible rfl))
        ((try dsimp only [List.getElem_toArray, List.getElem_cons_succ, List.getElem_cons_zero]); try simp only [Act.put, List.setIfInBounds_toArray, List.set_cons_zero, List.set_cons_succ])
        refine wpAnyH_take (i := 31) (oi := _) (v := ?v490) rfl (by kernel_rfl) (by kernel_rfl) (by kernel_rfl) (fun _ _ _ h => h) (Or.inl ⟨by rfl, ?hy490⟩) (by assumption) ?rest490
        case hy490 => ((intro w hSw; (try dsimp only at hSw); go_simp); try (with_reducible rfl))
        ((try dsimp only [List.getElem_toArray, List.getElem_cons_succ, List.getElem_cons_zero]); try simp only [Act.put, List.setIfInBounds_toArray, List.set_cons_zero, List.set_cons_succ])
        refine wpAnyH_take (i := 32) (oi := _) (v := ?v491) rfl (by kernel_rfl) (by kernel_rfl) (by kernel_rfl) (fun _ _ _ h => h) (Or.inl ⟨by rfl, ?hy491⟩) (by assumption) ?rest491
        case hy491 => ((intro w hSw; (try dsimp only at hSw); go_simp); try (with_reducible rfl))
        ((try dsimp only [List.getElem_toArray, List.getElem_cons_succ, List.getElem_cons_zero]); try simp only [Act.put, List.setIfInBounds_toArray, List.set_cons_zero, List.set_cons_succ])
        refine wpAnyH_take (i := 33) (oi := _) (v := ?v492) rfl (by kernel_rfl) (by kernel_rfl) (by kernel_rfl) (fun _ _ _ h => h) (Or.inl ⟨by rfl, ?hy492⟩) (by assumption) ?rest492
        case hy492 => ((intro w hSw; (try dsimp only at hSw); go_simp); try (with_reducible rfl))
        ((try dsimp only [List.getElem_toArray, List.getElem_cons_succ, List.getElem_cons_zero]); try simp only [Act.put, List.setIfInBounds_toArray, List.set_cons_zero, List.set_cons_succ])
        refine wpAnyH_take (i := 34) (oi := _) (v := ?v493) rfl (by kernel_rfl) (by kernel_rfl) (by kernel_rfl) (fun _ _ _ h => h) (Or.inl ⟨by rfl, ?hy493⟩) (by assumption) ?rest493
        case hy493 => ((intro w hSw; (try dsimp only at hSw); go_simp); try (with_reducible rfl))
        ((try dsimp only [List.getElem_toArray, List.getElem_cons_succ, List.getElem_cons_zero]); try simp only [Act.put, List.setIfInBounds_toArray, List.set_cons_zero, List.set_cons_succ])
        refine wpAnyH_take (i := 35) (oi := _) (v := ?v494) rfl (by kernel_rfl) (by kernel_rfl) (by kernel_rfl) (fun _ _ _ h => h) (Or.inl ⟨by rfl, ?hy494⟩) (by assumption) ?rest494
        case hy494 => ((intro w hSw; (try dsimp only at hSw); go_simp); try (with_reducible rfl))
        ((try dsimp only [List.getElem_toArray, List.getElem_cons_succ, List.getElem_cons_zero]); try simp only [Act.put, List.setIfInBounds_toArray, List.set_cons_zero, List.set_cons_succ])
        refine wpAnyH_ready (rs := [36]) (by kernel_rfl) (by simp) ?_
        refine AllReadyH.cons (o := _) rfl (fun K hK => ?_) AllReadyH.nil
        go_simp
        go_at_call 47; (with_reducible refine (HU.out _).mono ?_); rintro eu wu ⟨rfl, rfl⟩
        refine hK.out _ _ ?_ (fun hHeld => ?_)
        · (try dsimp only); refine HK.out _ ?_; (repeat (first | (with_reducible exact gr_rfl _) | (with_reducible refine gr_dr ?_) | (with_reducible refine gr_then ?_ hx)))
        clear hK K
        ((try dsimp only [List.getElem_toArray, List.getElem_cons_succ, List.getElem_cons_zero]); try simp only [Act.put, List.setIfInBounds_toArray, List.set_cons_zero, List.set_cons_succ])
        refine wpAnyH_take (i := 37) (oi := _) (v := ?v495) rfl (by kernel_rfl) (by kernel_rfl) (by kernel_rfl) (fun _ _ _ h => h) (Or.inl ⟨by rfl, ?hy495⟩) (by assumption) ?rest495
        case hy495 => ((intro w hSw; (try dsimp only at hSw); go_simp); try (with_reducible rfl))
        ((try dsimp only [List.getElem_toArray, List.getElem_cons_succ, List.getElem_cons_zero]); try simp only [Act.put, List.setIfInBounds_toArray, List.set_cons_zero, List.set_cons_succ])
        refine wpAnyH_take (i := 38) (oi := _) (v := ?v496) rfl (by kernel_rfl) (by kernel_rfl) (by kernel_rfl) (fun _ _ _ h => h) (Or.inl ⟨by rfl, ?hy496⟩) (by assumption) ?rest496
        case hy496 => ((intro w hSw; (try dsimp only at hSw); go_simp); try (with_reducible rfl))
        ((try dsimp only [List.getElem_toArray, List.getElem_cons_succ, List.getElem_cons_zero]); try simp only [Act.put, List.setIfInBounds_toArray, List.set_cons_zero, List.set_cons_succ])
        refine wpAnyH_take (i := 39) (oi := _) (v := ?v497) rfl (by kernel_rfl) (by kernel_rfl) (by kernel_rfl) (fun _ _ _ h => h) (Or.inl ⟨by rfl, ?hy497⟩) (by assumption) ?rest497
        case hy497 => ((intro w hSw; (try dsimp only at hSw); go_simp); try (with_reducible rfl))
        ((try dsimp only [List.getElem_toArray, List.getElem_cons_succ, List.getElem_cons_zero]); try simp only [Act.put, List.setIfInBounds_toArray, List.set_cons_zero, List.set_cons_succ])
        refine wpAnyH_done (by kernel_rfl) ?_ _
        go_wp2
        go_ret
        exact BoolIs.yes rfl (HW.out.2 (.inr ⟨H1.out, H2.out, H3.out, H4.out, H5.out⟩)) (gr_then HGW.out (gr_then (gr_dr (gr_rfl w7)) hx))
end Go.Proofs.YtaejnklgnegkhaaGreatDoor
