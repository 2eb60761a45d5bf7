/- Contracts of the program and of the reference, part 3: Sh. -/
import Derived.Test.YtaejnklgnegkhaaGreatDoorBBase2
import Derived.Deep.RegionHeld3
namespace Go.Proofs.YtaejnklgnegkhaaGreatDoor
open Go.RowKit Pt Sh

abbrev five (a : S5) : List Value := [.int .i64 a.l, .int .i64 a.m, .int .i64 a.c, .string a.b, .string a.e]
abbrev zero5 : List Value := [.int .i64 0, .int .i64 0, .int .i64 0, .string ⟨#[]⟩, .string ⟨#[]⟩]
theorem Row.keep5 {w : World} {b b' : Nat} {cs : List Value} {v0 v1 v2 v3 v4 : Value} {t : TypeId} (h : Row w b cs t) (ne : b ≠ b') : Row (((((w.setCell ⟨b', 0, none⟩ v0).setCell ⟨b', 1, none⟩ v1).setCell ⟨b', 2, none⟩ v2).setCell ⟨b', 3, none⟩ v3).setCell ⟨b', 4, none⟩ v4) b cs t :=
  ((((h.other ne).other ne).other ne).other ne).other ne
open Classical in
/-- One of two strings. -/
noncomputable def pickF (a : S5) (x y : ByteArray) : ByteArray := if fixD a then x else y
theorem pick_yes {a : S5} {x y : ByteArray} (h : fixD a) : pickF a x y = x := if_pos h
theorem pick_no {a : S5} {x y : ByteArray} (h : ¬ fixD a) : pickF a x y = y := if_neg h
theorem canon_le {a : S5} (hb : a.b.size ≤ 1000000) (he : a.e.size ≤ 1000000) : (canonD a).b.size ≤ 1000000 ∧ (canonD a).e.size ≤ 1000000 := by
  rcases Classical.em (hasD (ownD a)) with h | h
  · rw [show canonD a = ownD a from if_pos h]; exact ⟨hb, he⟩
  · rw [show canonD a = none5 from if_neg h]; exact ⟨Nat.zero_le _, Nat.zero_le _⟩
theorem canon_bd (a : S5) : canonD a = none5 ∨ (0 ≤ (canonD a).l ∧ (canonD a).l ≤ 200 ∧ (canonD a).l ≤ (canonD a).m ∧ (canonD a).m ≤ 200) := by
  rcases Classical.em (hasD (ownD a)) with h | h
  · right
    rw [show canonD a = ownD a from if_pos h]
    obtain ⟨_, n, h1, h2, _⟩ := h
    have h1' : max (max a.l (a.b.size : Int)) (a.e.size : Int) ≤ n := h1
    have h2' : n ≤ min a.m 200 := h2
    have e1 : (ownD a).l = max (max a.l (a.b.size : Int)) (a.e.size : Int) := rfl
    have e2 : (ownD a).m = min a.m 200 := rfl
    omega
  · exact .inl (if_neg h)
set_option maxRecDepth 100000 in
set_option maxHeartbeats 4000000 in
theorem conc_any (a a' : S5) (w : World) (hb : a.b.size ≤ 1000000) (he : a.e.size ≤ 1000000) (hb' : a'.b.size ≤ 1000000) (he' : a'.e.size ≤ 1000000) :
    Calls Tryz.prog 23 #[vS a, vS a'] w fun e w' => e = .returned (vS (concD a a')) ∧ w.grownBy w' none := by
  have HKA := Lib.hid (fun w0 => canon_any a w0 hb he)
  have HKB := Lib.hid (fun w0 => canon_any a' w0 hb' he')
  have hla := canon_le hb he
  have hlb := canon_le hb' he'
  have hda := canon_bd a
  have hdb := canon_bd a'
  obtain ⟨R, hR⟩ : ∃ R, concD a a' = R := ⟨_, rfl⟩
  have HRR := Lib.hid hR
  unfold concD at hR
  generalize hkk : canonD a = k at *
  generalize hkk' : canonD a' = k' at *
  have HREQ := Lib.hid hR
  rw [HRR.out]
  obtain ⟨l, m, c, b, e⟩ := a
  obtain ⟨l', m', c', b', e'⟩ := a'
  obtain ⟨kl, km, kc, kb, ke⟩ := k
  obtain ⟨ql, qm, qc, qb, qe⟩ := k'
  have RZ := Row.new ((w.alloc (.cells #[.int .i64 l, .int .i64 m, .int .i64 c, .string b, .string e] 24)).alloc (.cells #[.int .i64 l', .int .i64 m', .int .i64 c', .string b', .string e'] 24)) zero5 24
  have RA := ((Row.new w (five ⟨l, m, c, b, e⟩) 24).al (o := .cells #[.int .i64 l', .int .i64 m', .int .i64 c', .string b', .string e'] 24)).al (o := .cells #[.int .i64 0, .int .i64 0, .int .i64 0, .string ⟨#[]⟩, .string ⟨#[]⟩] 24)
  have RB := (Row.new (w.alloc (.cells #[.int .i64 l, .int .i64 m, .int .i64 c, .string b, .string e] 24)) (five ⟨l', m', c', b', e'⟩) 24).al (o := .cells #[.int .i64 0, .int .i64 0, .int .i64 0, .string ⟨#[]⟩, .string ⟨#[]⟩] 24)
  rw [World.size_alloc, World.size_alloc] at RZ
  rw [World.size_alloc] at RB
  simp only [List.toArray] at RZ RA RB
  obtain ⟨wz, hwz⟩ : ∃ wz, ((w.alloc (.cells #[.int .i64 l, .int .i64 m, .int .i64 c, .string b, .string e] 24)).alloc (.cells #[.int .i64 l', .int .i64 m', .int .i64 c', .string b', .string e'] 24)).alloc (.cells #[.int .i64 0, .int .i64 0, .int .i64 0, .string ⟨#[]⟩, .string ⟨#[]⟩] 24) = wz := ⟨_, rfl⟩
  rw [hwz] at RZ RA RB
  have HRZ := Lib.hid RZ
  have HRA := Lib.hid RA
  have HRB := Lib.hid RB
  have HGZ := Lib.hid (show w.grownBy wz none from by rw [← hwz]; exact gr_then (gr_then (gr_alloc _ _ _) (gr_alloc _ _ _)) (gr_alloc _ _ _))
  have HWZ := Lib.hid hwz
  have a0 := RA.cell 0 _ rfl
  have a1 := RA.cell 1 _ rfl
  have a2 := RA.cell 2 _ rfl
  have a3 := RA.cell 3 _ rfl
  have a4 := RA.cell 4 _ rfl
  have b0 := RB.cell 0 _ rfl
  have b1 := RB.cell 1 _ rfl
  have b2 := RB.cell 2 _ rfl
  have b3 := RB.cell 3 _ rfl
  have b4 := RB.cell 4 _ rfl
  clear RZ RA RB hwz hb he hb' he' hR hkk hkk'
  go_enter Tryz.func23, Tryz.ntmps23
  go_wp2_with fail
  rw [HWZ.out]
  go_cut [4] from 6 to 9 (fun p wx => p = .pointer (some ⟨w.heap.size + 1 + 1, 0, none⟩) ∧ Row wx w.heap.size (five ⟨kl, km, kc, kb, ke⟩) 24 ∧ Row wx (w.heap.size + 1) (five ⟨ql, qm, qc, qb, qe⟩) 24 ∧ Row wx (w.heap.size + 1 + 1) zero5 24 ∧ w.grownBy wx none)
  case first =>
    go_region_with (first
      | (go_at_call 42; with_reducible refine (HKA.out _).mono ?_; rintro e1 w1 ⟨rfl, g1⟩; have d0 := (HRB.out.kept (gr_then (gr_dr (gr_rfl wz)) g1)).cell 0 _ rfl; have d1 := (HRB.out.kept (gr_then (gr_dr (gr_rfl wz)) g1)).cell 1 _ rfl; have d2 := (HRB.out.kept (gr_then (gr_dr (gr_rfl wz)) g1)).cell 2 _ rfl; have d3 := (HRB.out.kept (gr_then (gr_dr (gr_rfl wz)) g1)).cell 3 _ rfl; have d4 := (HRB.out.kept (gr_then (gr_dr (gr_rfl wz)) g1)).cell 4 _ rfl)
      | (go_at_call 42; with_reducible refine (HKB.out _).mono ?_; rintro e2 w2 ⟨rfl, g2⟩; have p0 := (HRA.out.kept (gr_then (gr_then (gr_dr (gr_rfl wz)) g1) g2)).cell 0 _ rfl; have pf0 := (HRA.out.kept (gr_then (gr_then (gr_dr (gr_rfl wz)) g1) g2)).fr 0; have q0 := (HRB.out.kept (gr_then (gr_then (gr_dr (gr_rfl wz)) g1) g2)).cell 0 _ rfl; have qf0 := (HRB.out.kept (gr_then (gr_then (gr_dr (gr_rfl wz)) g1) g2)).fr 0; have p1 := (HRA.out.kept (gr_then (gr_then (gr_dr (gr_rfl wz)) g1) g2)).cell 1 _ rfl; have pf1 := (HRA.out.kept (gr_then (gr_then (gr_dr (gr_rfl wz)) g1) g2)).fr 1; have q1 := (HRB.out.kept (gr_then (gr_then (gr_dr (gr_rfl wz)) g1) g2)).cell 1 _ rfl; have qf1 := (HRB.out.kept (gr_then (gr_then (gr_dr (gr_rfl wz)) g1) g2)).fr 1; have p2 := (HRA.out.kept (gr_then (gr_then (gr_dr (gr_rfl wz)) g1) g2)).cell 2 _ rfl; have pf2 := (HRA.out.kept (gr_then (gr_then (gr_dr (gr_rfl wz)) g1) g2)).fr 2; have q2 := (HRB.out.kept (gr_then (gr_then (gr_dr (gr_rfl wz)) g1) g2)).cell 2 _ rfl; have qf2 := (HRB.out.kept (gr_then (gr_then (gr_dr (gr_rfl wz)) g1) g2)).fr 2; have p3 := (HRA.out.kept (gr_then (gr_then (gr_dr (gr_rfl wz)) g1) g2)).cell 3 _ rfl; have pf3 := (HRA.out.kept (gr_then (gr_then (gr_dr (gr_rfl wz)) g1) g2)).fr 3; have q3 := (HRB.out.kept (gr_then (gr_then (gr_dr (gr_rfl wz)) g1) g2)).cell 3 _ rfl; have qf3 := (HRB.out.kept (gr_then (gr_then (gr_dr (gr_rfl wz)) g1) g2)).fr 3; have p4 := (HRA.out.kept (gr_then (gr_then (gr_dr (gr_rfl wz)) g1) g2)).cell 4 _ rfl; have pf4 := (HRA.out.kept (gr_then (gr_then (gr_dr (gr_rfl wz)) g1) g2)).fr 4; have q4 := (HRB.out.kept (gr_then (gr_then (gr_dr (gr_rfl wz)) g1) g2)).cell 4 _ rfl; have qf4 := (HRB.out.kept (gr_then (gr_then (gr_dr (gr_rfl wz)) g1) g2)).fr 4))
    all_goals
      have G : wz.grownBy w2 none := gr_then (gr_then (gr_dr (gr_rfl wz)) g1) g2
      go_wp2_with fail
      go_meet
      exact ⟨rfl, ((HRA.out.kept G).five (v0 := .int .i64 kl) (v1 := .int .i64 km) (v2 := .int .i64 kc) (v3 := .string kb) (v4 := .string ke)).keep5 (by omega), ((HRB.out.kept G).keep5 (by omega)).five, ((HRZ.out.kept G).keep5 (by omega)).keep5 (by omega), gr_five (gr_five (gr_then HGZ.out G) (Nat.le_refl _)) (by omega)⟩
  case rest =>
    obtain ⟨rfl, RA, RB, RZ, GW⟩ := hcut
    obtain ⟨w7, hw7⟩ : ∃ w7, wc = w7 := ⟨_, rfl⟩
    rw [hw7] at RA RB RZ GW ⊢
    have HRA := Lib.hid RA
    have HRB := Lib.hid RB
    have HRZ := Lib.hid RZ
    have HGW := Lib.hid GW
    have HNS := Lib.hid nos0
    clear hw7 RA RB RZ GW a0 a1 a2 a3 a4 b0 b1 b2 b3 b4
    have hnl := nil_list
    rcases hda with h | h
    · obtain ⟨rfl, rfl, rfl, rfl, rfl⟩ : kl = 1 ∧ km = 0 ∧ kc = 0 ∧ kb = ⟨#[]⟩ ∧ ke = ⟨#[]⟩ := by
        unfold none5 at h; cases h; exact ⟨rfl, rfl, rfl, rfl, rfl⟩
      have hR : R = none5 := by rw [← HREQ.out]; exact if_pos (.inl rfl)
      subst hR
      clear h hdb hla hlb
      have HK := Lib.hid (show ∀ w', w7.grownBy w' none → (w'.cell? ⟨w.heap.size, 0, none⟩ = some (.int .i64 1) ∧ w'.cell? ⟨w.heap.size, 1, none⟩ = some (.int .i64 0) ∧ w'.cell? ⟨w.heap.size, 2, none⟩ = some (.int .i64 0) ∧ w'.cell? ⟨w.heap.size, 3, none⟩ = some (.string ⟨#[]⟩) ∧ w'.cell? ⟨w.heap.size, 4, none⟩ = some (.string ⟨#[]⟩) ∧ w'.cell? ⟨w.heap.size + 1, 0, none⟩ = some (.int .i64 ql) ∧ w'.cell? ⟨w.heap.size + 1, 1, none⟩ = some (.int .i64 qm) ∧ w'.cell? ⟨w.heap.size + 1, 2, none⟩ = some (.int .i64 qc) ∧ w'.cell? ⟨w.heap.size + 1, 3, none⟩ = some (.string qb) ∧ w'.cell? ⟨w.heap.size + 1, 4, none⟩ = some (.string qe)) from fun w' h => ⟨(HRA.out.kept h).cell 0 _ rfl, (HRA.out.kept h).cell 1 _ rfl, (HRA.out.kept h).cell 2 _ rfl, (HRA.out.kept h).cell 3 _ rfl, (HRA.out.kept h).cell 4 _ rfl, (HRB.out.kept h).cell 0 _ rfl, (HRB.out.kept h).cell 1 _ rfl, (HRB.out.kept h).cell 2 _ rfl, (HRB.out.kept h).cell 3 _ rfl, (HRB.out.kept h).cell 4 _ rfl⟩)
      go_wp2_with fail
      refine wp_region_held_drew (S := (fun w' => w'.cell? ⟨w.heap.size, 0, none⟩ = some (.int .i64 1) ∧ w'.cell? ⟨w.heap.size, 1, none⟩ = some (.int .i64 0) ∧ w'.cell? ⟨w.heap.size, 2, none⟩ = some (.int .i64 0) ∧ w'.cell? ⟨w.heap.size, 3, none⟩ = some (.string ⟨#[]⟩) ∧ w'.cell? ⟨w.heap.size, 4, none⟩ = some (.string ⟨#[]⟩) ∧ w'.cell? ⟨w.heap.size + 1, 0, none⟩ = some (.int .i64 ql) ∧ w'.cell? ⟨w.heap.size + 1, 1, none⟩ = some (.int .i64 qm) ∧ w'.cell? ⟨w.heap.size + 1, 2, none⟩ = some (.int .i64 qc) ∧ w'.cell? ⟨w.heap.size + 1, 3, none⟩ = some (.string qb) ∧ w'.cell? ⟨w.heap.size + 1, 4, none⟩ = some (.string qe))) (by kernel_rfl) ?_ (fun hHeld => ?_)
      · refine HK.out _ ?_; (repeat (first | (with_reducible exact gr_rfl _) | (with_reducible refine gr_dr ?_) | (with_reducible refine gr_then ?_ hx)))
      refine wpAnyH_take (i := 0) (oi := _) (v := ?v1) rfl (by kernel_rfl) (by kernel_rfl) (by kernel_rfl) (fun _ _ _ h => h) (Or.inl ⟨by rfl, ?hy1⟩) (by assumption) ?rest1
      case hy1 => ((intro w hSw; (try dsimp only at hSw); go_simp); try (with_reducible rfl))
      ((try dsimp only [List.getElem_toArray, List.getElem_cons_succ, List.getElem_cons_zero]); try simp only [Act.put, List.setIfInBounds_toArray, List.set_cons_zero, List.set_cons_succ])
      refine wpAnyH_ready (rs := [1]) (by kernel_rfl) (by simp) ?_
      refine AllReadyH.cons (o := _) rfl (fun K hK => ?_) AllReadyH.nil
      go_simp
      go_at_call 43; (with_reducible refine (HNS.out _).mono ?_); rintro ex wx ⟨rfl, hx⟩
      refine hK.out _ _ ?_ (fun hHeld => ?_)
      · (try dsimp only); refine HK.out _ ?_; (repeat (first | (with_reducible exact gr_rfl _) | (with_reducible refine gr_dr ?_) | (with_reducible refine gr_then ?_ hx)))
      clear hK K
      ((try dsimp only [List.getElem_toArray, List.getElem_cons_succ, List.getElem_cons_zero]); try simp only [Act.put, List.setIfInBounds_toArray, List.set_cons_zero, List.set_cons_succ])
      refine wpAnyH_take (i := 2) (oi := _) (v := ?v2) rfl (by kernel_rfl) (by kernel_rfl) (by kernel_rfl) (fun _ _ _ h => h) (Or.inl ⟨by rfl, ?hy2⟩) (by assumption) ?rest2
      case hy2 => ((intro w hSw; (try dsimp only at hSw); go_simp); try (with_reducible rfl))
      ((try dsimp only [List.getElem_toArray, List.getElem_cons_succ, List.getElem_cons_zero]); try simp only [Act.put, List.setIfInBounds_toArray, List.set_cons_zero, List.set_cons_succ])
      refine wpAnyH_take (i := 3) (oi := _) (v := ?v3) rfl (by kernel_rfl) (by kernel_rfl) (by kernel_rfl) (fun _ _ _ h => h) (Or.inl ⟨by rfl, ?hy3⟩) (by assumption) ?rest3
      case hy3 => ((intro w hSw; (try dsimp only at hSw); go_simp); try (with_reducible rfl))
      ((try dsimp only [List.getElem_toArray, List.getElem_cons_succ, List.getElem_cons_zero]); try simp only [Act.put, List.setIfInBounds_toArray, List.set_cons_zero, List.set_cons_succ])
      refine wpAnyH_take (i := 4) (oi := _) (v := _) rfl (by kernel_rfl) (by kernel_rfl) (by kernel_rfl) (fun _ _ _ h => h) (Or.inr ⟨by rfl, rfl⟩) (by assumption) ?rest4
      ((try dsimp only [List.getElem_toArray, List.getElem_cons_succ, List.getElem_cons_zero]); try simp only [Act.put, List.setIfInBounds_toArray, List.set_cons_zero, List.set_cons_succ])
      refine wpAnyH_take (i := 5) (oi := _) (v := _) rfl (by kernel_rfl) (by kernel_rfl) (by kernel_rfl) (fun _ _ _ h => h) (Or.inr ⟨by rfl, rfl⟩) (by assumption) ?rest5
      ((try dsimp only [List.getElem_toArray, List.getElem_cons_succ, List.getElem_cons_zero]); try simp only [Act.put, List.setIfInBounds_toArray, List.set_cons_zero, List.set_cons_succ])
      refine wpAnyH_take (i := 6) (oi := _) (v := _) rfl (by kernel_rfl) (by kernel_rfl) (by kernel_rfl) (fun _ _ _ h => h) (Or.inr ⟨by rfl, rfl⟩) (by assumption) ?rest6
      ((try dsimp only [List.getElem_toArray, List.getElem_cons_succ, List.getElem_cons_zero]); try simp only [Act.put, List.setIfInBounds_toArray, List.set_cons_zero, List.set_cons_succ])
      refine wpAnyH_take (i := 7) (oi := _) (v := ?v7) rfl (by kernel_rfl) (by kernel_rfl) (by kernel_rfl) (fun _ _ _ h => h) (Or.inl ⟨by rfl, ?hy7⟩) (by assumption) ?rest7
      case hy7 => ((intro w hSw; (try dsimp only at hSw); go_simp); try (with_reducible rfl))
      ((try dsimp only [List.getElem_toArray, List.getElem_cons_succ, List.getElem_cons_zero]); try simp only [Act.put, List.setIfInBounds_toArray, List.set_cons_zero, List.set_cons_succ])
      refine wpAnyH_take (i := 8) (oi := _) (v := ?v8) rfl (by kernel_rfl) (by kernel_rfl) (by kernel_rfl) (fun _ _ _ h => h) (Or.inl ⟨by rfl, ?hy8⟩) (by assumption) ?rest8
      case hy8 => ((intro w hSw; (try dsimp only at hSw); go_simp); try (with_reducible rfl))
      ((try dsimp only [List.getElem_toArray, List.getElem_cons_succ, List.getElem_cons_zero]); try simp only [Act.put, List.setIfInBounds_toArray, List.set_cons_zero, List.set_cons_succ])
      refine wpAnyH_take (i := 9) (oi := _) (v := _) rfl (by kernel_rfl) (by kernel_rfl) (by kernel_rfl) (fun _ _ _ h => h) (Or.inr ⟨by rfl, rfl⟩) (by assumption) ?rest9
      ((try dsimp only [List.getElem_toArray, List.getElem_cons_succ, List.getElem_cons_zero]); try simp only [Act.put, List.setIfInBounds_toArray, List.set_cons_zero, List.set_cons_succ])
      refine wpAnyH_take (i := 10) (oi := _) (v := _) rfl (by kernel_rfl) (by kernel_rfl) (by kernel_rfl) (fun _ _ _ h => h) (Or.inr ⟨by rfl, rfl⟩) (by assumption) ?rest10
      ((try dsimp only [List.getElem_toArray, List.getElem_cons_succ, List.getElem_cons_zero]); try simp only [Act.put, List.setIfInBounds_toArray, List.set_cons_zero, List.set_cons_succ])
      refine wpAnyH_take (i := 11) (oi := _) (v := _) rfl (by kernel_rfl) (by kernel_rfl) (by kernel_rfl) (fun _ _ _ h => h) (Or.inr ⟨by rfl, rfl⟩) (by assumption) ?rest11
      ((try dsimp only [List.getElem_toArray, List.getElem_cons_succ, List.getElem_cons_zero]); try simp only [Act.put, List.setIfInBounds_toArray, List.set_cons_zero, List.set_cons_succ])
      refine wpAnyH_take (i := 12) (oi := _) (v := _) rfl (by kernel_rfl) (by kernel_rfl) (by kernel_rfl) (fun _ _ _ h => h) (Or.inr ⟨by rfl, rfl⟩) (by assumption) ?rest12
      ((try dsimp only [List.getElem_toArray, List.getElem_cons_succ, List.getElem_cons_zero]); try simp only [Act.put, List.setIfInBounds_toArray, List.set_cons_zero, List.set_cons_succ])
      refine wpAnyH_take (i := 13) (oi := _) (v := _) rfl (by kernel_rfl) (by kernel_rfl) (by kernel_rfl) (fun _ _ _ h => h) (Or.inr ⟨by rfl, rfl⟩) (by assumption) ?rest13
      ((try dsimp only [List.getElem_toArray, List.getElem_cons_succ, List.getElem_cons_zero]); try simp only [Act.put, List.setIfInBounds_toArray, List.set_cons_zero, List.set_cons_succ])
      refine wpAnyH_take (i := 14) (oi := _) (v := _) rfl (by kernel_rfl) (by kernel_rfl) (by kernel_rfl) (fun _ _ _ h => h) (Or.inr ⟨by rfl, rfl⟩) (by assumption) ?rest14
      ((try dsimp only [List.getElem_toArray, List.getElem_cons_succ, List.getElem_cons_zero]); try simp only [Act.put, List.setIfInBounds_toArray, List.set_cons_zero, List.set_cons_succ])
      refine wpAnyH_take (i := 15) (oi := _) (v := ?v15) rfl (by kernel_rfl) (by kernel_rfl) (by kernel_rfl) (fun _ _ _ h => h) (Or.inl ⟨by rfl, ?hy15⟩) (by assumption) ?rest15
      case hy15 => ((intro w hSw; (try dsimp only at hSw); go_simp); try (with_reducible rfl))
      ((try dsimp only [List.getElem_toArray, List.getElem_cons_succ, List.getElem_cons_zero]); try simp only [Act.put, List.setIfInBounds_toArray, List.set_cons_zero, List.set_cons_succ])
      refine wpAnyH_done (by kernel_rfl) ?_ _
      have GN : w7.grownBy wx none := gr_then (gr_dr (gr_rfl w7)) hx
      have HGN := Lib.hid GN
      clear GN
      go_wp2_with fail
      refine (HNS.out _).mono ?_
      rintro e9 w9 ⟨rfl, h9⟩
      have R2 := HRZ.out.kept (gr_then HGN.out h9)
      have f0 := R2.fr 0
      have f1 := R2.fr 1
      have f2 := R2.fr 2
      have f3 := R2.fr 3
      have f4 := R2.fr 4
      have c0 := R2.cell 0 _ rfl
      have c1 := R2.cell 1 _ rfl
      have c2 := R2.cell 2 _ rfl
      have c3 := R2.cell 3 _ rfl
      have c4 := R2.cell 4 _ rfl
      have HR2 := Lib.hid R2
      have G2 := Lib.hid (gr_then HGW.out (gr_then HGN.out h9))
      clear R2 h9
      go_wp2
      exact bodyPost_ret (v := vS none5) (results_shape (a := none5) rfl rfl (HR2.out.five (v0 := .int .i64 1) (v1 := .int .i64 0) (v2 := .int .i64 0) (v3 := .string ⟨#[]⟩) (v4 := .string ⟨#[]⟩))) rfl ⟨rfl, gr_five G2.out (by omega)⟩
    · have hkn : (⟨kl, km, kc, kb, ke⟩ : S5) ≠ none5 := fun h0 => by unfold none5 at h0; cases h0; omega
      have hk2 : (kl == 1) = false ∨ (kl = 1 ∧ (km == 0) = false) := by
        by_cases h1 : kl = 1
        · exact .inr ⟨h1, by rw [beq_eq_false_iff_ne]; omega⟩
        · exact .inl (by rw [beq_eq_false_iff_ne]; exact h1)
      have HA := Lib.hid h
      have HKN := Lib.hid hkn
      clear h hkn
      rcases hdb with h | h
      · obtain ⟨rfl, rfl, rfl, rfl, rfl⟩ : ql = 1 ∧ qm = 0 ∧ qc = 0 ∧ qb = ⟨#[]⟩ ∧ qe = ⟨#[]⟩ := by
          unfold none5 at h; cases h; exact ⟨rfl, rfl, rfl, rfl, rfl⟩
        have hR : R = none5 := by rw [← HREQ.out]; exact if_pos (.inr (.inl rfl))
        subst hR
        clear h hla hlb
        rcases hk2 with hk2 | ⟨rfl, hk2⟩
        · have HK := Lib.hid (show ∀ w', w7.grownBy w' none → (w'.cell? ⟨w.heap.size, 0, none⟩ = some (.int .i64 kl) ∧ w'.cell? ⟨w.heap.size, 1, none⟩ = some (.int .i64 km) ∧ w'.cell? ⟨w.heap.size, 2, none⟩ = some (.int .i64 kc) ∧ w'.cell? ⟨w.heap.size, 3, none⟩ = some (.string kb) ∧ w'.cell? ⟨w.heap.size, 4, none⟩ = some (.string ke) ∧ w'.cell? ⟨w.heap.size + 1, 0, none⟩ = some (.int .i64 1) ∧ w'.cell? ⟨w.heap.size + 1, 1, none⟩ = some (.int .i64 0) ∧ w'.cell? ⟨w.heap.size + 1, 2, none⟩ = some (.int .i64 0) ∧ w'.cell? ⟨w.heap.size + 1, 3, none⟩ = some (.string ⟨#[]⟩) ∧ w'.cell? ⟨w.heap.size + 1, 4, none⟩ = some (.string ⟨#[]⟩)) from fun w' h => ⟨(HRA.out.kept h).cell 0 _ rfl, (HRA.out.kept h).cell 1 _ rfl, (HRA.out.kept h).cell 2 _ rfl, (HRA.out.kept h).cell 3 _ rfl, (HRA.out.kept h).cell 4 _ rfl, (HRB.out.kept h).cell 0 _ rfl, (HRB.out.kept h).cell 1 _ rfl, (HRB.out.kept h).cell 2 _ rfl, (HRB.out.kept h).cell 3 _ rfl, (HRB.out.kept h).cell 4 _ rfl⟩)
          go_wp2_with fail
          refine wp_region_held_drew (S := (fun w' => w'.cell? ⟨w.heap.size, 0, none⟩ = some (.int .i64 kl) ∧ w'.cell? ⟨w.heap.size, 1, none⟩ = some (.int .i64 km) ∧ w'.cell? ⟨w.heap.size, 2, none⟩ = some (.int .i64 kc) ∧ w'.cell? ⟨w.heap.size, 3, none⟩ = some (.string kb) ∧ w'.cell? ⟨w.heap.size, 4, none⟩ = some (.string ke) ∧ w'.cell? ⟨w.heap.size + 1, 0, none⟩ = some (.int .i64 1) ∧ w'.cell? ⟨w.heap.size + 1, 1, none⟩ = some (.int .i64 0) ∧ w'.cell? ⟨w.heap.size + 1, 2, none⟩ = some (.int .i64 0) ∧ w'.cell? ⟨w.heap.size + 1, 3, none⟩ = some (.string ⟨#[]⟩) ∧ w'.cell? ⟨w.heap.size + 1, 4, none⟩ = some (.string ⟨#[]⟩))) (by kernel_rfl) ?_ (fun hHeld => ?_)
          · refine HK.out _ ?_; (repeat (first | (with_reducible exact gr_rfl _) | (with_reducible refine gr_dr ?_) | (with_reducible refine gr_then ?_ hy) | (with_reducible refine gr_then ?_ hx)))
          refine wpAnyH_take (i := 0) (oi := _) (v := ?v16) rfl (by kernel_rfl) (by kernel_rfl) (by kernel_rfl) (fun _ _ _ h => h) (Or.inl ⟨by rfl, ?hy16⟩) (by assumption) ?rest16
          case hy16 => ((intro w hSw; (try dsimp only at hSw); go_simp); try (with_reducible rfl))
          ((try dsimp only [List.getElem_toArray, List.getElem_cons_succ, List.getElem_cons_zero]); try simp only [Act.put, List.setIfInBounds_toArray, List.set_cons_zero, List.set_cons_succ])
          refine wpAnyH_ready (rs := [1]) (by kernel_rfl) (by simp) ?_
          refine AllReadyH.cons (o := _) rfl (fun K hK => ?_) AllReadyH.nil
          go_simp
          go_at_call 43; (with_reducible refine (HNS.out _).mono ?_); rintro ex wx ⟨rfl, hx⟩
          refine hK.out _ _ ?_ (fun hHeld => ?_)
          · (try dsimp only); refine HK.out _ ?_; (repeat (first | (with_reducible exact gr_rfl _) | (with_reducible refine gr_dr ?_) | (with_reducible refine gr_then ?_ hy) | (with_reducible refine gr_then ?_ hx)))
          clear hK K
          ((try dsimp only [List.getElem_toArray, List.getElem_cons_succ, List.getElem_cons_zero]); try simp only [Act.put, List.setIfInBounds_toArray, List.set_cons_zero, List.set_cons_succ])
          refine wpAnyH_take (i := 2) (oi := _) (v := ?v17) rfl (by kernel_rfl) (by kernel_rfl) (by kernel_rfl) (fun _ _ _ h => h) (Or.inl ⟨by rfl, ?hy17⟩) (by assumption) ?rest17
          case hy17 => ((intro w hSw; (try dsimp only at hSw); go_simp); try (with_reducible rfl))
          ((try dsimp only [List.getElem_toArray, List.getElem_cons_succ, List.getElem_cons_zero]); try simp only [Act.put, List.setIfInBounds_toArray, List.set_cons_zero, List.set_cons_succ])
          refine wpAnyH_take (i := 3) (oi := _) (v := ?v18) rfl (by kernel_rfl) (by kernel_rfl) (by kernel_rfl) (fun _ _ _ h => h) (Or.inl ⟨by rfl, ?hy18⟩) (by assumption) ?rest18
          case hy18 => ((intro w hSw; (try dsimp only at hSw); go_simp); try (with_reducible rfl))
          ((try dsimp only [List.getElem_toArray, List.getElem_cons_succ, List.getElem_cons_zero]); try simp only [Act.put, List.setIfInBounds_toArray, List.set_cons_zero, List.set_cons_succ])
          refine wpAnyH_take (i := 4) (oi := _) (v := ?v19) rfl (by kernel_rfl) (by kernel_rfl) (by kernel_rfl) (fun _ _ _ h => h) (Or.inl ⟨by rfl, ?hy19⟩) (by assumption) ?rest19
          case hy19 => ((intro w hSw; (try dsimp only at hSw); go_simp); try (with_reducible rfl))
          ((try dsimp only [List.getElem_toArray, List.getElem_cons_succ, List.getElem_cons_zero]); try simp only [Act.put, List.setIfInBounds_toArray, List.set_cons_zero, List.set_cons_succ])
          refine wpAnyH_ready (rs := [5]) (by kernel_rfl) (by simp) ?_
          refine AllReadyH.cons (o := _) rfl (fun K hK => ?_) AllReadyH.nil
          go_simp
          go_at_call 43; (with_reducible refine (HNS.out _).mono ?_); rintro ey wy ⟨rfl, hy⟩
          refine hK.out _ _ ?_ (fun hHeld => ?_)
          · (try dsimp only); refine HK.out _ ?_; (repeat (first | (with_reducible exact gr_rfl _) | (with_reducible refine gr_dr ?_) | (with_reducible refine gr_then ?_ hy) | (with_reducible refine gr_then ?_ hx)))
          clear hK K
          ((try dsimp only [List.getElem_toArray, List.getElem_cons_succ, List.getElem_cons_zero]); try simp only [Act.put, List.setIfInBounds_toArray, List.set_cons_zero, List.set_cons_succ])
          refine wpAnyH_take (i := 6) (oi := _) (v := ?v20) rfl (by kernel_rfl) (by kernel_rfl) (by kernel_rfl) (fun _ _ _ h => h) (Or.inl ⟨by rfl, ?hy20⟩) (by assumption) ?rest20
          case hy20 => ((intro w hSw; (try dsimp only at hSw); go_simp); try (with_reducible rfl))
          ((try dsimp only [List.getElem_toArray, List.getElem_cons_succ, List.getElem_cons_zero]); try simp only [Act.put, List.setIfInBounds_toArray, List.set_cons_zero, List.set_cons_succ])
          refine wpAnyH_take (i := 7) (oi := _) (v := ?v21) rfl (by kernel_rfl) (by kernel_rfl) (by kernel_rfl) (fun _ _ _ h => h) (Or.inl ⟨by rfl, ?hy21⟩) (by assumption) ?rest21
          case hy21 => ((intro w hSw; (try dsimp only at hSw); go_simp); try (with_reducible rfl))
          ((try dsimp only [List.getElem_toArray, List.getElem_cons_succ, List.getElem_cons_zero]); try simp only [Act.put, List.setIfInBounds_toArray, List.set_cons_zero, List.set_cons_succ])
          refine wpAnyH_take (i := 8) (oi := _) (v := ?v22) rfl (by kernel_rfl) (by kernel_rfl) (by kernel_rfl) (fun _ _ _ h => h) (Or.inl ⟨by rfl, ?hy22⟩) (by assumption) ?rest22
          case hy22 => ((intro w hSw; (try dsimp only at hSw); go_simp); try (with_reducible rfl))
          ((try dsimp only [List.getElem_toArray, List.getElem_cons_succ, List.getElem_cons_zero]); try simp only [Act.put, List.setIfInBounds_toArray, List.set_cons_zero, List.set_cons_succ])
          refine wpAnyH_take (i := 9) (oi := _) (v := _) rfl (by kernel_rfl) (by kernel_rfl) (by kernel_rfl) (fun _ _ _ h => h) (Or.inr ⟨by rfl, rfl⟩) (by assumption) ?rest23
          ((try dsimp only [List.getElem_toArray, List.getElem_cons_succ, List.getElem_cons_zero]); try simp only [Act.put, List.setIfInBounds_toArray, List.set_cons_zero, List.set_cons_succ])
          refine wpAnyH_take (i := 10) (oi := _) (v := _) rfl (by kernel_rfl) (by kernel_rfl) (by kernel_rfl) (fun _ _ _ h => h) (Or.inr ⟨by rfl, rfl⟩) (by assumption) ?rest24
          ((try dsimp only [List.getElem_toArray, List.getElem_cons_succ, List.getElem_cons_zero]); try simp only [Act.put, List.setIfInBounds_toArray, List.set_cons_zero, List.set_cons_succ])
          refine wpAnyH_take (i := 11) (oi := _) (v := _) rfl (by kernel_rfl) (by kernel_rfl) (by kernel_rfl) (fun _ _ _ h => h) (Or.inr ⟨by rfl, rfl⟩) (by assumption) ?rest25
          ((try dsimp only [List.getElem_toArray, List.getElem_cons_succ, List.getElem_cons_zero]); try simp only [Act.put, List.setIfInBounds_toArray, List.set_cons_zero, List.set_cons_succ])
          refine wpAnyH_take (i := 12) (oi := _) (v := _) rfl (by kernel_rfl) (by kernel_rfl) (by kernel_rfl) (fun _ _ _ h => h) (Or.inr ⟨by rfl, rfl⟩) (by assumption) ?rest26
          ((try dsimp only [List.getElem_toArray, List.getElem_cons_succ, List.getElem_cons_zero]); try simp only [Act.put, List.setIfInBounds_toArray, List.set_cons_zero, List.set_cons_succ])
          refine wpAnyH_take (i := 13) (oi := _) (v := _) rfl (by kernel_rfl) (by kernel_rfl) (by kernel_rfl) (fun _ _ _ h => h) (Or.inr ⟨by rfl, rfl⟩) (by assumption) ?rest27
          ((try dsimp only [List.getElem_toArray, List.getElem_cons_succ, List.getElem_cons_zero]); try simp only [Act.put, List.setIfInBounds_toArray, List.set_cons_zero, List.set_cons_succ])
          refine wpAnyH_take (i := 14) (oi := _) (v := _) rfl (by kernel_rfl) (by kernel_rfl) (by kernel_rfl) (fun _ _ _ h => h) (Or.inr ⟨by rfl, rfl⟩) (by assumption) ?rest28
          ((try dsimp only [List.getElem_toArray, List.getElem_cons_succ, List.getElem_cons_zero]); try simp only [Act.put, List.setIfInBounds_toArray, List.set_cons_zero, List.set_cons_succ])
          refine wpAnyH_take (i := 15) (oi := _) (v := ?v29) rfl (by kernel_rfl) (by kernel_rfl) (by kernel_rfl) (fun _ _ _ h => h) (Or.inl ⟨by rfl, ?hy29⟩) (by assumption) ?rest29
          case hy29 => ((intro w hSw; (try dsimp only at hSw); go_simp); try (with_reducible rfl))
          ((try dsimp only [List.getElem_toArray, List.getElem_cons_succ, List.getElem_cons_zero]); try simp only [Act.put, List.setIfInBounds_toArray, List.set_cons_zero, List.set_cons_succ])
          refine wpAnyH_done (by kernel_rfl) ?_ _
          have GN : w7.grownBy wy none := gr_then (gr_then (gr_dr (gr_rfl w7)) hx) hy
          have HGN := Lib.hid GN
          clear GN
          go_wp2_with fail
          refine (HNS.out _).mono ?_
          rintro e9 w9 ⟨rfl, h9⟩
          have R2 := HRZ.out.kept (gr_then HGN.out h9)
          have f0 := R2.fr 0
          have f1 := R2.fr 1
          have f2 := R2.fr 2
          have f3 := R2.fr 3
          have f4 := R2.fr 4
          have c0 := R2.cell 0 _ rfl
          have c1 := R2.cell 1 _ rfl
          have c2 := R2.cell 2 _ rfl
          have c3 := R2.cell 3 _ rfl
          have c4 := R2.cell 4 _ rfl
          have HR2 := Lib.hid R2
          have G2 := Lib.hid (gr_then HGW.out (gr_then HGN.out h9))
          clear R2 h9
          go_wp2
          exact bodyPost_ret (v := vS none5) (results_shape (a := none5) rfl rfl (HR2.out.five (v0 := .int .i64 1) (v1 := .int .i64 0) (v2 := .int .i64 0) (v3 := .string ⟨#[]⟩) (v4 := .string ⟨#[]⟩))) rfl ⟨rfl, gr_five G2.out (by omega)⟩
        · have HK := Lib.hid (show ∀ w', w7.grownBy w' none → (w'.cell? ⟨w.heap.size, 0, none⟩ = some (.int .i64 1) ∧ w'.cell? ⟨w.heap.size, 1, none⟩ = some (.int .i64 km) ∧ w'.cell? ⟨w.heap.size, 2, none⟩ = some (.int .i64 kc) ∧ w'.cell? ⟨w.heap.size, 3, none⟩ = some (.string kb) ∧ w'.cell? ⟨w.heap.size, 4, none⟩ = some (.string ke) ∧ w'.cell? ⟨w.heap.size + 1, 0, none⟩ = some (.int .i64 1) ∧ w'.cell? ⟨w.heap.size + 1, 1, none⟩ = some (.int .i64 0) ∧ w'.cell? ⟨w.heap.size + 1, 2, none⟩ = some (.int .i64 0) ∧ w'.cell? ⟨w.heap.size + 1, 3, none⟩ = some (.string ⟨#[]⟩) ∧ w'.cell? ⟨w.heap.size + 1, 4, none⟩ = some (.string ⟨#[]⟩)) from fun w' h => ⟨(HRA.out.kept h).cell 0 _ rfl, (HRA.out.kept h).cell 1 _ rfl, (HRA.out.kept h).cell 2 _ rfl, (HRA.out.kept h).cell 3 _ rfl, (HRA.out.kept h).cell 4 _ rfl, (HRB.out.kept h).cell 0 _ rfl, (HRB.out.kept h).cell 1 _ rfl, (HRB.out.kept h).cell 2 _ rfl, (HRB.out.kept h).cell 3 _ rfl, (HRB.out.kept h).cell 4 _ rfl⟩)
          go_wp2_with fail
          refine wp_region_held_drew (S := (fun w' => w'.cell? ⟨w.heap.size, 0, none⟩ = some (.int .i64 1) ∧ w'.cell? ⟨w.heap.size, 1, none⟩ = some (.int .i64 km) ∧ w'.cell? ⟨w.heap.size, 2, none⟩ = some (.int .i64 kc) ∧ w'.cell? ⟨w.heap.size, 3, none⟩ = some (.string kb) ∧ w'.cell? ⟨w.heap.size, 4, none⟩ = some (.string ke) ∧ w'.cell? ⟨w.heap.size + 1, 0, none⟩ = some (.int .i64 1) ∧ w'.cell? ⟨w.heap.size + 1, 1, none⟩ = some (.int .i64 0) ∧ w'.cell? ⟨w.heap.size + 1, 2, none⟩ = some (.int .i64 0) ∧ w'.cell? ⟨w.heap.size + 1, 3, none⟩ = some (.string ⟨#[]⟩) ∧ w'.cell? ⟨w.heap.size + 1, 4, none⟩ = some (.string ⟨#[]⟩))) (by kernel_rfl) ?_ (fun hHeld => ?_)
          · refine HK.out _ ?_; (repeat (first | (with_reducible exact gr_rfl _) | (with_reducible refine gr_dr ?_) | (with_reducible refine gr_then ?_ hy) | (with_reducible refine gr_then ?_ hx)))
          refine wpAnyH_take (i := 0) (oi := _) (v := ?v30) rfl (by kernel_rfl) (by kernel_rfl) (by kernel_rfl) (fun _ _ _ h => h) (Or.inl ⟨by rfl, ?hy30⟩) (by assumption) ?rest30
          case hy30 => ((intro w hSw; (try dsimp only at hSw); go_simp); try (with_reducible rfl))
          ((try dsimp only [List.getElem_toArray, List.getElem_cons_succ, List.getElem_cons_zero]); try simp only [Act.put, List.setIfInBounds_toArray, List.set_cons_zero, List.set_cons_succ])
          refine wpAnyH_ready (rs := [1]) (by kernel_rfl) (by simp) ?_
          refine AllReadyH.cons (o := _) rfl (fun K hK => ?_) AllReadyH.nil
          go_simp
          go_at_call 43; (with_reducible refine (HNS.out _).mono ?_); rintro ex wx ⟨rfl, hx⟩
          refine hK.out _ _ ?_ (fun hHeld => ?_)
          · (try dsimp only); refine HK.out _ ?_; (repeat (first | (with_reducible exact gr_rfl _) | (with_reducible refine gr_dr ?_) | (with_reducible refine gr_then ?_ hy) | (with_reducible refine gr_then ?_ hx)))
          clear hK K
          ((try dsimp only [List.getElem_toArray, List.getElem_cons_succ, List.getElem_cons_zero]); try simp only [Act.put, List.setIfInBounds_toArray, List.set_cons_zero, List.set_cons_succ])
          refine wpAnyH_take (i := 2) (oi := _) (v := ?v31) rfl (by kernel_rfl) (by kernel_rfl) (by kernel_rfl) (fun _ _ _ h => h) (Or.inl ⟨by rfl, ?hy31⟩) (by assumption) ?rest31
          case hy31 => ((intro w hSw; (try dsimp only at hSw); go_simp); try (with_reducible rfl))
          ((try dsimp only [List.getElem_toArray, List.getElem_cons_succ, List.getElem_cons_zero]); try simp only [Act.put, List.setIfInBounds_toArray, List.set_cons_zero, List.set_cons_succ])
          refine wpAnyH_take (i := 3) (oi := _) (v := ?v32) rfl (by kernel_rfl) (by kernel_rfl) (by kernel_rfl) (fun _ _ _ h => h) (Or.inl ⟨by rfl, ?hy32⟩) (by assumption) ?rest32
          case hy32 => ((intro w hSw; (try dsimp only at hSw); go_simp); try (with_reducible rfl))
          ((try dsimp only [List.getElem_toArray, List.getElem_cons_succ, List.getElem_cons_zero]); try simp only [Act.put, List.setIfInBounds_toArray, List.set_cons_zero, List.set_cons_succ])
          refine wpAnyH_take (i := 4) (oi := _) (v := ?v33) rfl (by kernel_rfl) (by kernel_rfl) (by kernel_rfl) (fun _ _ _ h => h) (Or.inl ⟨by rfl, ?hy33⟩) (by assumption) ?rest33
          case hy33 => ((intro w hSw; (try dsimp only at hSw); go_simp); try (with_reducible rfl))
          ((try dsimp only [List.getElem_toArray, List.getElem_cons_succ, List.getElem_cons_zero]); try simp only [Act.put, List.setIfInBounds_toArray, List.set_cons_zero, List.set_cons_succ])
          refine wpAnyH_ready (rs := [5]) (by kernel_rfl) (by simp) ?_
          refine AllReadyH.cons (o := _) rfl (fun K hK => ?_) AllReadyH.nil
          go_simp
          go_at_call 43; (with_reducible refine (HNS.out _).mono ?_); rintro ey wy ⟨rfl, hy⟩
          refine hK.out _ _ ?_ (fun hHeld => ?_)
          · (try dsimp only); refine HK.out _ ?_; (repeat (first | (with_reducible exact gr_rfl _) | (with_reducible refine gr_dr ?_) | (with_reducible refine gr_then ?_ hy) | (with_reducible refine gr_then ?_ hx)))
          clear hK K
          ((try dsimp only [List.getElem_toArray, List.getElem_cons_succ, List.getElem_cons_zero]); try simp only [Act.put, List.setIfInBounds_toArray, List.set_cons_zero, List.set_cons_succ])
          refine wpAnyH_take (i := 6) (oi := _) (v := ?v34) rfl (by kernel_rfl) (by kernel_rfl) (by kernel_rfl) (fun _ _ _ h => h) (Or.inl ⟨by rfl, ?hy34⟩) (by assumption) ?rest34
          case hy34 => ((intro w hSw; (try dsimp only at hSw); go_simp); try (with_reducible rfl))
          ((try dsimp only [List.getElem_toArray, List.getElem_cons_succ, List.getElem_cons_zero]); try simp only [Act.put, List.setIfInBounds_toArray, List.set_cons_zero, List.set_cons_succ])
          refine wpAnyH_take (i := 7) (oi := _) (v := ?v35) rfl (by kernel_rfl) (by kernel_rfl) (by kernel_rfl) (fun _ _ _ h => h) (Or.inl ⟨by rfl, ?hy35⟩) (by assumption) ?rest35
          case hy35 => ((intro w hSw; (try dsimp only at hSw); go_simp); try (with_reducible rfl))
          ((try dsimp only [List.getElem_toArray, List.getElem_cons_succ, List.getElem_cons_zero]); try simp only [Act.put, List.setIfInBounds_toArray, List.set_cons_zero, List.set_cons_succ])
          refine wpAnyH_take (i := 8) (oi := _) (v := ?v36) rfl (by kernel_rfl) (by kernel_rfl) (by kernel_rfl) (fun _ _ _ h => h) (Or.inl ⟨by rfl, ?hy36⟩) (by assumption) ?rest36
          case hy36 => ((intro w hSw; (try dsimp only at hSw); go_simp); try (with_reducible rfl))
          ((try dsimp only [List.getElem_toArray, List.getElem_cons_succ, List.getElem_cons_zero]); try simp only [Act.put, List.setIfInBounds_toArray, List.set_cons_zero, List.set_cons_succ])
          refine wpAnyH_take (i := 9) (oi := _) (v := _) rfl (by kernel_rfl) (by kernel_rfl) (by kernel_rfl) (fun _ _ _ h => h) (Or.inr ⟨by rfl, rfl⟩) (by assumption) ?rest37
          ((try dsimp only [List.getElem_toArray, List.getElem_cons_succ, List.getElem_cons_zero]); try simp only [Act.put, List.setIfInBounds_toArray, List.set_cons_zero, List.set_cons_succ])
          refine wpAnyH_take (i := 10) (oi := _) (v := _) rfl (by kernel_rfl) (by kernel_rfl) (by kernel_rfl) (fun _ _ _ h => h) (Or.inr ⟨by rfl, rfl⟩) (by assumption) ?rest38
          ((try dsimp only [List.getElem_toArray, List.getElem_cons_succ, List.getElem_cons_zero]); try simp only [Act.put, List.setIfInBounds_toArray, List.set_cons_zero, List.set_cons_succ])
          refine wpAnyH_take (i := 11) (oi := _) (v := _) rfl (by kernel_rfl) (by kernel_rfl) (by kernel_rfl) (fun _ _ _ h => h) (Or.inr ⟨by rfl, rfl⟩) (by assumption) ?rest39
          ((try dsimp only [List.getElem_toArray, List.getElem_cons_succ, List.getElem_cons_zero]); try simp only [Act.put, List.setIfInBounds_toArray, List.set_cons_zero, List.set_cons_succ])
          refine wpAnyH_take (i := 12) (oi := _) (v := _) rfl (by kernel_rfl) (by kernel_rfl) (by kernel_rfl) (fun _ _ _ h => h) (Or.inr ⟨by rfl, rfl⟩) (by assumption) ?rest40
          ((try dsimp only [List.getElem_toArray, List.getElem_cons_succ, List.getElem_cons_zero]); try simp only [Act.put, List.setIfInBounds_toArray, List.set_cons_zero, List.set_cons_succ])
          refine wpAnyH_take (i := 13) (oi := _) (v := _) rfl (by kernel_rfl) (by kernel_rfl) (by kernel_rfl) (fun _ _ _ h => h) (Or.inr ⟨by rfl, rfl⟩) (by assumption) ?rest41
          ((try dsimp only [List.getElem_toArray, List.getElem_cons_succ, List.getElem_cons_zero]); try simp only [Act.put, List.setIfInBounds_toArray, List.set_cons_zero, List.set_cons_succ])
          refine wpAnyH_take (i := 14) (oi := _) (v := _) rfl (by kernel_rfl) (by kernel_rfl) (by kernel_rfl) (fun _ _ _ h => h) (Or.inr ⟨by rfl, rfl⟩) (by assumption) ?rest42
          ((try dsimp only [List.getElem_toArray, List.getElem_cons_succ, List.getElem_cons_zero]); try simp only [Act.put, List.setIfInBounds_toArray, List.set_cons_zero, List.set_cons_succ])
          refine wpAnyH_take (i := 15) (oi := _) (v := ?v43) rfl (by kernel_rfl) (by kernel_rfl) (by kernel_rfl) (fun _ _ _ h => h) (Or.inl ⟨by rfl, ?hy43⟩) (by assumption) ?rest43
          case hy43 => ((intro w hSw; (try dsimp only at hSw); go_simp); try (with_reducible rfl))
          ((try dsimp only [List.getElem_toArray, List.getElem_cons_succ, List.getElem_cons_zero]); try simp only [Act.put, List.setIfInBounds_toArray, List.set_cons_zero, List.set_cons_succ])
          refine wpAnyH_done (by kernel_rfl) ?_ _
          have GN : w7.grownBy wy none := gr_then (gr_then (gr_dr (gr_rfl w7)) hx) hy
          have HGN := Lib.hid GN
          clear GN
          go_wp2_with fail
          refine (HNS.out _).mono ?_
          rintro e9 w9 ⟨rfl, h9⟩
          have R2 := HRZ.out.kept (gr_then HGN.out h9)
          have f0 := R2.fr 0
          have f1 := R2.fr 1
          have f2 := R2.fr 2
          have f3 := R2.fr 3
          have f4 := R2.fr 4
          have c0 := R2.cell 0 _ rfl
          have c1 := R2.cell 1 _ rfl
          have c2 := R2.cell 2 _ rfl
          have c3 := R2.cell 3 _ rfl
          have c4 := R2.cell 4 _ rfl
          have HR2 := Lib.hid R2
          have G2 := Lib.hid (gr_then HGW.out (gr_then HGN.out h9))
          clear R2 h9
          go_wp2
          exact bodyPost_ret (v := vS none5) (results_shape (a := none5) rfl rfl (HR2.out.five (v0 := .int .i64 1) (v1 := .int .i64 0) (v2 := .int .i64 0) (v3 := .string ⟨#[]⟩) (v4 := .string ⟨#[]⟩))) rfl ⟨rfl, gr_five G2.out (by omega)⟩
      · have hqn : (⟨ql, qm, qc, qb, qe⟩ : S5) ≠ none5 := fun h0 => by unfold none5 at h0; cases h0; omega
        have hq2 : (ql == 1) = false ∨ (ql = 1 ∧ (qm == 0) = false) := by
          by_cases h1 : ql = 1
          · exact .inr ⟨h1, by rw [beq_eq_false_iff_ne]; omega⟩
          · exact .inl (by rw [beq_eq_false_iff_ne]; exact h1)
        have HBB := Lib.hid h
        have HQN := Lib.hid hqn
        have hw : IntKind.i64.wrap (kl + ql) = kl + ql := IntWalk.i64_in _ (by have := HA.out; omega)
        clear h hqn
        go_wp2_with fail
        go_cut [25] from 10 to 25 (fun p wx => p = .bool (decide (200 < kl + ql)) ∧ w7.grownBy wx none)
        case first =>
          rcases hk2 with hk2 | ⟨rfl, hk2⟩ <;> rcases hq2 with hq2 | ⟨rfl, hq2⟩
          · have HK := Lib.hid (show ∀ w', w7.grownBy w' none → (w'.cell? ⟨w.heap.size, 0, none⟩ = some (.int .i64 kl) ∧ w'.cell? ⟨w.heap.size, 1, none⟩ = some (.int .i64 km) ∧ w'.cell? ⟨w.heap.size, 2, none⟩ = some (.int .i64 kc) ∧ w'.cell? ⟨w.heap.size, 3, none⟩ = some (.string kb) ∧ w'.cell? ⟨w.heap.size, 4, none⟩ = some (.string ke) ∧ w'.cell? ⟨w.heap.size + 1, 0, none⟩ = some (.int .i64 ql) ∧ w'.cell? ⟨w.heap.size + 1, 1, none⟩ = some (.int .i64 qm) ∧ w'.cell? ⟨w.heap.size + 1, 2, none⟩ = some (.int .i64 qc) ∧ w'.cell? ⟨w.heap.size + 1, 3, none⟩ = some (.string qb) ∧ w'.cell? ⟨w.heap.size + 1, 4, none⟩ = some (.string qe)) from fun w' h => ⟨(HRA.out.kept h).cell 0 _ rfl, (HRA.out.kept h).cell 1 _ rfl, (HRA.out.kept h).cell 2 _ rfl, (HRA.out.kept h).cell 3 _ rfl, (HRA.out.kept h).cell 4 _ rfl, (HRB.out.kept h).cell 0 _ rfl, (HRB.out.kept h).cell 1 _ rfl, (HRB.out.kept h).cell 2 _ rfl, (HRB.out.kept h).cell 3 _ rfl, (HRB.out.kept h).cell 4 _ rfl⟩)
            go_wp2_with fail
            refine wp_region_held_drew (S := (fun w' => w'.cell? ⟨w.heap.size, 0, none⟩ = some (.int .i64 kl) ∧ w'.cell? ⟨w.heap.size, 1, none⟩ = some (.int .i64 km) ∧ w'.cell? ⟨w.heap.size, 2, none⟩ = some (.int .i64 kc) ∧ w'.cell? ⟨w.heap.size, 3, none⟩ = some (.string kb) ∧ w'.cell? ⟨w.heap.size, 4, none⟩ = some (.string ke) ∧ w'.cell? ⟨w.heap.size + 1, 0, none⟩ = some (.int .i64 ql) ∧ w'.cell? ⟨w.heap.size + 1, 1, none⟩ = some (.int .i64 qm) ∧ w'.cell? ⟨w.heap.size + 1, 2, none⟩ = some (.int .i64 qc) ∧ w'.cell? ⟨w.heap.size + 1, 3, none⟩ = some (.string qb) ∧ w'.cell? ⟨w.heap.size + 1, 4, none⟩ = some (.string qe))) (by kernel_rfl) ?_ (fun hHeld => ?_)
            · refine HK.out _ ?_; (repeat (first | (with_reducible exact gr_rfl _) | (with_reducible refine gr_dr ?_) | (with_reducible refine gr_then ?_ hy) | (with_reducible refine gr_then ?_ hx)))
            refine wpAnyH_take (i := 0) (oi := _) (v := ?v44) rfl (by kernel_rfl) (by kernel_rfl) (by kernel_rfl) (fun _ _ _ h => h) (Or.inl ⟨by rfl, ?hy44⟩) (by assumption) ?rest44
            case hy44 => ((intro w hSw; (try dsimp only at hSw); go_simp); try (with_reducible rfl))
            ((try dsimp only [List.getElem_toArray, List.getElem_cons_succ, List.getElem_cons_zero]); try simp only [Act.put, List.setIfInBounds_toArray, List.set_cons_zero, List.set_cons_succ])
            refine wpAnyH_ready (rs := [1]) (by kernel_rfl) (by simp) ?_
            refine AllReadyH.cons (o := _) rfl (fun K hK => ?_) AllReadyH.nil
            go_simp
            go_at_call 43; (with_reducible refine (HNS.out _).mono ?_); rintro ex wx ⟨rfl, hx⟩
            refine hK.out _ _ ?_ (fun hHeld => ?_)
            · (try dsimp only); refine HK.out _ ?_; (repeat (first | (with_reducible exact gr_rfl _) | (with_reducible refine gr_dr ?_) | (with_reducible refine gr_then ?_ hy) | (with_reducible refine gr_then ?_ hx)))
            clear hK K
            ((try dsimp only [List.getElem_toArray, List.getElem_cons_succ, List.getElem_cons_zero]); try simp only [Act.put, List.setIfInBounds_toArray, List.set_cons_zero, List.set_cons_succ])
            refine wpAnyH_take (i := 2) (oi := _) (v := ?v45) rfl (by kernel_rfl) (by kernel_rfl) (by kernel_rfl) (fun _ _ _ h => h) (Or.inl ⟨by rfl, ?hy45⟩) (by assumption) ?rest45
            case hy45 => ((intro w hSw; (try dsimp only at hSw); go_simp); try (with_reducible rfl))
            ((try dsimp only [List.getElem_toArray, List.getElem_cons_succ, List.getElem_cons_zero]); try simp only [Act.put, List.setIfInBounds_toArray, List.set_cons_zero, List.set_cons_succ])
            refine wpAnyH_take (i := 3) (oi := _) (v := ?v46) rfl (by kernel_rfl) (by kernel_rfl) (by kernel_rfl) (fun _ _ _ h => h) (Or.inl ⟨by rfl, ?hy46⟩) (by assumption) ?rest46
            case hy46 => ((intro w hSw; (try dsimp only at hSw); go_simp); try (with_reducible rfl))
            ((try dsimp only [List.getElem_toArray, List.getElem_cons_succ, List.getElem_cons_zero]); try simp only [Act.put, List.setIfInBounds_toArray, List.set_cons_zero, List.set_cons_succ])
            refine wpAnyH_take (i := 4) (oi := _) (v := ?v47) rfl (by kernel_rfl) (by kernel_rfl) (by kernel_rfl) (fun _ _ _ h => h) (Or.inl ⟨by rfl, ?hy47⟩) (by assumption) ?rest47
            case hy47 => ((intro w hSw; (try dsimp only at hSw); go_simp); try (with_reducible rfl))
            ((try dsimp only [List.getElem_toArray, List.getElem_cons_succ, List.getElem_cons_zero]); try simp only [Act.put, List.setIfInBounds_toArray, List.set_cons_zero, List.set_cons_succ])
            refine wpAnyH_ready (rs := [5]) (by kernel_rfl) (by simp) ?_
            refine AllReadyH.cons (o := _) rfl (fun K hK => ?_) AllReadyH.nil
            go_simp
            go_at_call 43; (with_reducible refine (HNS.out _).mono ?_); rintro ey wy ⟨rfl, hy⟩
            refine hK.out _ _ ?_ (fun hHeld => ?_)
            · (try dsimp only); refine HK.out _ ?_; (repeat (first | (with_reducible exact gr_rfl _) | (with_reducible refine gr_dr ?_) | (with_reducible refine gr_then ?_ hy) | (with_reducible refine gr_then ?_ hx)))
            clear hK K
            ((try dsimp only [List.getElem_toArray, List.getElem_cons_succ, List.getElem_cons_zero]); try simp only [Act.put, List.setIfInBounds_toArray, List.set_cons_zero, List.set_cons_succ])
            refine wpAnyH_take (i := 6) (oi := _) (v := ?v48) rfl (by kernel_rfl) (by kernel_rfl) (by kernel_rfl) (fun _ _ _ h => h) (Or.inl ⟨by rfl, ?hy48⟩) (by assumption) ?rest48
            case hy48 => ((intro w hSw; (try dsimp only at hSw); go_simp); try (with_reducible rfl))
            ((try dsimp only [List.getElem_toArray, List.getElem_cons_succ, List.getElem_cons_zero]); try simp only [Act.put, List.setIfInBounds_toArray, List.set_cons_zero, List.set_cons_succ])
            refine wpAnyH_take (i := 7) (oi := _) (v := ?v49) rfl (by kernel_rfl) (by kernel_rfl) (by kernel_rfl) (fun _ _ _ h => h) (Or.inl ⟨by rfl, ?hy49⟩) (by assumption) ?rest49
            case hy49 => ((intro w hSw; (try dsimp only at hSw); go_simp); try (with_reducible rfl))
            ((try dsimp only [List.getElem_toArray, List.getElem_cons_succ, List.getElem_cons_zero]); try simp only [Act.put, List.setIfInBounds_toArray, List.set_cons_zero, List.set_cons_succ])
            refine wpAnyH_take (i := 8) (oi := _) (v := ?v50) rfl (by kernel_rfl) (by kernel_rfl) (by kernel_rfl) (fun _ _ _ h => h) (Or.inl ⟨by rfl, ?hy50⟩) (by assumption) ?rest50
            case hy50 => ((intro w hSw; (try dsimp only at hSw); go_simp); try (with_reducible rfl))
            ((try dsimp only [List.getElem_toArray, List.getElem_cons_succ, List.getElem_cons_zero]); try simp only [Act.put, List.setIfInBounds_toArray, List.set_cons_zero, List.set_cons_succ])
            refine wpAnyH_take (i := 9) (oi := _) (v := ?v51) rfl (by kernel_rfl) (by kernel_rfl) (by kernel_rfl) (fun _ _ _ h => h) (Or.inl ⟨by rfl, ?hy51⟩) (by assumption) ?rest51
            case hy51 => ((intro w hSw; (try dsimp only at hSw); go_simp); try (with_reducible rfl))
            ((try dsimp only [List.getElem_toArray, List.getElem_cons_succ, List.getElem_cons_zero]); try simp only [Act.put, List.setIfInBounds_toArray, List.set_cons_zero, List.set_cons_succ])
            refine wpAnyH_take (i := 10) (oi := _) (v := ?v52) rfl (by kernel_rfl) (by kernel_rfl) (by kernel_rfl) (fun _ _ _ h => h) (Or.inl ⟨by rfl, ?hy52⟩) (by assumption) ?rest52
            case hy52 => ((intro w hSw; (try dsimp only at hSw); go_simp); try (with_reducible rfl))
            ((try dsimp only [List.getElem_toArray, List.getElem_cons_succ, List.getElem_cons_zero]); try simp only [Act.put, List.setIfInBounds_toArray, List.set_cons_zero, List.set_cons_succ])
            refine wpAnyH_take (i := 11) (oi := _) (v := ?v53) rfl (by kernel_rfl) (by kernel_rfl) (by kernel_rfl) (fun _ _ _ h => h) (Or.inl ⟨by rfl, ?hy53⟩) (by assumption) ?rest53
            case hy53 => ((intro w hSw; (try dsimp only at hSw); go_simp); try (with_reducible rfl))
            ((try dsimp only [List.getElem_toArray, List.getElem_cons_succ, List.getElem_cons_zero]); try simp only [Act.put, List.setIfInBounds_toArray, List.set_cons_zero, List.set_cons_succ])
            refine wpAnyH_take (i := 12) (oi := _) (v := ?v54) rfl (by kernel_rfl) (by kernel_rfl) (by kernel_rfl) (fun _ _ _ h => h) (Or.inl ⟨by rfl, ?hy54⟩) (by assumption) ?rest54
            case hy54 => ((intro w hSw; (try dsimp only at hSw); go_simp); try (with_reducible rfl))
            ((try dsimp only [List.getElem_toArray, List.getElem_cons_succ, List.getElem_cons_zero]); try simp only [Act.put, List.setIfInBounds_toArray, List.set_cons_zero, List.set_cons_succ])
            refine wpAnyH_take (i := 13) (oi := _) (v := ?v55) rfl (by kernel_rfl) (by kernel_rfl) (by kernel_rfl) (fun _ _ _ h => h) (Or.inl ⟨by rfl, ?hy55⟩) (by assumption) ?rest55
            case hy55 => ((intro w hSw; (try dsimp only at hSw); go_simp); try (with_reducible rfl))
            ((try dsimp only [List.getElem_toArray, List.getElem_cons_succ, List.getElem_cons_zero]); try simp only [Act.put, List.setIfInBounds_toArray, List.set_cons_zero, List.set_cons_succ])
            refine wpAnyH_take (i := 14) (oi := _) (v := ?v56) rfl (by kernel_rfl) (by kernel_rfl) (by kernel_rfl) (fun _ _ _ h => h) (Or.inl ⟨by rfl, ?hy56⟩) (by assumption) ?rest56
            case hy56 => ((intro w hSw; (try dsimp only at hSw); go_simp); try (with_reducible rfl))
            ((try dsimp only [List.getElem_toArray, List.getElem_cons_succ, List.getElem_cons_zero]); try simp only [Act.put, List.setIfInBounds_toArray, List.set_cons_zero, List.set_cons_succ])
            refine wpAnyH_take (i := 15) (oi := _) (v := ?v57) rfl (by kernel_rfl) (by kernel_rfl) (by kernel_rfl) (fun _ _ _ h => h) (Or.inl ⟨by rfl, ?hy57⟩) (by assumption) ?rest57
            case hy57 => ((intro w hSw; (try dsimp only at hSw); go_simp); try (with_reducible rfl))
            ((try dsimp only [List.getElem_toArray, List.getElem_cons_succ, List.getElem_cons_zero]); try simp only [Act.put, List.setIfInBounds_toArray, List.set_cons_zero, List.set_cons_succ])
            refine wpAnyH_done (by kernel_rfl) ?_ _
            go_wp2_with fail
            go_meet
            exact ⟨by first | rfl | trivial, gr_then (gr_then (gr_dr (gr_rfl w7)) hx) hy⟩
          · have HK := Lib.hid (show ∀ w', w7.grownBy w' none → (w'.cell? ⟨w.heap.size, 0, none⟩ = some (.int .i64 kl) ∧ w'.cell? ⟨w.heap.size, 1, none⟩ = some (.int .i64 km) ∧ w'.cell? ⟨w.heap.size, 2, none⟩ = some (.int .i64 kc) ∧ w'.cell? ⟨w.heap.size, 3, none⟩ = some (.string kb) ∧ w'.cell? ⟨w.heap.size, 4, none⟩ = some (.string ke) ∧ w'.cell? ⟨w.heap.size + 1, 0, none⟩ = some (.int .i64 1) ∧ w'.cell? ⟨w.heap.size + 1, 1, none⟩ = some (.int .i64 qm) ∧ w'.cell? ⟨w.heap.size + 1, 2, none⟩ = some (.int .i64 qc) ∧ w'.cell? ⟨w.heap.size + 1, 3, none⟩ = some (.string qb) ∧ w'.cell? ⟨w.heap.size + 1, 4, none⟩ = some (.string qe)) from fun w' h => ⟨(HRA.out.kept h).cell 0 _ rfl, (HRA.out.kept h).cell 1 _ rfl, (HRA.out.kept h).cell 2 _ rfl, (HRA.out.kept h).cell 3 _ rfl, (HRA.out.kept h).cell 4 _ rfl, (HRB.out.kept h).cell 0 _ rfl, (HRB.out.kept h).cell 1 _ rfl, (HRB.out.kept h).cell 2 _ rfl, (HRB.out.kept h).cell 3 _ rfl, (HRB.out.kept h).cell 4 _ rfl⟩)
            go_wp2_with fail
            refine wp_region_held_drew (S := (fun w' => w'.cell? ⟨w.heap.size, 0, none⟩ = some (.int .i64 kl) ∧ w'.cell? ⟨w.heap.size, 1, none⟩ = some (.int .i64 km) ∧ w'.cell? ⟨w.heap.size, 2, none⟩ = some (.int .i64 kc) ∧ w'.cell? ⟨w.heap.size, 3, none⟩ = some (.string kb) ∧ w'.cell? ⟨w.heap.size, 4, none⟩ = some (.string ke) ∧ w'.cell? ⟨w.heap.size + 1, 0, none⟩ = some (.int .i64 1) ∧ w'.cell? ⟨w.heap.size + 1, 1, none⟩ = some (.int .i64 qm) ∧ w'.cell? ⟨w.heap.size + 1, 2, none⟩ = some (.int .i64 qc) ∧ w'.cell? ⟨w.heap.size + 1, 3, none⟩ = some (.string qb) ∧ w'.cell? ⟨w.heap.size + 1, 4, none⟩ = some (.string qe))) (by kernel_rfl) ?_ (fun hHeld => ?_)
            · refine HK.out _ ?_; (repeat (first | (with_reducible exact gr_rfl _) | (with_reducible refine gr_dr ?_) | (with_reducible refine gr_then ?_ hy) | (with_reducible refine gr_then ?_ hx)))
            refine wpAnyH_take (i := 0) (oi := _) (v := ?v58) rfl (by kernel_rfl) (by kernel_rfl) (by kernel_rfl) (fun _ _ _ h => h) (Or.inl ⟨by rfl, ?hy58⟩) (by assumption) ?rest58
            case hy58 => ((intro w hSw; (try dsimp only at hSw); go_simp); try (with_reducible rfl))
            ((try dsimp only [List.getElem_toArray, List.getElem_cons_succ, List.getElem_cons_zero]); try simp only [Act.put, List.setIfInBounds_toArray, List.set_cons_zero, List.set_cons_succ])
            refine wpAnyH_ready (rs := [1]) (by kernel_rfl) (by simp) ?_
            refine AllReadyH.cons (o := _) rfl (fun K hK => ?_) AllReadyH.nil
            go_simp
            go_at_call 43; (with_reducible refine (HNS.out _).mono ?_); rintro ex wx ⟨rfl, hx⟩
            refine hK.out _ _ ?_ (fun hHeld => ?_)
            · (try dsimp only); refine HK.out _ ?_; (repeat (first | (with_reducible exact gr_rfl _) | (with_reducible refine gr_dr ?_) | (with_reducible refine gr_then ?_ hy) | (with_reducible refine gr_then ?_ hx)))
            clear hK K
            ((try dsimp only [List.getElem_toArray, List.getElem_cons_succ, List.getElem_cons_zero]); try simp only [Act.put, List.setIfInBounds_toArray, List.set_cons_zero, List.set_cons_succ])
            refine wpAnyH_take (i := 2) (oi := _) (v := ?v59) rfl (by kernel_rfl) (by kernel_rfl) (by kernel_rfl) (fun _ _ _ h => h) (Or.inl ⟨by rfl, ?hy59⟩) (by assumption) ?rest59
            case hy59 => ((intro w hSw; (try dsimp only at hSw); go_simp); try (with_reducible rfl))
            ((try dsimp only [List.getElem_toArray, List.getElem_cons_succ, List.getElem_cons_zero]); try simp only [Act.put, List.setIfInBounds_toArray, List.set_cons_zero, List.set_cons_succ])
            refine wpAnyH_take (i := 3) (oi := _) (v := ?v60) rfl (by kernel_rfl) (by kernel_rfl) (by kernel_rfl) (fun _ _ _ h => h) (Or.inl ⟨by rfl, ?hy60⟩) (by assumption) ?rest60
            case hy60 => ((intro w hSw; (try dsimp only at hSw); go_simp); try (with_reducible rfl))
            ((try dsimp only [List.getElem_toArray, List.getElem_cons_succ, List.getElem_cons_zero]); try simp only [Act.put, List.setIfInBounds_toArray, List.set_cons_zero, List.set_cons_succ])
            refine wpAnyH_take (i := 4) (oi := _) (v := ?v61) rfl (by kernel_rfl) (by kernel_rfl) (by kernel_rfl) (fun _ _ _ h => h) (Or.inl ⟨by rfl, ?hy61⟩) (by assumption) ?rest61
            case hy61 => ((intro w hSw; (try dsimp only at hSw); go_simp); try (with_reducible rfl))
            ((try dsimp only [List.getElem_toArray, List.getElem_cons_succ, List.getElem_cons_zero]); try simp only [Act.put, List.setIfInBounds_toArray, List.set_cons_zero, List.set_cons_succ])
            refine wpAnyH_ready (rs := [5]) (by kernel_rfl) (by simp) ?_
            refine AllReadyH.cons (o := _) rfl (fun K hK => ?_) AllReadyH.nil
            go_simp
            go_at_call 43; (with_reducible refine (HNS.out _).mono ?_); rintro ey wy ⟨rfl, hy⟩
            refine hK.out _ _ ?_ (fun hHeld => ?_)
            · (try dsimp only); refine HK.out _ ?_; (repeat (first | (with_reducible exact gr_rfl _) | (with_reducible refine gr_dr ?_) | (with_reducible refine gr_then ?_ hy) | (with_reducible refine gr_then ?_ hx)))
            clear hK K
            ((try dsimp only [List.getElem_toArray, List.getElem_cons_succ, List.getElem_cons_zero]); try simp only [Act.put, List.setIfInBounds_toArray, List.set_cons_zero, List.set_cons_succ])
            refine wpAnyH_take (i := 6) (oi := _) (v := ?v62) rfl (by kernel_rfl) (by kernel_rfl) (by kernel_rfl) (fun _ _ _ h => h) (Or.inl ⟨by rfl, ?hy62⟩) (by assumption) ?rest62
            case hy62 => ((intro w hSw; (try dsimp only at hSw); go_simp); try (with_reducible rfl))
            ((try dsimp only [List.getElem_toArray, List.getElem_cons_succ, List.getElem_cons_zero]); try simp only [Act.put, List.setIfInBounds_toArray, List.set_cons_zero, List.set_cons_succ])
            refine wpAnyH_take (i := 7) (oi := _) (v := ?v63) rfl (by kernel_rfl) (by kernel_rfl) (by kernel_rfl) (fun _ _ _ h => h) (Or.inl ⟨by rfl, ?hy63⟩) (by assumption) ?rest63
            case hy63 => ((intro w hSw; (try dsimp only at hSw); go_simp); try (with_reducible rfl))
            ((try dsimp only [List.getElem_toArray, List.getElem_cons_succ, List.getElem_cons_zero]); try simp only [Act.put, List.setIfInBounds_toArray, List.set_cons_zero, List.set_cons_succ])
            refine wpAnyH_take (i := 8) (oi := _) (v := ?v64) rfl (by kernel_rfl) (by kernel_rfl) (by kernel_rfl) (fun _ _ _ h => h) (Or.inl ⟨by rfl, ?hy64⟩) (by assumption) ?rest64
            case hy64 => ((intro w hSw; (try dsimp only at hSw); go_simp); try (with_reducible rfl))
            ((try dsimp only [List.getElem_toArray, List.getElem_cons_succ, List.getElem_cons_zero]); try simp only [Act.put, List.setIfInBounds_toArray, List.set_cons_zero, List.set_cons_succ])
            refine wpAnyH_take (i := 9) (oi := _) (v := ?v65) rfl (by kernel_rfl) (by kernel_rfl) (by kernel_rfl) (fun _ _ _ h => h) (Or.inl ⟨by rfl, ?hy65⟩) (by assumption) ?rest65
            case hy65 => ((intro w hSw; (try dsimp only at hSw); go_simp); try (with_reducible rfl))
            ((try dsimp only [List.getElem_toArray, List.getElem_cons_succ, List.getElem_cons_zero]); try simp only [Act.put, List.setIfInBounds_toArray, List.set_cons_zero, List.set_cons_succ])
            refine wpAnyH_take (i := 10) (oi := _) (v := ?v66) rfl (by kernel_rfl) (by kernel_rfl) (by kernel_rfl) (fun _ _ _ h => h) (Or.inl ⟨by rfl, ?hy66⟩) (by assumption) ?rest66
            case hy66 => ((intro w hSw; (try dsimp only at hSw); go_simp); try (with_reducible rfl))
            ((try dsimp only [List.getElem_toArray, List.getElem_cons_succ, List.getElem_cons_zero]); try simp only [Act.put, List.setIfInBounds_toArray, List.set_cons_zero, List.set_cons_succ])
            refine wpAnyH_take (i := 11) (oi := _) (v := ?v67) rfl (by kernel_rfl) (by kernel_rfl) (by kernel_rfl) (fun _ _ _ h => h) (Or.inl ⟨by rfl, ?hy67⟩) (by assumption) ?rest67
            case hy67 => ((intro w hSw; (try dsimp only at hSw); go_simp); try (with_reducible rfl))
            ((try dsimp only [List.getElem_toArray, List.getElem_cons_succ, List.getElem_cons_zero]); try simp only [Act.put, List.setIfInBounds_toArray, List.set_cons_zero, List.set_cons_succ])
            refine wpAnyH_take (i := 12) (oi := _) (v := ?v68) rfl (by kernel_rfl) (by kernel_rfl) (by kernel_rfl) (fun _ _ _ h => h) (Or.inl ⟨by rfl, ?hy68⟩) (by assumption) ?rest68
            case hy68 => ((intro w hSw; (try dsimp only at hSw); go_simp); try (with_reducible rfl))
            ((try dsimp only [List.getElem_toArray, List.getElem_cons_succ, List.getElem_cons_zero]); try simp only [Act.put, List.setIfInBounds_toArray, List.set_cons_zero, List.set_cons_succ])
            refine wpAnyH_take (i := 13) (oi := _) (v := ?v69) rfl (by kernel_rfl) (by kernel_rfl) (by kernel_rfl) (fun _ _ _ h => h) (Or.inl ⟨by rfl, ?hy69⟩) (by assumption) ?rest69
            case hy69 => ((intro w hSw; (try dsimp only at hSw); go_simp); try (with_reducible rfl))
            ((try dsimp only [List.getElem_toArray, List.getElem_cons_succ, List.getElem_cons_zero]); try simp only [Act.put, List.setIfInBounds_toArray, List.set_cons_zero, List.set_cons_succ])
            refine wpAnyH_take (i := 14) (oi := _) (v := ?v70) rfl (by kernel_rfl) (by kernel_rfl) (by kernel_rfl) (fun _ _ _ h => h) (Or.inl ⟨by rfl, ?hy70⟩) (by assumption) ?rest70
            case hy70 => ((intro w hSw; (try dsimp only at hSw); go_simp); try (with_reducible rfl))
            ((try dsimp only [List.getElem_toArray, List.getElem_cons_succ, List.getElem_cons_zero]); try simp only [Act.put, List.setIfInBounds_toArray, List.set_cons_zero, List.set_cons_succ])
            refine wpAnyH_take (i := 15) (oi := _) (v := ?v71) rfl (by kernel_rfl) (by kernel_rfl) (by kernel_rfl) (fun _ _ _ h => h) (Or.inl ⟨by rfl, ?hy71⟩) (by assumption) ?rest71
            case hy71 => ((intro w hSw; (try dsimp only at hSw); go_simp); try (with_reducible rfl))
            ((try dsimp only [List.getElem_toArray, List.getElem_cons_succ, List.getElem_cons_zero]); try simp only [Act.put, List.setIfInBounds_toArray, List.set_cons_zero, List.set_cons_succ])
            refine wpAnyH_done (by kernel_rfl) ?_ _
            go_wp2_with fail
            go_meet
            exact ⟨by first | rfl | trivial, gr_then (gr_then (gr_dr (gr_rfl w7)) hx) hy⟩
          · have HK := Lib.hid (show ∀ w', w7.grownBy w' none → (w'.cell? ⟨w.heap.size, 0, none⟩ = some (.int .i64 1) ∧ w'.cell? ⟨w.heap.size, 1, none⟩ = some (.int .i64 km) ∧ w'.cell? ⟨w.heap.size, 2, none⟩ = some (.int .i64 kc) ∧ w'.cell? ⟨w.heap.size, 3, none⟩ = some (.string kb) ∧ w'.cell? ⟨w.heap.size, 4, none⟩ = some (.string ke) ∧ w'.cell? ⟨w.heap.size + 1, 0, none⟩ = some (.int .i64 ql) ∧ w'.cell? ⟨w.heap.size + 1, 1, none⟩ = some (.int .i64 qm) ∧ w'.cell? ⟨w.heap.size + 1, 2, none⟩ = some (.int .i64 qc) ∧ w'.cell? ⟨w.heap.size + 1, 3, none⟩ = some (.string qb) ∧ w'.cell? ⟨w.heap.size + 1, 4, none⟩ = some (.string qe)) from fun w' h => ⟨(HRA.out.kept h).cell 0 _ rfl, (HRA.out.kept h).cell 1 _ rfl, (HRA.out.kept h).cell 2 _ rfl, (HRA.out.kept h).cell 3 _ rfl, (HRA.out.kept h).cell 4 _ rfl, (HRB.out.kept h).cell 0 _ rfl, (HRB.out.kept h).cell 1 _ rfl, (HRB.out.kept h).cell 2 _ rfl, (HRB.out.kept h).cell 3 _ rfl, (HRB.out.kept h).cell 4 _ rfl⟩)
            go_wp2_with fail
            refine wp_region_held_drew (S := (fun w' => w'.cell? ⟨w.heap.size, 0, none⟩ = some (.int .i64 1) ∧ w'.cell? ⟨w.heap.size, 1, none⟩ = some (.int .i64 km) ∧ w'.cell? ⟨w.heap.size, 2, none⟩ = some (.int .i64 kc) ∧ w'.cell? ⟨w.heap.size, 3, none⟩ = some (.string kb) ∧ w'.cell? ⟨w.heap.size, 4, none⟩ = some (.string ke) ∧ w'.cell? ⟨w.heap.size + 1, 0, none⟩ = some (.int .i64 ql) ∧ w'.cell? ⟨w.heap.size + 1, 1, none⟩ = some (.int .i64 qm) ∧ w'.cell? ⟨w.heap.size + 1, 2, none⟩ = some (.int .i64 qc) ∧ w'.cell? ⟨w.heap.size + 1, 3, none⟩ = some (.string qb) ∧ w'.cell? ⟨w.heap.size + 1, 4, none⟩ = some (.string qe))) (by kernel_rfl) ?_ (fun hHeld => ?_)
            · refine HK.out _ ?_; (repeat (first | (with_reducible exact gr_rfl _) | (with_reducible refine gr_dr ?_) | (with_reducible refine gr_then ?_ hy) | (with_reducible refine gr_then ?_ hx)))
            refine wpAnyH_take (i := 0) (oi := _) (v := ?v72) rfl (by kernel_rfl) (by kernel_rfl) (by kernel_rfl) (fun _ _ _ h => h) (Or.inl ⟨by rfl, ?hy72⟩) (by assumption) ?rest72
            case hy72 => ((intro w hSw; (try dsimp only at hSw); go_simp); try (with_reducible rfl))
            ((try dsimp only [List.getElem_toArray, List.getElem_cons_succ, List.getElem_cons_zero]); try simp only [Act.put, List.setIfInBounds_toArray, List.set_cons_zero, List.set_cons_succ])
            refine wpAnyH_ready (rs := [1]) (by kernel_rfl) (by simp) ?_
            refine AllReadyH.cons (o := _) rfl (fun K hK => ?_) AllReadyH.nil
            go_simp
            go_at_call 43; (with_reducible refine (HNS.out _).mono ?_); rintro ex wx ⟨rfl, hx⟩
            refine hK.out _ _ ?_ (fun hHeld => ?_)
            · (try dsimp only); refine HK.out _ ?_; (repeat (first | (with_reducible exact gr_rfl _) | (with_reducible refine gr_dr ?_) | (with_reducible refine gr_then ?_ hy) | (with_reducible refine gr_then ?_ hx)))
            clear hK K
            ((try dsimp only [List.getElem_toArray, List.getElem_cons_succ, List.getElem_cons_zero]); try simp only [Act.put, List.setIfInBounds_toArray, List.set_cons_zero, List.set_cons_succ])
            refine wpAnyH_take (i := 2) (oi := _) (v := ?v73) rfl (by kernel_rfl) (by kernel_rfl) (by kernel_rfl) (fun _ _ _ h => h) (Or.inl ⟨by rfl, ?hy73⟩) (by assumption) ?rest73
            case hy73 => ((intro w hSw; (try dsimp only at hSw); go_simp); try (with_reducible rfl))
            ((try dsimp only [List.getElem_toArray, List.getElem_cons_succ, List.getElem_cons_zero]); try simp only [Act.put, List.setIfInBounds_toArray, List.set_cons_zero, List.set_cons_succ])
            refine wpAnyH_take (i := 3) (oi := _) (v := ?v74) rfl (by kernel_rfl) (by kernel_rfl) (by kernel_rfl) (fun _ _ _ h => h) (Or.inl ⟨by rfl, ?hy74⟩) (by assumption) ?rest74
            case hy74 => ((intro w hSw; (try dsimp only at hSw); go_simp); try (with_reducible rfl))
            ((try dsimp only [List.getElem_toArray, List.getElem_cons_succ, List.getElem_cons_zero]); try simp only [Act.put, List.setIfInBounds_toArray, List.set_cons_zero, List.set_cons_succ])
            refine wpAnyH_take (i := 4) (oi := _) (v := ?v75) rfl (by kernel_rfl) (by kernel_rfl) (by kernel_rfl) (fun _ _ _ h => h) (Or.inl ⟨by rfl, ?hy75⟩) (by assumption) ?rest75
            case hy75 => ((intro w hSw; (try dsimp only at hSw); go_simp); try (with_reducible rfl))
            ((try dsimp only [List.getElem_toArray, List.getElem_cons_succ, List.getElem_cons_zero]); try simp only [Act.put, List.setIfInBounds_toArray, List.set_cons_zero, List.set_cons_succ])
            refine wpAnyH_ready (rs := [5]) (by kernel_rfl) (by simp) ?_
            refine AllReadyH.cons (o := _) rfl (fun K hK => ?_) AllReadyH.nil
            go_simp
            go_at_call 43; (with_reducible refine (HNS.out _).mono ?_); rintro ey wy ⟨rfl, hy⟩
            refine hK.out _ _ ?_ (fun hHeld => ?_)
            · (try dsimp only); refine HK.out _ ?_; (repeat (first | (with_reducible exact gr_rfl _) | (with_reducible refine gr_dr ?_) | (with_reducible refine gr_then ?_ hy) | (with_reducible refine gr_then ?_ hx)))
            clear hK K
            ((try dsimp only [List.getElem_toArray, List.getElem_cons_succ, List.getElem_cons_zero]); try simp only [Act.put, List.setIfInBounds_toArray, List.set_cons_zero, List.set_cons_succ])
            refine wpAnyH_take (i := 6) (oi := _) (v := ?v76) rfl (by kernel_rfl) (by kernel_rfl) (by kernel_rfl) (fun _ _ _ h => h) (Or.inl ⟨by rfl, ?hy76⟩) (by assumption) ?rest76
            case hy76 => ((intro w hSw; (try dsimp only at hSw); go_simp); try (with_reducible rfl))
            ((try dsimp only [List.getElem_toArray, List.getElem_cons_succ, List.getElem_cons_zero]); try simp only [Act.put, List.setIfInBounds_toArray, List.set_cons_zero, List.set_cons_succ])
            refine wpAnyH_take (i := 7) (oi := _) (v := ?v77) rfl (by kernel_rfl) (by kernel_rfl) (by kernel_rfl) (fun _ _ _ h => h) (Or.inl ⟨by rfl, ?hy77⟩) (by assumption) ?rest77
            case hy77 => ((intro w hSw; (try dsimp only at hSw); go_simp); try (with_reducible rfl))
            ((try dsimp only [List.getElem_toArray, List.getElem_cons_succ, List.getElem_cons_zero]); try simp only [Act.put, List.setIfInBounds_toArray, List.set_cons_zero, List.set_cons_succ])
            refine wpAnyH_take (i := 8) (oi := _) (v := ?v78) rfl (by kernel_rfl) (by kernel_rfl) (by kernel_rfl) (fun _ _ _ h => h) (Or.inl ⟨by rfl, ?hy78⟩) (by assumption) ?rest78
            case hy78 => ((intro w hSw; (try dsimp only at hSw); go_simp); try (with_reducible rfl))
            ((try dsimp only [List.getElem_toArray, List.getElem_cons_succ, List.getElem_cons_zero]); try simp only [Act.put, List.setIfInBounds_toArray, List.set_cons_zero, List.set_cons_succ])
            refine wpAnyH_take (i := 9) (oi := _) (v := ?v79) rfl (by kernel_rfl) (by kernel_rfl) (by kernel_rfl) (fun _ _ _ h => h) (Or.inl ⟨by rfl, ?hy79⟩) (by assumption) ?rest79
            case hy79 => ((intro w hSw; (try dsimp only at hSw); go_simp); try (with_reducible rfl))
            ((try dsimp only [List.getElem_toArray, List.getElem_cons_succ, List.getElem_cons_zero]); try simp only [Act.put, List.setIfInBounds_toArray, List.set_cons_zero, List.set_cons_succ])
            refine wpAnyH_take (i := 10) (oi := _) (v := ?v80) rfl (by kernel_rfl) (by kernel_rfl) (by kernel_rfl) (fun _ _ _ h => h) (Or.inl ⟨by rfl, ?hy80⟩) (by assumption) ?rest80
            case hy80 => ((intro w hSw; (try dsimp only at hSw); go_simp); try (with_reducible rfl))
            ((try dsimp only [List.getElem_toArray, List.getElem_cons_succ, List.getElem_cons_zero]); try simp only [Act.put, List.setIfInBounds_toArray, List.set_cons_zero, List.set_cons_succ])
            refine wpAnyH_take (i := 11) (oi := _) (v := ?v81) rfl (by kernel_rfl) (by kernel_rfl) (by kernel_rfl) (fun _ _ _ h => h) (Or.inl ⟨by rfl, ?hy81⟩) (by assumption) ?rest81
            case hy81 => ((intro w hSw; (try dsimp only at hSw); go_simp); try (with_reducible rfl))
            ((try dsimp only [List.getElem_toArray, List.getElem_cons_succ, List.getElem_cons_zero]); try simp only [Act.put, List.setIfInBounds_toArray, List.set_cons_zero, List.set_cons_succ])
            refine wpAnyH_take (i := 12) (oi := _) (v := ?v82) rfl (by kernel_rfl) (by kernel_rfl) (by kernel_rfl) (fun _ _ _ h => h) (Or.inl ⟨by rfl, ?hy82⟩) (by assumption) ?rest82
            case hy82 => ((intro w hSw; (try dsimp only at hSw); go_simp); try (with_reducible rfl))
            ((try dsimp only [List.getElem_toArray, List.getElem_cons_succ, List.getElem_cons_zero]); try simp only [Act.put, List.setIfInBounds_toArray, List.set_cons_zero, List.set_cons_succ])
            refine wpAnyH_take (i := 13) (oi := _) (v := ?v83) rfl (by kernel_rfl) (by kernel_rfl) (by kernel_rfl) (fun _ _ _ h => h) (Or.inl ⟨by rfl, ?hy83⟩) (by assumption) ?rest83
            case hy83 => ((intro w hSw; (try dsimp only at hSw); go_simp); try (with_reducible rfl))
            ((try dsimp only [List.getElem_toArray, List.getElem_cons_succ, List.getElem_cons_zero]); try simp only [Act.put, List.setIfInBounds_toArray, List.set_cons_zero, List.set_cons_succ])
            refine wpAnyH_take (i := 14) (oi := _) (v := ?v84) rfl (by kernel_rfl) (by kernel_rfl) (by kernel_rfl) (fun _ _ _ h => h) (Or.inl ⟨by rfl, ?hy84⟩) (by assumption) ?rest84
            case hy84 => ((intro w hSw; (try dsimp only at hSw); go_simp); try (with_reducible rfl))
            ((try dsimp only [List.getElem_toArray, List.getElem_cons_succ, List.getElem_cons_zero]); try simp only [Act.put, List.setIfInBounds_toArray, List.set_cons_zero, List.set_cons_succ])
            refine wpAnyH_take (i := 15) (oi := _) (v := ?v85) rfl (by kernel_rfl) (by kernel_rfl) (by kernel_rfl) (fun _ _ _ h => h) (Or.inl ⟨by rfl, ?hy85⟩) (by assumption) ?rest85
            case hy85 => ((intro w hSw; (try dsimp only at hSw); go_simp); try (with_reducible rfl))
            ((try dsimp only [List.getElem_toArray, List.getElem_cons_succ, List.getElem_cons_zero]); try simp only [Act.put, List.setIfInBounds_toArray, List.set_cons_zero, List.set_cons_succ])
            refine wpAnyH_done (by kernel_rfl) ?_ _
            go_wp2_with fail
            go_meet
            exact ⟨by first | rfl | trivial, gr_then (gr_then (gr_dr (gr_rfl w7)) hx) hy⟩
          · have HK := Lib.hid (show ∀ w', w7.grownBy w' none → (w'.cell? ⟨w.heap.size, 0, none⟩ = some (.int .i64 1) ∧ w'.cell? ⟨w.heap.size, 1, none⟩ = some (.int .i64 km) ∧ w'.cell? ⟨w.heap.size, 2, none⟩ = some (.int .i64 kc) ∧ w'.cell? ⟨w.heap.size, 3, none⟩ = some (.string kb) ∧ w'.cell? ⟨w.heap.size, 4, none⟩ = some (.string ke) ∧ w'.cell? ⟨w.heap.size + 1, 0, none⟩ = some (.int .i64 1) ∧ w'.cell? ⟨w.heap.size + 1, 1, none⟩ = some (.int .i64 qm) ∧ w'.cell? ⟨w.heap.size + 1, 2, none⟩ = some (.int .i64 qc) ∧ w'.cell? ⟨w.heap.size + 1, 3, none⟩ = some (.string qb) ∧ w'.cell? ⟨w.heap.size + 1, 4, none⟩ = some (.string qe)) from fun w' h => ⟨(HRA.out.kept h).cell 0 _ rfl, (HRA.out.kept h).cell 1 _ rfl, (HRA.out.kept h).cell 2 _ rfl, (HRA.out.kept h).cell 3 _ rfl, (HRA.out.kept h).cell 4 _ rfl, (HRB.out.kept h).cell 0 _ rfl, (HRB.out.kept h).cell 1 _ rfl, (HRB.out.kept h).cell 2 _ rfl, (HRB.out.kept h).cell 3 _ rfl, (HRB.out.kept h).cell 4 _ rfl⟩)
            go_wp2_with fail
            refine wp_region_held_drew (S := (fun w' => w'.cell? ⟨w.heap.size, 0, none⟩ = some (.int .i64 1) ∧ w'.cell? ⟨w.heap.size, 1, none⟩ = some (.int .i64 km) ∧ w'.cell? ⟨w.heap.size, 2, none⟩ = some (.int .i64 kc) ∧ w'.cell? ⟨w.heap.size, 3, none⟩ = some (.string kb) ∧ w'.cell? ⟨w.heap.size, 4, none⟩ = some (.string ke) ∧ w'.cell? ⟨w.heap.size + 1, 0, none⟩ = some (.int .i64 1) ∧ w'.cell? ⟨w.heap.size + 1, 1, none⟩ = some (.int .i64 qm) ∧ w'.cell? ⟨w.heap.size + 1, 2, none⟩ = some (.int .i64 qc) ∧ w'.cell? ⟨w.heap.size + 1, 3, none⟩ = some (.string qb) ∧ w'.cell? ⟨w.heap.size + 1, 4, none⟩ = some (.string qe))) (by kernel_rfl) ?_ (fun hHeld => ?_)
            · refine HK.out _ ?_; (repeat (first | (with_reducible exact gr_rfl _) | (with_reducible refine gr_dr ?_) | (with_reducible refine gr_then ?_ hy) | (with_reducible refine gr_then ?_ hx)))
            refine wpAnyH_take (i := 0) (oi := _) (v := ?v86) rfl (by kernel_rfl) (by kernel_rfl) (by kernel_rfl) (fun _ _ _ h => h) (Or.inl ⟨by rfl, ?hy86⟩) (by assumption) ?rest86
            case hy86 => ((intro w hSw; (try dsimp only at hSw); go_simp); try (with_reducible rfl))
            ((try dsimp only [List.getElem_toArray, List.getElem_cons_succ, List.getElem_cons_zero]); try simp only [Act.put, List.setIfInBounds_toArray, List.set_cons_zero, List.set_cons_succ])
            refine wpAnyH_ready (rs := [1]) (by kernel_rfl) (by simp) ?_
            refine AllReadyH.cons (o := _) rfl (fun K hK => ?_) AllReadyH.nil
            go_simp
            go_at_call 43; (with_reducible refine (HNS.out _).mono ?_); rintro ex wx ⟨rfl, hx⟩
            refine hK.out _ _ ?_ (fun hHeld => ?_)
            · (try dsimp only); refine HK.out _ ?_; (repeat (first | (with_reducible exact gr_rfl _) | (with_reducible refine gr_dr ?_) | (with_reducible refine gr_then ?_ hy) | (with_reducible refine gr_then ?_ hx)))
            clear hK K
            ((try dsimp only [List.getElem_toArray, List.getElem_cons_succ, List.getElem_cons_zero]); try simp only [Act.put, List.setIfInBounds_toArray, List.set_cons_zero, List.set_cons_succ])
            refine wpAnyH_take (i := 2) (oi := _) (v := ?v87) rfl (by kernel_rfl) (by kernel_rfl) (by kernel_rfl) (fun _ _ _ h => h) (Or.inl ⟨by rfl, ?hy87⟩) (by assumption) ?rest87
            case hy87 => ((intro w hSw; (try dsimp only at hSw); go_simp); try (with_reducible rfl))
            ((try dsimp only [List.getElem_toArray, List.getElem_cons_succ, List.getElem_cons_zero]); try simp only [Act.put, List.setIfInBounds_toArray, List.set_cons_zero, List.set_cons_succ])
            refine wpAnyH_take (i := 3) (oi := _) (v := ?v88) rfl (by kernel_rfl) (by kernel_rfl) (by kernel_rfl) (fun _ _ _ h => h) (Or.inl ⟨by rfl, ?hy88⟩) (by assumption) ?rest88
            case hy88 => ((intro w hSw; (try dsimp only at hSw); go_simp); try (with_reducible rfl))
            ((try dsimp only [List.getElem_toArray, List.getElem_cons_succ, List.getElem_cons_zero]); try simp only [Act.put, List.setIfInBounds_toArray, List.set_cons_zero, List.set_cons_succ])
            refine wpAnyH_take (i := 4) (oi := _) (v := ?v89) rfl (by kernel_rfl) (by kernel_rfl) (by kernel_rfl) (fun _ _ _ h => h) (Or.inl ⟨by rfl, ?hy89⟩) (by assumption) ?rest89
            case hy89 => ((intro w hSw; (try dsimp only at hSw); go_simp); try (with_reducible rfl))
            ((try dsimp only [List.getElem_toArray, List.getElem_cons_succ, List.getElem_cons_zero]); try simp only [Act.put, List.setIfInBounds_toArray, List.set_cons_zero, List.set_cons_succ])
            refine wpAnyH_ready (rs := [5]) (by kernel_rfl) (by simp) ?_
            refine AllReadyH.cons (o := _) rfl (fun K hK => ?_) AllReadyH.nil
            go_simp
            go_at_call 43; (with_reducible refine (HNS.out _).mono ?_); rintro ey wy ⟨rfl, hy⟩
            refine hK.out _ _ ?_ (fun hHeld => ?_)
            · (try dsimp only); refine HK.out _ ?_; (repeat (first | (with_reducible exact gr_rfl _) | (with_reducible refine gr_dr ?_) | (with_reducible refine gr_then ?_ hy) | (with_reducible refine gr_then ?_ hx)))
            clear hK K
            ((try dsimp only [List.getElem_toArray, List.getElem_cons_succ, List.getElem_cons_zero]); try simp only [Act.put, List.setIfInBounds_toArray, List.set_cons_zero, List.set_cons_succ])
            refine wpAnyH_take (i := 6) (oi := _) (v := ?v90) rfl (by kernel_rfl) (by kernel_rfl) (by kernel_rfl) (fun _ _ _ h => h) (Or.inl ⟨by rfl, ?hy90⟩) (by assumption) ?rest90
            case hy90 => ((intro w hSw; (try dsimp only at hSw); go_simp); try (with_reducible rfl))
            ((try dsimp only [List.getElem_toArray, List.getElem_cons_succ, List.getElem_cons_zero]); try simp only [Act.put, List.setIfInBounds_toArray, List.set_cons_zero, List.set_cons_succ])
            refine wpAnyH_take (i := 7) (oi := _) (v := ?v91) rfl (by kernel_rfl) (by kernel_rfl) (by kernel_rfl) (fun _ _ _ h => h) (Or.inl ⟨by rfl, ?hy91⟩) (by assumption) ?rest91
            case hy91 => ((intro w hSw; (try dsimp only at hSw); go_simp); try (with_reducible rfl))
            ((try dsimp only [List.getElem_toArray, List.getElem_cons_succ, List.getElem_cons_zero]); try simp only [Act.put, List.setIfInBounds_toArray, List.set_cons_zero, List.set_cons_succ])
            refine wpAnyH_take (i := 8) (oi := _) (v := ?v92) rfl (by kernel_rfl) (by kernel_rfl) (by kernel_rfl) (fun _ _ _ h => h) (Or.inl ⟨by rfl, ?hy92⟩) (by assumption) ?rest92
            case hy92 => ((intro w hSw; (try dsimp only at hSw); go_simp); try (with_reducible rfl))
            ((try dsimp only [List.getElem_toArray, List.getElem_cons_succ, List.getElem_cons_zero]); try simp only [Act.put, List.setIfInBounds_toArray, List.set_cons_zero, List.set_cons_succ])
            refine wpAnyH_take (i := 9) (oi := _) (v := ?v93) rfl (by kernel_rfl) (by kernel_rfl) (by kernel_rfl) (fun _ _ _ h => h) (Or.inl ⟨by rfl, ?hy93⟩) (by assumption) ?rest93
            case hy93 => ((intro w hSw; (try dsimp only at hSw); go_simp); try (with_reducible rfl))
            ((try dsimp only [List.getElem_toArray, List.getElem_cons_succ, List.getElem_cons_zero]); try simp only [Act.put, List.setIfInBounds_toArray, List.set_cons_zero, List.set_cons_succ])
            refine wpAnyH_take (i := 10) (oi := _) (v := ?v94) rfl (by kernel_rfl) (by kernel_rfl) (by kernel_rfl) (fun _ _ _ h => h) (Or.inl ⟨by rfl, ?hy94⟩) (by assumption) ?rest94
            case hy94 => ((intro w hSw; (try dsimp only at hSw); go_simp); try (with_reducible rfl))
            ((try dsimp only [List.getElem_toArray, List.getElem_cons_succ, List.getElem_cons_zero]); try simp only [Act.put, List.setIfInBounds_toArray, List.set_cons_zero, List.set_cons_succ])
            refine wpAnyH_take (i := 11) (oi := _) (v := ?v95) rfl (by kernel_rfl) (by kernel_rfl) (by kernel_rfl) (fun _ _ _ h => h) (Or.inl ⟨by rfl, ?hy95⟩) (by assumption) ?rest95
            case hy95 => ((intro w hSw; (try dsimp only at hSw); go_simp); try (with_reducible rfl))
            ((try dsimp only [List.getElem_toArray, List.getElem_cons_succ, List.getElem_cons_zero]); try simp only [Act.put, List.setIfInBounds_toArray, List.set_cons_zero, List.set_cons_succ])
            refine wpAnyH_take (i := 12) (oi := _) (v := ?v96) rfl (by kernel_rfl) (by kernel_rfl) (by kernel_rfl) (fun _ _ _ h => h) (Or.inl ⟨by rfl, ?hy96⟩) (by assumption) ?rest96
            case hy96 => ((intro w hSw; (try dsimp only at hSw); go_simp); try (with_reducible rfl))
            ((try dsimp only [List.getElem_toArray, List.getElem_cons_succ, List.getElem_cons_zero]); try simp only [Act.put, List.setIfInBounds_toArray, List.set_cons_zero, List.set_cons_succ])
            refine wpAnyH_take (i := 13) (oi := _) (v := ?v97) rfl (by kernel_rfl) (by kernel_rfl) (by kernel_rfl) (fun _ _ _ h => h) (Or.inl ⟨by rfl, ?hy97⟩) (by assumption) ?rest97
            case hy97 => ((intro w hSw; (try dsimp only at hSw); go_simp); try (with_reducible rfl))
            ((try dsimp only [List.getElem_toArray, List.getElem_cons_succ, List.getElem_cons_zero]); try simp only [Act.put, List.setIfInBounds_toArray, List.set_cons_zero, List.set_cons_succ])
            refine wpAnyH_take (i := 14) (oi := _) (v := ?v98) rfl (by kernel_rfl) (by kernel_rfl) (by kernel_rfl) (fun _ _ _ h => h) (Or.inl ⟨by rfl, ?hy98⟩) (by assumption) ?rest98
            case hy98 => ((intro w hSw; (try dsimp only at hSw); go_simp); try (with_reducible rfl))
            ((try dsimp only [List.getElem_toArray, List.getElem_cons_succ, List.getElem_cons_zero]); try simp only [Act.put, List.setIfInBounds_toArray, List.set_cons_zero, List.set_cons_succ])
            refine wpAnyH_take (i := 15) (oi := _) (v := ?v99) rfl (by kernel_rfl) (by kernel_rfl) (by kernel_rfl) (fun _ _ _ h => h) (Or.inl ⟨by rfl, ?hy99⟩) (by assumption) ?rest99
            case hy99 => ((intro w hSw; (try dsimp only at hSw); go_simp); try (with_reducible rfl))
            ((try dsimp only [List.getElem_toArray, List.getElem_cons_succ, List.getElem_cons_zero]); try simp only [Act.put, List.setIfInBounds_toArray, List.set_cons_zero, List.set_cons_succ])
            refine wpAnyH_done (by kernel_rfl) ?_ _
            go_wp2_with fail
            go_meet
            exact ⟨by first | rfl | trivial, gr_then (gr_then (gr_dr (gr_rfl w7)) hx) hy⟩
        case rest =>
          obtain ⟨rfl, GX⟩ := hcut
          obtain ⟨wm, hwm⟩ : ∃ wm, wc = wm := ⟨_, rfl⟩
          rw [hwm] at GX ⊢
          have HGX := Lib.hid GX
          clear hk2 hq2 hwm GX
          by_cases h2 : 200 < kl + ql
          · have hR : R = none5 := by rw [← HREQ.out]; exact if_pos (.inr (.inr h2))
            subst hR
            have h2d : decide (200 < kl + ql) = true := decide_eq_true h2
            have GN : w7.grownBy wm none := HGX.out
            have HGN := Lib.hid GN
            clear GN
            go_wp2_with fail
            refine (HNS.out _).mono ?_
            rintro e9 w9 ⟨rfl, h9⟩
            have R2 := HRZ.out.kept (gr_then HGN.out h9)
            have f0 := R2.fr 0
            have f1 := R2.fr 1
            have f2 := R2.fr 2
            have f3 := R2.fr 3
            have f4 := R2.fr 4
            have c0 := R2.cell 0 _ rfl
            have c1 := R2.cell 1 _ rfl
            have c2 := R2.cell 2 _ rfl
            have c3 := R2.cell 3 _ rfl
            have c4 := R2.cell 4 _ rfl
            have HR2 := Lib.hid R2
            have G2 := Lib.hid (gr_then HGW.out (gr_then HGN.out h9))
            clear R2 h9
            go_wp2
            exact bodyPost_ret (v := vS none5) (results_shape (a := none5) rfl rfl (HR2.out.five (v0 := .int .i64 1) (v1 := .int .i64 0) (v2 := .int .i64 0) (v3 := .string ⟨#[]⟩) (v4 := .string ⟨#[]⟩))) rfl ⟨rfl, gr_five G2.out (by omega)⟩
          · have h2d : decide (200 < kl + ql) = false := decide_eq_false h2
            obtain ⟨M, hM⟩ : ∃ M : Int, min (km + qm) 200 = M := ⟨_, rfl⟩
            obtain ⟨C, hC⟩ : ∃ C : Int, bits .or .i64 kc qc = C := ⟨_, rfl⟩
            have hbA := HA.out
            have hbB := HBB.out
            have HRQ := Lib.hid (show R = ⟨kl + ql, M, C, pickF ⟨kl, km, kc, kb, ke⟩ (kb ++ qb) kb, pickF ⟨ql, qm, qc, qb, qe⟩ (ke ++ qb) qe⟩ from by
              rw [← HREQ.out, if_neg (by rintro (h | h | h); exact HKN.out h; exact HQN.out h; exact h2 h), ← hM, ← hC]
              rfl)
            have HFA := Lib.hid (fun w0 => fixed_any ⟨kl, km, kc, kb, ke⟩ w0)
            have HFB := Lib.hid (fun w0 => fixed_any ⟨ql, qm, qc, qb, qe⟩ w0)
            have a0 := (HRA.out.kept HGX.out).cell 0 _ rfl
            have b0 := (HRB.out.kept HGX.out).cell 0 _ rfl
            have a1 := (HRA.out.kept HGX.out).cell 1 _ rfl
            have b1 := (HRB.out.kept HGX.out).cell 1 _ rfl
            have a2 := (HRA.out.kept HGX.out).cell 2 _ rfl
            have b2 := (HRB.out.kept HGX.out).cell 2 _ rfl
            have a3 := (HRA.out.kept HGX.out).cell 3 _ rfl
            have b3 := (HRB.out.kept HGX.out).cell 3 _ rfl
            have a4 := (HRA.out.kept HGX.out).cell 4 _ rfl
            have b4 := (HRB.out.kept HGX.out).cell 4 _ rfl
            obtain ⟨X, hX⟩ : ∃ X, wm.heap.size = X := ⟨_, rfl⟩
            have hXw : w.heap.size + 1 + 1 < X := by rw [← hX]; exact (HRZ.out.kept HGX.out).lt
            have RX := Row.new wm (five ⟨kl + ql, M, C, kb, qe⟩) 24
            have RA2 := (HRA.out.kept HGX.out).al (o := .cells #[.int .i64 (kl + ql), .int .i64 M, .int .i64 C, .string kb, .string qe] 24)
            have RB2 := (HRB.out.kept HGX.out).al (o := .cells #[.int .i64 (kl + ql), .int .i64 M, .int .i64 C, .string kb, .string qe] 24)
            have RZ2 := (HRZ.out.kept HGX.out).al (o := .cells #[.int .i64 (kl + ql), .int .i64 M, .int .i64 C, .string kb, .string qe] 24)
            have GM := gr_al (o := .cells #[.int .i64 (kl + ql), .int .i64 M, .int .i64 C, .string kb, .string qe] 24) (gr_then HGW.out HGX.out)
            simp only [List.toArray] at RX
            rw [hX] at RX
            have hkb1 : kb.size ≤ 1000000 := hla.1
            have hke1 : ke.size ≤ 1000000 := hla.2
            have hqb1 : qb.size ≤ 1000000 := hlb.1
            have p0 := RA2.cell 0 _ rfl
            have p1 := RA2.cell 1 _ rfl
            have p2 := RA2.cell 2 _ rfl
            have p3 := RA2.cell 3 _ rfl
            have p4 := RA2.cell 4 _ rfl
            go_wp2_with fail
            clear a0 a1 a2 a3 a4 b0 b1 b2 b3 b4 p0 p1 p2 p3 p4
            refine (HFA.out _).mono ?_
            rintro e1 w8 ⟨r1, rfl, hr1, g8⟩
            have HF1 := Lib.hid hr1
            have HX8 := Lib.hid (RX.kept g8)
            have HA8 := Lib.hid (RA2.kept g8)
            have HB8 := Lib.hid (RB2.kept g8)
            have HZ8 := Lib.hid (RZ2.kept g8)
            have HG8 := Lib.hid (gr_then GM g8)
            clear hr1 g8 RX RA2 RB2 RZ2 GM
            have o0 := HB8.out.cell 0 _ rfl
            have o1 := HB8.out.cell 1 _ rfl
            have o2 := HB8.out.cell 2 _ rfl
            have o3 := HB8.out.cell 3 _ rfl
            have o4 := HB8.out.cell 4 _ rfl
            cases r1
            · go_wp2_with fail
              refine (HFB.out _).mono ?_
              rintro e1 w9 ⟨r2, rfl, hr2, g9⟩
              have HF2 := Lib.hid hr2
              have HX9 := Lib.hid (HX8.out.kept g9)
              have HA9 := Lib.hid (HA8.out.kept g9)
              have HB9 := Lib.hid (HB8.out.kept g9)
              have HZ9 := Lib.hid (HZ8.out.kept g9)
              have HG9 := Lib.hid (gr_then HG8.out g9)
              clear hr2 g9 o0 o1 o2 o3 o4
              cases r2
              · have X3 := HX9.out
                have Z2 := HZ9.out
                have GE := HG9.out
                have HR1 := Lib.hid (show R = ⟨kl + ql, M, C, kb, qe⟩ from by rw [HRQ.out, pick_no (fun h => by have := HF1.out.2 h; simp at this), pick_no (fun h => by have := HF2.out.2 h; simp at this)])
                have f0 := Z2.fr 0
                have f1 := Z2.fr 1
                have f2 := Z2.fr 2
                have f3 := Z2.fr 3
                have f4 := Z2.fr 4
                have c0 := Z2.cell 0 _ rfl
                have c1 := Z2.cell 1 _ rfl
                have c2 := Z2.cell 2 _ rfl
                have c3 := Z2.cell 3 _ rfl
                have c4 := Z2.cell 4 _ rfl
                have u0 := X3.cell 0 _ rfl
                have u1 := X3.cell 1 _ rfl
                have u2 := X3.cell 2 _ rfl
                have u3 := X3.cell 3 _ rfl
                have u4 := X3.cell 4 _ rfl
                have HZE := Lib.hid Z2
                have HGE := Lib.hid GE
                clear X3 Z2 GE
                go_wp2
                exact bodyPost_ret (v := vS R) (by rw [HR1.out]; exact results_shape (a := ⟨kl + ql, M, C, kb, qe⟩) rfl rfl HZE.out.five) rfl ⟨rfl, gr_five HGE.out (by omega)⟩
              · have y3 := HB9.out.cell 3 _ rfl
                have y4 := HA9.out.cell 4 _ rfl
                have x4 := HX9.out.cell 4 _ rfl
                have xf := HX9.out.fr 4
                have X3 : Row (w9.setCell ⟨X, 4, none⟩ (.string (ke ++ qb))) X (five ⟨kl + ql, M, C, kb, ke ++ qb⟩) 24 := HX9.out.set 4 (.string (ke ++ qb))
                have Z2 := HZ9.out.other (b' := X) (i := 4) (v := .string (ke ++ qb)) (by omega)
                have GE := gr_setn (g := X) (i := 4) (v := .string (ke ++ qb)) HG9.out (by omega)
                have HR1 := Lib.hid (show R = ⟨kl + ql, M, C, kb, ke ++ qb⟩ from by rw [HRQ.out, pick_no (fun h => by have := HF1.out.2 h; simp at this), pick_yes (HF2.out.1 (by first | rfl | trivial))])
                have f0 := Z2.fr 0
                have f1 := Z2.fr 1
                have f2 := Z2.fr 2
                have f3 := Z2.fr 3
                have f4 := Z2.fr 4
                have c0 := Z2.cell 0 _ rfl
                have c1 := Z2.cell 1 _ rfl
                have c2 := Z2.cell 2 _ rfl
                have c3 := Z2.cell 3 _ rfl
                have c4 := Z2.cell 4 _ rfl
                have u0 := X3.cell 0 _ rfl
                have u1 := X3.cell 1 _ rfl
                have u2 := X3.cell 2 _ rfl
                have u3 := X3.cell 3 _ rfl
                have u4 := X3.cell 4 _ rfl
                have HZE := Lib.hid Z2
                have HGE := Lib.hid GE
                clear X3 Z2 GE
                go_wp2
                exact bodyPost_ret (v := vS R) (by rw [HR1.out]; exact results_shape (a := ⟨kl + ql, M, C, kb, ke ++ qb⟩) rfl rfl HZE.out.five) rfl ⟨rfl, gr_five HGE.out (by omega)⟩
            · have x3 := HX8.out.cell 3 _ rfl
              have xf := HX8.out.fr 3
              have X2 : Row (w8.setCell ⟨X, 3, none⟩ (.string (kb ++ qb))) X (five ⟨kl + ql, M, C, kb ++ qb, qe⟩) 24 := HX8.out.set 3 (.string (kb ++ qb))
              have A2 := HA8.out.other (b' := X) (i := 3) (v := .string (kb ++ qb)) (by omega)
              have B2 := HB8.out.other (b' := X) (i := 3) (v := .string (kb ++ qb)) (by omega)
              have Z2 := HZ8.out.other (b' := X) (i := 3) (v := .string (kb ++ qb)) (by omega)
              have G2 := gr_setn (g := X) (i := 3) (v := .string (kb ++ qb)) HG8.out (by omega)
              have HX8 := Lib.hid X2
              have HA8 := Lib.hid A2
              have HB8 := Lib.hid B2
              have HZ8 := Lib.hid Z2
              have HG8 := Lib.hid G2
              clear X2 A2 B2 Z2 G2
              go_wp2_with fail
              refine (HFB.out _).mono ?_
              rintro e1 w9 ⟨r2, rfl, hr2, g9⟩
              have HF2 := Lib.hid hr2
              have HX9 := Lib.hid (HX8.out.kept g9)
              have HA9 := Lib.hid (HA8.out.kept g9)
              have HB9 := Lib.hid (HB8.out.kept g9)
              have HZ9 := Lib.hid (HZ8.out.kept g9)
              have HG9 := Lib.hid (gr_then HG8.out g9)
              clear hr2 g9 o0 o1 o2 o3 o4
              cases r2
              · have X3 := HX9.out
                have Z2 := HZ9.out
                have GE := HG9.out
                have HR1 := Lib.hid (show R = ⟨kl + ql, M, C, kb ++ qb, qe⟩ from by rw [HRQ.out, pick_yes (HF1.out.1 (by first | rfl | trivial)), pick_no (fun h => by have := HF2.out.2 h; simp at this)])
                have f0 := Z2.fr 0
                have f1 := Z2.fr 1
                have f2 := Z2.fr 2
                have f3 := Z2.fr 3
                have f4 := Z2.fr 4
                have c0 := Z2.cell 0 _ rfl
                have c1 := Z2.cell 1 _ rfl
                have c2 := Z2.cell 2 _ rfl
                have c3 := Z2.cell 3 _ rfl
                have c4 := Z2.cell 4 _ rfl
                have u0 := X3.cell 0 _ rfl
                have u1 := X3.cell 1 _ rfl
                have u2 := X3.cell 2 _ rfl
                have u3 := X3.cell 3 _ rfl
                have u4 := X3.cell 4 _ rfl
                have HZE := Lib.hid Z2
                have HGE := Lib.hid GE
                clear X3 Z2 GE
                go_wp2
                exact bodyPost_ret (v := vS R) (by rw [HR1.out]; exact results_shape (a := ⟨kl + ql, M, C, kb ++ qb, qe⟩) rfl rfl HZE.out.five) rfl ⟨rfl, gr_five HGE.out (by omega)⟩
              · have y3 := HB9.out.cell 3 _ rfl
                have y4 := HA9.out.cell 4 _ rfl
                have x4 := HX9.out.cell 4 _ rfl
                have xf := HX9.out.fr 4
                have X3 : Row (w9.setCell ⟨X, 4, none⟩ (.string (ke ++ qb))) X (five ⟨kl + ql, M, C, kb ++ qb, ke ++ qb⟩) 24 := HX9.out.set 4 (.string (ke ++ qb))
                have Z2 := HZ9.out.other (b' := X) (i := 4) (v := .string (ke ++ qb)) (by omega)
                have GE := gr_setn (g := X) (i := 4) (v := .string (ke ++ qb)) HG9.out (by omega)
                have HR1 := Lib.hid (show R = ⟨kl + ql, M, C, kb ++ qb, ke ++ qb⟩ from by rw [HRQ.out, pick_yes (HF1.out.1 (by first | rfl | trivial)), pick_yes (HF2.out.1 (by first | rfl | trivial))])
                have f0 := Z2.fr 0
                have f1 := Z2.fr 1
                have f2 := Z2.fr 2
                have f3 := Z2.fr 3
                have f4 := Z2.fr 4
                have c0 := Z2.cell 0 _ rfl
                have c1 := Z2.cell 1 _ rfl
                have c2 := Z2.cell 2 _ rfl
                have c3 := Z2.cell 3 _ rfl
                have c4 := Z2.cell 4 _ rfl
                have u0 := X3.cell 0 _ rfl
                have u1 := X3.cell 1 _ rfl
                have u2 := X3.cell 2 _ rfl
                have u3 := X3.cell 3 _ rfl
                have u4 := X3.cell 4 _ rfl
                have HZE := Lib.hid Z2
                have HGE := Lib.hid GE
                clear X3 Z2 GE
                go_wp2
                exact bodyPost_ret (v := vS R) (by rw [HR1.out]; exact results_shape (a := ⟨kl + ql, M, C, kb ++ qb, ke ++ qb⟩) rfl rfl HZE.out.five) rfl ⟨rfl, gr_five HGE.out (by omega)⟩
end Go.Proofs.YtaejnklgnegkhaaGreatDoor
