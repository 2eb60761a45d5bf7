/- Contracts of the program and of the reference, part 11: Sjn. -/
import Derived.Test.YtaejnklgnegkhaaGreatDoorBBase10
import Derived.Deep.RegionHeld3
import Derived.Deep.CutBlock
namespace Go.Proofs.YtaejnklgnegkhaaGreatDoor
open Go.RowKit Pt Sh

set_option maxRecDepth 100000 in
set_option maxHeartbeats 80000000 in
theorem join_any (a a' : S5) (w : World) (hb : a.b.size ≤ 1000000) (he : a.e.size ≤ 1000000) (hb' : a'.b.size ≤ 1000000) (he' : a'.e.size ≤ 1000000) :
    Calls Tryz.prog 21 #[vS a, vS a'] w fun e w' => e = .returned (vS (joinD a a')) ∧ w.grownBy w' none := by
  have HKA := Lib.hid (fun w0 => canon_any a w0 hb he)
  have HKB := Lib.hid (fun w0 => canon_any a' w0 hb' he')
  have hla := canon_le hb he
  have hlb := canon_le hb' he'
  have hda := canon_bd a
  have hdb := canon_bd a'
  obtain ⟨R, hR⟩ : ∃ R, joinD a a' = R := ⟨_, rfl⟩
  have HRR := Lib.hid hR
  unfold joinD at hR
  generalize hkk : canonD a = k at *
  generalize hkk' : canonD a' = k' at *
  have HREQ := Lib.hid hR
  rw [HRR.out]
  obtain ⟨l, m, c, b, e⟩ := a
  obtain ⟨l', m', c', b', e'⟩ := a'
  obtain ⟨kl, km, kc, kb, ke⟩ := k
  obtain ⟨ql, qm, qc, qb, qe⟩ := k'
  have RZ := Row.new ((w.alloc (.cells #[.int .i64 l, .int .i64 m, .int .i64 c, .string b, .string e] 24)).alloc (.cells #[.int .i64 l', .int .i64 m', .int .i64 c', .string b', .string e'] 24)) zero5 24
  have RA := ((Row.new w (five ⟨l, m, c, b, e⟩) 24).al (o := .cells #[.int .i64 l', .int .i64 m', .int .i64 c', .string b', .string e'] 24)).al (o := .cells #[.int .i64 0, .int .i64 0, .int .i64 0, .string ⟨#[]⟩, .string ⟨#[]⟩] 24)
  have RB := (Row.new (w.alloc (.cells #[.int .i64 l, .int .i64 m, .int .i64 c, .string b, .string e] 24)) (five ⟨l', m', c', b', e'⟩) 24).al (o := .cells #[.int .i64 0, .int .i64 0, .int .i64 0, .string ⟨#[]⟩, .string ⟨#[]⟩] 24)
  rw [World.size_alloc, World.size_alloc] at RZ
  rw [World.size_alloc] at RB
  simp only [List.toArray] at RZ RA RB
  obtain ⟨wz, hwz⟩ : ∃ wz, ((w.alloc (.cells #[.int .i64 l, .int .i64 m, .int .i64 c, .string b, .string e] 24)).alloc (.cells #[.int .i64 l', .int .i64 m', .int .i64 c', .string b', .string e'] 24)).alloc (.cells #[.int .i64 0, .int .i64 0, .int .i64 0, .string ⟨#[]⟩, .string ⟨#[]⟩] 24) = wz := ⟨_, rfl⟩
  rw [hwz] at RZ RA RB
  have HRZ := Lib.hid RZ
  have HRA := Lib.hid RA
  have HRB := Lib.hid RB
  have HGZ := Lib.hid (show w.grownBy wz none from by rw [← hwz]; exact gr_then (gr_then (gr_alloc _ _ _) (gr_alloc _ _ _)) (gr_alloc _ _ _))
  have HWZ := Lib.hid hwz
  have a0 := RA.cell 0 _ rfl
  have a1 := RA.cell 1 _ rfl
  have a2 := RA.cell 2 _ rfl
  have a3 := RA.cell 3 _ rfl
  have a4 := RA.cell 4 _ rfl
  have b0 := RB.cell 0 _ rfl
  have b1 := RB.cell 1 _ rfl
  have b2 := RB.cell 2 _ rfl
  have b3 := RB.cell 3 _ rfl
  have b4 := RB.cell 4 _ rfl
  clear RZ RA RB hwz hb he hb' he' hR hkk hkk'
  go_enter Tryz.func21, Tryz.ntmps21
  go_wp2_with fail
  rw [HWZ.out]
  go_cut [5, 6] from 7 to 10 (fun p q wx => ∃ X Y : Nat, p = .pointer (some ⟨X, 0, none⟩) ∧ q = .pointer (some ⟨Y, 0, none⟩) ∧ w.heap.size + 1 + 1 < X ∧ w.heap.size + 1 + 1 < Y ∧ Row wx X (five ⟨kl, km, kc, kb, ke⟩) 24 ∧ Row wx Y (five ⟨ql, qm, qc, qb, qe⟩) 24 ∧ Row wx w.heap.size (five ⟨l, m, c, b, e⟩) 24 ∧ Row wx (w.heap.size + 1) (five ⟨l', m', c', b', e'⟩) 24 ∧ Row wx (w.heap.size + 1 + 1) zero5 24 ∧ w.grownBy wx none)
  case first =>
    have HK := Lib.hid (show ∀ w', wz.grownBy w' none → (w'.cell? ⟨w.heap.size, 0, none⟩ = some (.int .i64 l) ∧ w'.cell? ⟨w.heap.size, 1, none⟩ = some (.int .i64 m) ∧ w'.cell? ⟨w.heap.size, 2, none⟩ = some (.int .i64 c) ∧ w'.cell? ⟨w.heap.size, 3, none⟩ = some (.string b) ∧ w'.cell? ⟨w.heap.size, 4, none⟩ = some (.string e) ∧ w'.cell? ⟨w.heap.size + 1, 0, none⟩ = some (.int .i64 l') ∧ w'.cell? ⟨w.heap.size + 1, 1, none⟩ = some (.int .i64 m') ∧ w'.cell? ⟨w.heap.size + 1, 2, none⟩ = some (.int .i64 c') ∧ w'.cell? ⟨w.heap.size + 1, 3, none⟩ = some (.string b') ∧ w'.cell? ⟨w.heap.size + 1, 4, none⟩ = some (.string e')) from fun w' h => ⟨(HRA.out.kept h).cell 0 _ rfl, (HRA.out.kept h).cell 1 _ rfl, (HRA.out.kept h).cell 2 _ rfl, (HRA.out.kept h).cell 3 _ rfl, (HRA.out.kept h).cell 4 _ rfl, (HRB.out.kept h).cell 0 _ rfl, (HRB.out.kept h).cell 1 _ rfl, (HRB.out.kept h).cell 2 _ rfl, (HRB.out.kept h).cell 3 _ rfl, (HRB.out.kept h).cell 4 _ rfl⟩)
    have hzs : w.heap.size + 1 + 1 < wz.heap.size := HRZ.out.lt
    clear a0 a1 a2 a3 a4 b0 b1 b2 b3 b4 hla hlb hda hdb
    go_region_held3 (fun w' => w'.cell? ⟨w.heap.size, 0, none⟩ = some (.int .i64 l) ∧ w'.cell? ⟨w.heap.size, 1, none⟩ = some (.int .i64 m) ∧ w'.cell? ⟨w.heap.size, 2, none⟩ = some (.int .i64 c) ∧ w'.cell? ⟨w.heap.size, 3, none⟩ = some (.string b) ∧ w'.cell? ⟨w.heap.size, 4, none⟩ = some (.string e) ∧ w'.cell? ⟨w.heap.size + 1, 0, none⟩ = some (.int .i64 l') ∧ w'.cell? ⟨w.heap.size + 1, 1, none⟩ = some (.int .i64 m') ∧ w'.cell? ⟨w.heap.size + 1, 2, none⟩ = some (.int .i64 c') ∧ w'.cell? ⟨w.heap.size + 1, 3, none⟩ = some (.string b') ∧ w'.cell? ⟨w.heap.size + 1, 4, none⟩ = some (.string e')) ((refine HK.out _ ?_; (repeat (first | (with_reducible refine gr_five ?_ (by first | omega | (simp; done) | (simp; omega))) | (with_reducible refine gr_al ?_) | (with_reducible refine gr_dr ?_) | (with_reducible refine gr_then ?_ gb) | (with_reducible refine gr_then ?_ ga) | (with_reducible exact gr_rfl _)))))
      (first
      | (have h__ := sA; clear h__; go_at_call 42; (with_reducible refine (HKB.out _).mono ?_); rintro e wb ⟨rfl, gb⟩; obtain ⟨hcB, hfB⟩ := gcell gb; have tB := gb.size; (try simp at tB); have sB : wz.heap.size ≤ wb.heap.size := (by omega); (try have eB1 : wa.heap.size < wb.heap.size := (by omega)); (try have eB2 : wz.heap.size < wb.heap.size := (by omega)); (try have eB3 : wz.heap.size + 1 < wb.heap.size := (by omega)))
      | (go_at_call 42; (with_reducible refine (HKA.out _).mono ?_); rintro e wa ⟨rfl, ga⟩; obtain ⟨hcA, hfA⟩ := gcell ga; have tA := ga.size; (try simp at tA); have sA : wz.heap.size ≤ wa.heap.size := (by omega); (try have eA1 : wz.heap.size < wa.heap.size := (by omega)); (try have eA2 : wz.heap.size + 1 < wa.heap.size := (by omega))))
    all_goals
      go_wp2_with fail
      go_meet
      clear hcA hfA hcB hfB
      have HRAo := HRA.out
      have HRBo := HRB.out
      have HRZo := HRZ.out
      have GZo := HGZ.out
      refine ⟨_, _, rfl, rfl, ?_, ?_, ?_, ?_, HRAo.kept ?_, HRBo.kept ?_, HRZo.kept ?_, gr_then GZo ?_⟩
      · first | omega | (simp; done) | (simp; omega)
      · first | omega | (simp; done) | (simp; omega)
      · (repeat (first | ((with_reducible refine Row.at5 ?_); first | rfl | (simp; done) | omega) | (with_reducible refine Row.five (a0 := .int .i64 0) (a1 := .int .i64 0) (a2 := .int .i64 0) (a3 := .string ⟨#[]⟩) (a4 := .string ⟨#[]⟩) ?_) | ((with_reducible refine Row.keep5 ?_ ?_); rotate_left; (first | omega | (simp; done) | (simp; omega))) | (with_reducible refine Row.kept ?_ gb) | (with_reducible refine Row.kept ?_ ga) | (with_reducible refine Row.al ?_) | (with_reducible refine Row.dr ?_)))
      · (repeat (first | ((with_reducible refine Row.at5 ?_); first | rfl | (simp; done) | omega) | (with_reducible refine Row.five (a0 := .int .i64 0) (a1 := .int .i64 0) (a2 := .int .i64 0) (a3 := .string ⟨#[]⟩) (a4 := .string ⟨#[]⟩) ?_) | ((with_reducible refine Row.keep5 ?_ ?_); rotate_left; (first | omega | (simp; done) | (simp; omega))) | (with_reducible refine Row.kept ?_ gb) | (with_reducible refine Row.kept ?_ ga) | (with_reducible refine Row.al ?_) | (with_reducible refine Row.dr ?_)))
      all_goals (repeat (first | (with_reducible refine gr_five ?_ (by first | omega | (simp; done) | (simp; omega))) | (with_reducible refine gr_al ?_) | (with_reducible refine gr_dr ?_) | (with_reducible refine gr_then ?_ gb) | (with_reducible refine gr_then ?_ ga) | (with_reducible exact gr_rfl _)))
  case rest =>
    obtain ⟨X, Y, rfl, rfl, hzx, hzy, RX, RY, RA, RB, RZ, GW⟩ := hcut
    obtain ⟨w7, hw7⟩ : ∃ w7, wc = w7 := ⟨_, rfl⟩
    rw [hw7] at RX RY RA RB RZ GW ⊢
    have HRX := Lib.hid RX
    have HRY := Lib.hid RY
    have HRA := Lib.hid RA
    have HRB := Lib.hid RB
    have HRZ := Lib.hid RZ
    have HGW := Lib.hid GW
    clear hw7 RX RY RA RB RZ GW
    have HNS := Lib.hid nos0
    have HDA := Lib.hid hda
    have HDB := Lib.hid hdb
    have HLA := Lib.hid hla
    have HLB := Lib.hid hlb
    have hnl := nil_list
    clear a0 a1 a2 a3 a4 b0 b1 b2 b3 b4 hda hdb hla hlb
    go_upto_block 0 with (fail)
    go_cut [5] from 11 to 30 (fun p wx => p = .pointer (some ⟨X, 0, none⟩) ∧ Hid ((⟨kl, km, kc, kb, ke⟩ : S5) ≠ none5) ∧ Hid ((⟨ql, qm, qc, qb, qe⟩ : S5) ≠ none5) ∧ Row wx X (five ⟨kl, km, kc, kb, ke⟩) 24 ∧ Row wx Y (five ⟨ql, qm, qc, qb, qe⟩) 24 ∧ Row wx w.heap.size (five ⟨l, m, c, b, e⟩) 24 ∧ Row wx (w.heap.size + 1) (five ⟨l', m', c', b', e'⟩) 24 ∧ Row wx (w.heap.size + 1 + 1) zero5 24 ∧ w.grownBy wx none)
    case rest =>
      clear HRX HRY HRA HRB HRZ HGW
      obtain ⟨rfl, HKN, HQN, RX, RY, RA, RB, RZ, GW⟩ := hcut
      obtain ⟨w9, hw7⟩ : ∃ w7, wc = w7 := ⟨_, rfl⟩
      rw [hw7] at RX RY RA RB RZ GW ⊢
      have HRX := Lib.hid RX
      have HRY := Lib.hid RY
      have HRA := Lib.hid RA
      have HRB := Lib.hid RB
      have HRZ := Lib.hid RZ
      have HGW := Lib.hid GW
      clear hw7 RX RY RA RB RZ GW
      obtain ⟨L, hL⟩ : ∃ L : Int, min kl ql = L := ⟨_, rfl⟩
      obtain ⟨M, hM⟩ : ∃ M : Int, max km qm = M := ⟨_, rfl⟩
      obtain ⟨C, hC⟩ : ∃ C : Int, bits .or .i64 kc qc = C := ⟨_, rfl⟩
      obtain ⟨PB, hPB⟩ : ∃ P, BA (cpre kb.data.toList qb.data.toList) = P := ⟨_, rfl⟩
      obtain ⟨PE, hPE⟩ : ∃ P, BA (csuf ke.data.toList qe.data.toList) = P := ⟨_, rfl⟩
      have HR1 := Lib.hid (show R = ⟨L, M, C, PB, PE⟩ from by rw [← HREQ.out, if_neg HKN.out, if_neg HQN.out, ← hL, ← hM, ← hC, ← hPB, ← hPE])
      have HBEG := Lib.hid (fun (w0 : World) => hPB ▸ cbeg_any kb qb w0 HLA.out.1)
      have HEND := Lib.hid (fun (w0 : World) => hPE ▸ cend_any ke qe w0 HLA.out.2 HLB.out.2)
      have hxne : X ≠ w.heap.size + 1 + 1 := by omega
      have hyne : Y ≠ w.heap.size + 1 + 1 := by omega
      have HK := Lib.hid (show ∀ w', w9.grownBy w' none → (w'.cell? ⟨X, 0, none⟩ = some (.int .i64 kl) ∧ w'.cell? ⟨X, 1, none⟩ = some (.int .i64 km) ∧ w'.cell? ⟨X, 2, none⟩ = some (.int .i64 kc) ∧ w'.cell? ⟨X, 3, none⟩ = some (.string kb) ∧ w'.cell? ⟨X, 4, none⟩ = some (.string ke) ∧ w'.cell? ⟨Y, 0, none⟩ = some (.int .i64 ql) ∧ w'.cell? ⟨Y, 1, none⟩ = some (.int .i64 qm) ∧ w'.cell? ⟨Y, 2, none⟩ = some (.int .i64 qc) ∧ w'.cell? ⟨Y, 3, none⟩ = some (.string qb) ∧ w'.cell? ⟨Y, 4, none⟩ = some (.string qe)) from fun w' h => ⟨(HRX.out.kept h).cell 0 _ rfl, (HRX.out.kept h).cell 1 _ rfl, (HRX.out.kept h).cell 2 _ rfl, (HRX.out.kept h).cell 3 _ rfl, (HRX.out.kept h).cell 4 _ rfl, (HRY.out.kept h).cell 0 _ rfl, (HRY.out.kept h).cell 1 _ rfl, (HRY.out.kept h).cell 2 _ rfl, (HRY.out.kept h).cell 3 _ rfl, (HRY.out.kept h).cell 4 _ rfl⟩)
      have HKF := Lib.hid (show ∀ w'', w9.grownBy w'' none → ∀ w', w' = ((((w''.setCell ⟨w.heap.size + 1 + 1, 0, none⟩ (.int .i64 L)).setCell ⟨w.heap.size + 1 + 1, 1, none⟩ (.int .i64 M)).setCell ⟨w.heap.size + 1 + 1, 2, none⟩ (.int .i64 C)).setCell ⟨w.heap.size + 1 + 1, 3, none⟩ (.string PB)).setCell ⟨w.heap.size + 1 + 1, 4, none⟩ (.string PE) → (w'.cell? ⟨X, 0, none⟩ = some (.int .i64 kl) ∧ w'.cell? ⟨X, 1, none⟩ = some (.int .i64 km) ∧ w'.cell? ⟨X, 2, none⟩ = some (.int .i64 kc) ∧ w'.cell? ⟨X, 3, none⟩ = some (.string kb) ∧ w'.cell? ⟨X, 4, none⟩ = some (.string ke) ∧ w'.cell? ⟨Y, 0, none⟩ = some (.int .i64 ql) ∧ w'.cell? ⟨Y, 1, none⟩ = some (.int .i64 qm) ∧ w'.cell? ⟨Y, 2, none⟩ = some (.int .i64 qc) ∧ w'.cell? ⟨Y, 3, none⟩ = some (.string qb) ∧ w'.cell? ⟨Y, 4, none⟩ = some (.string qe)) from fun w'' h w' hw => by
        rw [hw]
        exact ⟨((HRX.out.kept h).keep5 hxne).cell 0 _ rfl, ((HRX.out.kept h).keep5 hxne).cell 1 _ rfl, ((HRX.out.kept h).keep5 hxne).cell 2 _ rfl, ((HRX.out.kept h).keep5 hxne).cell 3 _ rfl, ((HRX.out.kept h).keep5 hxne).cell 4 _ rfl, ((HRY.out.kept h).keep5 hyne).cell 0 _ rfl, ((HRY.out.kept h).keep5 hyne).cell 1 _ rfl, ((HRY.out.kept h).keep5 hyne).cell 2 _ rfl, ((HRY.out.kept h).keep5 hyne).cell 3 _ rfl, ((HRY.out.kept h).keep5 hyne).cell 4 _ rfl⟩)
      clear hPB hPE
      go_wp2_with fail
      refine wp_region_held_drew (S := (fun w' => w'.cell? ⟨X, 0, none⟩ = some (.int .i64 kl) ∧ w'.cell? ⟨X, 1, none⟩ = some (.int .i64 km) ∧ w'.cell? ⟨X, 2, none⟩ = some (.int .i64 kc) ∧ w'.cell? ⟨X, 3, none⟩ = some (.string kb) ∧ w'.cell? ⟨X, 4, none⟩ = some (.string ke) ∧ w'.cell? ⟨Y, 0, none⟩ = some (.int .i64 ql) ∧ w'.cell? ⟨Y, 1, none⟩ = some (.int .i64 qm) ∧ w'.cell? ⟨Y, 2, none⟩ = some (.int .i64 qc) ∧ w'.cell? ⟨Y, 3, none⟩ = some (.string qb) ∧ w'.cell? ⟨Y, 4, none⟩ = some (.string qe))) (by kernel_rfl) ?_ (fun hHeld => ?_)
      · first | ((refine HK.out _ ?_; (repeat (first | (with_reducible exact gr_rfl _) | (with_reducible refine gr_dr ?_) | (with_reducible refine gr_then ?_ hy) | (with_reducible refine gr_then ?_ hx)))); done) | (refine HKF.out _ ?_ _ rfl; (repeat (first | (with_reducible exact gr_rfl _) | (with_reducible refine gr_dr ?_) | (with_reducible refine gr_then ?_ hy) | (with_reducible refine gr_then ?_ hx))))
      refine wpAnyH_take (i := 0) (oi := _) (v := ?v65) rfl (by kernel_rfl) (by kernel_rfl) (by kernel_rfl) (fun _ _ _ h => h) (Or.inl ⟨by rfl, ?hy65⟩) (by assumption) ?rest65
      case hy65 => ((intro w hSw; (try dsimp only at hSw); go_simp); try (with_reducible rfl))
      ((try dsimp only [List.getElem_toArray, List.getElem_cons_succ, List.getElem_cons_zero]); try simp only [Act.put, List.setIfInBounds_toArray, List.set_cons_zero, List.set_cons_succ])
      refine wpAnyH_take (i := 1) (oi := _) (v := ?v66) rfl (by kernel_rfl) (by kernel_rfl) (by kernel_rfl) (fun _ _ _ h => h) (Or.inl ⟨by rfl, ?hy66⟩) (by assumption) ?rest66
      case hy66 => ((intro w hSw; (try dsimp only at hSw); go_simp); try (with_reducible rfl))
      ((try dsimp only [List.getElem_toArray, List.getElem_cons_succ, List.getElem_cons_zero]); try simp only [Act.put, List.setIfInBounds_toArray, List.set_cons_zero, List.set_cons_succ])
      refine wpAnyH_take (i := 2) (oi := _) (v := ?v67) rfl (by kernel_rfl) (by kernel_rfl) (by kernel_rfl) (fun _ _ _ h => h) (Or.inl ⟨by rfl, ?hy67⟩) (by assumption) ?rest67
      case hy67 => ((intro w hSw; (try dsimp only at hSw); go_simp); try (with_reducible rfl))
      ((try dsimp only [List.getElem_toArray, List.getElem_cons_succ, List.getElem_cons_zero]); try simp only [Act.put, List.setIfInBounds_toArray, List.set_cons_zero, List.set_cons_succ])
      refine wpAnyH_take (i := 3) (oi := _) (v := ?v68) rfl (by kernel_rfl) (by kernel_rfl) (by kernel_rfl) (fun _ _ _ h => h) (Or.inl ⟨by rfl, ?hy68⟩) (by assumption) ?rest68
      case hy68 => ((intro w hSw; (try dsimp only at hSw); go_simp); try (with_reducible rfl))
      ((try dsimp only [List.getElem_toArray, List.getElem_cons_succ, List.getElem_cons_zero]); try simp only [Act.put, List.setIfInBounds_toArray, List.set_cons_zero, List.set_cons_succ])
      refine wpAnyH_take (i := 4) (oi := _) (v := ?v69) rfl (by kernel_rfl) (by kernel_rfl) (by kernel_rfl) (fun _ _ _ h => h) (Or.inl ⟨by rfl, ?hy69⟩) (by assumption) ?rest69
      case hy69 => ((intro w hSw; (try dsimp only at hSw); go_simp); try (with_reducible rfl))
      ((try dsimp only [List.getElem_toArray, List.getElem_cons_succ, List.getElem_cons_zero]); try simp only [Act.put, List.setIfInBounds_toArray, List.set_cons_zero, List.set_cons_succ])
      refine wpAnyH_take (i := 5) (oi := _) (v := ?v70) rfl (by kernel_rfl) (by kernel_rfl) (by kernel_rfl) (fun _ _ _ h => h) (Or.inl ⟨by rfl, ?hy70⟩) (by assumption) ?rest70
      case hy70 => ((intro w hSw; (try dsimp only at hSw); go_simp); try (with_reducible rfl))
      ((try dsimp only [List.getElem_toArray, List.getElem_cons_succ, List.getElem_cons_zero]); try simp only [Act.put, List.setIfInBounds_toArray, List.set_cons_zero, List.set_cons_succ])
      refine wpAnyH_take (i := 6) (oi := _) (v := ?v71) rfl (by kernel_rfl) (by kernel_rfl) (by kernel_rfl) (fun _ _ _ h => h) (Or.inl ⟨by rfl, ?hy71⟩) (by assumption) ?rest71
      case hy71 => ((intro w hSw; (try dsimp only at hSw); go_simp); try (with_reducible rfl))
      ((try dsimp only [List.getElem_toArray, List.getElem_cons_succ, List.getElem_cons_zero]); try simp only [Act.put, List.setIfInBounds_toArray, List.set_cons_zero, List.set_cons_succ])
      refine wpAnyH_take (i := 7) (oi := _) (v := ?v72) rfl (by kernel_rfl) (by kernel_rfl) (by kernel_rfl) (fun _ _ _ h => h) (Or.inl ⟨by rfl, ?hy72⟩) (by assumption) ?rest72
      case hy72 => ((intro w hSw; (try dsimp only at hSw); go_simp); try (with_reducible rfl))
      ((try dsimp only [List.getElem_toArray, List.getElem_cons_succ, List.getElem_cons_zero]); try simp only [Act.put, List.setIfInBounds_toArray, List.set_cons_zero, List.set_cons_succ])
      refine wpAnyH_take (i := 8) (oi := _) (v := ?v73) rfl (by kernel_rfl) (by kernel_rfl) (by kernel_rfl) (fun _ _ _ h => h) (Or.inl ⟨by rfl, ?hy73⟩) (by assumption) ?rest73
      case hy73 => ((intro w hSw; (try dsimp only at hSw); go_simp); try (with_reducible rfl))
      ((try dsimp only [List.getElem_toArray, List.getElem_cons_succ, List.getElem_cons_zero]); try simp only [Act.put, List.setIfInBounds_toArray, List.set_cons_zero, List.set_cons_succ])
      refine wpAnyH_take (i := 9) (oi := _) (v := ?v74) rfl (by kernel_rfl) (by kernel_rfl) (by kernel_rfl) (fun _ _ _ h => h) (Or.inl ⟨by rfl, ?hy74⟩) (by assumption) ?rest74
      case hy74 => ((intro w hSw; (try dsimp only at hSw); go_simp); try (with_reducible rfl))
      ((try dsimp only [List.getElem_toArray, List.getElem_cons_succ, List.getElem_cons_zero]); try simp only [Act.put, List.setIfInBounds_toArray, List.set_cons_zero, List.set_cons_succ])
      refine wpAnyH_take (i := 10) (oi := _) (v := ?v75) rfl (by kernel_rfl) (by kernel_rfl) (by kernel_rfl) (fun _ _ _ h => h) (Or.inl ⟨by rfl, ?hy75⟩) (by assumption) ?rest75
      case hy75 => ((intro w hSw; (try dsimp only at hSw); go_simp); try (with_reducible rfl))
      ((try dsimp only [List.getElem_toArray, List.getElem_cons_succ, List.getElem_cons_zero]); try simp only [Act.put, List.setIfInBounds_toArray, List.set_cons_zero, List.set_cons_succ])
      refine wpAnyH_take (i := 11) (oi := _) (v := ?v76) rfl (by kernel_rfl) (by kernel_rfl) (by kernel_rfl) (fun _ _ _ h => h) (Or.inl ⟨by rfl, ?hy76⟩) (by assumption) ?rest76
      case hy76 => ((intro w hSw; (try dsimp only at hSw); go_simp); try (with_reducible rfl))
      ((try dsimp only [List.getElem_toArray, List.getElem_cons_succ, List.getElem_cons_zero]); try simp only [Act.put, List.setIfInBounds_toArray, List.set_cons_zero, List.set_cons_succ])
      refine wpAnyH_take (i := 12) (oi := _) (v := ?v77) rfl (by kernel_rfl) (by kernel_rfl) (by kernel_rfl) (fun _ _ _ h => h) (Or.inl ⟨by rfl, ?hy77⟩) (by assumption) ?rest77
      case hy77 => ((intro w hSw; (try dsimp only at hSw); go_simp); try (with_reducible rfl))
      ((try dsimp only [List.getElem_toArray, List.getElem_cons_succ, List.getElem_cons_zero]); try simp only [Act.put, List.setIfInBounds_toArray, List.set_cons_zero, List.set_cons_succ])
      refine wpAnyH_take (i := 13) (oi := _) (v := ?v78) rfl (by kernel_rfl) (by kernel_rfl) (by kernel_rfl) (fun _ _ _ h => h) (Or.inl ⟨by rfl, ?hy78⟩) (by assumption) ?rest78
      case hy78 => ((intro w hSw; (try dsimp only at hSw); go_simp); try (with_reducible rfl))
      ((try dsimp only [List.getElem_toArray, List.getElem_cons_succ, List.getElem_cons_zero]); try simp only [Act.put, List.setIfInBounds_toArray, List.set_cons_zero, List.set_cons_succ])
      refine wpAnyH_take (i := 14) (oi := _) (v := ?v79) rfl (by kernel_rfl) (by kernel_rfl) (by kernel_rfl) (fun _ _ _ h => h) (Or.inl ⟨by rfl, ?hy79⟩) (by assumption) ?rest79
      case hy79 => ((intro w hSw; (try dsimp only at hSw); go_simp); try (with_reducible rfl))
      ((try dsimp only [List.getElem_toArray, List.getElem_cons_succ, List.getElem_cons_zero]); try simp only [Act.put, List.setIfInBounds_toArray, List.set_cons_zero, List.set_cons_succ])
      refine wpAnyH_take (i := 15) (oi := _) (v := ?v80) rfl (by kernel_rfl) (by kernel_rfl) (by kernel_rfl) (fun _ _ _ h => h) (Or.inl ⟨by rfl, ?hy80⟩) (by assumption) ?rest80
      case hy80 => ((intro w hSw; (try dsimp only at hSw); go_simp); try (with_reducible rfl))
      ((try dsimp only [List.getElem_toArray, List.getElem_cons_succ, List.getElem_cons_zero]); try simp only [Act.put, List.setIfInBounds_toArray, List.set_cons_zero, List.set_cons_succ])
      refine wpAnyH_take (i := 16) (oi := _) (v := ?v81) rfl (by kernel_rfl) (by kernel_rfl) (by kernel_rfl) (fun _ _ _ h => h) (Or.inl ⟨by rfl, ?hy81⟩) (by assumption) ?rest81
      case hy81 => ((intro w hSw; (try dsimp only at hSw); go_simp); try (with_reducible rfl))
      ((try dsimp only [List.getElem_toArray, List.getElem_cons_succ, List.getElem_cons_zero]); try simp only [Act.put, List.setIfInBounds_toArray, List.set_cons_zero, List.set_cons_succ])
      refine wpAnyH_take (i := 17) (oi := _) (v := ?v82) rfl (by kernel_rfl) (by kernel_rfl) (by kernel_rfl) (fun _ _ _ h => h) (Or.inl ⟨by rfl, ?hy82⟩) (by assumption) ?rest82
      case hy82 => ((intro w hSw; (try dsimp only at hSw); go_simp); try (with_reducible rfl))
      ((try dsimp only [List.getElem_toArray, List.getElem_cons_succ, List.getElem_cons_zero]); try simp only [Act.put, List.setIfInBounds_toArray, List.set_cons_zero, List.set_cons_succ])
      refine wpAnyH_take (i := 18) (oi := _) (v := ?v83) rfl (by kernel_rfl) (by kernel_rfl) (by kernel_rfl) (fun _ _ _ h => h) (Or.inl ⟨by rfl, ?hy83⟩) (by assumption) ?rest83
      case hy83 => ((intro w hSw; (try dsimp only at hSw); go_simp); try (with_reducible rfl))
      ((try dsimp only [List.getElem_toArray, List.getElem_cons_succ, List.getElem_cons_zero]); try simp only [Act.put, List.setIfInBounds_toArray, List.set_cons_zero, List.set_cons_succ])
      refine wpAnyH_take (i := 20) (oi := _) (v := ?v84) rfl (by kernel_rfl) (by kernel_rfl) (by kernel_rfl) (fun _ _ _ h => h) (Or.inl ⟨by rfl, ?hy84⟩) (by assumption) ?rest84
      case hy84 => ((intro w hSw; (try dsimp only at hSw); go_simp); try (with_reducible rfl))
      ((try dsimp only [List.getElem_toArray, List.getElem_cons_succ, List.getElem_cons_zero]); try simp only [Act.put, List.setIfInBounds_toArray, List.set_cons_zero, List.set_cons_succ])
      refine wpAnyH_take (i := 21) (oi := _) (v := ?v85) rfl (by kernel_rfl) (by kernel_rfl) (by kernel_rfl) (fun _ _ _ h => h) (Or.inl ⟨by rfl, ?hy85⟩) (by assumption) ?rest85
      case hy85 => ((intro w hSw; (try dsimp only at hSw); go_simp); try (with_reducible rfl))
      ((try dsimp only [List.getElem_toArray, List.getElem_cons_succ, List.getElem_cons_zero]); try simp only [Act.put, List.setIfInBounds_toArray, List.set_cons_zero, List.set_cons_succ])
      refine wpAnyH_take (i := 22) (oi := _) (v := ?v86) rfl (by kernel_rfl) (by kernel_rfl) (by kernel_rfl) (fun _ _ _ h => h) (Or.inl ⟨by rfl, ?hy86⟩) (by assumption) ?rest86
      case hy86 => ((intro w hSw; (try dsimp only at hSw); go_simp); try (with_reducible rfl))
      ((try dsimp only [List.getElem_toArray, List.getElem_cons_succ, List.getElem_cons_zero]); try simp only [Act.put, List.setIfInBounds_toArray, List.set_cons_zero, List.set_cons_succ])
      refine wpAnyH_take (i := 23) (oi := _) (v := ?v87) rfl (by kernel_rfl) (by kernel_rfl) (by kernel_rfl) (fun _ _ _ h => h) (Or.inl ⟨by rfl, ?hy87⟩) (by assumption) ?rest87
      case hy87 => ((intro w hSw; (try dsimp only at hSw); go_simp); try (with_reducible rfl))
      ((try dsimp only [List.getElem_toArray, List.getElem_cons_succ, List.getElem_cons_zero]); try simp only [Act.put, List.setIfInBounds_toArray, List.set_cons_zero, List.set_cons_succ])
      refine wpAnyH_ready (rs := [19]) (by kernel_rfl) (by simp) ?_
      refine AllReadyH.cons (o := _) rfl (fun K hK => ?_) AllReadyH.nil
      go_simp
      go_at_call 56; (with_reducible refine (HBEG.out _).mono ?_); rintro ex wx ⟨rfl, hx⟩
      refine hK.out _ _ ?_ (fun hHeld => ?_)
      · (try dsimp only); first | ((refine HK.out _ ?_; (repeat (first | (with_reducible exact gr_rfl _) | (with_reducible refine gr_dr ?_) | (with_reducible refine gr_then ?_ hy) | (with_reducible refine gr_then ?_ hx)))); done) | (refine HKF.out _ ?_ _ rfl; (repeat (first | (with_reducible exact gr_rfl _) | (with_reducible refine gr_dr ?_) | (with_reducible refine gr_then ?_ hy) | (with_reducible refine gr_then ?_ hx))))
      clear hK K
      ((try dsimp only [List.getElem_toArray, List.getElem_cons_succ, List.getElem_cons_zero]); try simp only [Act.put, List.setIfInBounds_toArray, List.set_cons_zero, List.set_cons_succ])
      refine wpAnyH_ready (rs := [24]) (by kernel_rfl) (by simp) ?_
      refine AllReadyH.cons (o := _) rfl (fun K hK => ?_) AllReadyH.nil
      go_simp
      go_at_call 57; (with_reducible refine (HEND.out _).mono ?_); rintro ey wy ⟨rfl, hy⟩; have zf0 := (HRZ.out.kept (gr_then (gr_then (gr_dr (gr_rfl w9)) hx) hy)).fr 0; have zc0 := (HRZ.out.kept (gr_then (gr_then (gr_dr (gr_rfl w9)) hx) hy)).cell 0 _ rfl; have zf1 := (HRZ.out.kept (gr_then (gr_then (gr_dr (gr_rfl w9)) hx) hy)).fr 1; have zc1 := (HRZ.out.kept (gr_then (gr_then (gr_dr (gr_rfl w9)) hx) hy)).cell 1 _ rfl; have zf2 := (HRZ.out.kept (gr_then (gr_then (gr_dr (gr_rfl w9)) hx) hy)).fr 2; have zc2 := (HRZ.out.kept (gr_then (gr_then (gr_dr (gr_rfl w9)) hx) hy)).cell 2 _ rfl; have zf3 := (HRZ.out.kept (gr_then (gr_then (gr_dr (gr_rfl w9)) hx) hy)).fr 3; have zc3 := (HRZ.out.kept (gr_then (gr_then (gr_dr (gr_rfl w9)) hx) hy)).cell 3 _ rfl; have zf4 := (HRZ.out.kept (gr_then (gr_then (gr_dr (gr_rfl w9)) hx) hy)).fr 4; have zc4 := (HRZ.out.kept (gr_then (gr_then (gr_dr (gr_rfl w9)) hx) hy)).cell 4 _ rfl
      refine hK.out _ _ ?_ (fun hHeld => ?_)
      · (try dsimp only); first | ((refine HK.out _ ?_; (repeat (first | (with_reducible exact gr_rfl _) | (with_reducible refine gr_dr ?_) | (with_reducible refine gr_then ?_ hy) | (with_reducible refine gr_then ?_ hx)))); done) | (refine HKF.out _ ?_ _ rfl; (repeat (first | (with_reducible exact gr_rfl _) | (with_reducible refine gr_dr ?_) | (with_reducible refine gr_then ?_ hy) | (with_reducible refine gr_then ?_ hx))))
      clear hK K
      ((try dsimp only [List.getElem_toArray, List.getElem_cons_succ, List.getElem_cons_zero]); try simp only [Act.put, List.setIfInBounds_toArray, List.set_cons_zero, List.set_cons_succ])
      refine wpAnyH_ready (rs := [25]) (by kernel_rfl) (by simp) ?_
      refine AllReadyH.cons (o := _) rfl (fun K hK => ?_) AllReadyH.nil
      go_simp
      refine hK.out _ _ ?_ (fun hHeld => ?_)
      · (try dsimp only); first | ((refine HK.out _ ?_; (repeat (first | (with_reducible exact gr_rfl _) | (with_reducible refine gr_dr ?_) | (with_reducible refine gr_then ?_ hy) | (with_reducible refine gr_then ?_ hx)))); done) | (refine HKF.out _ ?_ _ rfl; (repeat (first | (with_reducible exact gr_rfl _) | (with_reducible refine gr_dr ?_) | (with_reducible refine gr_then ?_ hy) | (with_reducible refine gr_then ?_ hx))))
      clear hK K
      ((try dsimp only [List.getElem_toArray, List.getElem_cons_succ, List.getElem_cons_zero]); try simp only [Act.put, List.setIfInBounds_toArray, List.set_cons_zero, List.set_cons_succ])
      refine wpAnyH_ready (rs := [26]) (by kernel_rfl) (by simp) ?_
      refine AllReadyH.cons (o := _) rfl (fun K hK => ?_) AllReadyH.nil
      go_simp
      refine hK.out _ _ ?_ (fun hHeld => ?_)
      · (try dsimp only); first | ((refine HK.out _ ?_; (repeat (first | (with_reducible exact gr_rfl _) | (with_reducible refine gr_dr ?_) | (with_reducible refine gr_then ?_ hy) | (with_reducible refine gr_then ?_ hx)))); done) | (refine HKF.out _ ?_ _ rfl; (repeat (first | (with_reducible exact gr_rfl _) | (with_reducible refine gr_dr ?_) | (with_reducible refine gr_then ?_ hy) | (with_reducible refine gr_then ?_ hx))))
      clear hK K
      ((try dsimp only [List.getElem_toArray, List.getElem_cons_succ, List.getElem_cons_zero]); try simp only [Act.put, List.setIfInBounds_toArray, List.set_cons_zero, List.set_cons_succ])
      refine wpAnyH_done (by kernel_rfl) ?_ _
      have HZ9 := Lib.hid (HRZ.out.kept (gr_then (gr_then (gr_dr (gr_rfl w9)) hx) hy))
      have HG9 := Lib.hid (gr_then HGW.out (gr_then (gr_then (gr_dr (gr_rfl w9)) hx) hy))
      clear hx hy
      go_wp2
      exact bodyPost_ret (v := vS R) (by rw [HR1.out]; exact results_shape (a := ⟨L, M, C, PB, PE⟩) rfl rfl (HZ9.out.five (v0 := .int .i64 L) (v1 := .int .i64 M) (v2 := .int .i64 C) (v3 := .string PB) (v4 := .string PE))) rfl ⟨rfl, gr_five HG9.out (by omega)⟩
    case first =>
    go_upto_region 2 with (fail)
    go_cut [11] from 12 to 19 (fun p wx => ∃ r : Bool, p = .bool r ∧ Hid (r = true ↔ ((⟨kl, km, kc, kb, ke⟩ : S5) = none5 ∧ (⟨ql, qm, qc, qb, qe⟩ : S5) = none5)) ∧ Row wx X (five ⟨kl, km, kc, kb, ke⟩) 24 ∧ Row wx Y (five ⟨ql, qm, qc, qb, qe⟩) 24 ∧ Row wx w.heap.size (five ⟨l, m, c, b, e⟩) 24 ∧ Row wx (w.heap.size + 1) (five ⟨l', m', c', b', e'⟩) 24 ∧ Row wx (w.heap.size + 1 + 1) zero5 24 ∧ w.grownBy wx none)
    case first =>
      rcases Classical.em ((⟨kl, km, kc, kb, ke⟩ : S5) = none5) with hkn | hkn
      · obtain ⟨rfl, rfl, rfl, rfl, rfl⟩ : kl = 1 ∧ km = 0 ∧ kc = 0 ∧ kb = ⟨#[]⟩ ∧ ke = ⟨#[]⟩ := by
          have h := hkn
          unfold none5 at h; cases h; exact ⟨rfl, rfl, rfl, rfl, rfl⟩
        rcases Classical.em ((⟨ql, qm, qc, qb, qe⟩ : S5) = none5) with hqn | hqn
        · obtain ⟨rfl, rfl, rfl, rfl, rfl⟩ : ql = 1 ∧ qm = 0 ∧ qc = 0 ∧ qb = ⟨#[]⟩ ∧ qe = ⟨#[]⟩ := by
            have h := hqn
            unfold none5 at h; cases h; exact ⟨rfl, rfl, rfl, rfl, rfl⟩
          clear hkn hqn
          have HK := Lib.hid (show ∀ w', w7.grownBy w' none → (w'.cell? ⟨X, 0, none⟩ = some (.int .i64 1) ∧ w'.cell? ⟨X, 1, none⟩ = some (.int .i64 0) ∧ w'.cell? ⟨X, 2, none⟩ = some (.int .i64 0) ∧ w'.cell? ⟨X, 3, none⟩ = some (.string ⟨#[]⟩) ∧ w'.cell? ⟨X, 4, none⟩ = some (.string ⟨#[]⟩) ∧ w'.cell? ⟨Y, 0, none⟩ = some (.int .i64 1) ∧ w'.cell? ⟨Y, 1, none⟩ = some (.int .i64 0) ∧ w'.cell? ⟨Y, 2, none⟩ = some (.int .i64 0) ∧ w'.cell? ⟨Y, 3, none⟩ = some (.string ⟨#[]⟩) ∧ w'.cell? ⟨Y, 4, none⟩ = some (.string ⟨#[]⟩)) from fun w' h => ⟨(HRX.out.kept h).cell 0 _ rfl, (HRX.out.kept h).cell 1 _ rfl, (HRX.out.kept h).cell 2 _ rfl, (HRX.out.kept h).cell 3 _ rfl, (HRX.out.kept h).cell 4 _ rfl, (HRY.out.kept h).cell 0 _ rfl, (HRY.out.kept h).cell 1 _ rfl, (HRY.out.kept h).cell 2 _ rfl, (HRY.out.kept h).cell 3 _ rfl, (HRY.out.kept h).cell 4 _ rfl⟩)
          go_wp2_with fail
          refine wp_region_held_drew (S := (fun w' => w'.cell? ⟨X, 0, none⟩ = some (.int .i64 1) ∧ w'.cell? ⟨X, 1, none⟩ = some (.int .i64 0) ∧ w'.cell? ⟨X, 2, none⟩ = some (.int .i64 0) ∧ w'.cell? ⟨X, 3, none⟩ = some (.string ⟨#[]⟩) ∧ w'.cell? ⟨X, 4, none⟩ = some (.string ⟨#[]⟩) ∧ w'.cell? ⟨Y, 0, none⟩ = some (.int .i64 1) ∧ w'.cell? ⟨Y, 1, none⟩ = some (.int .i64 0) ∧ w'.cell? ⟨Y, 2, none⟩ = some (.int .i64 0) ∧ w'.cell? ⟨Y, 3, none⟩ = some (.string ⟨#[]⟩) ∧ w'.cell? ⟨Y, 4, none⟩ = some (.string ⟨#[]⟩))) (by kernel_rfl) ?_ (fun hHeld => ?_)
          · refine HK.out _ ?_; (repeat (first | (with_reducible exact gr_rfl _) | (with_reducible refine gr_dr ?_) | (with_reducible refine gr_then ?_ hy) | (with_reducible refine gr_then ?_ hx)))
          refine wpAnyH_take (i := 0) (oi := _) (v := ?v1) rfl (by kernel_rfl) (by kernel_rfl) (by kernel_rfl) (fun _ _ _ h => h) (Or.inl ⟨by rfl, ?hy1⟩) (by assumption) ?rest1
          case hy1 => ((intro w hSw; (try dsimp only at hSw); go_simp); try (with_reducible rfl))
          ((try dsimp only [List.getElem_toArray, List.getElem_cons_succ, List.getElem_cons_zero]); try simp only [Act.put, List.setIfInBounds_toArray, List.set_cons_zero, List.set_cons_succ])
          refine wpAnyH_ready (rs := [1]) (by kernel_rfl) (by simp) ?_
          refine AllReadyH.cons (o := _) rfl (fun K hK => ?_) AllReadyH.nil
          go_simp
          go_at_call 43; (with_reducible refine (HNS.out _).mono ?_); rintro ex wx ⟨rfl, hx⟩
          refine hK.out _ _ ?_ (fun hHeld => ?_)
          · (try dsimp only); refine HK.out _ ?_; (repeat (first | (with_reducible exact gr_rfl _) | (with_reducible refine gr_dr ?_) | (with_reducible refine gr_then ?_ hy) | (with_reducible refine gr_then ?_ hx)))
          clear hK K
          ((try dsimp only [List.getElem_toArray, List.getElem_cons_succ, List.getElem_cons_zero]); try simp only [Act.put, List.setIfInBounds_toArray, List.set_cons_zero, List.set_cons_succ])
          refine wpAnyH_take (i := 2) (oi := _) (v := ?v2) rfl (by kernel_rfl) (by kernel_rfl) (by kernel_rfl) (fun _ _ _ h => h) (Or.inl ⟨by rfl, ?hy2⟩) (by assumption) ?rest2
          case hy2 => ((intro w hSw; (try dsimp only at hSw); go_simp); try (with_reducible rfl))
          ((try dsimp only [List.getElem_toArray, List.getElem_cons_succ, List.getElem_cons_zero]); try simp only [Act.put, List.setIfInBounds_toArray, List.set_cons_zero, List.set_cons_succ])
          refine wpAnyH_take (i := 3) (oi := _) (v := ?v3) rfl (by kernel_rfl) (by kernel_rfl) (by kernel_rfl) (fun _ _ _ h => h) (Or.inl ⟨by rfl, ?hy3⟩) (by assumption) ?rest3
          case hy3 => ((intro w hSw; (try dsimp only at hSw); go_simp); try (with_reducible rfl))
          ((try dsimp only [List.getElem_toArray, List.getElem_cons_succ, List.getElem_cons_zero]); try simp only [Act.put, List.setIfInBounds_toArray, List.set_cons_zero, List.set_cons_succ])
          refine wpAnyH_take (i := 4) (oi := _) (v := ?v4) rfl (by kernel_rfl) (by kernel_rfl) (by kernel_rfl) (fun _ _ _ h => h) (Or.inl ⟨by rfl, ?hy4⟩) (by assumption) ?rest4
          case hy4 => ((intro w hSw; (try dsimp only at hSw); go_simp); try (with_reducible rfl))
          ((try dsimp only [List.getElem_toArray, List.getElem_cons_succ, List.getElem_cons_zero]); try simp only [Act.put, List.setIfInBounds_toArray, List.set_cons_zero, List.set_cons_succ])
          refine wpAnyH_ready (rs := [5]) (by kernel_rfl) (by simp) ?_
          refine AllReadyH.cons (o := _) rfl (fun K hK => ?_) AllReadyH.nil
          go_simp
          go_at_call 43; (with_reducible refine (HNS.out _).mono ?_); rintro ey wy ⟨rfl, hy⟩
          refine hK.out _ _ ?_ (fun hHeld => ?_)
          · (try dsimp only); refine HK.out _ ?_; (repeat (first | (with_reducible exact gr_rfl _) | (with_reducible refine gr_dr ?_) | (with_reducible refine gr_then ?_ hy) | (with_reducible refine gr_then ?_ hx)))
          clear hK K
          ((try dsimp only [List.getElem_toArray, List.getElem_cons_succ, List.getElem_cons_zero]); try simp only [Act.put, List.setIfInBounds_toArray, List.set_cons_zero, List.set_cons_succ])
          refine wpAnyH_take (i := 6) (oi := _) (v := ?v5) rfl (by kernel_rfl) (by kernel_rfl) (by kernel_rfl) (fun _ _ _ h => h) (Or.inl ⟨by rfl, ?hy5⟩) (by assumption) ?rest5
          case hy5 => ((intro w hSw; (try dsimp only at hSw); go_simp); try (with_reducible rfl))
          ((try dsimp only [List.getElem_toArray, List.getElem_cons_succ, List.getElem_cons_zero]); try simp only [Act.put, List.setIfInBounds_toArray, List.set_cons_zero, List.set_cons_succ])
          refine wpAnyH_take (i := 7) (oi := _) (v := ?v6) rfl (by kernel_rfl) (by kernel_rfl) (by kernel_rfl) (fun _ _ _ h => h) (Or.inl ⟨by rfl, ?hy6⟩) (by assumption) ?rest6
          case hy6 => ((intro w hSw; (try dsimp only at hSw); go_simp); try (with_reducible rfl))
          ((try dsimp only [List.getElem_toArray, List.getElem_cons_succ, List.getElem_cons_zero]); try simp only [Act.put, List.setIfInBounds_toArray, List.set_cons_zero, List.set_cons_succ])
          refine wpAnyH_take (i := 8) (oi := _) (v := ?v7) rfl (by kernel_rfl) (by kernel_rfl) (by kernel_rfl) (fun _ _ _ h => h) (Or.inl ⟨by rfl, ?hy7⟩) (by assumption) ?rest7
          case hy7 => ((intro w hSw; (try dsimp only at hSw); go_simp); try (with_reducible rfl))
          ((try dsimp only [List.getElem_toArray, List.getElem_cons_succ, List.getElem_cons_zero]); try simp only [Act.put, List.setIfInBounds_toArray, List.set_cons_zero, List.set_cons_succ])
          refine wpAnyH_done (by kernel_rfl) ?_ _
          go_wp2_with fail
          go_meet
          exact ⟨true, rfl, Lib.hid ⟨fun _ => ⟨rfl, rfl⟩, fun _ => rfl⟩, HRX.out.kept (gr_then (gr_then (gr_dr (gr_rfl w7)) hx) hy), HRY.out.kept (gr_then (gr_then (gr_dr (gr_rfl w7)) hx) hy), HRA.out.kept (gr_then (gr_then (gr_dr (gr_rfl w7)) hx) hy), HRB.out.kept (gr_then (gr_then (gr_dr (gr_rfl w7)) hx) hy), HRZ.out.kept (gr_then (gr_then (gr_dr (gr_rfl w7)) hx) hy), gr_then HGW.out (gr_then (gr_then (gr_dr (gr_rfl w7)) hx) hy)⟩
        · have hq2 : (ql == 1) = false ∨ (ql = 1 ∧ (qm == 0) = false) := by
            have hb := HDB.out.resolve_left hqn
            by_cases h1 : ql = 1
            · exact .inr ⟨h1, by rw [beq_eq_false_iff_ne]; (try simp only at hb); omega⟩
            · exact .inl (by rw [beq_eq_false_iff_ne]; exact h1)
          have HQN := Lib.hid hqn
          clear hkn hqn
          rcases hq2 with hq2 | ⟨rfl, hq2⟩
          · have HK := Lib.hid (show ∀ w', w7.grownBy w' none → (w'.cell? ⟨X, 0, none⟩ = some (.int .i64 1) ∧ w'.cell? ⟨X, 1, none⟩ = some (.int .i64 0) ∧ w'.cell? ⟨X, 2, none⟩ = some (.int .i64 0) ∧ w'.cell? ⟨X, 3, none⟩ = some (.string ⟨#[]⟩) ∧ w'.cell? ⟨X, 4, none⟩ = some (.string ⟨#[]⟩) ∧ w'.cell? ⟨Y, 0, none⟩ = some (.int .i64 ql) ∧ w'.cell? ⟨Y, 1, none⟩ = some (.int .i64 qm) ∧ w'.cell? ⟨Y, 2, none⟩ = some (.int .i64 qc) ∧ w'.cell? ⟨Y, 3, none⟩ = some (.string qb) ∧ w'.cell? ⟨Y, 4, none⟩ = some (.string qe)) from fun w' h => ⟨(HRX.out.kept h).cell 0 _ rfl, (HRX.out.kept h).cell 1 _ rfl, (HRX.out.kept h).cell 2 _ rfl, (HRX.out.kept h).cell 3 _ rfl, (HRX.out.kept h).cell 4 _ rfl, (HRY.out.kept h).cell 0 _ rfl, (HRY.out.kept h).cell 1 _ rfl, (HRY.out.kept h).cell 2 _ rfl, (HRY.out.kept h).cell 3 _ rfl, (HRY.out.kept h).cell 4 _ rfl⟩)
            go_wp2_with fail
            refine wp_region_held_drew (S := (fun w' => w'.cell? ⟨X, 0, none⟩ = some (.int .i64 1) ∧ w'.cell? ⟨X, 1, none⟩ = some (.int .i64 0) ∧ w'.cell? ⟨X, 2, none⟩ = some (.int .i64 0) ∧ w'.cell? ⟨X, 3, none⟩ = some (.string ⟨#[]⟩) ∧ w'.cell? ⟨X, 4, none⟩ = some (.string ⟨#[]⟩) ∧ w'.cell? ⟨Y, 0, none⟩ = some (.int .i64 ql) ∧ w'.cell? ⟨Y, 1, none⟩ = some (.int .i64 qm) ∧ w'.cell? ⟨Y, 2, none⟩ = some (.int .i64 qc) ∧ w'.cell? ⟨Y, 3, none⟩ = some (.string qb) ∧ w'.cell? ⟨Y, 4, none⟩ = some (.string qe))) (by kernel_rfl) ?_ (fun hHeld => ?_)
            · refine HK.out _ ?_; (repeat (first | (with_reducible exact gr_rfl _) | (with_reducible refine gr_dr ?_) | (with_reducible refine gr_then ?_ hy) | (with_reducible refine gr_then ?_ hx)))
            refine wpAnyH_take (i := 0) (oi := _) (v := ?v8) rfl (by kernel_rfl) (by kernel_rfl) (by kernel_rfl) (fun _ _ _ h => h) (Or.inl ⟨by rfl, ?hy8⟩) (by assumption) ?rest8
            case hy8 => ((intro w hSw; (try dsimp only at hSw); go_simp); try (with_reducible rfl))
            ((try dsimp only [List.getElem_toArray, List.getElem_cons_succ, List.getElem_cons_zero]); try simp only [Act.put, List.setIfInBounds_toArray, List.set_cons_zero, List.set_cons_succ])
            refine wpAnyH_ready (rs := [1]) (by kernel_rfl) (by simp) ?_
            refine AllReadyH.cons (o := _) rfl (fun K hK => ?_) AllReadyH.nil
            go_simp
            go_at_call 43; (with_reducible refine (HNS.out _).mono ?_); rintro ex wx ⟨rfl, hx⟩
            refine hK.out _ _ ?_ (fun hHeld => ?_)
            · (try dsimp only); refine HK.out _ ?_; (repeat (first | (with_reducible exact gr_rfl _) | (with_reducible refine gr_dr ?_) | (with_reducible refine gr_then ?_ hy) | (with_reducible refine gr_then ?_ hx)))
            clear hK K
            ((try dsimp only [List.getElem_toArray, List.getElem_cons_succ, List.getElem_cons_zero]); try simp only [Act.put, List.setIfInBounds_toArray, List.set_cons_zero, List.set_cons_succ])
            refine wpAnyH_take (i := 2) (oi := _) (v := ?v9) rfl (by kernel_rfl) (by kernel_rfl) (by kernel_rfl) (fun _ _ _ h => h) (Or.inl ⟨by rfl, ?hy9⟩) (by assumption) ?rest9
            case hy9 => ((intro w hSw; (try dsimp only at hSw); go_simp); try (with_reducible rfl))
            ((try dsimp only [List.getElem_toArray, List.getElem_cons_succ, List.getElem_cons_zero]); try simp only [Act.put, List.setIfInBounds_toArray, List.set_cons_zero, List.set_cons_succ])
            refine wpAnyH_take (i := 3) (oi := _) (v := ?v10) rfl (by kernel_rfl) (by kernel_rfl) (by kernel_rfl) (fun _ _ _ h => h) (Or.inl ⟨by rfl, ?hy10⟩) (by assumption) ?rest10
            case hy10 => ((intro w hSw; (try dsimp only at hSw); go_simp); try (with_reducible rfl))
            ((try dsimp only [List.getElem_toArray, List.getElem_cons_succ, List.getElem_cons_zero]); try simp only [Act.put, List.setIfInBounds_toArray, List.set_cons_zero, List.set_cons_succ])
            refine wpAnyH_take (i := 4) (oi := _) (v := ?v11) rfl (by kernel_rfl) (by kernel_rfl) (by kernel_rfl) (fun _ _ _ h => h) (Or.inl ⟨by rfl, ?hy11⟩) (by assumption) ?rest11
            case hy11 => ((intro w hSw; (try dsimp only at hSw); go_simp); try (with_reducible rfl))
            ((try dsimp only [List.getElem_toArray, List.getElem_cons_succ, List.getElem_cons_zero]); try simp only [Act.put, List.setIfInBounds_toArray, List.set_cons_zero, List.set_cons_succ])
            refine wpAnyH_ready (rs := [5]) (by kernel_rfl) (by simp) ?_
            refine AllReadyH.cons (o := _) rfl (fun K hK => ?_) AllReadyH.nil
            go_simp
            go_at_call 43; (with_reducible refine (HNS.out _).mono ?_); rintro ey wy ⟨rfl, hy⟩
            refine hK.out _ _ ?_ (fun hHeld => ?_)
            · (try dsimp only); refine HK.out _ ?_; (repeat (first | (with_reducible exact gr_rfl _) | (with_reducible refine gr_dr ?_) | (with_reducible refine gr_then ?_ hy) | (with_reducible refine gr_then ?_ hx)))
            clear hK K
            ((try dsimp only [List.getElem_toArray, List.getElem_cons_succ, List.getElem_cons_zero]); try simp only [Act.put, List.setIfInBounds_toArray, List.set_cons_zero, List.set_cons_succ])
            refine wpAnyH_take (i := 6) (oi := _) (v := ?v12) rfl (by kernel_rfl) (by kernel_rfl) (by kernel_rfl) (fun _ _ _ h => h) (Or.inl ⟨by rfl, ?hy12⟩) (by assumption) ?rest12
            case hy12 => ((intro w hSw; (try dsimp only at hSw); go_simp); try (with_reducible rfl))
            ((try dsimp only [List.getElem_toArray, List.getElem_cons_succ, List.getElem_cons_zero]); try simp only [Act.put, List.setIfInBounds_toArray, List.set_cons_zero, List.set_cons_succ])
            refine wpAnyH_take (i := 7) (oi := _) (v := ?v13) rfl (by kernel_rfl) (by kernel_rfl) (by kernel_rfl) (fun _ _ _ h => h) (Or.inl ⟨by rfl, ?hy13⟩) (by assumption) ?rest13
            case hy13 => ((intro w hSw; (try dsimp only at hSw); go_simp); try (with_reducible rfl))
            ((try dsimp only [List.getElem_toArray, List.getElem_cons_succ, List.getElem_cons_zero]); try simp only [Act.put, List.setIfInBounds_toArray, List.set_cons_zero, List.set_cons_succ])
            refine wpAnyH_take (i := 8) (oi := _) (v := ?v14) rfl (by kernel_rfl) (by kernel_rfl) (by kernel_rfl) (fun _ _ _ h => h) (Or.inl ⟨by rfl, ?hy14⟩) (by assumption) ?rest14
            case hy14 => ((intro w hSw; (try dsimp only at hSw); go_simp); try (with_reducible rfl))
            ((try dsimp only [List.getElem_toArray, List.getElem_cons_succ, List.getElem_cons_zero]); try simp only [Act.put, List.setIfInBounds_toArray, List.set_cons_zero, List.set_cons_succ])
            refine wpAnyH_done (by kernel_rfl) ?_ _
            go_wp2_with fail
            go_meet
            exact ⟨false, rfl, Lib.hid ⟨fun h => (by cases h), fun h => absurd h.2 HQN.out⟩, HRX.out.kept (gr_then (gr_then (gr_dr (gr_rfl w7)) hx) hy), HRY.out.kept (gr_then (gr_then (gr_dr (gr_rfl w7)) hx) hy), HRA.out.kept (gr_then (gr_then (gr_dr (gr_rfl w7)) hx) hy), HRB.out.kept (gr_then (gr_then (gr_dr (gr_rfl w7)) hx) hy), HRZ.out.kept (gr_then (gr_then (gr_dr (gr_rfl w7)) hx) hy), gr_then HGW.out (gr_then (gr_then (gr_dr (gr_rfl w7)) hx) hy)⟩
          · have HK := Lib.hid (show ∀ w', w7.grownBy w' none → (w'.cell? ⟨X, 0, none⟩ = some (.int .i64 1) ∧ w'.cell? ⟨X, 1, none⟩ = some (.int .i64 0) ∧ w'.cell? ⟨X, 2, none⟩ = some (.int .i64 0) ∧ w'.cell? ⟨X, 3, none⟩ = some (.string ⟨#[]⟩) ∧ w'.cell? ⟨X, 4, none⟩ = some (.string ⟨#[]⟩) ∧ w'.cell? ⟨Y, 0, none⟩ = some (.int .i64 1) ∧ w'.cell? ⟨Y, 1, none⟩ = some (.int .i64 qm) ∧ w'.cell? ⟨Y, 2, none⟩ = some (.int .i64 qc) ∧ w'.cell? ⟨Y, 3, none⟩ = some (.string qb) ∧ w'.cell? ⟨Y, 4, none⟩ = some (.string qe)) from fun w' h => ⟨(HRX.out.kept h).cell 0 _ rfl, (HRX.out.kept h).cell 1 _ rfl, (HRX.out.kept h).cell 2 _ rfl, (HRX.out.kept h).cell 3 _ rfl, (HRX.out.kept h).cell 4 _ rfl, (HRY.out.kept h).cell 0 _ rfl, (HRY.out.kept h).cell 1 _ rfl, (HRY.out.kept h).cell 2 _ rfl, (HRY.out.kept h).cell 3 _ rfl, (HRY.out.kept h).cell 4 _ rfl⟩)
            go_wp2_with fail
            refine wp_region_held_drew (S := (fun w' => w'.cell? ⟨X, 0, none⟩ = some (.int .i64 1) ∧ w'.cell? ⟨X, 1, none⟩ = some (.int .i64 0) ∧ w'.cell? ⟨X, 2, none⟩ = some (.int .i64 0) ∧ w'.cell? ⟨X, 3, none⟩ = some (.string ⟨#[]⟩) ∧ w'.cell? ⟨X, 4, none⟩ = some (.string ⟨#[]⟩) ∧ w'.cell? ⟨Y, 0, none⟩ = some (.int .i64 1) ∧ w'.cell? ⟨Y, 1, none⟩ = some (.int .i64 qm) ∧ w'.cell? ⟨Y, 2, none⟩ = some (.int .i64 qc) ∧ w'.cell? ⟨Y, 3, none⟩ = some (.string qb) ∧ w'.cell? ⟨Y, 4, none⟩ = some (.string qe))) (by kernel_rfl) ?_ (fun hHeld => ?_)
            · refine HK.out _ ?_; (repeat (first | (with_reducible exact gr_rfl _) | (with_reducible refine gr_dr ?_) | (with_reducible refine gr_then ?_ hy) | (with_reducible refine gr_then ?_ hx)))
            refine wpAnyH_take (i := 0) (oi := _) (v := ?v15) rfl (by kernel_rfl) (by kernel_rfl) (by kernel_rfl) (fun _ _ _ h => h) (Or.inl ⟨by rfl, ?hy15⟩) (by assumption) ?rest15
            case hy15 => ((intro w hSw; (try dsimp only at hSw); go_simp); try (with_reducible rfl))
            ((try dsimp only [List.getElem_toArray, List.getElem_cons_succ, List.getElem_cons_zero]); try simp only [Act.put, List.setIfInBounds_toArray, List.set_cons_zero, List.set_cons_succ])
            refine wpAnyH_ready (rs := [1]) (by kernel_rfl) (by simp) ?_
            refine AllReadyH.cons (o := _) rfl (fun K hK => ?_) AllReadyH.nil
            go_simp
            go_at_call 43; (with_reducible refine (HNS.out _).mono ?_); rintro ex wx ⟨rfl, hx⟩
            refine hK.out _ _ ?_ (fun hHeld => ?_)
            · (try dsimp only); refine HK.out _ ?_; (repeat (first | (with_reducible exact gr_rfl _) | (with_reducible refine gr_dr ?_) | (with_reducible refine gr_then ?_ hy) | (with_reducible refine gr_then ?_ hx)))
            clear hK K
            ((try dsimp only [List.getElem_toArray, List.getElem_cons_succ, List.getElem_cons_zero]); try simp only [Act.put, List.setIfInBounds_toArray, List.set_cons_zero, List.set_cons_succ])
            refine wpAnyH_take (i := 2) (oi := _) (v := ?v16) rfl (by kernel_rfl) (by kernel_rfl) (by kernel_rfl) (fun _ _ _ h => h) (Or.inl ⟨by rfl, ?hy16⟩) (by assumption) ?rest16
            case hy16 => ((intro w hSw; (try dsimp only at hSw); go_simp); try (with_reducible rfl))
            ((try dsimp only [List.getElem_toArray, List.getElem_cons_succ, List.getElem_cons_zero]); try simp only [Act.put, List.setIfInBounds_toArray, List.set_cons_zero, List.set_cons_succ])
            refine wpAnyH_take (i := 3) (oi := _) (v := ?v17) rfl (by kernel_rfl) (by kernel_rfl) (by kernel_rfl) (fun _ _ _ h => h) (Or.inl ⟨by rfl, ?hy17⟩) (by assumption) ?rest17
            case hy17 => ((intro w hSw; (try dsimp only at hSw); go_simp); try (with_reducible rfl))
            ((try dsimp only [List.getElem_toArray, List.getElem_cons_succ, List.getElem_cons_zero]); try simp only [Act.put, List.setIfInBounds_toArray, List.set_cons_zero, List.set_cons_succ])
            refine wpAnyH_take (i := 4) (oi := _) (v := ?v18) rfl (by kernel_rfl) (by kernel_rfl) (by kernel_rfl) (fun _ _ _ h => h) (Or.inl ⟨by rfl, ?hy18⟩) (by assumption) ?rest18
            case hy18 => ((intro w hSw; (try dsimp only at hSw); go_simp); try (with_reducible rfl))
            ((try dsimp only [List.getElem_toArray, List.getElem_cons_succ, List.getElem_cons_zero]); try simp only [Act.put, List.setIfInBounds_toArray, List.set_cons_zero, List.set_cons_succ])
            refine wpAnyH_ready (rs := [5]) (by kernel_rfl) (by simp) ?_
            refine AllReadyH.cons (o := _) rfl (fun K hK => ?_) AllReadyH.nil
            go_simp
            go_at_call 43; (with_reducible refine (HNS.out _).mono ?_); rintro ey wy ⟨rfl, hy⟩
            refine hK.out _ _ ?_ (fun hHeld => ?_)
            · (try dsimp only); refine HK.out _ ?_; (repeat (first | (with_reducible exact gr_rfl _) | (with_reducible refine gr_dr ?_) | (with_reducible refine gr_then ?_ hy) | (with_reducible refine gr_then ?_ hx)))
            clear hK K
            ((try dsimp only [List.getElem_toArray, List.getElem_cons_succ, List.getElem_cons_zero]); try simp only [Act.put, List.setIfInBounds_toArray, List.set_cons_zero, List.set_cons_succ])
            refine wpAnyH_take (i := 6) (oi := _) (v := ?v19) rfl (by kernel_rfl) (by kernel_rfl) (by kernel_rfl) (fun _ _ _ h => h) (Or.inl ⟨by rfl, ?hy19⟩) (by assumption) ?rest19
            case hy19 => ((intro w hSw; (try dsimp only at hSw); go_simp); try (with_reducible rfl))
            ((try dsimp only [List.getElem_toArray, List.getElem_cons_succ, List.getElem_cons_zero]); try simp only [Act.put, List.setIfInBounds_toArray, List.set_cons_zero, List.set_cons_succ])
            refine wpAnyH_take (i := 7) (oi := _) (v := ?v20) rfl (by kernel_rfl) (by kernel_rfl) (by kernel_rfl) (fun _ _ _ h => h) (Or.inl ⟨by rfl, ?hy20⟩) (by assumption) ?rest20
            case hy20 => ((intro w hSw; (try dsimp only at hSw); go_simp); try (with_reducible rfl))
            ((try dsimp only [List.getElem_toArray, List.getElem_cons_succ, List.getElem_cons_zero]); try simp only [Act.put, List.setIfInBounds_toArray, List.set_cons_zero, List.set_cons_succ])
            refine wpAnyH_take (i := 8) (oi := _) (v := ?v21) rfl (by kernel_rfl) (by kernel_rfl) (by kernel_rfl) (fun _ _ _ h => h) (Or.inl ⟨by rfl, ?hy21⟩) (by assumption) ?rest21
            case hy21 => ((intro w hSw; (try dsimp only at hSw); go_simp); try (with_reducible rfl))
            ((try dsimp only [List.getElem_toArray, List.getElem_cons_succ, List.getElem_cons_zero]); try simp only [Act.put, List.setIfInBounds_toArray, List.set_cons_zero, List.set_cons_succ])
            refine wpAnyH_done (by kernel_rfl) ?_ _
            go_wp2_with fail
            go_meet
            exact ⟨false, rfl, Lib.hid ⟨fun h => (by cases h), fun h => absurd h.2 HQN.out⟩, HRX.out.kept (gr_then (gr_then (gr_dr (gr_rfl w7)) hx) hy), HRY.out.kept (gr_then (gr_then (gr_dr (gr_rfl w7)) hx) hy), HRA.out.kept (gr_then (gr_then (gr_dr (gr_rfl w7)) hx) hy), HRB.out.kept (gr_then (gr_then (gr_dr (gr_rfl w7)) hx) hy), HRZ.out.kept (gr_then (gr_then (gr_dr (gr_rfl w7)) hx) hy), gr_then HGW.out (gr_then (gr_then (gr_dr (gr_rfl w7)) hx) hy)⟩
      · have hk2 : (kl == 1) = false ∨ (kl = 1 ∧ (km == 0) = false) := by
          have hb := HDA.out.resolve_left hkn
          by_cases h1 : kl = 1
          · exact .inr ⟨h1, by rw [beq_eq_false_iff_ne]; (try simp only at hb); omega⟩
          · exact .inl (by rw [beq_eq_false_iff_ne]; exact h1)
        have HKN := Lib.hid hkn
        clear hkn
        rcases hk2 with hk2 | ⟨rfl, hk2⟩
        · have HK := Lib.hid (show ∀ w', w7.grownBy w' none → (w'.cell? ⟨X, 0, none⟩ = some (.int .i64 kl) ∧ w'.cell? ⟨X, 1, none⟩ = some (.int .i64 km) ∧ w'.cell? ⟨X, 2, none⟩ = some (.int .i64 kc) ∧ w'.cell? ⟨X, 3, none⟩ = some (.string kb) ∧ w'.cell? ⟨X, 4, none⟩ = some (.string ke) ∧ w'.cell? ⟨Y, 0, none⟩ = some (.int .i64 ql) ∧ w'.cell? ⟨Y, 1, none⟩ = some (.int .i64 qm) ∧ w'.cell? ⟨Y, 2, none⟩ = some (.int .i64 qc) ∧ w'.cell? ⟨Y, 3, none⟩ = some (.string qb) ∧ w'.cell? ⟨Y, 4, none⟩ = some (.string qe)) from fun w' h => ⟨(HRX.out.kept h).cell 0 _ rfl, (HRX.out.kept h).cell 1 _ rfl, (HRX.out.kept h).cell 2 _ rfl, (HRX.out.kept h).cell 3 _ rfl, (HRX.out.kept h).cell 4 _ rfl, (HRY.out.kept h).cell 0 _ rfl, (HRY.out.kept h).cell 1 _ rfl, (HRY.out.kept h).cell 2 _ rfl, (HRY.out.kept h).cell 3 _ rfl, (HRY.out.kept h).cell 4 _ rfl⟩)
          go_wp2_with fail
          refine wp_region_held_drew (S := (fun w' => w'.cell? ⟨X, 0, none⟩ = some (.int .i64 kl) ∧ w'.cell? ⟨X, 1, none⟩ = some (.int .i64 km) ∧ w'.cell? ⟨X, 2, none⟩ = some (.int .i64 kc) ∧ w'.cell? ⟨X, 3, none⟩ = some (.string kb) ∧ w'.cell? ⟨X, 4, none⟩ = some (.string ke) ∧ w'.cell? ⟨Y, 0, none⟩ = some (.int .i64 ql) ∧ w'.cell? ⟨Y, 1, none⟩ = some (.int .i64 qm) ∧ w'.cell? ⟨Y, 2, none⟩ = some (.int .i64 qc) ∧ w'.cell? ⟨Y, 3, none⟩ = some (.string qb) ∧ w'.cell? ⟨Y, 4, none⟩ = some (.string qe))) (by kernel_rfl) ?_ (fun hHeld => ?_)
          · refine HK.out _ ?_; (repeat (first | (with_reducible exact gr_rfl _) | (with_reducible refine gr_dr ?_) | (with_reducible refine gr_then ?_ hx)))
          refine wpAnyH_take (i := 0) (oi := _) (v := ?v22) rfl (by kernel_rfl) (by kernel_rfl) (by kernel_rfl) (fun _ _ _ h => h) (Or.inl ⟨by rfl, ?hy22⟩) (by assumption) ?rest22
          case hy22 => ((intro w hSw; (try dsimp only at hSw); go_simp); try (with_reducible rfl))
          ((try dsimp only [List.getElem_toArray, List.getElem_cons_succ, List.getElem_cons_zero]); try simp only [Act.put, List.setIfInBounds_toArray, List.set_cons_zero, List.set_cons_succ])
          refine wpAnyH_ready (rs := [1]) (by kernel_rfl) (by simp) ?_
          refine AllReadyH.cons (o := _) rfl (fun K hK => ?_) AllReadyH.nil
          go_simp
          go_at_call 43; (with_reducible refine (HNS.out _).mono ?_); rintro ex wx ⟨rfl, hx⟩
          refine hK.out _ _ ?_ (fun hHeld => ?_)
          · (try dsimp only); refine HK.out _ ?_; (repeat (first | (with_reducible exact gr_rfl _) | (with_reducible refine gr_dr ?_) | (with_reducible refine gr_then ?_ hx)))
          clear hK K
          ((try dsimp only [List.getElem_toArray, List.getElem_cons_succ, List.getElem_cons_zero]); try simp only [Act.put, List.setIfInBounds_toArray, List.set_cons_zero, List.set_cons_succ])
          refine wpAnyH_take (i := 2) (oi := _) (v := ?v23) rfl (by kernel_rfl) (by kernel_rfl) (by kernel_rfl) (fun _ _ _ h => h) (Or.inl ⟨by rfl, ?hy23⟩) (by assumption) ?rest23
          case hy23 => ((intro w hSw; (try dsimp only at hSw); go_simp); try (with_reducible rfl))
          ((try dsimp only [List.getElem_toArray, List.getElem_cons_succ, List.getElem_cons_zero]); try simp only [Act.put, List.setIfInBounds_toArray, List.set_cons_zero, List.set_cons_succ])
          refine wpAnyH_take (i := 3) (oi := _) (v := ?v24) rfl (by kernel_rfl) (by kernel_rfl) (by kernel_rfl) (fun _ _ _ h => h) (Or.inl ⟨by rfl, ?hy24⟩) (by assumption) ?rest24
          case hy24 => ((intro w hSw; (try dsimp only at hSw); go_simp); try (with_reducible rfl))
          ((try dsimp only [List.getElem_toArray, List.getElem_cons_succ, List.getElem_cons_zero]); try simp only [Act.put, List.setIfInBounds_toArray, List.set_cons_zero, List.set_cons_succ])
          refine wpAnyH_take (i := 4) (oi := _) (v := _) rfl (by kernel_rfl) (by kernel_rfl) (by kernel_rfl) (fun _ _ _ h => h) (Or.inr ⟨by rfl, rfl⟩) (by assumption) ?rest25
          ((try dsimp only [List.getElem_toArray, List.getElem_cons_succ, List.getElem_cons_zero]); try simp only [Act.put, List.setIfInBounds_toArray, List.set_cons_zero, List.set_cons_succ])
          refine wpAnyH_take (i := 5) (oi := _) (v := _) rfl (by kernel_rfl) (by kernel_rfl) (by kernel_rfl) (fun _ _ _ h => h) (Or.inr ⟨by rfl, rfl⟩) (by assumption) ?rest26
          ((try dsimp only [List.getElem_toArray, List.getElem_cons_succ, List.getElem_cons_zero]); try simp only [Act.put, List.setIfInBounds_toArray, List.set_cons_zero, List.set_cons_succ])
          refine wpAnyH_take (i := 6) (oi := _) (v := _) rfl (by kernel_rfl) (by kernel_rfl) (by kernel_rfl) (fun _ _ _ h => h) (Or.inr ⟨by rfl, rfl⟩) (by assumption) ?rest27
          ((try dsimp only [List.getElem_toArray, List.getElem_cons_succ, List.getElem_cons_zero]); try simp only [Act.put, List.setIfInBounds_toArray, List.set_cons_zero, List.set_cons_succ])
          refine wpAnyH_take (i := 7) (oi := _) (v := ?v28) rfl (by kernel_rfl) (by kernel_rfl) (by kernel_rfl) (fun _ _ _ h => h) (Or.inl ⟨by rfl, ?hy28⟩) (by assumption) ?rest28
          case hy28 => ((intro w hSw; (try dsimp only at hSw); go_simp); try (with_reducible rfl))
          ((try dsimp only [List.getElem_toArray, List.getElem_cons_succ, List.getElem_cons_zero]); try simp only [Act.put, List.setIfInBounds_toArray, List.set_cons_zero, List.set_cons_succ])
          refine wpAnyH_take (i := 8) (oi := _) (v := ?v29) rfl (by kernel_rfl) (by kernel_rfl) (by kernel_rfl) (fun _ _ _ h => h) (Or.inl ⟨by rfl, ?hy29⟩) (by assumption) ?rest29
          case hy29 => ((intro w hSw; (try dsimp only at hSw); go_simp); try (with_reducible rfl))
          ((try dsimp only [List.getElem_toArray, List.getElem_cons_succ, List.getElem_cons_zero]); try simp only [Act.put, List.setIfInBounds_toArray, List.set_cons_zero, List.set_cons_succ])
          refine wpAnyH_done (by kernel_rfl) ?_ _
          go_wp2_with fail
          go_meet
          exact ⟨false, rfl, Lib.hid ⟨fun h => (by cases h), fun h => absurd h.1 HKN.out⟩, HRX.out.kept (gr_then (gr_dr (gr_rfl w7)) hx), HRY.out.kept (gr_then (gr_dr (gr_rfl w7)) hx), HRA.out.kept (gr_then (gr_dr (gr_rfl w7)) hx), HRB.out.kept (gr_then (gr_dr (gr_rfl w7)) hx), HRZ.out.kept (gr_then (gr_dr (gr_rfl w7)) hx), gr_then HGW.out (gr_then (gr_dr (gr_rfl w7)) hx)⟩
        · have HK := Lib.hid (show ∀ w', w7.grownBy w' none → (w'.cell? ⟨X, 0, none⟩ = some (.int .i64 1) ∧ w'.cell? ⟨X, 1, none⟩ = some (.int .i64 km) ∧ w'.cell? ⟨X, 2, none⟩ = some (.int .i64 kc) ∧ w'.cell? ⟨X, 3, none⟩ = some (.string kb) ∧ w'.cell? ⟨X, 4, none⟩ = some (.string ke) ∧ w'.cell? ⟨Y, 0, none⟩ = some (.int .i64 ql) ∧ w'.cell? ⟨Y, 1, none⟩ = some (.int .i64 qm) ∧ w'.cell? ⟨Y, 2, none⟩ = some (.int .i64 qc) ∧ w'.cell? ⟨Y, 3, none⟩ = some (.string qb) ∧ w'.cell? ⟨Y, 4, none⟩ = some (.string qe)) from fun w' h => ⟨(HRX.out.kept h).cell 0 _ rfl, (HRX.out.kept h).cell 1 _ rfl, (HRX.out.kept h).cell 2 _ rfl, (HRX.out.kept h).cell 3 _ rfl, (HRX.out.kept h).cell 4 _ rfl, (HRY.out.kept h).cell 0 _ rfl, (HRY.out.kept h).cell 1 _ rfl, (HRY.out.kept h).cell 2 _ rfl, (HRY.out.kept h).cell 3 _ rfl, (HRY.out.kept h).cell 4 _ rfl⟩)
          go_wp2_with fail
          refine wp_region_held_drew (S := (fun w' => w'.cell? ⟨X, 0, none⟩ = some (.int .i64 1) ∧ w'.cell? ⟨X, 1, none⟩ = some (.int .i64 km) ∧ w'.cell? ⟨X, 2, none⟩ = some (.int .i64 kc) ∧ w'.cell? ⟨X, 3, none⟩ = some (.string kb) ∧ w'.cell? ⟨X, 4, none⟩ = some (.string ke) ∧ w'.cell? ⟨Y, 0, none⟩ = some (.int .i64 ql) ∧ w'.cell? ⟨Y, 1, none⟩ = some (.int .i64 qm) ∧ w'.cell? ⟨Y, 2, none⟩ = some (.int .i64 qc) ∧ w'.cell? ⟨Y, 3, none⟩ = some (.string qb) ∧ w'.cell? ⟨Y, 4, none⟩ = some (.string qe))) (by kernel_rfl) ?_ (fun hHeld => ?_)
          · refine HK.out _ ?_; (repeat (first | (with_reducible exact gr_rfl _) | (with_reducible refine gr_dr ?_) | (with_reducible refine gr_then ?_ hx)))
          refine wpAnyH_take (i := 0) (oi := _) (v := ?v30) rfl (by kernel_rfl) (by kernel_rfl) (by kernel_rfl) (fun _ _ _ h => h) (Or.inl ⟨by rfl, ?hy30⟩) (by assumption) ?rest30
          case hy30 => ((intro w hSw; (try dsimp only at hSw); go_simp); try (with_reducible rfl))
          ((try dsimp only [List.getElem_toArray, List.getElem_cons_succ, List.getElem_cons_zero]); try simp only [Act.put, List.setIfInBounds_toArray, List.set_cons_zero, List.set_cons_succ])
          refine wpAnyH_ready (rs := [1]) (by kernel_rfl) (by simp) ?_
          refine AllReadyH.cons (o := _) rfl (fun K hK => ?_) AllReadyH.nil
          go_simp
          go_at_call 43; (with_reducible refine (HNS.out _).mono ?_); rintro ex wx ⟨rfl, hx⟩
          refine hK.out _ _ ?_ (fun hHeld => ?_)
          · (try dsimp only); refine HK.out _ ?_; (repeat (first | (with_reducible exact gr_rfl _) | (with_reducible refine gr_dr ?_) | (with_reducible refine gr_then ?_ hx)))
          clear hK K
          ((try dsimp only [List.getElem_toArray, List.getElem_cons_succ, List.getElem_cons_zero]); try simp only [Act.put, List.setIfInBounds_toArray, List.set_cons_zero, List.set_cons_succ])
          refine wpAnyH_take (i := 2) (oi := _) (v := ?v31) rfl (by kernel_rfl) (by kernel_rfl) (by kernel_rfl) (fun _ _ _ h => h) (Or.inl ⟨by rfl, ?hy31⟩) (by assumption) ?rest31
          case hy31 => ((intro w hSw; (try dsimp only at hSw); go_simp); try (with_reducible rfl))
          ((try dsimp only [List.getElem_toArray, List.getElem_cons_succ, List.getElem_cons_zero]); try simp only [Act.put, List.setIfInBounds_toArray, List.set_cons_zero, List.set_cons_succ])
          refine wpAnyH_take (i := 3) (oi := _) (v := ?v32) rfl (by kernel_rfl) (by kernel_rfl) (by kernel_rfl) (fun _ _ _ h => h) (Or.inl ⟨by rfl, ?hy32⟩) (by assumption) ?rest32
          case hy32 => ((intro w hSw; (try dsimp only at hSw); go_simp); try (with_reducible rfl))
          ((try dsimp only [List.getElem_toArray, List.getElem_cons_succ, List.getElem_cons_zero]); try simp only [Act.put, List.setIfInBounds_toArray, List.set_cons_zero, List.set_cons_succ])
          refine wpAnyH_take (i := 4) (oi := _) (v := _) rfl (by kernel_rfl) (by kernel_rfl) (by kernel_rfl) (fun _ _ _ h => h) (Or.inr ⟨by rfl, rfl⟩) (by assumption) ?rest33
          ((try dsimp only [List.getElem_toArray, List.getElem_cons_succ, List.getElem_cons_zero]); try simp only [Act.put, List.setIfInBounds_toArray, List.set_cons_zero, List.set_cons_succ])
          refine wpAnyH_take (i := 5) (oi := _) (v := _) rfl (by kernel_rfl) (by kernel_rfl) (by kernel_rfl) (fun _ _ _ h => h) (Or.inr ⟨by rfl, rfl⟩) (by assumption) ?rest34
          ((try dsimp only [List.getElem_toArray, List.getElem_cons_succ, List.getElem_cons_zero]); try simp only [Act.put, List.setIfInBounds_toArray, List.set_cons_zero, List.set_cons_succ])
          refine wpAnyH_take (i := 6) (oi := _) (v := _) rfl (by kernel_rfl) (by kernel_rfl) (by kernel_rfl) (fun _ _ _ h => h) (Or.inr ⟨by rfl, rfl⟩) (by assumption) ?rest35
          ((try dsimp only [List.getElem_toArray, List.getElem_cons_succ, List.getElem_cons_zero]); try simp only [Act.put, List.setIfInBounds_toArray, List.set_cons_zero, List.set_cons_succ])
          refine wpAnyH_take (i := 7) (oi := _) (v := ?v36) rfl (by kernel_rfl) (by kernel_rfl) (by kernel_rfl) (fun _ _ _ h => h) (Or.inl ⟨by rfl, ?hy36⟩) (by assumption) ?rest36
          case hy36 => ((intro w hSw; (try dsimp only at hSw); go_simp); try (with_reducible rfl))
          ((try dsimp only [List.getElem_toArray, List.getElem_cons_succ, List.getElem_cons_zero]); try simp only [Act.put, List.setIfInBounds_toArray, List.set_cons_zero, List.set_cons_succ])
          refine wpAnyH_take (i := 8) (oi := _) (v := ?v37) rfl (by kernel_rfl) (by kernel_rfl) (by kernel_rfl) (fun _ _ _ h => h) (Or.inl ⟨by rfl, ?hy37⟩) (by assumption) ?rest37
          case hy37 => ((intro w hSw; (try dsimp only at hSw); go_simp); try (with_reducible rfl))
          ((try dsimp only [List.getElem_toArray, List.getElem_cons_succ, List.getElem_cons_zero]); try simp only [Act.put, List.setIfInBounds_toArray, List.set_cons_zero, List.set_cons_succ])
          refine wpAnyH_done (by kernel_rfl) ?_ _
          go_wp2_with fail
          go_meet
          exact ⟨false, rfl, Lib.hid ⟨fun h => (by cases h), fun h => absurd h.1 HKN.out⟩, HRX.out.kept (gr_then (gr_dr (gr_rfl w7)) hx), HRY.out.kept (gr_then (gr_dr (gr_rfl w7)) hx), HRA.out.kept (gr_then (gr_dr (gr_rfl w7)) hx), HRB.out.kept (gr_then (gr_dr (gr_rfl w7)) hx), HRZ.out.kept (gr_then (gr_dr (gr_rfl w7)) hx), gr_then HGW.out (gr_then (gr_dr (gr_rfl w7)) hx)⟩
    case rest =>
      clear HRX HRY HRA HRB HRZ HGW
      obtain ⟨r, rfl, HR, RX, RY, RA, RB, RZ, GW⟩ := hcut
      obtain ⟨w8, hw7⟩ : ∃ w7, wc = w7 := ⟨_, rfl⟩
      rw [hw7] at RX RY RA RB RZ GW ⊢
      have HRX := Lib.hid RX
      have HRY := Lib.hid RY
      have HRA := Lib.hid RA
      have HRB := Lib.hid RB
      have HRZ := Lib.hid RZ
      have HGW := Lib.hid GW
      clear hw7 RX RY RA RB RZ GW
      rcases Classical.em ((⟨kl, km, kc, kb, ke⟩ : S5) = none5) with hkn | hkn
      · obtain ⟨rfl, rfl, rfl, rfl, rfl⟩ : kl = 1 ∧ km = 0 ∧ kc = 0 ∧ kb = ⟨#[]⟩ ∧ ke = ⟨#[]⟩ := by
          have h := hkn
          unfold none5 at h; cases h; exact ⟨rfl, rfl, rfl, rfl, rfl⟩
        rcases Classical.em ((⟨ql, qm, qc, qb, qe⟩ : S5) = none5) with hqn | hqn
        · obtain ⟨rfl, rfl, rfl, rfl, rfl⟩ : ql = 1 ∧ qm = 0 ∧ qc = 0 ∧ qb = ⟨#[]⟩ ∧ qe = ⟨#[]⟩ := by
            have h := hqn
            unfold none5 at h; cases h; exact ⟨rfl, rfl, rfl, rfl, rfl⟩
          have hr : r = true := HR.out.2 ⟨rfl, rfl⟩
          subst hr
          have hR : R = none5 := by rw [← HREQ.out, if_pos (show (⟨1, 0, 0, ⟨#[]⟩, ⟨#[]⟩⟩ : S5) = none5 from rfl), if_pos (show (⟨1, 0, 0, ⟨#[]⟩, ⟨#[]⟩⟩ : S5) = none5 from rfl)]
          have HREQ2 := Lib.hid hR
          clear hkn hqn hR
          go_wp2_with fail
          refine (HNS.out _).mono ?_
          rintro ex wx ⟨rfl, hx⟩
          have HZ9 := Lib.hid (HRZ.out.kept hx)
          have HG9 := Lib.hid (gr_then HGW.out hx)
          clear hx
          have f0 := HZ9.out.fr 0
          have f1 := HZ9.out.fr 1
          have f2 := HZ9.out.fr 2
          have f3 := HZ9.out.fr 3
          have f4 := HZ9.out.fr 4
          have c0 := HZ9.out.cell 0 _ rfl
          have c1 := HZ9.out.cell 1 _ rfl
          have c2 := HZ9.out.cell 2 _ rfl
          have c3 := HZ9.out.cell 3 _ rfl
          have c4 := HZ9.out.cell 4 _ rfl
          go_wp2
          exact bodyPost_ret (v := vS none5) (results_shape (a := none5) rfl rfl (HZ9.out.five (v0 := .int .i64 none5.l) (v1 := .int .i64 none5.m) (v2 := .int .i64 none5.c) (v3 := .string none5.b) (v4 := .string none5.e))) rfl ⟨by rw [HREQ2.out], gr_five HG9.out (by omega)⟩
        · have hr : r = false := Bool.eq_false_iff.2 (fun h => hqn (HR.out.1 h).2)
          subst hr
          have hR : R = ⟨l', m', c', b', e'⟩ := by rw [← HREQ.out, if_pos (show (⟨1, 0, 0, ⟨#[]⟩, ⟨#[]⟩⟩ : S5) = none5 from rfl), if_neg hqn]
          have HREQ2 := Lib.hid hR
          clear hkn hqn hR
          go_wp2_with fail
          have HK := Lib.hid (show ∀ w', w8.grownBy w' none → (w'.cell? ⟨X, 0, none⟩ = some (.int .i64 1) ∧ w'.cell? ⟨X, 1, none⟩ = some (.int .i64 0) ∧ w'.cell? ⟨X, 2, none⟩ = some (.int .i64 0) ∧ w'.cell? ⟨X, 3, none⟩ = some (.string ⟨#[]⟩) ∧ w'.cell? ⟨X, 4, none⟩ = some (.string ⟨#[]⟩) ∧ w'.cell? ⟨Y, 0, none⟩ = some (.int .i64 ql) ∧ w'.cell? ⟨Y, 1, none⟩ = some (.int .i64 qm) ∧ w'.cell? ⟨Y, 2, none⟩ = some (.int .i64 qc) ∧ w'.cell? ⟨Y, 3, none⟩ = some (.string qb) ∧ w'.cell? ⟨Y, 4, none⟩ = some (.string qe)) from fun w' h => ⟨(HRX.out.kept h).cell 0 _ rfl, (HRX.out.kept h).cell 1 _ rfl, (HRX.out.kept h).cell 2 _ rfl, (HRX.out.kept h).cell 3 _ rfl, (HRX.out.kept h).cell 4 _ rfl, (HRY.out.kept h).cell 0 _ rfl, (HRY.out.kept h).cell 1 _ rfl, (HRY.out.kept h).cell 2 _ rfl, (HRY.out.kept h).cell 3 _ rfl, (HRY.out.kept h).cell 4 _ rfl⟩)
          go_wp2_with fail
          refine wp_region_held_drew (S := (fun w' => w'.cell? ⟨X, 0, none⟩ = some (.int .i64 1) ∧ w'.cell? ⟨X, 1, none⟩ = some (.int .i64 0) ∧ w'.cell? ⟨X, 2, none⟩ = some (.int .i64 0) ∧ w'.cell? ⟨X, 3, none⟩ = some (.string ⟨#[]⟩) ∧ w'.cell? ⟨X, 4, none⟩ = some (.string ⟨#[]⟩) ∧ w'.cell? ⟨Y, 0, none⟩ = some (.int .i64 ql) ∧ w'.cell? ⟨Y, 1, none⟩ = some (.int .i64 qm) ∧ w'.cell? ⟨Y, 2, none⟩ = some (.int .i64 qc) ∧ w'.cell? ⟨Y, 3, none⟩ = some (.string qb) ∧ w'.cell? ⟨Y, 4, none⟩ = some (.string qe))) (by kernel_rfl) ?_ (fun hHeld => ?_)
          · refine HK.out _ ?_; (repeat (first | (with_reducible exact gr_rfl _) | (with_reducible refine gr_dr ?_) | (with_reducible refine gr_then ?_ hx)))
          refine wpAnyH_take (i := 0) (oi := _) (v := ?v38) rfl (by kernel_rfl) (by kernel_rfl) (by kernel_rfl) (fun _ _ _ h => h) (Or.inl ⟨by rfl, ?hy38⟩) (by assumption) ?rest38
          case hy38 => ((intro w hSw; (try dsimp only at hSw); go_simp); try (with_reducible rfl))
          ((try dsimp only [List.getElem_toArray, List.getElem_cons_succ, List.getElem_cons_zero]); try simp only [Act.put, List.setIfInBounds_toArray, List.set_cons_zero, List.set_cons_succ])
          refine wpAnyH_ready (rs := [1]) (by kernel_rfl) (by simp) ?_
          refine AllReadyH.cons (o := _) rfl (fun K hK => ?_) AllReadyH.nil
          go_simp
          go_at_call 43; (with_reducible refine (HNS.out _).mono ?_); rintro ex wx ⟨rfl, hx⟩
          refine hK.out _ _ ?_ (fun hHeld => ?_)
          · (try dsimp only); refine HK.out _ ?_; (repeat (first | (with_reducible exact gr_rfl _) | (with_reducible refine gr_dr ?_) | (with_reducible refine gr_then ?_ hx)))
          clear hK K
          ((try dsimp only [List.getElem_toArray, List.getElem_cons_succ, List.getElem_cons_zero]); try simp only [Act.put, List.setIfInBounds_toArray, List.set_cons_zero, List.set_cons_succ])
          refine wpAnyH_take (i := 2) (oi := _) (v := ?v39) rfl (by kernel_rfl) (by kernel_rfl) (by kernel_rfl) (fun _ _ _ h => h) (Or.inl ⟨by rfl, ?hy39⟩) (by assumption) ?rest39
          case hy39 => ((intro w hSw; (try dsimp only at hSw); go_simp); try (with_reducible rfl))
          ((try dsimp only [List.getElem_toArray, List.getElem_cons_succ, List.getElem_cons_zero]); try simp only [Act.put, List.setIfInBounds_toArray, List.set_cons_zero, List.set_cons_succ])
          refine wpAnyH_take (i := 3) (oi := _) (v := ?v40) rfl (by kernel_rfl) (by kernel_rfl) (by kernel_rfl) (fun _ _ _ h => h) (Or.inl ⟨by rfl, ?hy40⟩) (by assumption) ?rest40
          case hy40 => ((intro w hSw; (try dsimp only at hSw); go_simp); try (with_reducible rfl))
          ((try dsimp only [List.getElem_toArray, List.getElem_cons_succ, List.getElem_cons_zero]); try simp only [Act.put, List.setIfInBounds_toArray, List.set_cons_zero, List.set_cons_succ])
          refine wpAnyH_done (by kernel_rfl) ?_ _
          have HZ9 := Lib.hid (HRZ.out.kept (gr_then (gr_dr (gr_rfl w8)) hx))
          have HG9 := Lib.hid (gr_then HGW.out (gr_then (gr_dr (gr_rfl w8)) hx))
          have HO9 := Lib.hid (HRB.out.kept (gr_then (gr_dr (gr_rfl w8)) hx))
          have f0 := HZ9.out.fr 0
          have f1 := HZ9.out.fr 1
          have f2 := HZ9.out.fr 2
          have f3 := HZ9.out.fr 3
          have f4 := HZ9.out.fr 4
          have c0 := HZ9.out.cell 0 _ rfl
          have c1 := HZ9.out.cell 1 _ rfl
          have c2 := HZ9.out.cell 2 _ rfl
          have c3 := HZ9.out.cell 3 _ rfl
          have c4 := HZ9.out.cell 4 _ rfl
          have o0 := HO9.out.cell 0 _ rfl
          have o1 := HO9.out.cell 1 _ rfl
          have o2 := HO9.out.cell 2 _ rfl
          have o3 := HO9.out.cell 3 _ rfl
          have o4 := HO9.out.cell 4 _ rfl
          go_wp2
          exact bodyPost_ret (v := vS (⟨l', m', c', b', e'⟩ : S5)) (results_shape (a := (⟨l', m', c', b', e'⟩ : S5)) rfl rfl (HZ9.out.five (v0 := .int .i64 (⟨l', m', c', b', e'⟩ : S5).l) (v1 := .int .i64 (⟨l', m', c', b', e'⟩ : S5).m) (v2 := .int .i64 (⟨l', m', c', b', e'⟩ : S5).c) (v3 := .string (⟨l', m', c', b', e'⟩ : S5).b) (v4 := .string (⟨l', m', c', b', e'⟩ : S5).e))) rfl ⟨by rw [HREQ2.out], gr_five HG9.out (by omega)⟩
      · have hr : r = false := Bool.eq_false_iff.2 (fun h => hkn (HR.out.1 h).1)
        subst hr
        have hk2 : (kl == 1) = false ∨ (kl = 1 ∧ (km == 0) = false) := by
          have hb := HDA.out.resolve_left hkn
          by_cases h1 : kl = 1
          · exact .inr ⟨h1, by rw [beq_eq_false_iff_ne]; (try simp only at hb); omega⟩
          · exact .inl (by rw [beq_eq_false_iff_ne]; exact h1)
        have HKN := Lib.hid hkn
        clear hkn
        rcases hk2 with hk2 | ⟨rfl, hk2⟩
        · go_wp2_with fail
          have HK := Lib.hid (show ∀ w', w8.grownBy w' none → (w'.cell? ⟨X, 0, none⟩ = some (.int .i64 kl) ∧ w'.cell? ⟨X, 1, none⟩ = some (.int .i64 km) ∧ w'.cell? ⟨X, 2, none⟩ = some (.int .i64 kc) ∧ w'.cell? ⟨X, 3, none⟩ = some (.string kb) ∧ w'.cell? ⟨X, 4, none⟩ = some (.string ke) ∧ w'.cell? ⟨Y, 0, none⟩ = some (.int .i64 ql) ∧ w'.cell? ⟨Y, 1, none⟩ = some (.int .i64 qm) ∧ w'.cell? ⟨Y, 2, none⟩ = some (.int .i64 qc) ∧ w'.cell? ⟨Y, 3, none⟩ = some (.string qb) ∧ w'.cell? ⟨Y, 4, none⟩ = some (.string qe)) from fun w' h => ⟨(HRX.out.kept h).cell 0 _ rfl, (HRX.out.kept h).cell 1 _ rfl, (HRX.out.kept h).cell 2 _ rfl, (HRX.out.kept h).cell 3 _ rfl, (HRX.out.kept h).cell 4 _ rfl, (HRY.out.kept h).cell 0 _ rfl, (HRY.out.kept h).cell 1 _ rfl, (HRY.out.kept h).cell 2 _ rfl, (HRY.out.kept h).cell 3 _ rfl, (HRY.out.kept h).cell 4 _ rfl⟩)
          go_wp2_with fail
          refine wp_region_held_drew (S := (fun w' => w'.cell? ⟨X, 0, none⟩ = some (.int .i64 kl) ∧ w'.cell? ⟨X, 1, none⟩ = some (.int .i64 km) ∧ w'.cell? ⟨X, 2, none⟩ = some (.int .i64 kc) ∧ w'.cell? ⟨X, 3, none⟩ = some (.string kb) ∧ w'.cell? ⟨X, 4, none⟩ = some (.string ke) ∧ w'.cell? ⟨Y, 0, none⟩ = some (.int .i64 ql) ∧ w'.cell? ⟨Y, 1, none⟩ = some (.int .i64 qm) ∧ w'.cell? ⟨Y, 2, none⟩ = some (.int .i64 qc) ∧ w'.cell? ⟨Y, 3, none⟩ = some (.string qb) ∧ w'.cell? ⟨Y, 4, none⟩ = some (.string qe))) (by kernel_rfl) ?_ (fun hHeld => ?_)
          · refine HK.out _ ?_; (repeat (first | (with_reducible exact gr_rfl _) | (with_reducible refine gr_dr ?_) | (with_reducible refine gr_then ?_ hx)))
          refine wpAnyH_take (i := 0) (oi := _) (v := ?v41) rfl (by kernel_rfl) (by kernel_rfl) (by kernel_rfl) (fun _ _ _ h => h) (Or.inl ⟨by rfl, ?hy41⟩) (by assumption) ?rest41
          case hy41 => ((intro w hSw; (try dsimp only at hSw); go_simp); try (with_reducible rfl))
          ((try dsimp only [List.getElem_toArray, List.getElem_cons_succ, List.getElem_cons_zero]); try simp only [Act.put, List.setIfInBounds_toArray, List.set_cons_zero, List.set_cons_succ])
          refine wpAnyH_ready (rs := [1]) (by kernel_rfl) (by simp) ?_
          refine AllReadyH.cons (o := _) rfl (fun K hK => ?_) AllReadyH.nil
          go_simp
          go_at_call 43; (with_reducible refine (HNS.out _).mono ?_); rintro ex wx ⟨rfl, hx⟩
          refine hK.out _ _ ?_ (fun hHeld => ?_)
          · (try dsimp only); refine HK.out _ ?_; (repeat (first | (with_reducible exact gr_rfl _) | (with_reducible refine gr_dr ?_) | (with_reducible refine gr_then ?_ hx)))
          clear hK K
          ((try dsimp only [List.getElem_toArray, List.getElem_cons_succ, List.getElem_cons_zero]); try simp only [Act.put, List.setIfInBounds_toArray, List.set_cons_zero, List.set_cons_succ])
          refine wpAnyH_take (i := 2) (oi := _) (v := ?v42) rfl (by kernel_rfl) (by kernel_rfl) (by kernel_rfl) (fun _ _ _ h => h) (Or.inl ⟨by rfl, ?hy42⟩) (by assumption) ?rest42
          case hy42 => ((intro w hSw; (try dsimp only at hSw); go_simp); try (with_reducible rfl))
          ((try dsimp only [List.getElem_toArray, List.getElem_cons_succ, List.getElem_cons_zero]); try simp only [Act.put, List.setIfInBounds_toArray, List.set_cons_zero, List.set_cons_succ])
          refine wpAnyH_take (i := 3) (oi := _) (v := ?v43) rfl (by kernel_rfl) (by kernel_rfl) (by kernel_rfl) (fun _ _ _ h => h) (Or.inl ⟨by rfl, ?hy43⟩) (by assumption) ?rest43
          case hy43 => ((intro w hSw; (try dsimp only at hSw); go_simp); try (with_reducible rfl))
          ((try dsimp only [List.getElem_toArray, List.getElem_cons_succ, List.getElem_cons_zero]); try simp only [Act.put, List.setIfInBounds_toArray, List.set_cons_zero, List.set_cons_succ])
          refine wpAnyH_done (by kernel_rfl) ?_ _
          rcases Classical.em ((⟨ql, qm, qc, qb, qe⟩ : S5) = none5) with hqn | hqn
          · obtain ⟨rfl, rfl, rfl, rfl, rfl⟩ : ql = 1 ∧ qm = 0 ∧ qc = 0 ∧ qb = ⟨#[]⟩ ∧ qe = ⟨#[]⟩ := by
              have h := hqn
              unfold none5 at h; cases h; exact ⟨rfl, rfl, rfl, rfl, rfl⟩
            have hR : R = ⟨l, m, c, b, e⟩ := by rw [← HREQ.out, if_neg HKN.out, if_pos (show (⟨1, 0, 0, ⟨#[]⟩, ⟨#[]⟩⟩ : S5) = none5 from rfl)]
            have HREQ2 := Lib.hid hR
            clear hqn hR
            have HK := Lib.hid (show ∀ w', w8.grownBy w' none → (w'.cell? ⟨X, 0, none⟩ = some (.int .i64 kl) ∧ w'.cell? ⟨X, 1, none⟩ = some (.int .i64 km) ∧ w'.cell? ⟨X, 2, none⟩ = some (.int .i64 kc) ∧ w'.cell? ⟨X, 3, none⟩ = some (.string kb) ∧ w'.cell? ⟨X, 4, none⟩ = some (.string ke) ∧ w'.cell? ⟨Y, 0, none⟩ = some (.int .i64 1) ∧ w'.cell? ⟨Y, 1, none⟩ = some (.int .i64 0) ∧ w'.cell? ⟨Y, 2, none⟩ = some (.int .i64 0) ∧ w'.cell? ⟨Y, 3, none⟩ = some (.string ⟨#[]⟩) ∧ w'.cell? ⟨Y, 4, none⟩ = some (.string ⟨#[]⟩)) from fun w' h => ⟨(HRX.out.kept h).cell 0 _ rfl, (HRX.out.kept h).cell 1 _ rfl, (HRX.out.kept h).cell 2 _ rfl, (HRX.out.kept h).cell 3 _ rfl, (HRX.out.kept h).cell 4 _ rfl, (HRY.out.kept h).cell 0 _ rfl, (HRY.out.kept h).cell 1 _ rfl, (HRY.out.kept h).cell 2 _ rfl, (HRY.out.kept h).cell 3 _ rfl, (HRY.out.kept h).cell 4 _ rfl⟩)
            go_wp2_with fail
            refine wp_region_held_drew (S := (fun w' => w'.cell? ⟨X, 0, none⟩ = some (.int .i64 kl) ∧ w'.cell? ⟨X, 1, none⟩ = some (.int .i64 km) ∧ w'.cell? ⟨X, 2, none⟩ = some (.int .i64 kc) ∧ w'.cell? ⟨X, 3, none⟩ = some (.string kb) ∧ w'.cell? ⟨X, 4, none⟩ = some (.string ke) ∧ w'.cell? ⟨Y, 0, none⟩ = some (.int .i64 1) ∧ w'.cell? ⟨Y, 1, none⟩ = some (.int .i64 0) ∧ w'.cell? ⟨Y, 2, none⟩ = some (.int .i64 0) ∧ w'.cell? ⟨Y, 3, none⟩ = some (.string ⟨#[]⟩) ∧ w'.cell? ⟨Y, 4, none⟩ = some (.string ⟨#[]⟩))) (by kernel_rfl) ?_ (fun hHeld => ?_)
            · refine HK.out _ ?_; (repeat (first | (with_reducible exact gr_rfl _) | (with_reducible refine gr_dr ?_) | (with_reducible refine gr_then ?_ hy) | (with_reducible refine gr_then ?_ hx)))
            refine wpAnyH_take (i := 0) (oi := _) (v := ?v44) rfl (by kernel_rfl) (by kernel_rfl) (by kernel_rfl) (fun _ _ _ h => h) (Or.inl ⟨by rfl, ?hy44⟩) (by assumption) ?rest44
            case hy44 => ((intro w hSw; (try dsimp only at hSw); go_simp); try (with_reducible rfl))
            ((try dsimp only [List.getElem_toArray, List.getElem_cons_succ, List.getElem_cons_zero]); try simp only [Act.put, List.setIfInBounds_toArray, List.set_cons_zero, List.set_cons_succ])
            refine wpAnyH_ready (rs := [1]) (by kernel_rfl) (by simp) ?_
            refine AllReadyH.cons (o := _) rfl (fun K hK => ?_) AllReadyH.nil
            go_simp
            go_at_call 43; (with_reducible refine (HNS.out _).mono ?_); rintro ey wy ⟨rfl, hy⟩
            refine hK.out _ _ ?_ (fun hHeld => ?_)
            · (try dsimp only); refine HK.out _ ?_; (repeat (first | (with_reducible exact gr_rfl _) | (with_reducible refine gr_dr ?_) | (with_reducible refine gr_then ?_ hy) | (with_reducible refine gr_then ?_ hx)))
            clear hK K
            ((try dsimp only [List.getElem_toArray, List.getElem_cons_succ, List.getElem_cons_zero]); try simp only [Act.put, List.setIfInBounds_toArray, List.set_cons_zero, List.set_cons_succ])
            refine wpAnyH_take (i := 2) (oi := _) (v := ?v45) rfl (by kernel_rfl) (by kernel_rfl) (by kernel_rfl) (fun _ _ _ h => h) (Or.inl ⟨by rfl, ?hy45⟩) (by assumption) ?rest45
            case hy45 => ((intro w hSw; (try dsimp only at hSw); go_simp); try (with_reducible rfl))
            ((try dsimp only [List.getElem_toArray, List.getElem_cons_succ, List.getElem_cons_zero]); try simp only [Act.put, List.setIfInBounds_toArray, List.set_cons_zero, List.set_cons_succ])
            refine wpAnyH_take (i := 3) (oi := _) (v := ?v46) rfl (by kernel_rfl) (by kernel_rfl) (by kernel_rfl) (fun _ _ _ h => h) (Or.inl ⟨by rfl, ?hy46⟩) (by assumption) ?rest46
            case hy46 => ((intro w hSw; (try dsimp only at hSw); go_simp); try (with_reducible rfl))
            ((try dsimp only [List.getElem_toArray, List.getElem_cons_succ, List.getElem_cons_zero]); try simp only [Act.put, List.setIfInBounds_toArray, List.set_cons_zero, List.set_cons_succ])
            refine wpAnyH_done (by kernel_rfl) ?_ _
            have HZ9 := Lib.hid (HRZ.out.kept (gr_then (gr_dr (gr_then (gr_dr (gr_rfl w8)) hx)) hy))
            have HG9 := Lib.hid (gr_then HGW.out (gr_then (gr_dr (gr_then (gr_dr (gr_rfl w8)) hx)) hy))
            have HO9 := Lib.hid (HRA.out.kept (gr_then (gr_dr (gr_then (gr_dr (gr_rfl w8)) hx)) hy))
            have f0 := HZ9.out.fr 0
            have f1 := HZ9.out.fr 1
            have f2 := HZ9.out.fr 2
            have f3 := HZ9.out.fr 3
            have f4 := HZ9.out.fr 4
            have c0 := HZ9.out.cell 0 _ rfl
            have c1 := HZ9.out.cell 1 _ rfl
            have c2 := HZ9.out.cell 2 _ rfl
            have c3 := HZ9.out.cell 3 _ rfl
            have c4 := HZ9.out.cell 4 _ rfl
            have o0 := HO9.out.cell 0 _ rfl
            have o1 := HO9.out.cell 1 _ rfl
            have o2 := HO9.out.cell 2 _ rfl
            have o3 := HO9.out.cell 3 _ rfl
            have o4 := HO9.out.cell 4 _ rfl
            go_wp2
            exact bodyPost_ret (v := vS (⟨l, m, c, b, e⟩ : S5)) (results_shape (a := (⟨l, m, c, b, e⟩ : S5)) rfl rfl (HZ9.out.five (v0 := .int .i64 (⟨l, m, c, b, e⟩ : S5).l) (v1 := .int .i64 (⟨l, m, c, b, e⟩ : S5).m) (v2 := .int .i64 (⟨l, m, c, b, e⟩ : S5).c) (v3 := .string (⟨l, m, c, b, e⟩ : S5).b) (v4 := .string (⟨l, m, c, b, e⟩ : S5).e))) rfl ⟨by rw [HREQ2.out], gr_five HG9.out (by omega)⟩
          · have hq2 : (ql == 1) = false ∨ (ql = 1 ∧ (qm == 0) = false) := by
              have hb := HDB.out.resolve_left hqn
              by_cases h1 : ql = 1
              · exact .inr ⟨h1, by rw [beq_eq_false_iff_ne]; (try simp only at hb); omega⟩
              · exact .inl (by rw [beq_eq_false_iff_ne]; exact h1)
            have HQN := Lib.hid hqn
            clear hqn
            rcases hq2 with hq2 | ⟨rfl, hq2⟩
            · have HK := Lib.hid (show ∀ w', w8.grownBy w' none → (w'.cell? ⟨X, 0, none⟩ = some (.int .i64 kl) ∧ w'.cell? ⟨X, 1, none⟩ = some (.int .i64 km) ∧ w'.cell? ⟨X, 2, none⟩ = some (.int .i64 kc) ∧ w'.cell? ⟨X, 3, none⟩ = some (.string kb) ∧ w'.cell? ⟨X, 4, none⟩ = some (.string ke) ∧ w'.cell? ⟨Y, 0, none⟩ = some (.int .i64 ql) ∧ w'.cell? ⟨Y, 1, none⟩ = some (.int .i64 qm) ∧ w'.cell? ⟨Y, 2, none⟩ = some (.int .i64 qc) ∧ w'.cell? ⟨Y, 3, none⟩ = some (.string qb) ∧ w'.cell? ⟨Y, 4, none⟩ = some (.string qe)) from fun w' h => ⟨(HRX.out.kept h).cell 0 _ rfl, (HRX.out.kept h).cell 1 _ rfl, (HRX.out.kept h).cell 2 _ rfl, (HRX.out.kept h).cell 3 _ rfl, (HRX.out.kept h).cell 4 _ rfl, (HRY.out.kept h).cell 0 _ rfl, (HRY.out.kept h).cell 1 _ rfl, (HRY.out.kept h).cell 2 _ rfl, (HRY.out.kept h).cell 3 _ rfl, (HRY.out.kept h).cell 4 _ rfl⟩)
              go_wp2_with fail
              refine wp_region_held_drew (S := (fun w' => w'.cell? ⟨X, 0, none⟩ = some (.int .i64 kl) ∧ w'.cell? ⟨X, 1, none⟩ = some (.int .i64 km) ∧ w'.cell? ⟨X, 2, none⟩ = some (.int .i64 kc) ∧ w'.cell? ⟨X, 3, none⟩ = some (.string kb) ∧ w'.cell? ⟨X, 4, none⟩ = some (.string ke) ∧ w'.cell? ⟨Y, 0, none⟩ = some (.int .i64 ql) ∧ w'.cell? ⟨Y, 1, none⟩ = some (.int .i64 qm) ∧ w'.cell? ⟨Y, 2, none⟩ = some (.int .i64 qc) ∧ w'.cell? ⟨Y, 3, none⟩ = some (.string qb) ∧ w'.cell? ⟨Y, 4, none⟩ = some (.string qe))) (by kernel_rfl) ?_ (fun hHeld => ?_)
              · refine HK.out _ ?_; (repeat (first | (with_reducible exact gr_rfl _) | (with_reducible refine gr_dr ?_) | (with_reducible refine gr_then ?_ hy) | (with_reducible refine gr_then ?_ hx)))
              refine wpAnyH_take (i := 0) (oi := _) (v := ?v47) rfl (by kernel_rfl) (by kernel_rfl) (by kernel_rfl) (fun _ _ _ h => h) (Or.inl ⟨by rfl, ?hy47⟩) (by assumption) ?rest47
              case hy47 => ((intro w hSw; (try dsimp only at hSw); go_simp); try (with_reducible rfl))
              ((try dsimp only [List.getElem_toArray, List.getElem_cons_succ, List.getElem_cons_zero]); try simp only [Act.put, List.setIfInBounds_toArray, List.set_cons_zero, List.set_cons_succ])
              refine wpAnyH_ready (rs := [1]) (by kernel_rfl) (by simp) ?_
              refine AllReadyH.cons (o := _) rfl (fun K hK => ?_) AllReadyH.nil
              go_simp
              go_at_call 43; (with_reducible refine (HNS.out _).mono ?_); rintro ey wy ⟨rfl, hy⟩
              refine hK.out _ _ ?_ (fun hHeld => ?_)
              · (try dsimp only); refine HK.out _ ?_; (repeat (first | (with_reducible exact gr_rfl _) | (with_reducible refine gr_dr ?_) | (with_reducible refine gr_then ?_ hy) | (with_reducible refine gr_then ?_ hx)))
              clear hK K
              ((try dsimp only [List.getElem_toArray, List.getElem_cons_succ, List.getElem_cons_zero]); try simp only [Act.put, List.setIfInBounds_toArray, List.set_cons_zero, List.set_cons_succ])
              refine wpAnyH_take (i := 2) (oi := _) (v := ?v48) rfl (by kernel_rfl) (by kernel_rfl) (by kernel_rfl) (fun _ _ _ h => h) (Or.inl ⟨by rfl, ?hy48⟩) (by assumption) ?rest48
              case hy48 => ((intro w hSw; (try dsimp only at hSw); go_simp); try (with_reducible rfl))
              ((try dsimp only [List.getElem_toArray, List.getElem_cons_succ, List.getElem_cons_zero]); try simp only [Act.put, List.setIfInBounds_toArray, List.set_cons_zero, List.set_cons_succ])
              refine wpAnyH_take (i := 3) (oi := _) (v := ?v49) rfl (by kernel_rfl) (by kernel_rfl) (by kernel_rfl) (fun _ _ _ h => h) (Or.inl ⟨by rfl, ?hy49⟩) (by assumption) ?rest49
              case hy49 => ((intro w hSw; (try dsimp only at hSw); go_simp); try (with_reducible rfl))
              ((try dsimp only [List.getElem_toArray, List.getElem_cons_succ, List.getElem_cons_zero]); try simp only [Act.put, List.setIfInBounds_toArray, List.set_cons_zero, List.set_cons_succ])
              refine wpAnyH_done (by kernel_rfl) ?_ _
              go_wp2_with fail
              go_meet
              exact ⟨rfl, HKN, HQN, HRX.out.kept (gr_then (gr_dr (gr_then (gr_dr (gr_rfl w8)) hx)) hy), HRY.out.kept (gr_then (gr_dr (gr_then (gr_dr (gr_rfl w8)) hx)) hy), HRA.out.kept (gr_then (gr_dr (gr_then (gr_dr (gr_rfl w8)) hx)) hy), HRB.out.kept (gr_then (gr_dr (gr_then (gr_dr (gr_rfl w8)) hx)) hy), HRZ.out.kept (gr_then (gr_dr (gr_then (gr_dr (gr_rfl w8)) hx)) hy), gr_then HGW.out (gr_then (gr_dr (gr_then (gr_dr (gr_rfl w8)) hx)) hy)⟩
            · have HK := Lib.hid (show ∀ w', w8.grownBy w' none → (w'.cell? ⟨X, 0, none⟩ = some (.int .i64 kl) ∧ w'.cell? ⟨X, 1, none⟩ = some (.int .i64 km) ∧ w'.cell? ⟨X, 2, none⟩ = some (.int .i64 kc) ∧ w'.cell? ⟨X, 3, none⟩ = some (.string kb) ∧ w'.cell? ⟨X, 4, none⟩ = some (.string ke) ∧ w'.cell? ⟨Y, 0, none⟩ = some (.int .i64 1) ∧ w'.cell? ⟨Y, 1, none⟩ = some (.int .i64 qm) ∧ w'.cell? ⟨Y, 2, none⟩ = some (.int .i64 qc) ∧ w'.cell? ⟨Y, 3, none⟩ = some (.string qb) ∧ w'.cell? ⟨Y, 4, none⟩ = some (.string qe)) from fun w' h => ⟨(HRX.out.kept h).cell 0 _ rfl, (HRX.out.kept h).cell 1 _ rfl, (HRX.out.kept h).cell 2 _ rfl, (HRX.out.kept h).cell 3 _ rfl, (HRX.out.kept h).cell 4 _ rfl, (HRY.out.kept h).cell 0 _ rfl, (HRY.out.kept h).cell 1 _ rfl, (HRY.out.kept h).cell 2 _ rfl, (HRY.out.kept h).cell 3 _ rfl, (HRY.out.kept h).cell 4 _ rfl⟩)
              go_wp2_with fail
              refine wp_region_held_drew (S := (fun w' => w'.cell? ⟨X, 0, none⟩ = some (.int .i64 kl) ∧ w'.cell? ⟨X, 1, none⟩ = some (.int .i64 km) ∧ w'.cell? ⟨X, 2, none⟩ = some (.int .i64 kc) ∧ w'.cell? ⟨X, 3, none⟩ = some (.string kb) ∧ w'.cell? ⟨X, 4, none⟩ = some (.string ke) ∧ w'.cell? ⟨Y, 0, none⟩ = some (.int .i64 1) ∧ w'.cell? ⟨Y, 1, none⟩ = some (.int .i64 qm) ∧ w'.cell? ⟨Y, 2, none⟩ = some (.int .i64 qc) ∧ w'.cell? ⟨Y, 3, none⟩ = some (.string qb) ∧ w'.cell? ⟨Y, 4, none⟩ = some (.string qe))) (by kernel_rfl) ?_ (fun hHeld => ?_)
              · refine HK.out _ ?_; (repeat (first | (with_reducible exact gr_rfl _) | (with_reducible refine gr_dr ?_) | (with_reducible refine gr_then ?_ hy) | (with_reducible refine gr_then ?_ hx)))
              refine wpAnyH_take (i := 0) (oi := _) (v := ?v50) rfl (by kernel_rfl) (by kernel_rfl) (by kernel_rfl) (fun _ _ _ h => h) (Or.inl ⟨by rfl, ?hy50⟩) (by assumption) ?rest50
              case hy50 => ((intro w hSw; (try dsimp only at hSw); go_simp); try (with_reducible rfl))
              ((try dsimp only [List.getElem_toArray, List.getElem_cons_succ, List.getElem_cons_zero]); try simp only [Act.put, List.setIfInBounds_toArray, List.set_cons_zero, List.set_cons_succ])
              refine wpAnyH_ready (rs := [1]) (by kernel_rfl) (by simp) ?_
              refine AllReadyH.cons (o := _) rfl (fun K hK => ?_) AllReadyH.nil
              go_simp
              go_at_call 43; (with_reducible refine (HNS.out _).mono ?_); rintro ey wy ⟨rfl, hy⟩
              refine hK.out _ _ ?_ (fun hHeld => ?_)
              · (try dsimp only); refine HK.out _ ?_; (repeat (first | (with_reducible exact gr_rfl _) | (with_reducible refine gr_dr ?_) | (with_reducible refine gr_then ?_ hy) | (with_reducible refine gr_then ?_ hx)))
              clear hK K
              ((try dsimp only [List.getElem_toArray, List.getElem_cons_succ, List.getElem_cons_zero]); try simp only [Act.put, List.setIfInBounds_toArray, List.set_cons_zero, List.set_cons_succ])
              refine wpAnyH_take (i := 2) (oi := _) (v := ?v51) rfl (by kernel_rfl) (by kernel_rfl) (by kernel_rfl) (fun _ _ _ h => h) (Or.inl ⟨by rfl, ?hy51⟩) (by assumption) ?rest51
              case hy51 => ((intro w hSw; (try dsimp only at hSw); go_simp); try (with_reducible rfl))
              ((try dsimp only [List.getElem_toArray, List.getElem_cons_succ, List.getElem_cons_zero]); try simp only [Act.put, List.setIfInBounds_toArray, List.set_cons_zero, List.set_cons_succ])
              refine wpAnyH_take (i := 3) (oi := _) (v := ?v52) rfl (by kernel_rfl) (by kernel_rfl) (by kernel_rfl) (fun _ _ _ h => h) (Or.inl ⟨by rfl, ?hy52⟩) (by assumption) ?rest52
              case hy52 => ((intro w hSw; (try dsimp only at hSw); go_simp); try (with_reducible rfl))
              ((try dsimp only [List.getElem_toArray, List.getElem_cons_succ, List.getElem_cons_zero]); try simp only [Act.put, List.setIfInBounds_toArray, List.set_cons_zero, List.set_cons_succ])
              refine wpAnyH_done (by kernel_rfl) ?_ _
              go_wp2_with fail
              go_meet
              exact ⟨rfl, HKN, HQN, HRX.out.kept (gr_then (gr_dr (gr_then (gr_dr (gr_rfl w8)) hx)) hy), HRY.out.kept (gr_then (gr_dr (gr_then (gr_dr (gr_rfl w8)) hx)) hy), HRA.out.kept (gr_then (gr_dr (gr_then (gr_dr (gr_rfl w8)) hx)) hy), HRB.out.kept (gr_then (gr_dr (gr_then (gr_dr (gr_rfl w8)) hx)) hy), HRZ.out.kept (gr_then (gr_dr (gr_then (gr_dr (gr_rfl w8)) hx)) hy), gr_then HGW.out (gr_then (gr_dr (gr_then (gr_dr (gr_rfl w8)) hx)) hy)⟩
        · go_wp2_with fail
          have HK := Lib.hid (show ∀ w', w8.grownBy w' none → (w'.cell? ⟨X, 0, none⟩ = some (.int .i64 1) ∧ w'.cell? ⟨X, 1, none⟩ = some (.int .i64 km) ∧ w'.cell? ⟨X, 2, none⟩ = some (.int .i64 kc) ∧ w'.cell? ⟨X, 3, none⟩ = some (.string kb) ∧ w'.cell? ⟨X, 4, none⟩ = some (.string ke) ∧ w'.cell? ⟨Y, 0, none⟩ = some (.int .i64 ql) ∧ w'.cell? ⟨Y, 1, none⟩ = some (.int .i64 qm) ∧ w'.cell? ⟨Y, 2, none⟩ = some (.int .i64 qc) ∧ w'.cell? ⟨Y, 3, none⟩ = some (.string qb) ∧ w'.cell? ⟨Y, 4, none⟩ = some (.string qe)) from fun w' h => ⟨(HRX.out.kept h).cell 0 _ rfl, (HRX.out.kept h).cell 1 _ rfl, (HRX.out.kept h).cell 2 _ rfl, (HRX.out.kept h).cell 3 _ rfl, (HRX.out.kept h).cell 4 _ rfl, (HRY.out.kept h).cell 0 _ rfl, (HRY.out.kept h).cell 1 _ rfl, (HRY.out.kept h).cell 2 _ rfl, (HRY.out.kept h).cell 3 _ rfl, (HRY.out.kept h).cell 4 _ rfl⟩)
          go_wp2_with fail
          refine wp_region_held_drew (S := (fun w' => w'.cell? ⟨X, 0, none⟩ = some (.int .i64 1) ∧ w'.cell? ⟨X, 1, none⟩ = some (.int .i64 km) ∧ w'.cell? ⟨X, 2, none⟩ = some (.int .i64 kc) ∧ w'.cell? ⟨X, 3, none⟩ = some (.string kb) ∧ w'.cell? ⟨X, 4, none⟩ = some (.string ke) ∧ w'.cell? ⟨Y, 0, none⟩ = some (.int .i64 ql) ∧ w'.cell? ⟨Y, 1, none⟩ = some (.int .i64 qm) ∧ w'.cell? ⟨Y, 2, none⟩ = some (.int .i64 qc) ∧ w'.cell? ⟨Y, 3, none⟩ = some (.string qb) ∧ w'.cell? ⟨Y, 4, none⟩ = some (.string qe))) (by kernel_rfl) ?_ (fun hHeld => ?_)
          · refine HK.out _ ?_; (repeat (first | (with_reducible exact gr_rfl _) | (with_reducible refine gr_dr ?_) | (with_reducible refine gr_then ?_ hx)))
          refine wpAnyH_take (i := 0) (oi := _) (v := ?v53) rfl (by kernel_rfl) (by kernel_rfl) (by kernel_rfl) (fun _ _ _ h => h) (Or.inl ⟨by rfl, ?hy53⟩) (by assumption) ?rest53
          case hy53 => ((intro w hSw; (try dsimp only at hSw); go_simp); try (with_reducible rfl))
          ((try dsimp only [List.getElem_toArray, List.getElem_cons_succ, List.getElem_cons_zero]); try simp only [Act.put, List.setIfInBounds_toArray, List.set_cons_zero, List.set_cons_succ])
          refine wpAnyH_ready (rs := [1]) (by kernel_rfl) (by simp) ?_
          refine AllReadyH.cons (o := _) rfl (fun K hK => ?_) AllReadyH.nil
          go_simp
          go_at_call 43; (with_reducible refine (HNS.out _).mono ?_); rintro ex wx ⟨rfl, hx⟩
          refine hK.out _ _ ?_ (fun hHeld => ?_)
          · (try dsimp only); refine HK.out _ ?_; (repeat (first | (with_reducible exact gr_rfl _) | (with_reducible refine gr_dr ?_) | (with_reducible refine gr_then ?_ hx)))
          clear hK K
          ((try dsimp only [List.getElem_toArray, List.getElem_cons_succ, List.getElem_cons_zero]); try simp only [Act.put, List.setIfInBounds_toArray, List.set_cons_zero, List.set_cons_succ])
          refine wpAnyH_take (i := 2) (oi := _) (v := ?v54) rfl (by kernel_rfl) (by kernel_rfl) (by kernel_rfl) (fun _ _ _ h => h) (Or.inl ⟨by rfl, ?hy54⟩) (by assumption) ?rest54
          case hy54 => ((intro w hSw; (try dsimp only at hSw); go_simp); try (with_reducible rfl))
          ((try dsimp only [List.getElem_toArray, List.getElem_cons_succ, List.getElem_cons_zero]); try simp only [Act.put, List.setIfInBounds_toArray, List.set_cons_zero, List.set_cons_succ])
          refine wpAnyH_take (i := 3) (oi := _) (v := ?v55) rfl (by kernel_rfl) (by kernel_rfl) (by kernel_rfl) (fun _ _ _ h => h) (Or.inl ⟨by rfl, ?hy55⟩) (by assumption) ?rest55
          case hy55 => ((intro w hSw; (try dsimp only at hSw); go_simp); try (with_reducible rfl))
          ((try dsimp only [List.getElem_toArray, List.getElem_cons_succ, List.getElem_cons_zero]); try simp only [Act.put, List.setIfInBounds_toArray, List.set_cons_zero, List.set_cons_succ])
          refine wpAnyH_done (by kernel_rfl) ?_ _
          rcases Classical.em ((⟨ql, qm, qc, qb, qe⟩ : S5) = none5) with hqn | hqn
          · obtain ⟨rfl, rfl, rfl, rfl, rfl⟩ : ql = 1 ∧ qm = 0 ∧ qc = 0 ∧ qb = ⟨#[]⟩ ∧ qe = ⟨#[]⟩ := by
              have h := hqn
              unfold none5 at h; cases h; exact ⟨rfl, rfl, rfl, rfl, rfl⟩
            have hR : R = ⟨l, m, c, b, e⟩ := by rw [← HREQ.out, if_neg HKN.out, if_pos (show (⟨1, 0, 0, ⟨#[]⟩, ⟨#[]⟩⟩ : S5) = none5 from rfl)]
            have HREQ2 := Lib.hid hR
            clear hqn hR
            have HK := Lib.hid (show ∀ w', w8.grownBy w' none → (w'.cell? ⟨X, 0, none⟩ = some (.int .i64 1) ∧ w'.cell? ⟨X, 1, none⟩ = some (.int .i64 km) ∧ w'.cell? ⟨X, 2, none⟩ = some (.int .i64 kc) ∧ w'.cell? ⟨X, 3, none⟩ = some (.string kb) ∧ w'.cell? ⟨X, 4, none⟩ = some (.string ke) ∧ w'.cell? ⟨Y, 0, none⟩ = some (.int .i64 1) ∧ w'.cell? ⟨Y, 1, none⟩ = some (.int .i64 0) ∧ w'.cell? ⟨Y, 2, none⟩ = some (.int .i64 0) ∧ w'.cell? ⟨Y, 3, none⟩ = some (.string ⟨#[]⟩) ∧ w'.cell? ⟨Y, 4, none⟩ = some (.string ⟨#[]⟩)) from fun w' h => ⟨(HRX.out.kept h).cell 0 _ rfl, (HRX.out.kept h).cell 1 _ rfl, (HRX.out.kept h).cell 2 _ rfl, (HRX.out.kept h).cell 3 _ rfl, (HRX.out.kept h).cell 4 _ rfl, (HRY.out.kept h).cell 0 _ rfl, (HRY.out.kept h).cell 1 _ rfl, (HRY.out.kept h).cell 2 _ rfl, (HRY.out.kept h).cell 3 _ rfl, (HRY.out.kept h).cell 4 _ rfl⟩)
            go_wp2_with fail
            refine wp_region_held_drew (S := (fun w' => w'.cell? ⟨X, 0, none⟩ = some (.int .i64 1) ∧ w'.cell? ⟨X, 1, none⟩ = some (.int .i64 km) ∧ w'.cell? ⟨X, 2, none⟩ = some (.int .i64 kc) ∧ w'.cell? ⟨X, 3, none⟩ = some (.string kb) ∧ w'.cell? ⟨X, 4, none⟩ = some (.string ke) ∧ w'.cell? ⟨Y, 0, none⟩ = some (.int .i64 1) ∧ w'.cell? ⟨Y, 1, none⟩ = some (.int .i64 0) ∧ w'.cell? ⟨Y, 2, none⟩ = some (.int .i64 0) ∧ w'.cell? ⟨Y, 3, none⟩ = some (.string ⟨#[]⟩) ∧ w'.cell? ⟨Y, 4, none⟩ = some (.string ⟨#[]⟩))) (by kernel_rfl) ?_ (fun hHeld => ?_)
            · refine HK.out _ ?_; (repeat (first | (with_reducible exact gr_rfl _) | (with_reducible refine gr_dr ?_) | (with_reducible refine gr_then ?_ hy) | (with_reducible refine gr_then ?_ hx)))
            refine wpAnyH_take (i := 0) (oi := _) (v := ?v56) rfl (by kernel_rfl) (by kernel_rfl) (by kernel_rfl) (fun _ _ _ h => h) (Or.inl ⟨by rfl, ?hy56⟩) (by assumption) ?rest56
            case hy56 => ((intro w hSw; (try dsimp only at hSw); go_simp); try (with_reducible rfl))
            ((try dsimp only [List.getElem_toArray, List.getElem_cons_succ, List.getElem_cons_zero]); try simp only [Act.put, List.setIfInBounds_toArray, List.set_cons_zero, List.set_cons_succ])
            refine wpAnyH_ready (rs := [1]) (by kernel_rfl) (by simp) ?_
            refine AllReadyH.cons (o := _) rfl (fun K hK => ?_) AllReadyH.nil
            go_simp
            go_at_call 43; (with_reducible refine (HNS.out _).mono ?_); rintro ey wy ⟨rfl, hy⟩
            refine hK.out _ _ ?_ (fun hHeld => ?_)
            · (try dsimp only); refine HK.out _ ?_; (repeat (first | (with_reducible exact gr_rfl _) | (with_reducible refine gr_dr ?_) | (with_reducible refine gr_then ?_ hy) | (with_reducible refine gr_then ?_ hx)))
            clear hK K
            ((try dsimp only [List.getElem_toArray, List.getElem_cons_succ, List.getElem_cons_zero]); try simp only [Act.put, List.setIfInBounds_toArray, List.set_cons_zero, List.set_cons_succ])
            refine wpAnyH_take (i := 2) (oi := _) (v := ?v57) rfl (by kernel_rfl) (by kernel_rfl) (by kernel_rfl) (fun _ _ _ h => h) (Or.inl ⟨by rfl, ?hy57⟩) (by assumption) ?rest57
            case hy57 => ((intro w hSw; (try dsimp only at hSw); go_simp); try (with_reducible rfl))
            ((try dsimp only [List.getElem_toArray, List.getElem_cons_succ, List.getElem_cons_zero]); try simp only [Act.put, List.setIfInBounds_toArray, List.set_cons_zero, List.set_cons_succ])
            refine wpAnyH_take (i := 3) (oi := _) (v := ?v58) rfl (by kernel_rfl) (by kernel_rfl) (by kernel_rfl) (fun _ _ _ h => h) (Or.inl ⟨by rfl, ?hy58⟩) (by assumption) ?rest58
            case hy58 => ((intro w hSw; (try dsimp only at hSw); go_simp); try (with_reducible rfl))
            ((try dsimp only [List.getElem_toArray, List.getElem_cons_succ, List.getElem_cons_zero]); try simp only [Act.put, List.setIfInBounds_toArray, List.set_cons_zero, List.set_cons_succ])
            refine wpAnyH_done (by kernel_rfl) ?_ _
            have HZ9 := Lib.hid (HRZ.out.kept (gr_then (gr_dr (gr_then (gr_dr (gr_rfl w8)) hx)) hy))
            have HG9 := Lib.hid (gr_then HGW.out (gr_then (gr_dr (gr_then (gr_dr (gr_rfl w8)) hx)) hy))
            have HO9 := Lib.hid (HRA.out.kept (gr_then (gr_dr (gr_then (gr_dr (gr_rfl w8)) hx)) hy))
            have f0 := HZ9.out.fr 0
            have f1 := HZ9.out.fr 1
            have f2 := HZ9.out.fr 2
            have f3 := HZ9.out.fr 3
            have f4 := HZ9.out.fr 4
            have c0 := HZ9.out.cell 0 _ rfl
            have c1 := HZ9.out.cell 1 _ rfl
            have c2 := HZ9.out.cell 2 _ rfl
            have c3 := HZ9.out.cell 3 _ rfl
            have c4 := HZ9.out.cell 4 _ rfl
            have o0 := HO9.out.cell 0 _ rfl
            have o1 := HO9.out.cell 1 _ rfl
            have o2 := HO9.out.cell 2 _ rfl
            have o3 := HO9.out.cell 3 _ rfl
            have o4 := HO9.out.cell 4 _ rfl
            go_wp2
            exact bodyPost_ret (v := vS (⟨l, m, c, b, e⟩ : S5)) (results_shape (a := (⟨l, m, c, b, e⟩ : S5)) rfl rfl (HZ9.out.five (v0 := .int .i64 (⟨l, m, c, b, e⟩ : S5).l) (v1 := .int .i64 (⟨l, m, c, b, e⟩ : S5).m) (v2 := .int .i64 (⟨l, m, c, b, e⟩ : S5).c) (v3 := .string (⟨l, m, c, b, e⟩ : S5).b) (v4 := .string (⟨l, m, c, b, e⟩ : S5).e))) rfl ⟨by rw [HREQ2.out], gr_five HG9.out (by omega)⟩
          · have hq2 : (ql == 1) = false ∨ (ql = 1 ∧ (qm == 0) = false) := by
              have hb := HDB.out.resolve_left hqn
              by_cases h1 : ql = 1
              · exact .inr ⟨h1, by rw [beq_eq_false_iff_ne]; (try simp only at hb); omega⟩
              · exact .inl (by rw [beq_eq_false_iff_ne]; exact h1)
            have HQN := Lib.hid hqn
            clear hqn
            rcases hq2 with hq2 | ⟨rfl, hq2⟩
            · have HK := Lib.hid (show ∀ w', w8.grownBy w' none → (w'.cell? ⟨X, 0, none⟩ = some (.int .i64 1) ∧ w'.cell? ⟨X, 1, none⟩ = some (.int .i64 km) ∧ w'.cell? ⟨X, 2, none⟩ = some (.int .i64 kc) ∧ w'.cell? ⟨X, 3, none⟩ = some (.string kb) ∧ w'.cell? ⟨X, 4, none⟩ = some (.string ke) ∧ w'.cell? ⟨Y, 0, none⟩ = some (.int .i64 ql) ∧ w'.cell? ⟨Y, 1, none⟩ = some (.int .i64 qm) ∧ w'.cell? ⟨Y, 2, none⟩ = some (.int .i64 qc) ∧ w'.cell? ⟨Y, 3, none⟩ = some (.string qb) ∧ w'.cell? ⟨Y, 4, none⟩ = some (.string qe)) from fun w' h => ⟨(HRX.out.kept h).cell 0 _ rfl, (HRX.out.kept h).cell 1 _ rfl, (HRX.out.kept h).cell 2 _ rfl, (HRX.out.kept h).cell 3 _ rfl, (HRX.out.kept h).cell 4 _ rfl, (HRY.out.kept h).cell 0 _ rfl, (HRY.out.kept h).cell 1 _ rfl, (HRY.out.kept h).cell 2 _ rfl, (HRY.out.kept h).cell 3 _ rfl, (HRY.out.kept h).cell 4 _ rfl⟩)
              go_wp2_with fail
              refine wp_region_held_drew (S := (fun w' => w'.cell? ⟨X, 0, none⟩ = some (.int .i64 1) ∧ w'.cell? ⟨X, 1, none⟩ = some (.int .i64 km) ∧ w'.cell? ⟨X, 2, none⟩ = some (.int .i64 kc) ∧ w'.cell? ⟨X, 3, none⟩ = some (.string kb) ∧ w'.cell? ⟨X, 4, none⟩ = some (.string ke) ∧ w'.cell? ⟨Y, 0, none⟩ = some (.int .i64 ql) ∧ w'.cell? ⟨Y, 1, none⟩ = some (.int .i64 qm) ∧ w'.cell? ⟨Y, 2, none⟩ = some (.int .i64 qc) ∧ w'.cell? ⟨Y, 3, none⟩ = some (.string qb) ∧ w'.cell? ⟨Y, 4, none⟩ = some (.string qe))) (by kernel_rfl) ?_ (fun hHeld => ?_)
              · refine HK.out _ ?_; (repeat (first | (with_reducible exact gr_rfl _) | (with_reducible refine gr_dr ?_) | (with_reducible refine gr_then ?_ hy) | (with_reducible refine gr_then ?_ hx)))
              refine wpAnyH_take (i := 0) (oi := _) (v := ?v59) rfl (by kernel_rfl) (by kernel_rfl) (by kernel_rfl) (fun _ _ _ h => h) (Or.inl ⟨by rfl, ?hy59⟩) (by assumption) ?rest59
              case hy59 => ((intro w hSw; (try dsimp only at hSw); go_simp); try (with_reducible rfl))
              ((try dsimp only [List.getElem_toArray, List.getElem_cons_succ, List.getElem_cons_zero]); try simp only [Act.put, List.setIfInBounds_toArray, List.set_cons_zero, List.set_cons_succ])
              refine wpAnyH_ready (rs := [1]) (by kernel_rfl) (by simp) ?_
              refine AllReadyH.cons (o := _) rfl (fun K hK => ?_) AllReadyH.nil
              go_simp
              go_at_call 43; (with_reducible refine (HNS.out _).mono ?_); rintro ey wy ⟨rfl, hy⟩
              refine hK.out _ _ ?_ (fun hHeld => ?_)
              · (try dsimp only); refine HK.out _ ?_; (repeat (first | (with_reducible exact gr_rfl _) | (with_reducible refine gr_dr ?_) | (with_reducible refine gr_then ?_ hy) | (with_reducible refine gr_then ?_ hx)))
              clear hK K
              ((try dsimp only [List.getElem_toArray, List.getElem_cons_succ, List.getElem_cons_zero]); try simp only [Act.put, List.setIfInBounds_toArray, List.set_cons_zero, List.set_cons_succ])
              refine wpAnyH_take (i := 2) (oi := _) (v := ?v60) rfl (by kernel_rfl) (by kernel_rfl) (by kernel_rfl) (fun _ _ _ h => h) (Or.inl ⟨by rfl, ?hy60⟩) (by assumption) ?rest60
              case hy60 => ((intro w hSw; (try dsimp only at hSw); go_simp); try (with_reducible rfl))
              ((try dsimp only [List.getElem_toArray, List.getElem_cons_succ, List.getElem_cons_zero]); try simp only [Act.put, List.setIfInBounds_toArray, List.set_cons_zero, List.set_cons_succ])
              refine wpAnyH_take (i := 3) (oi := _) (v := ?v61) rfl (by kernel_rfl) (by kernel_rfl) (by kernel_rfl) (fun _ _ _ h => h) (Or.inl ⟨by rfl, ?hy61⟩) (by assumption) ?rest61
              case hy61 => ((intro w hSw; (try dsimp only at hSw); go_simp); try (with_reducible rfl))
              ((try dsimp only [List.getElem_toArray, List.getElem_cons_succ, List.getElem_cons_zero]); try simp only [Act.put, List.setIfInBounds_toArray, List.set_cons_zero, List.set_cons_succ])
              refine wpAnyH_done (by kernel_rfl) ?_ _
              go_wp2_with fail
              go_meet
              exact ⟨rfl, HKN, HQN, HRX.out.kept (gr_then (gr_dr (gr_then (gr_dr (gr_rfl w8)) hx)) hy), HRY.out.kept (gr_then (gr_dr (gr_then (gr_dr (gr_rfl w8)) hx)) hy), HRA.out.kept (gr_then (gr_dr (gr_then (gr_dr (gr_rfl w8)) hx)) hy), HRB.out.kept (gr_then (gr_dr (gr_then (gr_dr (gr_rfl w8)) hx)) hy), HRZ.out.kept (gr_then (gr_dr (gr_then (gr_dr (gr_rfl w8)) hx)) hy), gr_then HGW.out (gr_then (gr_dr (gr_then (gr_dr (gr_rfl w8)) hx)) hy)⟩
            · have HK := Lib.hid (show ∀ w', w8.grownBy w' none → (w'.cell? ⟨X, 0, none⟩ = some (.int .i64 1) ∧ w'.cell? ⟨X, 1, none⟩ = some (.int .i64 km) ∧ w'.cell? ⟨X, 2, none⟩ = some (.int .i64 kc) ∧ w'.cell? ⟨X, 3, none⟩ = some (.string kb) ∧ w'.cell? ⟨X, 4, none⟩ = some (.string ke) ∧ w'.cell? ⟨Y, 0, none⟩ = some (.int .i64 1) ∧ w'.cell? ⟨Y, 1, none⟩ = some (.int .i64 qm) ∧ w'.cell? ⟨Y, 2, none⟩ = some (.int .i64 qc) ∧ w'.cell? ⟨Y, 3, none⟩ = some (.string qb) ∧ w'.cell? ⟨Y, 4, none⟩ = some (.string qe)) from fun w' h => ⟨(HRX.out.kept h).cell 0 _ rfl, (HRX.out.kept h).cell 1 _ rfl, (HRX.out.kept h).cell 2 _ rfl, (HRX.out.kept h).cell 3 _ rfl, (HRX.out.kept h).cell 4 _ rfl, (HRY.out.kept h).cell 0 _ rfl, (HRY.out.kept h).cell 1 _ rfl, (HRY.out.kept h).cell 2 _ rfl, (HRY.out.kept h).cell 3 _ rfl, (HRY.out.kept h).cell 4 _ rfl⟩)
              go_wp2_with fail
              refine wp_region_held_drew (S := (fun w' => w'.cell? ⟨X, 0, none⟩ = some (.int .i64 1) ∧ w'.cell? ⟨X, 1, none⟩ = some (.int .i64 km) ∧ w'.cell? ⟨X, 2, none⟩ = some (.int .i64 kc) ∧ w'.cell? ⟨X, 3, none⟩ = some (.string kb) ∧ w'.cell? ⟨X, 4, none⟩ = some (.string ke) ∧ w'.cell? ⟨Y, 0, none⟩ = some (.int .i64 1) ∧ w'.cell? ⟨Y, 1, none⟩ = some (.int .i64 qm) ∧ w'.cell? ⟨Y, 2, none⟩ = some (.int .i64 qc) ∧ w'.cell? ⟨Y, 3, none⟩ = some (.string qb) ∧ w'.cell? ⟨Y, 4, none⟩ = some (.string qe))) (by kernel_rfl) ?_ (fun hHeld => ?_)
              · refine HK.out _ ?_; (repeat (first | (with_reducible exact gr_rfl _) | (with_reducible refine gr_dr ?_) | (with_reducible refine gr_then ?_ hy) | (with_reducible refine gr_then ?_ hx)))
              refine wpAnyH_take (i := 0) (oi := _) (v := ?v62) rfl (by kernel_rfl) (by kernel_rfl) (by kernel_rfl) (fun _ _ _ h => h) (Or.inl ⟨by rfl, ?hy62⟩) (by assumption) ?rest62
              case hy62 => ((intro w hSw; (try dsimp only at hSw); go_simp); try (with_reducible rfl))
              ((try dsimp only [List.getElem_toArray, List.getElem_cons_succ, List.getElem_cons_zero]); try simp only [Act.put, List.setIfInBounds_toArray, List.set_cons_zero, List.set_cons_succ])
              refine wpAnyH_ready (rs := [1]) (by kernel_rfl) (by simp) ?_
              refine AllReadyH.cons (o := _) rfl (fun K hK => ?_) AllReadyH.nil
              go_simp
              go_at_call 43; (with_reducible refine (HNS.out _).mono ?_); rintro ey wy ⟨rfl, hy⟩
              refine hK.out _ _ ?_ (fun hHeld => ?_)
              · (try dsimp only); refine HK.out _ ?_; (repeat (first | (with_reducible exact gr_rfl _) | (with_reducible refine gr_dr ?_) | (with_reducible refine gr_then ?_ hy) | (with_reducible refine gr_then ?_ hx)))
              clear hK K
              ((try dsimp only [List.getElem_toArray, List.getElem_cons_succ, List.getElem_cons_zero]); try simp only [Act.put, List.setIfInBounds_toArray, List.set_cons_zero, List.set_cons_succ])
              refine wpAnyH_take (i := 2) (oi := _) (v := ?v63) rfl (by kernel_rfl) (by kernel_rfl) (by kernel_rfl) (fun _ _ _ h => h) (Or.inl ⟨by rfl, ?hy63⟩) (by assumption) ?rest63
              case hy63 => ((intro w hSw; (try dsimp only at hSw); go_simp); try (with_reducible rfl))
              ((try dsimp only [List.getElem_toArray, List.getElem_cons_succ, List.getElem_cons_zero]); try simp only [Act.put, List.setIfInBounds_toArray, List.set_cons_zero, List.set_cons_succ])
              refine wpAnyH_take (i := 3) (oi := _) (v := ?v64) rfl (by kernel_rfl) (by kernel_rfl) (by kernel_rfl) (fun _ _ _ h => h) (Or.inl ⟨by rfl, ?hy64⟩) (by assumption) ?rest64
              case hy64 => ((intro w hSw; (try dsimp only at hSw); go_simp); try (with_reducible rfl))
              ((try dsimp only [List.getElem_toArray, List.getElem_cons_succ, List.getElem_cons_zero]); try simp only [Act.put, List.setIfInBounds_toArray, List.set_cons_zero, List.set_cons_succ])
              refine wpAnyH_done (by kernel_rfl) ?_ _
              go_wp2_with fail
              go_meet
              exact ⟨rfl, HKN, HQN, HRX.out.kept (gr_then (gr_dr (gr_then (gr_dr (gr_rfl w8)) hx)) hy), HRY.out.kept (gr_then (gr_dr (gr_then (gr_dr (gr_rfl w8)) hx)) hy), HRA.out.kept (gr_then (gr_dr (gr_then (gr_dr (gr_rfl w8)) hx)) hy), HRB.out.kept (gr_then (gr_dr (gr_then (gr_dr (gr_rfl w8)) hx)) hy), HRZ.out.kept (gr_then (gr_dr (gr_then (gr_dr (gr_rfl w8)) hx)) hy), gr_then HGW.out (gr_then (gr_dr (gr_then (gr_dr (gr_rfl w8)) hx)) hy)⟩
end Go.Proofs.YtaejnklgnegkhaaGreatDoor
