/- Contracts of the program and of the reference, part 16: Smb, Sy, Smc, Spk. -/
import Derived.Test.YtaejnklgnegkhaaGreatDoorBBase15
import Derived.Deep.RegionHeld3
import Derived.Laws.Rows
import Derived.Laws.Tables
namespace Go.Proofs.YtaejnklgnegkhaaGreatDoor
open Go.RowKit Pt Sh

abbrev six (fs : List Int) : List Value := fs.map (Value.int .i64)
theorem six_at {fs : List Int} (h : fs.length = 6) : ∃ f0 f1 f2 f3 f4 f5, fs = [f0, f1, f2, f3, f4, f5] := by
  match fs, h with
  | [f0, f1, f2, f3, f4, f5], _ => exact ⟨f0, f1, f2, f3, f4, f5, rfl⟩
theorem row6_at {w : World} {b : Nat} {fs : List Int} {t : TypeId} (h : Row w b (six fs) t) {j : Nat} (hj : j < fs.length) : ∃ f, w.cell? ⟨b, j, none⟩ = some (.int .i64 f) :=
  ⟨fs[j], h.cell j _ (by rw [List.getElem?_map, List.getElem?_eq_getElem hj]; rfl)⟩
theorem row6_set {w : World} {b : Nat} {fs : List Int} {t : TypeId} (h : Row w b (six fs) t) (j : Nat) (x : Int) : Row (w.setCell ⟨b, j, none⟩ (.int .i64 x)) b (six (fs.set j x)) t := by
  have := h.set j (.int .i64 x)
  rwa [← List.map_set] at this
theorem i64_wrap (n : Int) : I64 (IntKind.i64.wrap n) := by
  rw [IntKind.wrap_i64]
  exact ⟨by omega, by omega⟩
theorem cb_i64 (l : List UInt8) : I64 (cbI l) := by
  rcases List.eq_nil_or_concat l with rfl | ⟨l', x, rfl⟩
  · exact ⟨by decide, by decide⟩
  · unfold cbI
    rw [List.concat_eq_append, List.foldl_append]
    exact i64_wrap _
theorem of_good {s : ByteArray} (h : s.size ≤ 20) : GoodS (ofD s) := by
  unfold ofD
  split
  · exact ⟨⟨by (try simp only); omega, by (try simp only); omega⟩, ⟨by (try simp only); omega, by (try simp only); omega⟩, cb_i64 _, h, h⟩
  · exact ⟨⟨by decide, by decide⟩, ⟨by decide, by decide⟩, ⟨by decide, by decide⟩, Nat.zero_le _, Nat.zero_le _⟩
theorem rofS_any (s : ByteArray) (w : World) (h : s.size ≤ 20) : Calls Tryz.prog 18 #[.string s] w (SomeS w) :=
  (rof_any s w (by omega)).mono fun _ _ hh => ⟨_, of_good h, hh.1, hh.2⟩
set_option maxRecDepth 100000 in
set_option maxHeartbeats 8000000 in
theorem rmade_any (v : Value) (w : World) (hv : IntsA w v) : Calls Tryz.prog 36 #[v] w (SomeS w) := by
  obtain ⟨a0, n, c, rfl, hF⟩ := hv
  have HF := Lib.hid hF
  have hn : n ≤ 9223372036854775807 := by
    rcases hF with rfl | ⟨_, _, _, _, _, h, _⟩
    · omega
    · exact h
  have RZ0 := (Row.new w [.int .i64 0, .int .i64 0, .int .i64 0, .string ⟨#[]⟩, .string ⟨#[]⟩] 24).al (o := .cells #[.int .i64 0, .int .i64 0, .int .i64 0, .int .i64 0, .int .i64 0, .int .i64 0] 83)
  have RQ0 := Row.new (w.alloc (.cells #[.int .i64 0, .int .i64 0, .int .i64 0, .string ⟨#[]⟩, .string ⟨#[]⟩] 24)) (six [0, 0, 0, 0, 0, 0]) 83
  rw [World.size_alloc] at RQ0
  simp only [List.toArray, six, List.map_cons, List.map_nil] at RZ0 RQ0
  have HRZ0 := Lib.hid RZ0
  have HRQ0 := Lib.hid RQ0
  clear hF RZ0 RQ0
  go_enter Tryz.func36, Tryz.ntmps36
  go_upto_block 0 with (fail)
  go_cut [4] from 7 to 22 (fun _ wx => ∃ fs : List Int, Hid (fs.length = 6 ∧ ∀ f ∈ fs, I64 f) ∧ Row wx (w.heap.size + 1) (six fs) 83 ∧ Row wx w.heap.size zero5 24 ∧ w.grownBy wx none)
  case first =>
    go_wp2_with fail
    go_loopw [4] (fun i wr => ∃ (j : Nat) (fs : List Int), i = .int .i64 (j : Int) ∧ j ≤ 6 ∧ fs.length = 6 ∧ Hid (∀ f ∈ fs, I64 f) ∧ Hid (Row wr (w.heap.size + 1) (six fs) 83) ∧ Hid (Row wr w.heap.size zero5 24) ∧ Hid (w.grownBy wr none)) (fun i _ => 7 - (intOf i).toNat)
    case atStart => exact ⟨0, [0, 0, 0, 0, 0, 0], rfl, by omega, rfl, Lib.hid (fun f hf => by simp at hf; rw [hf]; exact ⟨by omega, by omega⟩), HRQ0, HRZ0, Lib.hid (gr_then (gr_alloc _ _ _) (gr_alloc _ _ _))⟩
    case round =>
      obtain ⟨j, fs, rfl, hj, hfl, HI, RQ, RZ, G⟩ := hrel
      by_cases hc : j < 6 ∧ j < n
      · obtain ⟨h1, h2⟩ := hc
        have h1i : (j : Int) < 6 := by omega
        have h2i : (j : Int) < (n : Int) := by omega
        obtain ⟨g, o, F, rfl, hb, _, hFF⟩ : ∃ (g o : Nat) (F : Nat → Int), a0 = some ⟨g, o, none⟩ ∧ g < w.heap.size ∧ n ≤ 9223372036854775807 ∧ ∀ i, i < n → w.cell? ⟨g, o + i, none⟩ = some (.int .i64 (F i)) ∧ I64 (F i) := by
          rcases HF.out with h | h
          · omega
          · exact h
        have c0 := G.out.cell (hFF j h2).1 (by simp)
        have HX := Lib.hid (hFF j h2).2
        clear hFF
        generalize F j = x at *
        obtain ⟨y, cq⟩ := row6_at RQ.out (j := j) (by omega)
        have fq := RQ.out.fr j
        have HRQ := Lib.hid (row6_set RQ.out j x)
        have HRZ := Lib.hid (RZ.out.other (b' := w.heap.size + 1) (i := j) (v := .int .i64 x) (by omega))
        have HG := Lib.hid (gr_setn (i := j) (v := .int .i64 x) G.out (g := w.heap.size + 1) (by omega))
        have HI2 := Lib.hid (show ∀ f ∈ fs.set j x, I64 f from fun f hf => by
          rcases List.mem_or_eq_of_mem_set hf with h | rfl
          · exact HI.out f h
          · exact HX.out)
        go_wp2
        exact ⟨⟨j + 1, fs.set j x, by simp, by omega, by rw [List.length_set]; exact hfl, HI2, HRQ, HRZ, HG⟩, by simp only [intOf]; omega⟩
      · have HFIN := Lib.hid (And.intro hfl HI.out)
        by_cases h1 : j < 6
        · have h1i : (j : Int) < 6 := by omega
          have h2i : decide ((j : Int) < (n : Int)) = false := decide_eq_false (by omega)
          have h2n : decide (j < n) = false := decide_eq_false (by omega)
          clear hc
          go_wp2
          go_meet
          exact ⟨fs, HFIN, RQ.out, RZ.out, G.out⟩
        · have h1i : ¬ (j : Int) < 6 := by omega
          clear hc
          go_wp2
          go_meet
          exact ⟨fs, HFIN, RQ.out, RZ.out, G.out⟩
  case rest =>
    obtain ⟨fs, HFS, RQ, RZ, G⟩ := hcut
    clear HRZ0 HRQ0 HF hn
    obtain ⟨f0, f1, f2, f3, f4, f5, rfl⟩ := six_at HFS.out.1
    simp only [six, List.map_cons, List.map_nil] at RQ
    have i0 := HFS.out.2 f0 (by simp)
    have i1 := HFS.out.2 f1 (by simp)
    have i2 := HFS.out.2 f2 (by simp)
    have i3 := HFS.out.2 f3 (by simp)
    have i4 := HFS.out.2 f4 (by simp)
    have i5 := HFS.out.2 f5 (by simp)
    have M0 := Lib.hid (fun w => rmod_any f0 5 w (by decide) (by decide) i0.1 i0.2)
    have M1 := Lib.hid (fun w => rmod_any f1 6 w (by decide) (by decide) i1.1 i1.2)
    have M5 := Lib.hid (fun w => rmod_any f5 7 w (by decide) (by decide) i5.1 i5.2)
    have N0 := Lib.hid (fun w => rmod_any f0 210 w (by decide) (by decide) i0.1 i0.2)
    have N1 := Lib.hid (fun w => rmod_any f1 210 w (by decide) (by decide) i1.1 i1.2)
    have N2 := Lib.hid (fun w => rmod_any f2 128 w (by decide) (by decide) i2.1 i2.2)
    have K3 := Lib.hid (fun w => rmod_any f2 3 w (by decide) (by decide) i2.1 i2.2)
    have K5 := Lib.hid (fun w => rmod_any f2 5 w (by decide) (by decide) i2.1 i2.2)
    have W3 := Lib.hid (fun w => word_any f3 w i3)
    have W4 := Lib.hid (fun w => word_any f4 w i4)
    have b0 := mod_le (z := f0) (show (0 : Int) < 5 by decide)
    have b1 := mod_le (z := f1) (show (0 : Int) < 6 by decide)
    have b5 := mod_le (z := f5) (show (0 : Int) < 7 by decide)
    have d0 := mod_le (z := f0) (show (0 : Int) < 210 by decide)
    have d1 := mod_le (z := f1) (show (0 : Int) < 210 by decide)
    have d2 := mod_le (z := f2) (show (0 : Int) < 128 by decide)
    generalize f0 % 5 = m0 at *
    generalize f1 % 6 = m1 at *
    generalize f5 % 7 = m5 at *
    generalize f0 % 210 = n0 at *
    generalize f1 % 210 = n1 at *
    generalize f2 % 128 = n2 at *
    generalize f2 % 3 = k3 at *
    generalize f2 % 5 = k5 at *
    have HI2 := Lib.hid i2
    clear i0 i1 i2 i3 i4 i5 HFS
    obtain ⟨wa, hwa⟩ : ∃ wa, wc = wa := ⟨_, rfl⟩
    rw [hwa] at RQ RZ G ⊢
    clear hwa
    obtain ⟨X, hX⟩ : ∃ X, wa.heap.size = X := ⟨_, rfl⟩
    have hXB : w.heap.size + 1 < X := by rw [← hX]; exact RQ.lt
    have HRQ := Lib.hid RQ
    have HRZ := Lib.hid RZ
    have HG := Lib.hid G
    have q0 := RQ.cell 0 _ rfl
    clear RQ RZ G
    go_wp2_with fail
    refine (M0.out _).mono ?_
    rintro e w1 ⟨rfl, rfl⟩
    obtain ⟨s, hs⟩ : ∃ s : Int, m0 + m1 = s := ⟨_, rfl⟩
    have hw1 : IntKind.i64.wrap (m0 + m1) = s := (IntWalk.i64_in _ (by omega)).trans hs
    have hsb : 0 ≤ s ∧ s ≤ 20 := by omega
    obtain ⟨wb, hwb⟩ : ∃ wb, wa.alloc (.cells #[.int .i64 m0, .int .i64 0, .int .i64 110, .string ⟨#[]⟩, .string ⟨#[]⟩] 24) = wb := ⟨_, rfl⟩
    have HWB := Lib.hid hwb
    have gb : wa.grownBy wb none := by rw [← hwb]; exact gr_alloc _ _ _
    have RX : Row wb X [.int .i64 m0, .int .i64 0, .int .i64 110, .string ⟨#[]⟩, .string ⟨#[]⟩] 24 := by rw [← hwb]; exact Row.at5 hX
    have HRX := Lib.hid RX
    have HRQb := Lib.hid (HRQ.out.kept gb)
    have HRZb := Lib.hid (HRZ.out.kept gb)
    have HGb := Lib.hid (gr_then HG.out gb)
    have HX := Lib.hid hX
    have x1 := RX.cell 1 _ rfl
    have xf1 := RX.fr 1
    clear gb RX hwb q0 hs
    go_wp2_with fail
    rw [HWB.out]
    clear hX
    have HK := Lib.hid (show ∀ w', wb.grownBy w' none → (w'.cell? ⟨X, 0, none⟩ = some (.int .i64 m0) ∧ w'.cell? ⟨w.heap.size + 1, 1, none⟩ = some (.int .i64 f1)) from fun w' h => ⟨(HRX.out.kept h).cell 0 _ rfl, (HRQb.out.kept h).cell 1 _ rfl⟩)
    have hqx : w.heap.size + 1 ≠ X := by omega
    have HKF := Lib.hid (show ((wb.setCell ⟨X, 1, none⟩ (.int .i64 s)).drew.cell? ⟨X, 0, none⟩ = some (.int .i64 m0) ∧ (wb.setCell ⟨X, 1, none⟩ (.int .i64 s)).drew.cell? ⟨w.heap.size + 1, 1, none⟩ = some (.int .i64 f1)) from
      ⟨(HRX.out.set 1 (.int .i64 s)).dr.cell 0 _ rfl, (HRQb.out.other hqx).dr.cell 1 _ rfl⟩)
    refine wp_region_held_drew (S := (fun w' => w'.cell? ⟨X, 0, none⟩ = some (.int .i64 m0) ∧ w'.cell? ⟨w.heap.size + 1, 1, none⟩ = some (.int .i64 f1))) (by kernel_rfl) ?_ (fun hHeld => ?_)
    · first | ((refine HK.out _ ?_; (repeat (first | (with_reducible refine gr_dr ?_) | (with_reducible exact gr_rfl _)))); done) | exact HKF.out
    refine wpAnyH_take (i := 0) (oi := _) (v := ?v1) rfl (by kernel_rfl) (by kernel_rfl) (by kernel_rfl) (fun _ _ _ h => h) (Or.inl ⟨by rfl, ?hy1⟩) (by assumption) ?rest1
    case hy1 => ((intro w hSw; (try dsimp only at hSw); go_simp); try (with_reducible rfl))
    ((try dsimp only [List.getElem_toArray, List.getElem_cons_succ, List.getElem_cons_zero]); try simp only [Act.put, List.setIfInBounds_toArray, List.set_cons_zero, List.set_cons_succ])
    refine wpAnyH_take (i := 1) (oi := _) (v := ?v2) rfl (by kernel_rfl) (by kernel_rfl) (by kernel_rfl) (fun _ _ _ h => h) (Or.inl ⟨by rfl, ?hy2⟩) (by assumption) ?rest2
    case hy2 => ((intro w hSw; (try dsimp only at hSw); go_simp); try (with_reducible rfl))
    ((try dsimp only [List.getElem_toArray, List.getElem_cons_succ, List.getElem_cons_zero]); try simp only [Act.put, List.setIfInBounds_toArray, List.set_cons_zero, List.set_cons_succ])
    refine wpAnyH_take (i := 2) (oi := _) (v := ?v3) rfl (by kernel_rfl) (by kernel_rfl) (by kernel_rfl) (fun _ _ _ h => h) (Or.inl ⟨by rfl, ?hy3⟩) (by assumption) ?rest3
    case hy3 => ((intro w hSw; (try dsimp only at hSw); go_simp); try (with_reducible rfl))
    ((try dsimp only [List.getElem_toArray, List.getElem_cons_succ, List.getElem_cons_zero]); try simp only [Act.put, List.setIfInBounds_toArray, List.set_cons_zero, List.set_cons_succ])
    refine wpAnyH_take (i := 3) (oi := _) (v := ?v4) rfl (by kernel_rfl) (by kernel_rfl) (by kernel_rfl) (fun _ _ _ h => h) (Or.inl ⟨by rfl, ?hy4⟩) (by assumption) ?rest4
    case hy4 => ((intro w hSw; (try dsimp only at hSw); go_simp); try (with_reducible rfl))
    ((try dsimp only [List.getElem_toArray, List.getElem_cons_succ, List.getElem_cons_zero]); try simp only [Act.put, List.setIfInBounds_toArray, List.set_cons_zero, List.set_cons_succ])
    refine wpAnyH_ready (rs := [4]) (by kernel_rfl) (by simp) ?_
    refine AllReadyH.cons (o := _) rfl (fun K hK => ?_) AllReadyH.nil
    go_simp
    go_at_call 40; (with_reducible refine (M1.out _).mono ?_); rintro e2 w2 ⟨rfl, rfl⟩
    refine hK.out _ _ ?_ (fun hHeld => ?_)
    · (try dsimp only); first | ((refine HK.out _ ?_; (repeat (first | (with_reducible refine gr_dr ?_) | (with_reducible exact gr_rfl _)))); done) | exact HKF.out
    clear hK K
    ((try dsimp only [List.getElem_toArray, List.getElem_cons_succ, List.getElem_cons_zero]); try simp only [Act.put, List.setIfInBounds_toArray, List.set_cons_zero, List.set_cons_succ])
    refine wpAnyH_take (i := 5) (oi := _) (v := ?v5) rfl (by kernel_rfl) (by kernel_rfl) (by kernel_rfl) (fun _ _ _ h => h) (Or.inl ⟨by rfl, ?hy5⟩) (by assumption) ?rest5
    case hy5 => ((intro w hSw; (try dsimp only at hSw); go_simp); try (with_reducible rfl))
    ((try dsimp only [List.getElem_toArray, List.getElem_cons_succ, List.getElem_cons_zero]); try simp only [Act.put, List.setIfInBounds_toArray, List.set_cons_zero, List.set_cons_succ])
    refine wpAnyH_take (i := 6) (oi := _) (v := ?v6) rfl (by kernel_rfl) (by kernel_rfl) (by kernel_rfl) (fun _ _ _ h => h) (Or.inl ⟨by rfl, ?hy6⟩) (by assumption) ?rest6
    case hy6 => ((intro w hSw; (try dsimp only at hSw); go_simp); try (with_reducible rfl))
    ((try dsimp only [List.getElem_toArray, List.getElem_cons_succ, List.getElem_cons_zero]); try simp only [Act.put, List.setIfInBounds_toArray, List.set_cons_zero, List.set_cons_succ])
    refine wpAnyH_ready (rs := [7]) (by kernel_rfl) (by simp) ?_
    refine AllReadyH.cons (o := _) rfl (fun K hK => ?_) AllReadyH.nil
    go_simp
    refine hK.out _ _ ?_ (fun hHeld => ?_)
    · (try dsimp only); first | ((refine HK.out _ ?_; (repeat (first | (with_reducible refine gr_dr ?_) | (with_reducible exact gr_rfl _)))); done) | exact HKF.out
    clear hK K
    ((try dsimp only [List.getElem_toArray, List.getElem_cons_succ, List.getElem_cons_zero]); try simp only [Act.put, List.setIfInBounds_toArray, List.set_cons_zero, List.set_cons_succ])
    refine wpAnyH_done (by kernel_rfl) ?_ _
    have HRX2 := Lib.hid ((HRX.out.set 1 (.int .i64 s)).dr)
    have HRQ2 := Lib.hid ((HRQb.out.other (b' := X) (i := 1) (v := .int .i64 s) (by omega)).dr)
    have HRZ2 := Lib.hid ((HRZb.out.other (b' := X) (i := 1) (v := .int .i64 s) (by omega)).dr)
    have HG2 := Lib.hid (gr_dr (gr_setn (i := 1) (v := .int .i64 s) HGb.out (g := X) (by omega)))
    obtain ⟨wd, hwd⟩ : ∃ wd, (wb.setCell ⟨X, 1, none⟩ (.int .i64 s)).drew = wd := ⟨_, rfl⟩
    rw [hwd] at HRX2 HRQ2 HRZ2 HG2 ⊢
    clear hwd x1 xf1 HRX HRQb HRZb HGb HRQ HRZ HG HK HKF HWB
    have q5 := HRQ2.out.cell 5 _ rfl
    go_wp2_with fail
    refine (M5.out _).mono ?_
    rintro e w1 ⟨rfl, rfl⟩
    clear q5
    go_upto_block 2 with (fail)
    go_cut [5] from 37 to 72 (fun p wx => ∃ a : S5, p = .pointer (some ⟨X, 0, none⟩) ∧ Hid (GoodS a) ∧ Row wx X (five a) 24 ∧ Row wx (w.heap.size + 1) [.int .i64 f0, .int .i64 f1, .int .i64 f2, .int .i64 f3, .int .i64 f4, .int .i64 f5] 83 ∧ Row wx w.heap.size zero5 24 ∧ w.grownBy wx none)
    case first =>
      clear K3 K5
      have xf0 := HRX2.out.fr 0
      have xf1 := HRX2.out.fr 1
      have xf2 := HRX2.out.fr 2
      have x0 := HRX2.out.cell 0 _ rfl
      have x1 := HRX2.out.cell 1 _ rfl
      have x2 := HRX2.out.cell 2 _ rfl
      have q0 := HRQ2.out.cell 0 _ rfl
      have q1 := HRQ2.out.cell 1 _ rfl
      have q2 := HRQ2.out.cell 2 _ rfl
      have HI2' := HI2.out
      have hm0 : I64 m0 := ⟨by omega, by omega⟩
      have hs0 : I64 s := ⟨by omega, by omega⟩
      rcases (show m5 = 1 ∨ m5 = 2 ∨ m5 = 3 ∨ m5 = 4 ∨ m5 = 5 ∨ (m5 = 0 ∨ m5 = 6) by omega) with rfl | rfl | rfl | rfl | rfl | h06
      · go_wp2_with fail
        go_meet
        exact ⟨⟨m0, s, f2, ⟨#[]⟩, ⟨#[]⟩⟩, rfl, Lib.hid ⟨by first | assumption | exact ⟨by (try simp only); omega, by (try simp only); omega⟩, by first | assumption | exact ⟨by (try simp only); omega, by (try simp only); omega⟩, by first | assumption | exact ⟨by (try simp only); omega, by (try simp only); omega⟩, Nat.zero_le _, Nat.zero_le _⟩, (HRX2.out.set 2 (.int .i64 f2)), (HRQ2.out.other (b' := X) (i := 2) (v := .int .i64 f2) (by omega)), (HRZ2.out.other (b' := X) (i := 2) (v := .int .i64 f2) (by omega)), (gr_setn (i := 2) (v := .int .i64 f2) HG2.out (g := X) (by omega))⟩
      · go_wp2_with fail
        go_meet
        exact ⟨⟨m0, 200, 110, ⟨#[]⟩, ⟨#[]⟩⟩, rfl, Lib.hid ⟨by first | assumption | exact ⟨by (try simp only); omega, by (try simp only); omega⟩, by first | assumption | exact ⟨by (try simp only); omega, by (try simp only); omega⟩, by first | assumption | exact ⟨by (try simp only); omega, by (try simp only); omega⟩, Nat.zero_le _, Nat.zero_le _⟩, (HRX2.out.set 1 (.int .i64 200)), (HRQ2.out.other (b' := X) (i := 1) (v := .int .i64 200) (by omega)), (HRZ2.out.other (b' := X) (i := 1) (v := .int .i64 200) (by omega)), (gr_setn (i := 1) (v := .int .i64 200) HG2.out (g := X) (by omega))⟩
      · have hn0 : -3 ≤ n0 - 3 ∧ n0 - 3 ≤ 210 := by omega
        have hn1 : -3 ≤ n1 - 3 ∧ n1 - 3 ≤ 210 := by omega
        have HX3 := Lib.hid (HRX2.out.set 0 (.int .i64 (n0 - 3)))
        have HQ3 := Lib.hid (HRQ2.out.other (b' := X) (i := 0) (v := .int .i64 (n0 - 3)) (by omega))
        have y1 := HX3.out.cell 1 _ rfl
        have yf1 := HX3.out.fr 1
        have p1 := HQ3.out.cell 1 _ rfl
        go_wp2_with fail
        refine (N0.out _).mono ?_
        rintro e w1 ⟨rfl, rfl⟩
        go_wp2_with fail
        refine (N1.out _).mono ?_
        rintro e w1 ⟨rfl, rfl⟩
        go_wp2_with fail
        go_meet
        exact ⟨⟨n0 - 3, n1 - 3, 110, ⟨#[]⟩, ⟨#[]⟩⟩, rfl, Lib.hid ⟨by first | assumption | exact ⟨by (try simp only); omega, by (try simp only); omega⟩, by first | assumption | exact ⟨by (try simp only); omega, by (try simp only); omega⟩, by first | assumption | exact ⟨by (try simp only); omega, by (try simp only); omega⟩, Nat.zero_le _, Nat.zero_le _⟩, ((HRX2.out.set 0 (.int .i64 (n0 - 3))).set 1 (.int .i64 (n1 - 3))), ((HRQ2.out.other (b' := X) (i := 0) (v := .int .i64 (n0 - 3)) (by omega)).other (b' := X) (i := 1) (v := .int .i64 (n1 - 3)) (by omega)), ((HRZ2.out.other (b' := X) (i := 0) (v := .int .i64 (n0 - 3)) (by omega)).other (b' := X) (i := 1) (v := .int .i64 (n1 - 3)) (by omega)), (gr_setn (i := 1) (v := .int .i64 (n1 - 3)) (gr_setn (i := 0) (v := .int .i64 (n0 - 3)) HG2.out (g := X) (by omega)) (g := X) (by omega))⟩
      · clear x0 x1 x2 xf0 xf1 xf2 q0 q1 q2
        have HK := Lib.hid (show ∀ w', wd.grownBy w' none → (w'.cell? ⟨w.heap.size + 1, 3, none⟩ = some (.int .i64 f3) ∧ w'.cell? ⟨w.heap.size + 1, 4, none⟩ = some (.int .i64 f4)) from fun w' h => ⟨(HRQ2.out.kept h).cell 3 _ rfl, (HRQ2.out.kept h).cell 4 _ rfl⟩)
        go_wp2_with fail
        refine wp_region_held_drew (S := (fun w' => w'.cell? ⟨w.heap.size + 1, 3, none⟩ = some (.int .i64 f3) ∧ w'.cell? ⟨w.heap.size + 1, 4, none⟩ = some (.int .i64 f4))) (by kernel_rfl) ?_ (fun hHeld => ?_)
        · first | ((refine HK.out _ ?_; (repeat (first | (with_reducible refine gr_dr ?_) | (with_reducible refine gr_then ?_ h3) | (with_reducible refine gr_then ?_ h2) | (with_reducible refine gr_then ?_ h1) | (with_reducible exact gr_rfl _)))); done) | exact ⟨((HRQ2.out.kept (gr_then (gr_then (gr_then (gr_dr (gr_rfl wd)) h1) h2) h3)).keep5 (by omega)).cell 3 _ rfl, ((HRQ2.out.kept (gr_then (gr_then (gr_then (gr_dr (gr_rfl wd)) h1) h2) h3)).keep5 (by omega)).cell 4 _ rfl⟩
        refine wpAnyH_take (i := 0) (oi := _) (v := ?v7) rfl (by kernel_rfl) (by kernel_rfl) (by kernel_rfl) (fun _ _ _ h => h) (Or.inl ⟨by rfl, ?hy7⟩) (by assumption) ?rest7
        case hy7 => ((intro w hSw; (try dsimp only at hSw); go_simp); try (with_reducible rfl))
        ((try dsimp only [List.getElem_toArray, List.getElem_cons_succ, List.getElem_cons_zero]); try simp only [Act.put, List.setIfInBounds_toArray, List.set_cons_zero, List.set_cons_succ])
        refine wpAnyH_take (i := 1) (oi := _) (v := ?v8) rfl (by kernel_rfl) (by kernel_rfl) (by kernel_rfl) (fun _ _ _ h => h) (Or.inl ⟨by rfl, ?hy8⟩) (by assumption) ?rest8
        case hy8 => ((intro w hSw; (try dsimp only at hSw); go_simp); try (with_reducible rfl))
        ((try dsimp only [List.getElem_toArray, List.getElem_cons_succ, List.getElem_cons_zero]); try simp only [Act.put, List.setIfInBounds_toArray, List.set_cons_zero, List.set_cons_succ])
        refine wpAnyH_take (i := 3) (oi := _) (v := ?v9) rfl (by kernel_rfl) (by kernel_rfl) (by kernel_rfl) (fun _ _ _ h => h) (Or.inl ⟨by rfl, ?hy9⟩) (by assumption) ?rest9
        case hy9 => ((intro w hSw; (try dsimp only at hSw); go_simp); try (with_reducible rfl))
        ((try dsimp only [List.getElem_toArray, List.getElem_cons_succ, List.getElem_cons_zero]); try simp only [Act.put, List.setIfInBounds_toArray, List.set_cons_zero, List.set_cons_succ])
        refine wpAnyH_take (i := 4) (oi := _) (v := ?v10) rfl (by kernel_rfl) (by kernel_rfl) (by kernel_rfl) (fun _ _ _ h => h) (Or.inl ⟨by rfl, ?hy10⟩) (by assumption) ?rest10
        case hy10 => ((intro w hSw; (try dsimp only at hSw); go_simp); try (with_reducible rfl))
        ((try dsimp only [List.getElem_toArray, List.getElem_cons_succ, List.getElem_cons_zero]); try simp only [Act.put, List.setIfInBounds_toArray, List.set_cons_zero, List.set_cons_succ])
        refine wpAnyH_ready (rs := [2]) (by kernel_rfl) (by simp) ?_
        refine AllReadyH.cons (o := _) rfl (fun K hK => ?_) AllReadyH.nil
        go_simp
        go_at_call 73; (with_reducible refine (W3.out _).mono ?_); rintro e1 w1 ⟨s3, hs3, rfl, h1⟩
        refine hK.out _ _ ?_ (fun hHeld => ?_)
        · (try dsimp only); first | ((refine HK.out _ ?_; (repeat (first | (with_reducible refine gr_dr ?_) | (with_reducible refine gr_then ?_ h3) | (with_reducible refine gr_then ?_ h2) | (with_reducible refine gr_then ?_ h1) | (with_reducible exact gr_rfl _)))); done) | exact ⟨((HRQ2.out.kept (gr_then (gr_then (gr_then (gr_dr (gr_rfl wd)) h1) h2) h3)).keep5 (by omega)).cell 3 _ rfl, ((HRQ2.out.kept (gr_then (gr_then (gr_then (gr_dr (gr_rfl wd)) h1) h2) h3)).keep5 (by omega)).cell 4 _ rfl⟩
        clear hK K
        ((try dsimp only [List.getElem_toArray, List.getElem_cons_succ, List.getElem_cons_zero]); try simp only [Act.put, List.setIfInBounds_toArray, List.set_cons_zero, List.set_cons_succ])
        refine wpAnyH_ready (rs := [5]) (by kernel_rfl) (by simp) ?_
        refine AllReadyH.cons (o := _) rfl (fun K hK => ?_) AllReadyH.nil
        go_simp
        go_at_call 73; (with_reducible refine (W4.out _).mono ?_); rintro e2 w2 ⟨s4, hs4, rfl, h2⟩; have hb1 : ¬ (9223372036854775807 : Int) < (s3.size : Int) + (s4.size : Int) := (by omega); have hb2 : ¬ 9223372036854775807 < s3.size + s4.size := (by omega); have hb3 : (s3 ++ s4).size ≤ 20 := (by rw [ByteArray.size_append]; omega)
        refine hK.out _ _ ?_ (fun hHeld => ?_)
        · (try dsimp only); first | ((refine HK.out _ ?_; (repeat (first | (with_reducible refine gr_dr ?_) | (with_reducible refine gr_then ?_ h3) | (with_reducible refine gr_then ?_ h2) | (with_reducible refine gr_then ?_ h1) | (with_reducible exact gr_rfl _)))); done) | exact ⟨((HRQ2.out.kept (gr_then (gr_then (gr_then (gr_dr (gr_rfl wd)) h1) h2) h3)).keep5 (by omega)).cell 3 _ rfl, ((HRQ2.out.kept (gr_then (gr_then (gr_then (gr_dr (gr_rfl wd)) h1) h2) h3)).keep5 (by omega)).cell 4 _ rfl⟩
        clear hK K
        ((try dsimp only [List.getElem_toArray, List.getElem_cons_succ, List.getElem_cons_zero]); try simp only [Act.put, List.setIfInBounds_toArray, List.set_cons_zero, List.set_cons_succ])
        refine wpAnyH_take (i := 6) (oi := _) (v := ?v11) rfl (by kernel_rfl) (by kernel_rfl) (by kernel_rfl) (fun _ _ _ h => h) (Or.inl ⟨by rfl, ?hy11⟩) (by assumption) ?rest11
        case hy11 => ((intro w hSw; (try dsimp only at hSw); go_simp); try (with_reducible rfl))
        ((try dsimp only [List.getElem_toArray, List.getElem_cons_succ, List.getElem_cons_zero]); try simp only [Act.put, List.setIfInBounds_toArray, List.set_cons_zero, List.set_cons_succ])
        refine wpAnyH_ready (rs := [7]) (by kernel_rfl) (by simp) ?_
        refine AllReadyH.cons (o := _) rfl (fun K hK => ?_) AllReadyH.nil
        go_simp
        go_at_call 18; (with_reducible refine (rofS_any _ _ hb3).mono ?_); rintro e3 w3 ⟨⟨al, am, ac, ab, ae⟩, hga, rfl, h3⟩; have HGA := Lib.hid hga; clear hga; have zf0 := (HRZ2.out.kept (gr_then (gr_then (gr_then (gr_dr (gr_rfl wd)) h1) h2) h3)).fr 0; have zc0 := (HRZ2.out.kept (gr_then (gr_then (gr_then (gr_dr (gr_rfl wd)) h1) h2) h3)).cell 0 _ rfl; have zf1 := (HRZ2.out.kept (gr_then (gr_then (gr_then (gr_dr (gr_rfl wd)) h1) h2) h3)).fr 1; have zc1 := (HRZ2.out.kept (gr_then (gr_then (gr_then (gr_dr (gr_rfl wd)) h1) h2) h3)).cell 1 _ rfl; have zf2 := (HRZ2.out.kept (gr_then (gr_then (gr_then (gr_dr (gr_rfl wd)) h1) h2) h3)).fr 2; have zc2 := (HRZ2.out.kept (gr_then (gr_then (gr_then (gr_dr (gr_rfl wd)) h1) h2) h3)).cell 2 _ rfl; have zf3 := (HRZ2.out.kept (gr_then (gr_then (gr_then (gr_dr (gr_rfl wd)) h1) h2) h3)).fr 3; have zc3 := (HRZ2.out.kept (gr_then (gr_then (gr_then (gr_dr (gr_rfl wd)) h1) h2) h3)).cell 3 _ rfl; have zf4 := (HRZ2.out.kept (gr_then (gr_then (gr_then (gr_dr (gr_rfl wd)) h1) h2) h3)).fr 4; have zc4 := (HRZ2.out.kept (gr_then (gr_then (gr_then (gr_dr (gr_rfl wd)) h1) h2) h3)).cell 4 _ rfl
        refine hK.out _ _ ?_ (fun hHeld => ?_)
        · (try dsimp only); first | ((refine HK.out _ ?_; (repeat (first | (with_reducible refine gr_dr ?_) | (with_reducible refine gr_then ?_ h3) | (with_reducible refine gr_then ?_ h2) | (with_reducible refine gr_then ?_ h1) | (with_reducible exact gr_rfl _)))); done) | exact ⟨((HRQ2.out.kept (gr_then (gr_then (gr_then (gr_dr (gr_rfl wd)) h1) h2) h3)).keep5 (by omega)).cell 3 _ rfl, ((HRQ2.out.kept (gr_then (gr_then (gr_then (gr_dr (gr_rfl wd)) h1) h2) h3)).keep5 (by omega)).cell 4 _ rfl⟩
        clear hK K
        ((try dsimp only [List.getElem_toArray, List.getElem_cons_succ, List.getElem_cons_zero]); try simp only [Act.put, List.setIfInBounds_toArray, List.set_cons_zero, List.set_cons_succ])
        refine wpAnyH_ready (rs := [8]) (by kernel_rfl) (by simp) ?_
        refine AllReadyH.cons (o := _) rfl (fun K hK => ?_) AllReadyH.nil
        go_simp
        refine hK.out _ _ ?_ (fun hHeld => ?_)
        · (try dsimp only); first | ((refine HK.out _ ?_; (repeat (first | (with_reducible refine gr_dr ?_) | (with_reducible refine gr_then ?_ h3) | (with_reducible refine gr_then ?_ h2) | (with_reducible refine gr_then ?_ h1) | (with_reducible exact gr_rfl _)))); done) | exact ⟨((HRQ2.out.kept (gr_then (gr_then (gr_then (gr_dr (gr_rfl wd)) h1) h2) h3)).keep5 (by omega)).cell 3 _ rfl, ((HRQ2.out.kept (gr_then (gr_then (gr_then (gr_dr (gr_rfl wd)) h1) h2) h3)).keep5 (by omega)).cell 4 _ rfl⟩
        clear hK K
        ((try dsimp only [List.getElem_toArray, List.getElem_cons_succ, List.getElem_cons_zero]); try simp only [Act.put, List.setIfInBounds_toArray, List.set_cons_zero, List.set_cons_succ])
        refine wpAnyH_done (by kernel_rfl) ?_ _
        have HZ9 := Lib.hid (HRZ2.out.kept (gr_then (gr_then (gr_then (gr_dr (gr_rfl wd)) h1) h2) h3))
        have HG9 := Lib.hid (gr_then HG2.out (gr_then (gr_then (gr_then (gr_dr (gr_rfl wd)) h1) h2) h3))
        clear h1 h2 h3 hb1 hb2
        go_wp2
        exact bodyPost_ret (v := vS ⟨al, am, ac, ab, ae⟩) (results_shape (a := ⟨al, am, ac, ab, ae⟩) rfl rfl HZ9.out.five) rfl ⟨_, HGA.out, rfl, gr_five HG9.out (Nat.le_refl _)⟩
      · go_wp2_with fail
        refine (N2.out _).mono ?_
        rintro e w1 ⟨rfl, rfl⟩
        go_wp2_with fail
        go_meet
        exact ⟨⟨m0, s, n2, ⟨#[]⟩, ⟨#[]⟩⟩, rfl, Lib.hid ⟨by first | assumption | exact ⟨by (try simp only); omega, by (try simp only); omega⟩, by first | assumption | exact ⟨by (try simp only); omega, by (try simp only); omega⟩, by first | assumption | exact ⟨by (try simp only); omega, by (try simp only); omega⟩, Nat.zero_le _, Nat.zero_le _⟩, (HRX2.out.set 2 (.int .i64 n2)), (HRQ2.out.other (b' := X) (i := 2) (v := .int .i64 n2) (by omega)), (HRZ2.out.other (b' := X) (i := 2) (v := .int .i64 n2) (by omega)), (gr_setn (i := 2) (v := .int .i64 n2) HG2.out (g := X) (by omega))⟩
      · have e1 : (m5 == 1) = false := by rw [beq_eq_false_iff_ne]; omega
        have e2 : (m5 == 2) = false := by rw [beq_eq_false_iff_ne]; omega
        have e3 : (m5 == 3) = false := by rw [beq_eq_false_iff_ne]; omega
        have e4 : (m5 == 4) = false := by rw [beq_eq_false_iff_ne]; omega
        have e5 : (m5 == 5) = false := by rw [beq_eq_false_iff_ne]; omega
        clear h06
        go_wp2_with fail
        go_meet
        exact ⟨⟨m0, s, 110, ⟨#[]⟩, ⟨#[]⟩⟩, rfl, Lib.hid ⟨by first | assumption | exact ⟨by (try simp only); omega, by (try simp only); omega⟩, by first | assumption | exact ⟨by (try simp only); omega, by (try simp only); omega⟩, by first | assumption | exact ⟨by (try simp only); omega, by (try simp only); omega⟩, Nat.zero_le _, Nat.zero_le _⟩, HRX2.out, HRQ2.out, HRZ2.out, HG2.out⟩
    case rest =>
      obtain ⟨⟨al, am, ac, ab, ae⟩, rfl, HGA, RX, RQ, RZ, G⟩ := hcut
      obtain ⟨w5, hw5⟩ : ∃ w5, wc = w5 := ⟨_, rfl⟩
      rw [hw5] at RX RQ RZ G ⊢
      have HX5 := Lib.hid RX
      have HQ5 := Lib.hid RQ
      have HZ5 := Lib.hid RZ
      have HG5 := Lib.hid G
      clear hw5 RX RQ RZ G M0 M1 M5 N0 N1 N2 HRX2 HRQ2 HRZ2 HG2 hw1
      have q3 := HQ5.out.cell 3 _ rfl
      go_wp2_with fail
      refine (W3.out _).mono ?_
      rintro e w6 ⟨s3, hs3, rfl, h1⟩
      have HX6 := Lib.hid (HX5.out.kept h1)
      have HQ6 := Lib.hid ((HQ5.out.kept h1).other (b' := X) (i := 3) (v := .string s3) (by omega))
      have HZ6 := Lib.hid ((HZ5.out.kept h1).other (b' := X) (i := 3) (v := .string s3) (by omega))
      have HG6 := Lib.hid (gr_setn (i := 3) (v := .string s3) (gr_then HG5.out h1) (g := X) (by omega))
      have HY6 := Lib.hid (HX6.out.set 3 (.string s3))
      have c3 := HX6.out.cell 3 _ rfl
      have cf3 := HX6.out.fr 3
      have q4 := HQ6.out.cell 4 _ rfl
      clear h1 q3
      go_wp2_with fail
      refine (W4.out _).mono ?_
      rintro e w7 ⟨s4, hs4, rfl, h1⟩
      have HX7 := Lib.hid (HY6.out.kept h1)
      have HQ7 := Lib.hid ((HQ6.out.kept h1).other (b' := X) (i := 4) (v := .string s4) (by omega))
      have HZ7 := Lib.hid ((HZ6.out.kept h1).other (b' := X) (i := 4) (v := .string s4) (by omega))
      have HG7 := Lib.hid (gr_setn (i := 4) (v := .string s4) (gr_then HG6.out h1) (g := X) (by omega))
      have HY7 := Lib.hid (HX7.out.set 4 (.string s4))
      have c4 := HX7.out.cell 4 _ rfl
      have cf4 := HX7.out.fr 4
      have q2 := HQ7.out.cell 2 _ rfl
      clear h1 q4 c3 cf3
      obtain ⟨w8, hw8⟩ : ∃ w8, w7.setCell ⟨X, 4, none⟩ (.string s4) = w8 := ⟨_, rfl⟩
      rw [hw8] at HQ7 HZ7 HG7 HY7 q2
      go_wp2_with fail
      refine (K3.out _).mono ?_
      rintro e w1 ⟨rfl, rfl⟩
      clear hw8 c4 cf4
      have c3 := HY7.out.cell 3 _ rfl
      have cf3 := HY7.out.fr 3
      have hgl := HGA.out.l
      have hgm := HGA.out.m
      have hgc := HGA.out.c
      simp only at hgl hgm hgc
      have HS34 := Lib.hid (And.intro hs3 hs4)
      clear hs3 hs4
      by_cases h3 : k3 = 0
      · have h3b : (k3 == 0) = true := by rw [h3]; rfl
        have HY8 := Lib.hid (HY7.out.set 3 (.string ⟨#[]⟩))
        have HQ8 := Lib.hid (HQ7.out.other (b' := X) (i := 3) (v := .string ⟨#[]⟩) (by omega))
        have HZ8 := Lib.hid (HZ7.out.other (b' := X) (i := 3) (v := .string ⟨#[]⟩) (by omega))
        have HG8 := Lib.hid (gr_setn (i := 3) (v := .string ⟨#[]⟩) HG7.out (g := X) (by omega))
        clear h3
        have q2k := HQ8.out.cell 2 _ rfl
        go_wp2_with fail
        refine (K5.out _).mono ?_
        rintro e w1 ⟨rfl, rfl⟩
        have v4 := HY8.out.cell 4 _ rfl
        have vf4 := HY8.out.fr 4
        by_cases h5 : k5 < 2
        · have HR9 := Lib.hid (HY8.out.set 4 (.string ⟨#[]⟩))
          have HZ9 := Lib.hid (HZ8.out.other (b' := X) (i := 4) (v := .string ⟨#[]⟩) (by omega))
          have HG9 := Lib.hid (gr_setn (i := 4) (v := .string ⟨#[]⟩) HG8.out (g := X) (by omega))
          have r0 := HR9.out.cell 0 _ rfl
          have z0 := HZ9.out.cell 0 _ rfl
          have zf0 := HZ9.out.fr 0
          have r1 := HR9.out.cell 1 _ rfl
          have z1 := HZ9.out.cell 1 _ rfl
          have zf1 := HZ9.out.fr 1
          have r2 := HR9.out.cell 2 _ rfl
          have z2 := HZ9.out.cell 2 _ rfl
          have zf2 := HZ9.out.fr 2
          have r3 := HR9.out.cell 3 _ rfl
          have z3 := HZ9.out.cell 3 _ rfl
          have zf3 := HZ9.out.fr 3
          have r4 := HR9.out.cell 4 _ rfl
          have z4 := HZ9.out.cell 4 _ rfl
          have zf4 := HZ9.out.fr 4
          have HGG := Lib.hid (show GoodS ⟨al, am, ac, ⟨#[]⟩, ⟨#[]⟩⟩ from ⟨hgl, hgm, hgc, by first | exact Nat.zero_le _ | exact Nat.le_trans HS34.out.1 (by decide), by first | exact Nat.zero_le _ | exact Nat.le_trans HS34.out.2 (by decide)⟩)
          go_wp2
          exact bodyPost_ret (v := vS ⟨al, am, ac, ⟨#[]⟩, ⟨#[]⟩⟩) (results_shape (a := ⟨al, am, ac, ⟨#[]⟩, ⟨#[]⟩⟩) rfl rfl (HZ9.out.five (v0 := .int .i64 al) (v1 := .int .i64 am) (v2 := .int .i64 ac) (v3 := .string ⟨#[]⟩) (v4 := .string ⟨#[]⟩))) rfl ⟨_, HGG.out, rfl, gr_five HG9.out (Nat.le_refl _)⟩
        · have h5d : decide (k5 < 2) = false := decide_eq_false h5
          have HR9 := Lib.hid HY8.out
          have HZ9 := Lib.hid HZ8.out
          have HG9 := Lib.hid HG8.out
          clear h5
          have r0 := HR9.out.cell 0 _ rfl
          have z0 := HZ9.out.cell 0 _ rfl
          have zf0 := HZ9.out.fr 0
          have r1 := HR9.out.cell 1 _ rfl
          have z1 := HZ9.out.cell 1 _ rfl
          have zf1 := HZ9.out.fr 1
          have r2 := HR9.out.cell 2 _ rfl
          have z2 := HZ9.out.cell 2 _ rfl
          have zf2 := HZ9.out.fr 2
          have r3 := HR9.out.cell 3 _ rfl
          have z3 := HZ9.out.cell 3 _ rfl
          have zf3 := HZ9.out.fr 3
          have r4 := HR9.out.cell 4 _ rfl
          have z4 := HZ9.out.cell 4 _ rfl
          have zf4 := HZ9.out.fr 4
          have HGG := Lib.hid (show GoodS ⟨al, am, ac, ⟨#[]⟩, s4⟩ from ⟨hgl, hgm, hgc, by first | exact Nat.zero_le _ | exact Nat.le_trans HS34.out.1 (by decide), by first | exact Nat.zero_le _ | exact Nat.le_trans HS34.out.2 (by decide)⟩)
          go_wp2
          exact bodyPost_ret (v := vS ⟨al, am, ac, ⟨#[]⟩, s4⟩) (results_shape (a := ⟨al, am, ac, ⟨#[]⟩, s4⟩) rfl rfl (HZ9.out.five (v0 := .int .i64 al) (v1 := .int .i64 am) (v2 := .int .i64 ac) (v3 := .string ⟨#[]⟩) (v4 := .string s4))) rfl ⟨_, HGG.out, rfl, gr_five HG9.out (Nat.le_refl _)⟩
      · have h3b : (k3 == 0) = false := by rw [beq_eq_false_iff_ne]; exact h3
        clear h3
        have q2k := HQ7.out.cell 2 _ rfl
        go_wp2_with fail
        refine (K5.out _).mono ?_
        rintro e w1 ⟨rfl, rfl⟩
        have v4 := HY7.out.cell 4 _ rfl
        have vf4 := HY7.out.fr 4
        by_cases h5 : k5 < 2
        · have HR9 := Lib.hid (HY7.out.set 4 (.string ⟨#[]⟩))
          have HZ9 := Lib.hid (HZ7.out.other (b' := X) (i := 4) (v := .string ⟨#[]⟩) (by omega))
          have HG9 := Lib.hid (gr_setn (i := 4) (v := .string ⟨#[]⟩) HG7.out (g := X) (by omega))
          have r0 := HR9.out.cell 0 _ rfl
          have z0 := HZ9.out.cell 0 _ rfl
          have zf0 := HZ9.out.fr 0
          have r1 := HR9.out.cell 1 _ rfl
          have z1 := HZ9.out.cell 1 _ rfl
          have zf1 := HZ9.out.fr 1
          have r2 := HR9.out.cell 2 _ rfl
          have z2 := HZ9.out.cell 2 _ rfl
          have zf2 := HZ9.out.fr 2
          have r3 := HR9.out.cell 3 _ rfl
          have z3 := HZ9.out.cell 3 _ rfl
          have zf3 := HZ9.out.fr 3
          have r4 := HR9.out.cell 4 _ rfl
          have z4 := HZ9.out.cell 4 _ rfl
          have zf4 := HZ9.out.fr 4
          have HGG := Lib.hid (show GoodS ⟨al, am, ac, s3, ⟨#[]⟩⟩ from ⟨hgl, hgm, hgc, by first | exact Nat.zero_le _ | exact Nat.le_trans HS34.out.1 (by decide), by first | exact Nat.zero_le _ | exact Nat.le_trans HS34.out.2 (by decide)⟩)
          go_wp2
          exact bodyPost_ret (v := vS ⟨al, am, ac, s3, ⟨#[]⟩⟩) (results_shape (a := ⟨al, am, ac, s3, ⟨#[]⟩⟩) rfl rfl (HZ9.out.five (v0 := .int .i64 al) (v1 := .int .i64 am) (v2 := .int .i64 ac) (v3 := .string s3) (v4 := .string ⟨#[]⟩))) rfl ⟨_, HGG.out, rfl, gr_five HG9.out (Nat.le_refl _)⟩
        · have h5d : decide (k5 < 2) = false := decide_eq_false h5
          have HR9 := Lib.hid HY7.out
          have HZ9 := Lib.hid HZ7.out
          have HG9 := Lib.hid HG7.out
          clear h5
          have r0 := HR9.out.cell 0 _ rfl
          have z0 := HZ9.out.cell 0 _ rfl
          have zf0 := HZ9.out.fr 0
          have r1 := HR9.out.cell 1 _ rfl
          have z1 := HZ9.out.cell 1 _ rfl
          have zf1 := HZ9.out.fr 1
          have r2 := HR9.out.cell 2 _ rfl
          have z2 := HZ9.out.cell 2 _ rfl
          have zf2 := HZ9.out.fr 2
          have r3 := HR9.out.cell 3 _ rfl
          have z3 := HZ9.out.cell 3 _ rfl
          have zf3 := HZ9.out.fr 3
          have r4 := HR9.out.cell 4 _ rfl
          have z4 := HZ9.out.cell 4 _ rfl
          have zf4 := HZ9.out.fr 4
          have HGG := Lib.hid (show GoodS ⟨al, am, ac, s3, s4⟩ from ⟨hgl, hgm, hgc, by first | exact Nat.zero_le _ | exact Nat.le_trans HS34.out.1 (by decide), by first | exact Nat.zero_le _ | exact Nat.le_trans HS34.out.2 (by decide)⟩)
          go_wp2
          exact bodyPost_ret (v := vS ⟨al, am, ac, s3, s4⟩) (results_shape (a := ⟨al, am, ac, s3, s4⟩) rfl rfl (HZ9.out.five (v0 := .int .i64 al) (v1 := .int .i64 am) (v2 := .int .i64 ac) (v3 := .string s3) (v4 := .string s4))) rfl ⟨_, HGG.out, rfl, gr_five HG9.out (Nat.le_refl _)⟩
end Go.Proofs.YtaejnklgnegkhaaGreatDoor
namespace Go.Proofs.YtaejnklgnegkhaaGreatDoor
open Go.RowKit Pt Sh

theorem Row.put {w : World} {b : Nat} {cs cs' : List Value} {t : TypeId} (h : Row w b cs t) : Row (w.setRow b cs'.toArray) b cs' t := by
  have hl := Row.lt h
  unfold Row at h ⊢
  show (w.heap.modify b _)[b]? = _
  rw [Array.getElem?_modify, if_pos rfl, h]
  rfl
theorem Row.oput {w : World} {b B : Nat} {cs : List Value} {cs' : Array Value} {t : TypeId} (h : Row w b cs t) (ne : b ≠ B) : Row (w.setRow B cs') b cs t := by
  unfold Row at h ⊢
  show (w.heap.modify B _)[b]? = _
  rw [Array.getElem?_modify, if_neg (fun e => ne e.symm), h]
theorem gr_put {w0 w : World} {B : Nat} {cs' : Array Value} (h : w0.grownBy w none) (hB : w0.heap.size ≤ B) : w0.grownBy (w.setRow B cs') none :=
  ⟨h.os, h.tape, h.output, by rw [size_setRow]; exact h.size, fun k hk hn => by
    show (w.heap.modify B _)[k]? = _
    rw [Array.getElem?_modify, if_neg (by omega)]
    exact h.block k hk hn⟩
theorem wp_store_row {P : Program} {o : Oper} {a : Act} {w : World} {K : Act → World → Prop} {Q : Exit → Act → World → Prop} (ty : TypeId) (x y : Operand) (ho : o.op = .store ty x y)
    (g : Nat) (hx : a.eval x = .pointer (some ⟨g, 0, none⟩)) (cs' : List Value) (hy : a.eval y = .agg cs'.toArray) (t : TypeId) (cs : List Value) (hg : Row w g cs t)
    (hi : (P.info? ty).map (·.size) = some cs'.length) (hs : cs.length = cs'.length) (h1 : cs'.all (·.oneCell') = true)
    (h : K (a.put o.dst undef) (w.setRow g cs'.toArray)) : o.wp P a w K Q := by
  have hr := run_storeVar_row (P := P) w g t ty cs.toArray cs'.toArray hg (by simpa using hi) (by simpa using hs) (by simpa using h1)
  unfold Oper.wp execOp
  simp only [ho, hx, hy, Instr.storeAt, Instr.sureAddr, Sem.run_bind, Sem.run_pure, Result.andThen_ok, hr]
  exact h
theorem wpList_store_row {P : Program} {ops : Array Oper} {rest : List Oper} {o : Oper} {a : Act} {w : World} {Q : Exit → Act → World → Prop} (hgd : o.guard = none) (ty : TypeId) (x y : Operand) (ho : o.op = .store ty x y)
    (g : Nat) (hx : a.eval x = .pointer (some ⟨g, 0, none⟩)) (cs' : List Value) (hy : a.eval y = .agg cs'.toArray) (t : TypeId) (cs : List Value) (hg : Row w g cs t)
    (hi : (P.info? ty).map (·.size) = some cs'.length) (hs : cs.length = cs'.length) (h1 : cs'.all (·.oneCell') = true)
    (h : wpList P ops Q rest (a.put o.dst undef) (w.setRow g cs'.toArray)) : wpList P ops Q (o :: rest) a w :=
  wpList_plain hgd fun _ hK => wp_store_row ty x y ho g hx cs' hy t cs hg hi hs h1 (hK _ _ h)
theorem results_row {fn : Func} {p : Tmp} {ty : TypeId} {tmps : Array Value} {W : World} {B : Nat} {cs : List Value} {n : Nat} {e : TypeId} (h : fn.results = #[.cell p ty]) (hp : tmps.getD p undef = .pointer (some ⟨B, 0, none⟩)) (hR : Row W B cs ty) (hu : Tryz.prog.underlying ty = some (.array n e)) (hi : (Tryz.prog.info? ty).map (·.size) = some cs.length) : (results fn tmps).run Tryz.prog W = .ok (.agg cs.toArray) W :=
  results_cell_row h tmps W B ty cs.toArray (0, 0) (.array n e) hp hR hu rfl (by simpa using hi)
end Go.Proofs.YtaejnklgnegkhaaGreatDoor
namespace Go.Proofs.YtaejnklgnegkhaaGreatDoor
open Go.RowKit Pt Sh

/-- Four shapes as the cells of an array. -/
abbrev four (a0 a1 a2 a3 : S5) : List Value := [.int .i64 a0.l, .int .i64 a0.m, .int .i64 a0.c, .string a0.b, .string a0.e, .int .i64 a1.l, .int .i64 a1.m, .int .i64 a1.c, .string a1.b, .string a1.e, .int .i64 a2.l, .int .i64 a2.m, .int .i64 a2.c, .string a2.b, .string a2.e, .int .i64 a3.l, .int .i64 a3.m, .int .i64 a3.c, .string a3.b, .string a3.e]
/-- Four good shapes, as an array. -/
def SomeS4 (w : World) (e : Ending) (w' : World) : Prop := ∃ a0 a1 a2 a3 : S5, GoodS a0 ∧ GoodS a1 ∧ GoodS a2 ∧ GoodS a3 ∧ e = .returned (.agg (four a0 a1 a2 a3).toArray) ∧ w.grownBy w' none
theorem good_zero : GoodS ⟨0, 0, 0, ⟨#[]⟩, ⟨#[]⟩⟩ := ⟨⟨by decide, by decide⟩, ⟨by decide, by decide⟩, ⟨by decide, by decide⟩, Nat.zero_le _, Nat.zero_le _⟩
set_option maxRecDepth 100000 in
set_option maxHeartbeats 8000000 in
theorem shapes_any (va vb : Value) (a : S5) (s : ByteArray) (w : World) (hc : CaseA w va vb a s) : Calls Tryz.prog 9 #[vCase va vb a s] w (SomeS4 w) := by
  obtain ⟨hva, hvb, hl, hm, hcc, hb, he, hs⟩ := hc
  obtain ⟨wz, hwz⟩ : ∃ wz, (w.alloc (.cells #[va, vb, .int .i64 a.l, .int .i64 a.m, .int .i64 a.c, .string a.b, .string a.e, .string s] 26)).alloc (.cells #[.int .i64 0, .int .i64 0, .int .i64 0, .string ⟨#[]⟩, .string ⟨#[]⟩, .int .i64 0, .int .i64 0, .int .i64 0, .string ⟨#[]⟩, .string ⟨#[]⟩, .int .i64 0, .int .i64 0, .int .i64 0, .string ⟨#[]⟩, .string ⟨#[]⟩, .int .i64 0, .int .i64 0, .int .i64 0, .string ⟨#[]⟩, .string ⟨#[]⟩] 28) = wz := ⟨_, rfl⟩
  have gz : w.grownBy wz none := by rw [← hwz]; exact gr_then (gr_alloc _ _ _) (gr_alloc _ _ _)
  have HMA := Lib.hid (fun (w0 : World) (g : wz.grownBy w0 none) => rmade_any va w0 (hva.kept (gr_then gz g)))
  have HMB := Lib.hid (fun (w0 : World) (g : wz.grownBy w0 none) => rmade_any vb w0 (hvb.kept (gr_then gz g)))
  have HCU := Lib.hid (fun (w0 : World) => cut8_any a w0 hl hm hcc hb he)
  obtain ⟨l, m, c, b, e⟩ := a
  have RC := (Row.new w [va, vb, .int .i64 l, .int .i64 m, .int .i64 c, .string b, .string e, .string s] 26).al (o := .cells #[.int .i64 0, .int .i64 0, .int .i64 0, .string ⟨#[]⟩, .string ⟨#[]⟩, .int .i64 0, .int .i64 0, .int .i64 0, .string ⟨#[]⟩, .string ⟨#[]⟩, .int .i64 0, .int .i64 0, .int .i64 0, .string ⟨#[]⟩, .string ⟨#[]⟩, .int .i64 0, .int .i64 0, .int .i64 0, .string ⟨#[]⟩, .string ⟨#[]⟩] 28)
  have RZ := Row.new (w.alloc (.cells #[va, vb, .int .i64 l, .int .i64 m, .int .i64 c, .string b, .string e, .string s] 26)) (four ⟨0, 0, 0, ⟨#[]⟩, ⟨#[]⟩⟩ ⟨0, 0, 0, ⟨#[]⟩, ⟨#[]⟩⟩ ⟨0, 0, 0, ⟨#[]⟩, ⟨#[]⟩⟩ ⟨0, 0, 0, ⟨#[]⟩, ⟨#[]⟩⟩) 28
  rw [World.size_alloc] at RZ
  simp only [List.toArray] at RC RZ
  rw [hwz] at RC RZ
  have HRC := Lib.hid RC
  have HRZ := Lib.hid RZ
  have HGZ := Lib.hid gz
  have HWZ := Lib.hid hwz
  have HK := Lib.hid (show ∀ w', wz.grownBy w' none → (w'.cell? ⟨w.heap.size, 0, none⟩ = some (va) ∧ w'.cell? ⟨w.heap.size, 1, none⟩ = some (vb) ∧ w'.cell? ⟨w.heap.size, 2, none⟩ = some (.int .i64 l) ∧ w'.cell? ⟨w.heap.size, 3, none⟩ = some (.int .i64 m) ∧ w'.cell? ⟨w.heap.size, 4, none⟩ = some (.int .i64 c) ∧ w'.cell? ⟨w.heap.size, 5, none⟩ = some (.string b) ∧ w'.cell? ⟨w.heap.size, 6, none⟩ = some (.string e)) from fun w' h => ⟨(HRC.out.kept h).cell 0 _ rfl, (HRC.out.kept h).cell 1 _ rfl, (HRC.out.kept h).cell 2 _ rfl, (HRC.out.kept h).cell 3 _ rfl, (HRC.out.kept h).cell 4 _ rfl, (HRC.out.kept h).cell 5 _ rfl, (HRC.out.kept h).cell 6 _ rfl⟩)
  have hne : w.heap.size ≠ w.heap.size + 1 := by omega
  clear hva hvb hl hm hcc hb he hs RC RZ gz hwz
  go_enter Tryz.func9, Tryz.ntmps9
  go_wp2_with fail
  rw [HWZ.out]
  refine wp_region_held_drew (S := (fun w' => w'.cell? ⟨w.heap.size, 0, none⟩ = some (va) ∧ w'.cell? ⟨w.heap.size, 1, none⟩ = some (vb) ∧ w'.cell? ⟨w.heap.size, 2, none⟩ = some (.int .i64 l) ∧ w'.cell? ⟨w.heap.size, 3, none⟩ = some (.int .i64 m) ∧ w'.cell? ⟨w.heap.size, 4, none⟩ = some (.int .i64 c) ∧ w'.cell? ⟨w.heap.size, 5, none⟩ = some (.string b) ∧ w'.cell? ⟨w.heap.size, 6, none⟩ = some (.string e))) (by kernel_rfl) ?_ (fun hHeld => ?_)
  · first | ((refine HK.out _ ?_; (repeat (first | (with_reducible refine gr_dr ?_) | (with_reducible refine gr_then ?_ h3) | (with_reducible refine gr_then ?_ h2) | (with_reducible refine gr_then ?_ h1) | (with_reducible exact gr_rfl _)))); done) | exact ⟨((HRC.out.kept (gr_then (gr_then (gr_then (gr_dr (gr_rfl wz)) h1) h2) h3)).oput hne).cell 0 _ rfl, ((HRC.out.kept (gr_then (gr_then (gr_then (gr_dr (gr_rfl wz)) h1) h2) h3)).oput hne).cell 1 _ rfl, ((HRC.out.kept (gr_then (gr_then (gr_then (gr_dr (gr_rfl wz)) h1) h2) h3)).oput hne).cell 2 _ rfl, ((HRC.out.kept (gr_then (gr_then (gr_then (gr_dr (gr_rfl wz)) h1) h2) h3)).oput hne).cell 3 _ rfl, ((HRC.out.kept (gr_then (gr_then (gr_then (gr_dr (gr_rfl wz)) h1) h2) h3)).oput hne).cell 4 _ rfl, ((HRC.out.kept (gr_then (gr_then (gr_then (gr_dr (gr_rfl wz)) h1) h2) h3)).oput hne).cell 5 _ rfl, ((HRC.out.kept (gr_then (gr_then (gr_then (gr_dr (gr_rfl wz)) h1) h2) h3)).oput hne).cell 6 _ rfl⟩
  refine wpAnyH_take (i := 0) (oi := _) (v := ?v1) rfl (by kernel_rfl) (by kernel_rfl) (by kernel_rfl) (fun _ _ _ h => h) (Or.inl ⟨by rfl, ?hy1⟩) (by assumption) ?rest1
  case hy1 => ((intro w hSw; (try dsimp only at hSw); go_simp); try (with_reducible rfl))
  ((try dsimp only [List.getElem_toArray, List.getElem_cons_succ, List.getElem_cons_zero]); try simp only [Act.put, List.setIfInBounds_toArray, List.set_cons_zero, List.set_cons_succ])
  refine wpAnyH_take (i := 1) (oi := _) (v := ?v2) rfl (by kernel_rfl) (by kernel_rfl) (by kernel_rfl) (fun _ _ _ h => h) (Or.inl ⟨by rfl, ?hy2⟩) (by assumption) ?rest2
  case hy2 => ((intro w hSw; (try dsimp only at hSw); go_simp); try (with_reducible rfl))
  ((try dsimp only [List.getElem_toArray, List.getElem_cons_succ, List.getElem_cons_zero]); try simp only [Act.put, List.setIfInBounds_toArray, List.set_cons_zero, List.set_cons_succ])
  refine wpAnyH_take (i := 3) (oi := _) (v := ?v3) rfl (by kernel_rfl) (by kernel_rfl) (by kernel_rfl) (fun _ _ _ h => h) (Or.inl ⟨by rfl, ?hy3⟩) (by assumption) ?rest3
  case hy3 => ((intro w hSw; (try dsimp only at hSw); go_simp); try (with_reducible rfl))
  ((try dsimp only [List.getElem_toArray, List.getElem_cons_succ, List.getElem_cons_zero]); try simp only [Act.put, List.setIfInBounds_toArray, List.set_cons_zero, List.set_cons_succ])
  refine wpAnyH_take (i := 4) (oi := _) (v := ?v4) rfl (by kernel_rfl) (by kernel_rfl) (by kernel_rfl) (fun _ _ _ h => h) (Or.inl ⟨by rfl, ?hy4⟩) (by assumption) ?rest4
  case hy4 => ((intro w hSw; (try dsimp only at hSw); go_simp); try (with_reducible rfl))
  ((try dsimp only [List.getElem_toArray, List.getElem_cons_succ, List.getElem_cons_zero]); try simp only [Act.put, List.setIfInBounds_toArray, List.set_cons_zero, List.set_cons_succ])
  refine wpAnyH_take (i := 6) (oi := _) (v := ?v5) rfl (by kernel_rfl) (by kernel_rfl) (by kernel_rfl) (fun _ _ _ h => h) (Or.inl ⟨by rfl, ?hy5⟩) (by assumption) ?rest5
  case hy5 => ((intro w hSw; (try dsimp only at hSw); go_simp); try (with_reducible rfl))
  ((try dsimp only [List.getElem_toArray, List.getElem_cons_succ, List.getElem_cons_zero]); try simp only [Act.put, List.setIfInBounds_toArray, List.set_cons_zero, List.set_cons_succ])
  refine wpAnyH_take (i := 7) (oi := _) (v := ?v6) rfl (by kernel_rfl) (by kernel_rfl) (by kernel_rfl) (fun _ _ _ h => h) (Or.inl ⟨by rfl, ?hy6⟩) (by assumption) ?rest6
  case hy6 => ((intro w hSw; (try dsimp only at hSw); go_simp); try (with_reducible rfl))
  ((try dsimp only [List.getElem_toArray, List.getElem_cons_succ, List.getElem_cons_zero]); try simp only [Act.put, List.setIfInBounds_toArray, List.set_cons_zero, List.set_cons_succ])
  refine wpAnyH_take (i := 9) (oi := _) (v := ?v7) rfl (by kernel_rfl) (by kernel_rfl) (by kernel_rfl) (fun _ _ _ h => h) (Or.inl ⟨by rfl, ?hy7⟩) (by assumption) ?rest7
  case hy7 => ((intro w hSw; (try dsimp only at hSw); go_simp); try (with_reducible rfl))
  ((try dsimp only [List.getElem_toArray, List.getElem_cons_succ, List.getElem_cons_zero]); try simp only [Act.put, List.setIfInBounds_toArray, List.set_cons_zero, List.set_cons_succ])
  refine wpAnyH_ready (rs := [2]) (by kernel_rfl) (by simp) ?_
  refine AllReadyH.cons (o := _) rfl (fun K hK => ?_) AllReadyH.nil
  go_simp
  go_at_call 36; (with_reducible refine (HMA.out _ (by (repeat (first | (with_reducible refine gr_dr ?_) | (with_reducible refine gr_then ?_ h3) | (with_reducible refine gr_then ?_ h2) | (with_reducible refine gr_then ?_ h1) | (with_reducible exact gr_rfl _))))).mono ?_); rintro e1 w1 ⟨⟨l1, m1, c1, b1, e1⟩, g1, rfl, h1⟩
  refine hK.out _ _ ?_ (fun hHeld => ?_)
  · (try dsimp only); first | ((refine HK.out _ ?_; (repeat (first | (with_reducible refine gr_dr ?_) | (with_reducible refine gr_then ?_ h3) | (with_reducible refine gr_then ?_ h2) | (with_reducible refine gr_then ?_ h1) | (with_reducible exact gr_rfl _)))); done) | exact ⟨((HRC.out.kept (gr_then (gr_then (gr_then (gr_dr (gr_rfl wz)) h1) h2) h3)).oput hne).cell 0 _ rfl, ((HRC.out.kept (gr_then (gr_then (gr_then (gr_dr (gr_rfl wz)) h1) h2) h3)).oput hne).cell 1 _ rfl, ((HRC.out.kept (gr_then (gr_then (gr_then (gr_dr (gr_rfl wz)) h1) h2) h3)).oput hne).cell 2 _ rfl, ((HRC.out.kept (gr_then (gr_then (gr_then (gr_dr (gr_rfl wz)) h1) h2) h3)).oput hne).cell 3 _ rfl, ((HRC.out.kept (gr_then (gr_then (gr_then (gr_dr (gr_rfl wz)) h1) h2) h3)).oput hne).cell 4 _ rfl, ((HRC.out.kept (gr_then (gr_then (gr_then (gr_dr (gr_rfl wz)) h1) h2) h3)).oput hne).cell 5 _ rfl, ((HRC.out.kept (gr_then (gr_then (gr_then (gr_dr (gr_rfl wz)) h1) h2) h3)).oput hne).cell 6 _ rfl⟩
  clear hK K
  ((try dsimp only [List.getElem_toArray, List.getElem_cons_succ, List.getElem_cons_zero]); try simp only [Act.put, List.setIfInBounds_toArray, List.set_cons_zero, List.set_cons_succ])
  refine wpAnyH_ready (rs := [5]) (by kernel_rfl) (by simp) ?_
  refine AllReadyH.cons (o := _) rfl (fun K hK => ?_) AllReadyH.nil
  go_simp
  go_at_call 36; (with_reducible refine (HMB.out _ (by (repeat (first | (with_reducible refine gr_dr ?_) | (with_reducible refine gr_then ?_ h3) | (with_reducible refine gr_then ?_ h2) | (with_reducible refine gr_then ?_ h1) | (with_reducible exact gr_rfl _))))).mono ?_); rintro e2 w2 ⟨⟨l2, m2, c2, b2, e2⟩, g2, rfl, h2⟩
  refine hK.out _ _ ?_ (fun hHeld => ?_)
  · (try dsimp only); first | ((refine HK.out _ ?_; (repeat (first | (with_reducible refine gr_dr ?_) | (with_reducible refine gr_then ?_ h3) | (with_reducible refine gr_then ?_ h2) | (with_reducible refine gr_then ?_ h1) | (with_reducible exact gr_rfl _)))); done) | exact ⟨((HRC.out.kept (gr_then (gr_then (gr_then (gr_dr (gr_rfl wz)) h1) h2) h3)).oput hne).cell 0 _ rfl, ((HRC.out.kept (gr_then (gr_then (gr_then (gr_dr (gr_rfl wz)) h1) h2) h3)).oput hne).cell 1 _ rfl, ((HRC.out.kept (gr_then (gr_then (gr_then (gr_dr (gr_rfl wz)) h1) h2) h3)).oput hne).cell 2 _ rfl, ((HRC.out.kept (gr_then (gr_then (gr_then (gr_dr (gr_rfl wz)) h1) h2) h3)).oput hne).cell 3 _ rfl, ((HRC.out.kept (gr_then (gr_then (gr_then (gr_dr (gr_rfl wz)) h1) h2) h3)).oput hne).cell 4 _ rfl, ((HRC.out.kept (gr_then (gr_then (gr_then (gr_dr (gr_rfl wz)) h1) h2) h3)).oput hne).cell 5 _ rfl, ((HRC.out.kept (gr_then (gr_then (gr_then (gr_dr (gr_rfl wz)) h1) h2) h3)).oput hne).cell 6 _ rfl⟩
  clear hK K
  ((try dsimp only [List.getElem_toArray, List.getElem_cons_succ, List.getElem_cons_zero]); try simp only [Act.put, List.setIfInBounds_toArray, List.set_cons_zero, List.set_cons_succ])
  refine wpAnyH_ready (rs := [8]) (by kernel_rfl) (by simp) ?_
  refine AllReadyH.cons (o := _) rfl (fun K hK => ?_) AllReadyH.nil
  go_simp
  go_at_call 37; (with_reducible refine (HCU.out _).mono ?_); rintro e3 w3 ⟨⟨l3, m3, c3, b3, e3⟩, g3, rfl, h3⟩; have HGG := Lib.hid (And.intro g1 (And.intro g2 g3)); clear g1 g2 g3
  refine hK.out _ _ ?_ (fun hHeld => ?_)
  · (try dsimp only); first | ((refine HK.out _ ?_; (repeat (first | (with_reducible refine gr_dr ?_) | (with_reducible refine gr_then ?_ h3) | (with_reducible refine gr_then ?_ h2) | (with_reducible refine gr_then ?_ h1) | (with_reducible exact gr_rfl _)))); done) | exact ⟨((HRC.out.kept (gr_then (gr_then (gr_then (gr_dr (gr_rfl wz)) h1) h2) h3)).oput hne).cell 0 _ rfl, ((HRC.out.kept (gr_then (gr_then (gr_then (gr_dr (gr_rfl wz)) h1) h2) h3)).oput hne).cell 1 _ rfl, ((HRC.out.kept (gr_then (gr_then (gr_then (gr_dr (gr_rfl wz)) h1) h2) h3)).oput hne).cell 2 _ rfl, ((HRC.out.kept (gr_then (gr_then (gr_then (gr_dr (gr_rfl wz)) h1) h2) h3)).oput hne).cell 3 _ rfl, ((HRC.out.kept (gr_then (gr_then (gr_then (gr_dr (gr_rfl wz)) h1) h2) h3)).oput hne).cell 4 _ rfl, ((HRC.out.kept (gr_then (gr_then (gr_then (gr_dr (gr_rfl wz)) h1) h2) h3)).oput hne).cell 5 _ rfl, ((HRC.out.kept (gr_then (gr_then (gr_then (gr_dr (gr_rfl wz)) h1) h2) h3)).oput hne).cell 6 _ rfl⟩
  clear hK K
  ((try dsimp only [List.getElem_toArray, List.getElem_cons_succ, List.getElem_cons_zero]); try simp only [Act.put, List.setIfInBounds_toArray, List.set_cons_zero, List.set_cons_succ])
  refine wpAnyH_ready (rs := [10]) (by kernel_rfl) (by simp) ?_
  refine AllReadyH.cons (o := _) rfl (fun K hK => ?_) AllReadyH.nil
  go_simp
  refine hK.out _ _ ?_ (fun hHeld => ?_)
  · (try dsimp only); first | ((refine HK.out _ ?_; (repeat (first | (with_reducible refine gr_dr ?_) | (with_reducible refine gr_then ?_ h3) | (with_reducible refine gr_then ?_ h2) | (with_reducible refine gr_then ?_ h1) | (with_reducible exact gr_rfl _)))); done) | exact ⟨((HRC.out.kept (gr_then (gr_then (gr_then (gr_dr (gr_rfl wz)) h1) h2) h3)).oput hne).cell 0 _ rfl, ((HRC.out.kept (gr_then (gr_then (gr_then (gr_dr (gr_rfl wz)) h1) h2) h3)).oput hne).cell 1 _ rfl, ((HRC.out.kept (gr_then (gr_then (gr_then (gr_dr (gr_rfl wz)) h1) h2) h3)).oput hne).cell 2 _ rfl, ((HRC.out.kept (gr_then (gr_then (gr_then (gr_dr (gr_rfl wz)) h1) h2) h3)).oput hne).cell 3 _ rfl, ((HRC.out.kept (gr_then (gr_then (gr_then (gr_dr (gr_rfl wz)) h1) h2) h3)).oput hne).cell 4 _ rfl, ((HRC.out.kept (gr_then (gr_then (gr_then (gr_dr (gr_rfl wz)) h1) h2) h3)).oput hne).cell 5 _ rfl, ((HRC.out.kept (gr_then (gr_then (gr_then (gr_dr (gr_rfl wz)) h1) h2) h3)).oput hne).cell 6 _ rfl⟩
  clear hK K
  ((try dsimp only [List.getElem_toArray, List.getElem_cons_succ, List.getElem_cons_zero]); try simp only [Act.put, List.setIfInBounds_toArray, List.set_cons_zero, List.set_cons_succ])
  refine wpAnyH_ready (rs := [11]) (by kernel_rfl) (by simp) ?_
  refine AllReadyH.cons (o := _) rfl (fun K hK => ?_) AllReadyH.nil
  rw [if_pos (by rfl)]; refine wp_store_row 28 _ _ rfl (w.heap.size + 1) rfl (four ⟨l1, m1, c1, b1, e1⟩ ⟨l2, m2, c2, b2, e2⟩ ⟨l3, m3, c3, b3, e3⟩ ⟨0, 0, 0, ⟨#[]⟩, ⟨#[]⟩⟩) rfl 28 _ (HRZ.out.kept (gr_then (gr_then (gr_then (gr_dr (gr_rfl wz)) h1) h2) h3)) (by kernel_rfl) rfl (by rfl) ?_
  refine hK.out _ _ ?_ (fun hHeld => ?_)
  · (try dsimp only); first | ((refine HK.out _ ?_; (repeat (first | (with_reducible refine gr_dr ?_) | (with_reducible refine gr_then ?_ h3) | (with_reducible refine gr_then ?_ h2) | (with_reducible refine gr_then ?_ h1) | (with_reducible exact gr_rfl _)))); done) | exact ⟨((HRC.out.kept (gr_then (gr_then (gr_then (gr_dr (gr_rfl wz)) h1) h2) h3)).oput hne).cell 0 _ rfl, ((HRC.out.kept (gr_then (gr_then (gr_then (gr_dr (gr_rfl wz)) h1) h2) h3)).oput hne).cell 1 _ rfl, ((HRC.out.kept (gr_then (gr_then (gr_then (gr_dr (gr_rfl wz)) h1) h2) h3)).oput hne).cell 2 _ rfl, ((HRC.out.kept (gr_then (gr_then (gr_then (gr_dr (gr_rfl wz)) h1) h2) h3)).oput hne).cell 3 _ rfl, ((HRC.out.kept (gr_then (gr_then (gr_then (gr_dr (gr_rfl wz)) h1) h2) h3)).oput hne).cell 4 _ rfl, ((HRC.out.kept (gr_then (gr_then (gr_then (gr_dr (gr_rfl wz)) h1) h2) h3)).oput hne).cell 5 _ rfl, ((HRC.out.kept (gr_then (gr_then (gr_then (gr_dr (gr_rfl wz)) h1) h2) h3)).oput hne).cell 6 _ rfl⟩
  clear hK K
  ((try dsimp only [List.getElem_toArray, List.getElem_cons_succ, List.getElem_cons_zero]); try simp only [Act.put])
  refine wpAnyH_done (by kernel_rfl) ?_ _
  have HR9 := Lib.hid ((HRZ.out.kept (gr_then (gr_then (gr_then (gr_dr (gr_rfl wz)) h1) h2) h3)).put (cs' := (four ⟨l1, m1, c1, b1, e1⟩ ⟨l2, m2, c2, b2, e2⟩ ⟨l3, m3, c3, b3, e3⟩ ⟨0, 0, 0, ⟨#[]⟩, ⟨#[]⟩⟩)))
  have HG9 := Lib.hid (gr_put (cs' := ((four ⟨l1, m1, c1, b1, e1⟩ ⟨l2, m2, c2, b2, e2⟩ ⟨l3, m3, c3, b3, e3⟩ ⟨0, 0, 0, ⟨#[]⟩, ⟨#[]⟩⟩)).toArray) (gr_then HGZ.out (gr_then (gr_then (gr_then (gr_dr (gr_rfl wz)) h1) h2) h3)) (show w.heap.size ≤ w.heap.size + 1 by omega))
  clear h1 h2 h3
  go_wp2
  exact bodyPost_ret (v := .agg ((four ⟨l1, m1, c1, b1, e1⟩ ⟨l2, m2, c2, b2, e2⟩ ⟨l3, m3, c3, b3, e3⟩ ⟨0, 0, 0, ⟨#[]⟩, ⟨#[]⟩⟩)).toArray) (results_row (n := 4) (e := 24) rfl rfl HR9.out (by kernel_rfl) (by kernel_rfl)) rfl ⟨_, _, _, _, HGG.out.1, HGG.out.2.1, HGG.out.2.2, good_zero, rfl, HG9.out⟩
end Go.Proofs.YtaejnklgnegkhaaGreatDoor
namespace Go.Proofs.YtaejnklgnegkhaaGreatDoor
open Go.RowKit Pt Sh

/-- One of four. -/
def pick4 (a0 a1 a2 a3 : S5) : Nat → S5
  | 0 => a0
  | 1 => a1
  | 2 => a2
  | _ => a3
theorem pick_good {a0 a1 a2 a3 : S5} (h0 : GoodS a0) (h1 : GoodS a1) (h2 : GoodS a2) (h3 : GoodS a3) (i : Nat) : GoodS (pick4 a0 a1 a2 a3 i) := by
  match i with
  | 0 => exact h0
  | 1 => exact h1
  | 2 => exact h2
  | _ + 3 => exact h3
theorem pick_cells {a0 a1 a2 a3 : S5} {i : Nat} (h : i < 4) : (four a0 a1 a2 a3)[i * 5]? = some (.int .i64 (pick4 a0 a1 a2 a3 i).l) ∧ (four a0 a1 a2 a3)[i * 5 + 1]? = some (.int .i64 (pick4 a0 a1 a2 a3 i).m) ∧ (four a0 a1 a2 a3)[i * 5 + 2]? = some (.int .i64 (pick4 a0 a1 a2 a3 i).c) ∧ (four a0 a1 a2 a3)[i * 5 + 3]? = some (.string (pick4 a0 a1 a2 a3 i).b) ∧ (four a0 a1 a2 a3)[i * 5 + 4]? = some (.string (pick4 a0 a1 a2 a3 i).e) := by
  rcases (show i = 0 ∨ i = 1 ∨ i = 2 ∨ i = 3 by omega) with rfl | rfl | rfl | rfl <;> exact ⟨rfl, rfl, rfl, rfl, rfl⟩
/-- The cells of one of four shapes in a block. -/
def At4 (w : World) (L i : Nat) (a : S5) : Prop := w.cell? ⟨L, i * 5, none⟩ = some (.int .i64 a.l) ∧ w.cell? ⟨L, i * 5 + 1, none⟩ = some (.int .i64 a.m) ∧ w.cell? ⟨L, i * 5 + 2, none⟩ = some (.int .i64 a.c) ∧ w.cell? ⟨L, i * 5 + 3, none⟩ = some (.string a.b) ∧ w.cell? ⟨L, i * 5 + 4, none⟩ = some (.string a.e)
theorem at4 {w : World} {L i : Nat} {a0 a1 a2 a3 : S5} {t : TypeId} (h : Row w L (four a0 a1 a2 a3) t) (hi : i < 4) : At4 w L i (pick4 a0 a1 a2 a3 i) := by
  obtain ⟨h0, h1, h2, h3, h4⟩ := pick_cells (a0 := a0) (a1 := a1) (a2 := a2) (a3 := a3) hi
  exact ⟨h.cell _ _ h0, h.cell _ _ h1, h.cell _ _ h2, h.cell _ _ h3, h.cell _ _ h4⟩
end Go.Proofs.YtaejnklgnegkhaaGreatDoor
