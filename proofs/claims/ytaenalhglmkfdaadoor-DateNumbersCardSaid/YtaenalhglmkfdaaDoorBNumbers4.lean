/- Contracts of the program and of the reference, part 4: AddsL, Numbers, RowD, NumbersRow. -/
import Derived.Test.YtaenalhglmkfdaaDoorBNumbers3
import Derived.Deep.RegionHeld3
import Derived.Test.YtaenalhglmkfdaaDoorRows
import Derived.ProofKit
import Derived.ChangeSlices
import Derived.LaidLaws
import Derived.Lib.LaidIn
import Derived.Lib.LaidTab
import Derived.Stop.LaidErr
import Derived.OpenShut
namespace Go.Proofs.YtaenalhglmkfdaaDoor
open Go.RowKit Mth

set_option maxRecDepth 100000 in
set_option maxHeartbeats 4000000 in
theorem addsL_true (n ms : Int) (w : World) (hd : DV w) (hn : -9223372036854775808 ≤ n ∧ n ≤ 9223372036854775807) (hm : -9223372036854775808 ≤ ms ∧ ms ≤ 9223372036854775807) :
    Calls Tryd.prog 6 #[.int .i64 n, .int .i64 ms] w fun e w' => e = .returned (.bool true) ∧ w.grownBy w' none := by
  have r2 := and_rng ms 8191 (by decide)
  have r3 := and_rng ms 1 (by decide)
  obtain ⟨hm1, hm2⟩ := hm
  go_enter Tryd.func6, Tryd.ntmps6
  go_wp2_with fail
  refine (sanity_any w hd).mono ?_
  rintro e w1 ⟨rfl, hg1⟩
  have hd1 := hd.grown hg1
  obtain ⟨W0, hW0⟩ : ∃ W0 : World, W0 = w1.alloc (.cells #[.int .i64 n, .int .i64 ms, .int .i64 (bits .and .i64 n 2097151), .int .i64 ms, .int .i64 (bits .and .i64 n 2097151), .int .i64 (bits .and .i64 ms 8191), .int .i64 (bits .and .i64 n 2097151), .int .i64 (wrap64 (-bits .and .i64 ms 8191)), .int .i64 3652058, .int .i64 (bits .and .i64 ms 1), .int .i64 0, .int .i64 (wrap64 (-bits .and .i64 ms 1))] 37) := ⟨_, rfl⟩
  have hpair : ∀ i, i < 6 → ∃ p q : Int, W0.cell? ⟨w1.heap.size, i * 2, none⟩ = some (.int .i64 p) ∧ W0.cell? ⟨w1.heap.size, i * 2 + 1, none⟩ = some (.int .i64 q) ∧ -9223372036854775808 ≤ q ∧ q ≤ 9223372036854775807 := by
    have key : ∀ (t : TypeId) (xs : Array Value) (j : Nat), (w1.alloc (.cells xs t)).cell? ⟨w1.heap.size, j, none⟩ = xs[j]? := fun t xs j => cell_of_row _ _ j xs t (0, 0) (heap_alloc_new w1 _)
    rw [hW0]
    intro i hi
    have r2' : 0 ≤ bits .and .i64 ms 8191 ∧ bits .and .i64 ms 8191 ≤ 8191 := r2
    have r3' : 0 ≤ bits .and .i64 ms 1 ∧ bits .and .i64 ms 1 ≤ 1 := r3
    rcases i with _ | _ | _ | _ | _ | _ | i
    · exact ⟨_, _, by rw [key]; rfl, by rw [key]; rfl, hm1, hm2⟩
    · exact ⟨_, _, by rw [key]; rfl, by rw [key]; rfl, hm1, hm2⟩
    · exact ⟨_, _, by rw [key]; rfl, by rw [key]; rfl, by omega, by omega⟩
    · exact ⟨_, _, by rw [key]; rfl, by rw [key]; rfl, wrap_rng _⟩
    · exact ⟨_, _, by rw [key]; rfl, by rw [key]; rfl, by omega, by omega⟩
    · exact ⟨_, _, by rw [key]; rfl, by rw [key]; rfl, wrap_rng _⟩
    · omega
  have hgw : w.grownBy W0 none := by rw [hW0]; exact gr_then hg1 (gr_alloc w1 _ none)
  have hd0 : DV W0 := hd.grown hgw
  have HG := Lib.hid hgw
  clear hg1 hgw r2 r3
  go_wp2
  rw [← hW0]
  generalize w1.heap.size = G at hpair ⊢
  have HP := Lib.hid hpair
  clear hW0 hpair
  go_loopw [50] (fun kv wr => ∃ k : Nat, k ≤ 6 ∧ kv = .int .i64 k ∧ W0.grownBy wr none) (fun kv _ => 6 - (intOf kv).toNat)
  case atStart => exact ⟨0, by omega, rfl, World.grownBy.refl _ _⟩
  case round =>
    obtain ⟨k, hk, rfl, hgr⟩ := hrel
    by_cases hlt : k < 6
    · obtain ⟨p, q, hc0, hc1, hq1, hq2⟩ := HP.out k hlt
      have hc0 := hgr.cell hc0 (by simp)
      have hc1 := hgr.cell hc1 (by simp)
      have hdr := hd0.grown hgr
      have hdr2 := hdr.grown (gr_alloc wr (.cells #[.int .i64 p, .int .i64 q] 37) none)
      have hm1 := add_any p q hq1 hq2 (wr.alloc (.cells #[.int .i64 p, .int .i64 q] 37))
      have hm2 := radd_any p q (wr.alloc (.cells #[.int .i64 p, .int .i64 q] 37))
      have hm3 := weekday_any p (wr.alloc (.cells #[.int .i64 p, .int .i64 q] 37))
      have hm4 := rweekday_any p (wr.alloc (.cells #[.int .i64 p, .int .i64 q] 37))
      generalize addD p q = z at hm1 hm2
      generalize wkD p = u at hm3 hm4
      obtain ⟨z1, z2⟩ := z
      obtain ⟨u1, u2⟩ := u
      have HM := Lib.hid (And.intro hm1 (And.intro hm2 (And.intro hm3 hm4)))
      clear hm1 hm2 hm3 hm4 hq1 hq2
      go_wp2_with fail
      refine HM.out.1.mono ?_
      rintro e w' ⟨rfl, rfl⟩
      go_wp2_with fail
      refine HM.out.2.1.mono ?_
      rintro e w' ⟨rfl, rfl⟩
      go_wp2_with fail
      refine HM.out.2.2.1.mono ?_
      rintro e w' ⟨rfl, rfl⟩
      go_wp2_with fail
      refine HM.out.2.2.2.mono ?_
      rintro e w' ⟨rfl, rfl⟩
      have hgr2 := gr_then hgr (gr_alloc wr (.cells #[.int .i64 p, .int .i64 q] 37) none)
      go_wp2
      exact ⟨⟨k + 1, by omega, by congr 1, hgr2⟩, by simp [intOf]; omega⟩
    · obtain rfl : k = 6 := by omega
      have r1' : 0 ≤ bits .and .i64 n 2097151 ∧ bits .and .i64 n 2097151 ≤ 2097151 := and_rng n 2097151 (by decide)
      generalize bits .and .i64 n 2097151 = q at r1' ⊢
      have e1 : wkD q = (q % 7 + 1, true) := by unfold wkD; rw [isN_true ⟨by omega, by omega⟩]; rfl
      have e2 : wkD (q + 7) = (q % 7 + 1, true) := by unfold wkD; rw [isN_true ⟨by omega, by omega⟩, show (q + 7) % 7 = q % 7 from by omega]; rfl
      have e3 : wkD (q + 1) = ((q + 1) % 7 + 1, true) := by unfold wkD; rw [isN_true ⟨by omega, by omega⟩]; rfl
      have HE := Lib.hid (And.intro e1 (And.intro e2 e3))
      have e4 : (((q + 1) % 7 + 1 : Int) == (q % 7 + 1) % 7 + 1) = true := by rw [beq_iff_eq]; omega
      obtain ⟨q1, q2⟩ := r1'
      clear e1 e2 e3
      go_wp2_with fail
      refine (weekday_any _ _).mono ?_
      rintro e w' ⟨rfl, rfl⟩
      rw [HE.out.1]
      go_wp2_with fail
      refine (weekday_any _ _).mono ?_
      rintro e w' ⟨rfl, rfl⟩
      rw [HE.out.2.1]
      go_wp2_with fail
      refine (weekday_any _ _).mono ?_
      rintro e w' ⟨rfl, rfl⟩
      rw [HE.out.2.2]
      go_wp2
      go_ret
      exact ⟨rfl, gr_then HG.out hgr⟩
end Go.Proofs.YtaenalhglmkfdaaDoor
namespace Go.Proofs.YtaenalhglmkfdaaDoor
open Go.RowKit Mth

set_option maxRecDepth 100000 in
set_option maxHeartbeats 4000000 in
theorem numbers_true (q0 q1 q2 : Int) (m0 m1 m2 : Nat) (n : Int) (w : World) (hd : DV w) (hq0 : -9223372036854775808 ≤ q0 ∧ q0 ≤ 9223372036854775807) (_hq1 : -9223372036854775808 ≤ q1 ∧ q1 ≤ 9223372036854775807) (_hq2 : -9223372036854775808 ≤ q2 ∧ q2 ≤ 9223372036854775807) (hm0 : m0 ≤ 255) (hm1 : m1 ≤ 255) (hm2 : m2 ≤ 255) (_hn : -9223372036854775808 ≤ n ∧ n ≤ 9223372036854775807) :
    Calls Tryd.prog 3 #[.agg #[.int .i64 q0, .int .i64 q1, .int .i64 q2], .agg #[.int .u8 m0, .int .u8 m1, .int .u8 m2], .int .i64 n] w fun e w' => e = .returned (.bool true) ∧ w.grownBy w' none := by
  have r0 : 0 ≤ bits .and .i64 q0 8191 ∧ bits .and .i64 q0 8191 ≤ 8191 := and_rng q0 8191 (by decide)
  obtain ⟨i0, hi0⟩ : ∃ i, i = m0 % 8 := ⟨_, rfl⟩
  obtain ⟨i1, hi1⟩ : ∃ i, i = m1 % 14 := ⟨_, rfl⟩
  obtain ⟨i2, hi2⟩ : ∃ i, i = m2 % 33 := ⟨_, rfl⟩
  obtain ⟨i3, hi3⟩ : ∃ i, i = m1 % 12 := ⟨_, rfl⟩
  obtain ⟨i4, hi4⟩ : ∃ i, i = m2 % 6 := ⟨_, rfl⟩
  have hz0 : (m0 : Int).tmod 8 = (i0 : Int) := by rw [hi0]; rfl
  have hz1 : (m1 : Int).tmod 14 = (i1 : Int) := by rw [hi1]; rfl
  have hz2 : (m2 : Int).tmod 33 = (i2 : Int) := by rw [hi2]; rfl
  have hz3 : (m1 : Int).tmod 12 = (i3 : Int) := by rw [hi3]; rfl
  have hz4 : (m2 : Int).tmod 6 = (i4 : Int) := by rw [hi4]; rfl
  have hi8 : i0 < 8 := by omega
  have hj1 : i1 < 14 := by omega
  have hj2 : i2 < 33 := by omega
  have hj3 : i3 < 12 := by omega
  have hj4 : i4 < 6 := by omega
  clear hi0 hi1 hi2 hi3 hi4
  have u0 : (0 : Int) ≤ (i0 : Int) := by omega
  have u1 : (i0 : Int) < 8 := by omega
  have u1' : i0 < 8 := by omega
  have u2 : IntKind.i64.wrap (1 + bits .and .i64 q0 8191) = 1 + bits .and .i64 q0 8191 := by rw [IntKind.wrap_i64]; omega
  have u3 : IntKind.i64.wrap (1 + (i3 : Int)) = 1 + (i3 : Int) := by rw [IntKind.wrap_i64]; omega
  have u4 : IntKind.i64.wrap (27 + (i4 : Int)) = 27 + (i4 : Int) := by rw [IntKind.wrap_i64]; omega
  have u5 : IntKind.i64.wrap (i1 : Int) = (i1 : Int) := by rw [IntKind.wrap_i64]; omega
  have u6 : IntKind.i64.wrap (i2 : Int) = (i2 : Int) := by rw [IntKind.wrap_i64]; omega
  have u7 : IntKind.i64.wrap (i3 : Int) = (i3 : Int) := by rw [IntKind.wrap_i64]; omega
  have u8 : IntKind.i64.wrap (i4 : Int) = (i4 : Int) := by rw [IntKind.wrap_i64]; omega
  have hdb := hd.grown (gr_then (gr_alloc w (.cells #[.int .i64 q0, .int .i64 q1, .int .i64 q2] 22) none) (gr_alloc _ (.cells #[.int .u8 m0, .int .u8 m1, .int .u8 m2] 23) none))
  have hgb := gr_then (gr_alloc w (.cells #[.int .i64 q0, .int .i64 q1, .int .i64 q2] 22) none) (gr_alloc (w.alloc (.cells #[.int .i64 q0, .int .i64 q1, .int .i64 q2] 22)) (.cells #[.int .u8 m0, .int .u8 m1, .int .u8 m2] 23) none)
  have kq : ∀ j, ((w.alloc (.cells #[.int .i64 q0, .int .i64 q1, .int .i64 q2] 22)).alloc (.cells #[.int .u8 m0, .int .u8 m1, .int .u8 m2] 23)).cell? ⟨w.heap.size, j, none⟩ = (#[.int .i64 q0, .int .i64 q1, .int .i64 q2] : Array Value)[j]? := fun j => by
    rw [cell_of_row _ _ j _ 22 (0, 0) (own_block (heap_alloc_new w _) (gr_alloc _ _ none) no_row)]
  have kr : ∀ j, ((w.alloc (.cells #[.int .i64 q0, .int .i64 q1, .int .i64 q2] 22)).alloc (.cells #[.int .u8 m0, .int .u8 m1, .int .u8 m2] 23)).cell? ⟨w.heap.size + 1, j, none⟩ = (#[.int .u8 m0, .int .u8 m1, .int .u8 m2] : Array Value)[j]? := fun j => by
    have := heap_alloc_new (w.alloc (.cells #[.int .i64 q0, .int .i64 q1, .int .i64 q2] 22)) (.cells #[.int .u8 m0, .int .u8 m1, .int .u8 m2] 23)
    rw [World.size_alloc] at this
    rw [cell_of_row _ _ j _ 23 (0, 0) this]
  have KQ := Lib.hid kq
  have KR := Lib.hid kr
  have HGB := Lib.hid hgb
  clear kq kr hgb
  go_enter Tryd.func3, Tryd.ntmps3
  go_wp2_with fail
  refine (sanity_any _ hdb).mono ?_
  rintro e w1 ⟨rfl, hg1⟩
  have hd1 := hdb.grown hg1
  have a0 := hg1.cell ((KQ.out 0).trans rfl) (by simp)
  have a1 := hg1.cell ((KQ.out 1).trans rfl) (by simp)
  have a2 := hg1.cell ((KQ.out 2).trans rfl) (by simp)
  have b0 := hg1.cell ((KR.out 0).trans rfl) (by simp)
  have b1 := hg1.cell ((KR.out 1).trans rfl) (by simp)
  have b2 := hg1.cell ((KR.out 2).trans rfl) (by simp)
  have HG := Lib.hid (gr_then HGB.out hg1)
  generalize w.heap.size = B at *
  clear hg1 KQ KR HGB
  obtain ⟨W1, hW1⟩ : ∃ W1 : World, W1 = w1.alloc (.cells #[.int .i64 1, .int .i64 4, .int .i64 100, .int .i64 400, .int .i64 1900, .int .i64 2000, .int .i64 2024, .int .i64 9999] 3) := ⟨_, rfl⟩
  obtain ⟨yv, hyv⟩ : ∃ yv : Int, W1.cell? ⟨w1.heap.size, i0, none⟩ = some (.int .i64 yv) := by
    have key : ∀ (t : TypeId) (xs : Array Value) (j : Nat), (w1.alloc (.cells xs t)).cell? ⟨w1.heap.size, j, none⟩ = xs[j]? := fun t xs j => cell_of_row _ _ j xs t (0, 0) (heap_alloc_new w1 _)
    rw [hW1]
    rcases i0 with _ | _ | _ | _ | _ | _ | _ | _ | i0
    all_goals first | exact ⟨_, by rw [key]; rfl⟩ | omega
  have gW : w1.grownBy W1 none := by rw [hW1]; exact gr_alloc w1 _ none
  have hd2 := hd1.grown gW
  have a0 : W1.drew.cell? ⟨B, 0, none⟩ = some (.int .i64 q0) := gW.cell a0 (by simp)
  have a1 : W1.drew.cell? ⟨B, 1, none⟩ = some (.int .i64 q1) := gW.cell a1 (by simp)
  have a2 : W1.drew.cell? ⟨B, 2, none⟩ = some (.int .i64 q2) := gW.cell a2 (by simp)
  have b0 : W1.drew.cell? ⟨B + 1, 0, none⟩ = some (.int .u8 m0) := gW.cell b0 (by simp)
  have b1 : W1.drew.cell? ⟨B + 1, 1, none⟩ = some (.int .u8 m1) := gW.cell b1 (by simp)
  have b2 : W1.drew.cell? ⟨B + 1, 2, none⟩ = some (.int .u8 m2) := gW.cell b2 (by simp)
  have hyv : W1.drew.cell? ⟨w1.heap.size, i0, none⟩ = some (.int .i64 yv) := hyv
  have HG1 := Lib.hid (gr_then HG.out gW)
  go_wp2
  rw [← hW1]
  generalize w1.heap.size = Y at *
  clear hW1 gW hd1 HG
  have KEEP : Hid (∀ o : Obj, (W1.alloc o).drew.cell? ⟨B, 0, none⟩ = some (.int .i64 q0) ∧ (W1.alloc o).drew.cell? ⟨B, 1, none⟩ = some (.int .i64 q1) ∧ (W1.alloc o).drew.cell? ⟨B, 2, none⟩ = some (.int .i64 q2) ∧ (W1.alloc o).drew.cell? ⟨B + 1, 0, none⟩ = some (.int .u8 m0) ∧ (W1.alloc o).drew.cell? ⟨B + 1, 1, none⟩ = some (.int .u8 m1) ∧ (W1.alloc o).drew.cell? ⟨B + 1, 2, none⟩ = some (.int .u8 m2) ∧ (W1.alloc o).drew.cell? ⟨Y, i0, none⟩ = some (.int .i64 yv)) := Lib.hid fun o => ⟨(gr_alloc W1 o none).cell a0 (by simp), (gr_alloc W1 o none).cell a1 (by simp), (gr_alloc W1 o none).cell a2 (by simp), (gr_alloc W1 o none).cell b0 (by simp), (gr_alloc W1 o none).cell b1 (by simp), (gr_alloc W1 o none).cell b2 (by simp), (gr_alloc W1 o none).cell hyv (by simp)⟩
  go_region_held3 (fun w' => w'.cell? ⟨B, 0, none⟩ = some (.int .i64 q0) ∧ w'.cell? ⟨B, 1, none⟩ = some (.int .i64 q1) ∧ w'.cell? ⟨B, 2, none⟩ = some (.int .i64 q2) ∧ w'.cell? ⟨B + 1, 0, none⟩ = some (.int .u8 m0) ∧ w'.cell? ⟨B + 1, 1, none⟩ = some (.int .u8 m1) ∧ w'.cell? ⟨B + 1, 2, none⟩ = some (.int .u8 m2) ∧ w'.cell? ⟨Y, i0, none⟩ = some (.int .i64 yv)) (first | exact ⟨a0, a1, a2, b0, b1, b2, hyv⟩ | exact KEEP.out _) (first | fail)
  obtain ⟨W2, hW2⟩ : ∃ W2 : World, W2 = (W1.alloc (.cells #[.int .i64 q0, .int .i64 q1, .int .i64 q2, .int .i64 yv, .int .i64 (i1 : Int), .int .i64 (i2 : Int), .int .i64 (1 + bits .and .i64 q0 8191), .int .i64 (1 + (i3 : Int)), .int .i64 (27 + (i4 : Int))] 22)).drew := ⟨_, rfl⟩
  have htri : ∀ i, i < 3 → ∃ x y z : Int, W2.cell? ⟨W1.heap.size, i * 3, none⟩ = some (.int .i64 x) ∧ W2.cell? ⟨W1.heap.size, i * 3 + 1, none⟩ = some (.int .i64 y) ∧ W2.cell? ⟨W1.heap.size, i * 3 + 2, none⟩ = some (.int .i64 z) := by
    have key : ∀ (t : TypeId) (xs : Array Value) (j : Nat), (W1.alloc (.cells xs t)).drew.cell? ⟨W1.heap.size, j, none⟩ = xs[j]? := fun t xs j => cell_of_row _ _ j xs t (0, 0) (heap_alloc_new W1 _)
    rw [hW2]
    intro i hi
    rcases i with _ | _ | _ | i
    · exact ⟨_, _, _, by rw [key]; rfl, by rw [key]; rfl, by rw [key]; rfl⟩
    · exact ⟨_, _, _, by rw [key]; rfl, by rw [key]; rfl, by rw [key]; rfl⟩
    · exact ⟨_, _, _, by rw [key]; rfl, by rw [key]; rfl, by rw [key]; rfl⟩
    · omega
  have hgw : W1.grownBy W2 none := by rw [hW2]; exact gr_then (gr_alloc W1 _ none) ⟨rfl, rfl, rfl, Nat.le_refl _, fun _ _ _ => rfl⟩
  have hd3 : DV W2 := hd2.grown hgw
  have HG2 := Lib.hid (gr_then HG1.out hgw)
  have HB := Lib.hid (And.intro (hgw.cell b0 (by simp)) (hgw.cell b1 (by simp)))
  have HP := Lib.hid htri
  clear hgw htri a0 a1 a2 b0 b1 b2 hyv KEEP HG1 r0
  rw [← hW2]
  clear hW2
  go_wp2
  generalize W1.heap.size = G at HP ⊢
  go_loopw [60] (fun kv wr => ∃ k : Nat, k ≤ 3 ∧ kv = .int .i64 k ∧ W2.grownBy wr none) (fun kv _ => 3 - (intOf kv).toNat)
  case atStart => exact ⟨0, by omega, rfl, World.grownBy.refl _ _⟩
  case round =>
    obtain ⟨k, hk, rfl, hgr⟩ := hrel
    by_cases hlt : k < 3
    · obtain ⟨x, y, z, hc0, hc1, hc2⟩ := HP.out k hlt
      have hc0 := hgr.cell hc0 (by simp)
      have hc1 := hgr.cell hc1 (by simp)
      have hc2 := hgr.cell hc2 (by simp)
      have hdr := hd3.grown hgr
      have hgr2 := gr_then hgr (gr_alloc wr (.cells #[.int .i64 x, .int .i64 y, .int .i64 z] 22) none)
      have hdr2 := hdr.grown (gr_alloc wr (.cells #[.int .i64 x, .int .i64 y, .int .i64 z] 22) none)
      have hv : okD x y z = (numD x y z).2 := by unfold numD; cases okD x y z <;> rfl
      have hm1 := number_any x y z _ hdr2.l
      have hm2 := rnumber_any x y z (wr.alloc (.cells #[.int .i64 x, .int .i64 y, .int .i64 z] 22))
      have hm3 := valid_any x y z _ hdr2.l
      rw [hv] at hm3
      generalize numD x y z = t at hm1 hm2 hm3
      obtain ⟨t1, t2⟩ := t
      have HM := Lib.hid (And.intro hm1 (And.intro hm2 hm3))
      clear hm1 hm2 hm3 hv
      go_wp2_with fail
      refine HM.out.1.mono ?_
      rintro e w' ⟨rfl, rfl⟩
      go_wp2_with fail
      refine HM.out.2.1.mono ?_
      rintro e w' ⟨rfl, rfl⟩
      go_wp2_with fail
      refine HM.out.2.2.mono ?_
      rintro e w' ⟨rfl, rfl⟩
      go_wp2
      exact ⟨⟨k + 1, by omega, by congr 1, hgr2⟩, by simp [intOf]; omega⟩
    · clear hk
      have b0 := hgr.cell HB.out.1 (by simp)
      have b1 := hgr.cell HB.out.2 (by simp)
      have hd4 := hd3.grown hgr
      have HG3 := Lib.hid (gr_then HG2.out hgr)
      have v0 : IntKind.i64.wrap (m0 : Int) = (m0 : Int) := by rw [IntKind.wrap_i64]; omega
      have v1 : IntKind.i64.wrap (m1 : Int) = (m1 : Int) := by rw [IntKind.wrap_i64]; omega
      have v2 : IntKind.i64.wrap (3652058 - (m0 : Int)) = 3652058 - (m0 : Int) := by rw [IntKind.wrap_i64]; omega
      obtain ⟨W3, hW3⟩ : ∃ W3 : World, W3 = wr.alloc (.cells #[.int .i64 n, .int .i64 (bits .and .i64 n 4194303), .int .i64 (3652058 - (m0 : Int)), .int .i64 (m1 : Int)] 3) := ⟨_, rfl⟩
      have hone : ∀ i, i < 4 → ∃ x : Int, W3.cell? ⟨wr.heap.size, i, none⟩ = some (.int .i64 x) := by
        have key : ∀ (t : TypeId) (xs : Array Value) (j : Nat), (wr.alloc (.cells xs t)).cell? ⟨wr.heap.size, j, none⟩ = xs[j]? := fun t xs j => cell_of_row _ _ j xs t (0, 0) (heap_alloc_new wr _)
        rw [hW3]
        intro i hi
        rcases i with _ | _ | _ | _ | i
        · exact ⟨_, by rw [key]; rfl⟩
        · exact ⟨_, by rw [key]; rfl⟩
        · exact ⟨_, by rw [key]; rfl⟩
        · exact ⟨_, by rw [key]; rfl⟩
        · omega
      have hgx : wr.grownBy W3 none := by rw [hW3]; exact gr_alloc wr _ none
      have hd5 := hd4.grown hgx
      have HG4 := Lib.hid (gr_then HG3.out hgx)
      have HO := Lib.hid hone
      clear hgr hone hgx HG3 HG2 HP HB
      go_wp2
      rw [← hW3]
      clear hW3
      generalize wr.heap.size = G2 at HO ⊢
      go_loopw [116] (fun kv wr => ∃ k : Nat, k ≤ 4 ∧ kv = .int .i64 k ∧ W3 = wr) (fun kv _ => 4 - (intOf kv).toNat)
      case atStart => exact ⟨0, by omega, rfl, rfl⟩
      case round =>
        obtain ⟨k, hk, rfl, rfl⟩ := hrel
        by_cases hlt : k < 4
        · obtain ⟨x, hc0⟩ := HO.out k hlt
          obtain ⟨a, b, c, u, hcv⟩ : ∃ (a b c : Int) (u : Bool), civD x = .tuple #[.int .i64 a, .int .i64 b, .int .i64 c, .bool u] := by
            unfold civD
            split
            · exact ⟨_, _, _, _, rfl⟩
            · exact ⟨_, _, _, _, rfl⟩
          have hm1 := civil_any x W3 hd5.l
          have hm2 := rcivil_any x W3
          rw [hcv] at hm1 hm2
          have HM := Lib.hid (And.intro hm1 hm2)
          clear hm1 hm2 hcv
          go_wp2_with fail
          refine HM.out.1.mono ?_
          rintro e w' ⟨rfl, rfl⟩
          go_wp2_with fail
          refine HM.out.2.mono ?_
          rintro e w' ⟨rfl, rfl⟩
          go_wp2
          exact ⟨⟨k + 1, by omega, by congr 1, by trivial⟩, by simp [intOf]; omega⟩
        · obtain rfl : k = 4 := by omega
          go_wp2
          go_ret
          exact ⟨rfl, HG4.out⟩
end Go.Proofs.YtaenalhglmkfdaaDoor
namespace Go.Proofs.YtaenalhglmkfdaaDoor
open Go.ChangeShapes Go.WideShapes Go.ChangeAt Go.RowKit Mth

theorem own0 : ownKnob Tryd.prog.godebug = none := by kernel_rfl
theorem laidOut0 : laidOutB Tryd.prog = true := by kernel_rfl

def cellsD : DataW Unit → Array Value
  | .agg l => (l.map fun | .lit (.int k z) => Value.int k z | .lit (.string s) => Value.string ⟨s.toArray⟩ | _ => Value.nilIface).toArray
  | _ => #[]
noncomputable def laidWorld (os : Os) : World :=
  let w0 := World.holding Tryd.prog os ⟨#[], #[], []⟩
  let put (h : Array Obj) (g : Nat) (cs : Array Value) : Array Obj := h.modify g fun
    | .cells _ t frozen => .cells cs t frozen
    | o => o
  { w0 with heap := put (put (put (put (put w0.heap 3 (cellsD Rows.laid_math_bits_deBruijn32tab)) 4 (cellsD Rows.laid_math_bits_deBruijn64tab)) 2 (cellsD Rows.laid_internal_strconv_uint64pow10)) 0 (cellsD Rows.laid_concord_date_lengths)) 1 (cellsD Rows.laid_concord_date_fields) }

theorem cells_of_strs {H : Type} {enc : TypeId × Value → H} {P : Program} {w : World} {base : Nat} {sp : Nat → Bool} {held : Bool} {fuel : Nat} {t e : TypeId} {n : Nat} {cs : List Value} {zs : List (List UInt8)} {p : List MemPlace}
    (ht : P.underlying t = some (.array n e)) (he : P.underlying e = some .string) (hce : P.cellsOf e = 1) (hct : P.cellsOf t = n)
    (h : DataW.trod enc P w base sp held fuel t cs = some (.agg (zs.map fun z => .lit (.string z)), p)) : cs = zs.map fun z => Value.string ⟨z.toArray⟩ := by
  cases fuel with
  | zero => simp [DataW.trod] at h
  | succ fuel =>
    simp only [DataW.trod, ht, hce, hct, Nat.mul_one] at h
    split at h
    · rename_i hl
      obtain ⟨xs, hm, hx⟩ := Option.map_eq_some_iff.1 h
      have hxs : xs.map (·.1) = zs.map fun z => (DataW.lit (.string z) : DataW H) := by
        have := congrArg Prod.fst hx
        simpa using this
      have hxl : xs.length = n := by simpa using Lib.mapM_length hm
      have hzl : zs.length = n := by
        have := congrArg List.length hxs
        simp at this
        omega
      apply List.ext_getElem?
      intro i
      by_cases hi : i < n
      · obtain ⟨b, hb, hf⟩ := Lib.mapM_at hm i i (by simp [hi])
        obtain ⟨s, hc, rfl, _⟩ := DataW.trod_string he hf
        have h1 : cs[i]? = some (.string s) := by
          have := congrArg (·[0]?) hc
          simpa [List.getElem?_take, List.getElem?_drop] using this
        have h2 : (xs.map (·.1))[i]? = some (DataW.lit (.string s.data.toList) : DataW H) := by simp [hb]
        rw [hxs] at h2
        simp only [List.getElem?_map, Option.map_eq_some_iff, DataW.lit.injEq, Lit.string.injEq] at h2
        obtain ⟨z', hz', e⟩ := h2
        rw [h1, List.getElem?_map, hz']
        simp only [Option.map_some]
        rw [toArray_eq s e]
      · rw [List.getElem?_eq_none (by omega), List.getElem?_eq_none (by simp; omega)]
    · cases h
theorem strs_of_head {P : Program} {W : World} {name : String} {zs : List (List UInt8)} {rest : List (String × DataW Unit)} {g : Nat} {t e : TypeId} {n : Nat}
    (hg : P.globalNamed name = some g) (hty : (P.globals[g]?).map (·.type) = some t) (ht : P.underlying t = some (.array n e)) (he : P.underlying e = some .string) (hce : P.cellsOf e = 1) (hct : P.cellsOf t = n)
    (h : laidMet P ((name, .agg (zs.map fun z => .lit (.string z))) :: rest) W) : W.var? P name = some (zs.map fun z => Value.string ⟨z.toArray⟩).toArray := by
  obtain ⟨ps, ⟨g', t', cs, fuel, p, q, hg', ht', hvar, hd, _, _⟩, _⟩ := h
  obtain rfl := Option.some.inj (hg.symm.trans hg')
  obtain rfl := Option.some.inj (hty.symm.trans ht')
  rw [hvar, ← cells_of_strs ht he hce hct hd]

abbrev laidL : List (String × DataW Unit) := [("math/bits.deBruijn32tab", Rows.laid_math_bits_deBruijn32tab), ("math/bits.deBruijn64tab", Rows.laid_math_bits_deBruijn64tab), ("internal/strconv.uint64pow10", Rows.laid_internal_strconv_uint64pow10), ("concord/date.lengths", Rows.laid_concord_date_lengths), ("concord/date.fields", Rows.laid_concord_date_fields)]
theorem dv_of {w : World} (h : laidMet Tryd.prog laidL w) : DV w :=
  ⟨fv_of (strs_of_head (zs := [[89, 89, 89, 89], [77, 77], [77], [68, 68], [68]]) (g := 1) (t := 85) (e := 9) (n := 5) (by kernel_rfl) (by kernel_rfl) (by kernel_rfl) (by kernel_rfl) (by kernel_rfl) (by kernel_rfl) h.tail.tail.tail.tail),
   Lib.tabIs_of_head (g := 0) (t := 69) (e := 3) (n := 12) (by kernel_rfl) (by kernel_rfl) (by kernel_rfl) (by kernel_rfl) (by kernel_rfl) (by kernel_rfl) (show laidMet Tryd.prog [("concord/date.lengths", Lib.tabData .i64 lensL), ("concord/date.fields", Rows.laid_concord_date_fields)] w from h.tail.tail.tail),
   Lib.tabIs_of_head (g := 2) (t := 97) (e := 91) (n := 20) (by kernel_rfl) (by kernel_rfl) (by kernel_rfl) (by kernel_rfl) (by kernel_rfl) (by kernel_rfl) (show laidMet Tryd.prog [("internal/strconv.uint64pow10", Lib.tabData .u64 Lib.pow10Tab), ("concord/date.lengths", Rows.laid_concord_date_lengths), ("concord/date.fields", Rows.laid_concord_date_fields)] w from h.tail.tail)⟩
set_option maxRecDepth 1000000 in
theorem laid_at (os : Os) (args : Array Value) : laidMet Tryd.prog laidL ((laidWorld os).forCall (fun _ _ => 0) ⟨#[], args, []⟩).memory :=
  have h : LaidIn Tryd.prog ((laidWorld os).forCall (fun _ _ => 0) ⟨#[], args, []⟩).memory laidL [3, 4, 2, 0, 1] :=
    LaidIn.of_run [3, 4, 2, 0, 1] 8 (by kernel_rfl) (by kernel_rfl) (by kernel_rfl) (by kernel_rfl)
  h.met

set_option maxRecDepth 100000 in
theorem int_arg {H : Type} {enc : TypeId × Value → H} {W : World} {base : Nat} {v : Value} {d : DataW H} {p : List MemPlace} (hok : Value.okWide Tryd.prog W .any base 3 v) (h : DataW.Trod enc Tryd.prog W 0 (fun _ => true) true 3 v d p) : ∃ n : Int, v = .int .i64 n ∧ -9223372036854775808 ≤ n ∧ n ≤ 9223372036854775807 := by
  obtain ⟨n, rfl, _, _, hw⟩ := open_int Tryd.underlying3 hok h
  have a1 : IntKind.i64.min = -9223372036854775808 := rfl
  have a2 : IntKind.i64.max = 9223372036854775807 := rfl
  refine ⟨n, rfl, ?_⟩
  simpa [Lit.wf, a1, a2] using hw
set_option maxRecDepth 100000 in
theorem byte_arg {H : Type} {enc : TypeId × Value → H} {W : World} {base : Nat} {v : Value} {d : DataW H} {p : List MemPlace} (hok : Value.okWide Tryd.prog W .any base 5 v) (h : DataW.Trod enc Tryd.prog W 0 (fun _ => true) true 5 v d p) : ∃ n : Nat, v = .int .u8 (n : Int) ∧ n ≤ 255 := by
  obtain ⟨n, rfl, _, _, hw⟩ := open_int Tryd.underlying5 hok h
  have a1 : IntKind.u8.min = 0 := rfl
  have a2 : IntKind.u8.max = 255 := rfl
  have hb : 0 ≤ n ∧ n ≤ 255 := by simpa [Lit.wf, a1, a2] using hw
  exact ⟨n.toNat, by rw [Int.toNat_of_nonneg hb.1], by omega⟩
set_option maxRecDepth 100000 in
theorem u16_arg {H : Type} {enc : TypeId × Value → H} {W : World} {base : Nat} {v : Value} {d : DataW H} {p : List MemPlace} (hok : Value.okWide Tryd.prog W .any base 35 v) (h : DataW.Trod enc Tryd.prog W 0 (fun _ => true) true 35 v d p) : ∃ n : Nat, v = .int .u16 (n : Int) ∧ n ≤ 65535 := by
  obtain ⟨n, rfl, _, _, hw⟩ := open_int Tryd.underlying35 hok h
  have a1 : IntKind.u16.min = 0 := rfl
  have a2 : IntKind.u16.max = 65535 := rfl
  have hb : 0 ≤ n ∧ n ≤ 65535 := by simpa [Lit.wf, a1, a2] using hw
  exact ⟨n.toNat, by rw [Int.toNat_of_nonneg hb.1], by omega⟩
set_option maxRecDepth 100000 in
theorem u32_arg {H : Type} {enc : TypeId × Value → H} {W : World} {base : Nat} {v : Value} {d : DataW H} {p : List MemPlace} (hok : Value.okWide Tryd.prog W .any base 33 v) (h : DataW.Trod enc Tryd.prog W 0 (fun _ => true) true 33 v d p) : ∃ n : Nat, v = .int .u32 (n : Int) ∧ n ≤ 4294967295 := by
  obtain ⟨n, rfl, _, _, hw⟩ := open_int Tryd.underlying33 hok h
  have a1 : IntKind.u32.min = 0 := rfl
  have a2 : IntKind.u32.max = 4294967295 := rfl
  have hb : 0 ≤ n ∧ n ≤ 4294967295 := by simpa [Lit.wf, a1, a2] using hw
  exact ⟨n.toNat, by rw [Int.toNat_of_nonneg hb.1], by omega⟩
set_option maxRecDepth 100000 in
theorem str_arg {H : Type} {enc : TypeId × Value → H} {W : World} {base : Nat} {v : Value} {d : DataW H} {p : List MemPlace} (hok : Value.okWide Tryd.prog W .any base 9 v) (h : DataW.Trod enc Tryd.prog W 0 (fun _ => true) true 9 v d p) : ∃ s : ByteArray, v = .string s ∧ s.size ≤ maxLen := by
  obtain ⟨s, rfl⟩ := okWide_string Tryd.underlying9 hok
  obtain ⟨fuel, hf⟩ := h
  refine ⟨s, rfl, ?_⟩
  cases fuel with
  | zero => simp [DataW.trod] at hf
  | succ n =>
    simp [DataW.trod, Value.cells, Tryd.underlying9] at hf
    exact hf.1
theorem wf_i64 {n : Int} (h : (Lit.int .i64 n).wf = true) : -9223372036854775808 ≤ n ∧ n ≤ 9223372036854775807 := by
  have a1 : IntKind.i64.min = -9223372036854775808 := rfl
  have a2 : IntKind.i64.max = 9223372036854775807 := rfl
  simpa [Lit.wf, a1, a2] using h
theorem wf_u8 {n : Int} (h : (Lit.int .u8 n).wf = true) : ∃ m : Nat, n = (m : Int) ∧ m ≤ 255 := by
  have a1 : IntKind.u8.min = 0 := rfl
  have a2 : IntKind.u8.max = 255 := rfl
  have hb : 0 ≤ n ∧ n ≤ 255 := by simpa [Lit.wf, a1, a2] using h
  exact ⟨n.toNat, by rw [Int.toNat_of_nonneg hb.1], by omega⟩
/-- An argument that is an array of 2 numbers. -/
theorem arr2_arg {P : Program} {k : IntKind} {t e : TypeId} (ht : P.underlying t = some (.array 2 e)) (he : P.underlying e = some (.int k)) (hc : P.cellsOf t = 2) (hce : P.cellsOf e = 1) {H : Type} {enc : TypeId × Value → H} {W : World} {base : Nat} {v : Value} {d : DataW H} {p : List MemPlace} (hok : Value.okWide P W .any base t v) (h : DataW.Trod enc P W 0 (fun _ => true) true t v d p) : ∃ a0 a1 : Int, v = .agg #[.int k a0, .int k a1] ∧ (Lit.int k a0).wf = true ∧ (Lit.int k a1).wf = true := by
  simp only [Value.okWide, ht] at hok
  obtain ⟨cs, rfl, hsz, _⟩ := hok
  obtain ⟨fuel, hf⟩ := h
  rw [hc] at hsz
  obtain ⟨x0, x1, rfl⟩ : ∃ x0 x1, cs = #[x0, x1] := by
    rcases cs with ⟨l⟩
    match l, hsz with
    | [x0, x1], _ => exact ⟨x0, x1, rfl⟩
  obtain ⟨xs, m, _, _, _, hlen, hf2⟩ := DataW.trod_array ht hf
  have h0 := hf2 0 (by decide)
  have h1 := hf2 1 (by decide)
  rw [hce] at h0 h1
  match xs, hlen with
  | [y0, y1], _ =>
    obtain ⟨a0, e0, _, w0⟩ := DataW.trod_int he (x := y0) (by simpa using h0)
    obtain ⟨a1, e1, _, w1⟩ := DataW.trod_int he (x := y1) (by simpa using h1)
    simp [Value.cells] at e0 e1
    exact ⟨a0, a1, by rw [e0, e1], w0, w1⟩
/-- An argument that is an array of 3 numbers. -/
theorem arr3_arg {P : Program} {k : IntKind} {t e : TypeId} (ht : P.underlying t = some (.array 3 e)) (he : P.underlying e = some (.int k)) (hc : P.cellsOf t = 3) (hce : P.cellsOf e = 1) {H : Type} {enc : TypeId × Value → H} {W : World} {base : Nat} {v : Value} {d : DataW H} {p : List MemPlace} (hok : Value.okWide P W .any base t v) (h : DataW.Trod enc P W 0 (fun _ => true) true t v d p) : ∃ a0 a1 a2 : Int, v = .agg #[.int k a0, .int k a1, .int k a2] ∧ (Lit.int k a0).wf = true ∧ (Lit.int k a1).wf = true ∧ (Lit.int k a2).wf = true := by
  simp only [Value.okWide, ht] at hok
  obtain ⟨cs, rfl, hsz, _⟩ := hok
  obtain ⟨fuel, hf⟩ := h
  rw [hc] at hsz
  obtain ⟨x0, x1, x2, rfl⟩ : ∃ x0 x1 x2, cs = #[x0, x1, x2] := by
    rcases cs with ⟨l⟩
    match l, hsz with
    | [x0, x1, x2], _ => exact ⟨x0, x1, x2, rfl⟩
  obtain ⟨xs, m, _, _, _, hlen, hf2⟩ := DataW.trod_array ht hf
  have h0 := hf2 0 (by decide)
  have h1 := hf2 1 (by decide)
  have h2 := hf2 2 (by decide)
  rw [hce] at h0 h1 h2
  match xs, hlen with
  | [y0, y1, y2], _ =>
    obtain ⟨a0, e0, _, w0⟩ := DataW.trod_int he (x := y0) (by simpa using h0)
    obtain ⟨a1, e1, _, w1⟩ := DataW.trod_int he (x := y1) (by simpa using h1)
    obtain ⟨a2, e2, _, w2⟩ := DataW.trod_int he (x := y2) (by simpa using h2)
    simp [Value.cells] at e0 e1 e2
    exact ⟨a0, a1, a2, by rw [e0, e1, e2], w0, w1, w2⟩
/-- An argument that is an array of 8 numbers. -/
theorem arr8_arg {P : Program} {k : IntKind} {t e : TypeId} (ht : P.underlying t = some (.array 8 e)) (he : P.underlying e = some (.int k)) (hc : P.cellsOf t = 8) (hce : P.cellsOf e = 1) {H : Type} {enc : TypeId × Value → H} {W : World} {base : Nat} {v : Value} {d : DataW H} {p : List MemPlace} (hok : Value.okWide P W .any base t v) (h : DataW.Trod enc P W 0 (fun _ => true) true t v d p) : ∃ a0 a1 a2 a3 a4 a5 a6 a7 : Int, v = .agg #[.int k a0, .int k a1, .int k a2, .int k a3, .int k a4, .int k a5, .int k a6, .int k a7] ∧ (Lit.int k a0).wf = true ∧ (Lit.int k a1).wf = true ∧ (Lit.int k a2).wf = true ∧ (Lit.int k a3).wf = true ∧ (Lit.int k a4).wf = true ∧ (Lit.int k a5).wf = true ∧ (Lit.int k a6).wf = true ∧ (Lit.int k a7).wf = true := by
  simp only [Value.okWide, ht] at hok
  obtain ⟨cs, rfl, hsz, _⟩ := hok
  obtain ⟨fuel, hf⟩ := h
  rw [hc] at hsz
  obtain ⟨x0, x1, x2, x3, x4, x5, x6, x7, rfl⟩ : ∃ x0 x1 x2 x3 x4 x5 x6 x7, cs = #[x0, x1, x2, x3, x4, x5, x6, x7] := by
    rcases cs with ⟨l⟩
    match l, hsz with
    | [x0, x1, x2, x3, x4, x5, x6, x7], _ => exact ⟨x0, x1, x2, x3, x4, x5, x6, x7, rfl⟩
  obtain ⟨xs, m, _, _, _, hlen, hf2⟩ := DataW.trod_array ht hf
  have h0 := hf2 0 (by decide)
  have h1 := hf2 1 (by decide)
  have h2 := hf2 2 (by decide)
  have h3 := hf2 3 (by decide)
  have h4 := hf2 4 (by decide)
  have h5 := hf2 5 (by decide)
  have h6 := hf2 6 (by decide)
  have h7 := hf2 7 (by decide)
  rw [hce] at h0 h1 h2 h3 h4 h5 h6 h7
  match xs, hlen with
  | [y0, y1, y2, y3, y4, y5, y6, y7], _ =>
    obtain ⟨a0, e0, _, w0⟩ := DataW.trod_int he (x := y0) (by simpa using h0)
    obtain ⟨a1, e1, _, w1⟩ := DataW.trod_int he (x := y1) (by simpa using h1)
    obtain ⟨a2, e2, _, w2⟩ := DataW.trod_int he (x := y2) (by simpa using h2)
    obtain ⟨a3, e3, _, w3⟩ := DataW.trod_int he (x := y3) (by simpa using h3)
    obtain ⟨a4, e4, _, w4⟩ := DataW.trod_int he (x := y4) (by simpa using h4)
    obtain ⟨a5, e5, _, w5⟩ := DataW.trod_int he (x := y5) (by simpa using h5)
    obtain ⟨a6, e6, _, w6⟩ := DataW.trod_int he (x := y6) (by simpa using h6)
    obtain ⟨a7, e7, _, w7⟩ := DataW.trod_int he (x := y7) (by simpa using h7)
    simp [Value.cells] at e0 e1 e2 e3 e4 e5 e6 e7
    exact ⟨a0, a1, a2, a3, a4, a5, a6, a7, by rw [e0, e1, e2, e3, e4, e5, e6, e7], w0, w1, w2, w3, w4, w5, w6, w7⟩
theorem gr_low {w w' : World} (hg : w.grownBy w' none) : Below w.heap.size w w' := ⟨hg.os, hg.tape, hg.output, hg.size, fun k hk => hg.block k hk (by simp)⟩
end Go.Proofs.YtaenalhglmkfdaaDoor
namespace Go.Proofs.YtaenalhglmkfdaaDoor
open Go.ChangeShapes Go.WideShapes Go.ChangeAt Go.RowKit Mth

set_option maxRecDepth 1000000 in
set_option maxHeartbeats 4000000 in
theorem numbers_lifted (os : Os) (started : os.Started) (H : Type) (enc : TypeId × Value → H) :
    ReturnsInHanded {} Tryd.checked os 3 .any (fun w args => (Rows.dateNumbersSpec.pre enc Tryd.prog Tryd.f3 Rows.dateNumbersRow.domain false w args ∧ laidMet Tryd.prog Rows.dateNumbersRow.laid w) ∧ sizedMet enc Tryd.prog Tryd.f3 (OpenSpec.ofChange Rows.dateNumbersSpec) false w args)
      (Rows.dateNumbersSpec.post enc Tryd.prog Tryd.f3 false true false false) := by
  refine returnsInHanded_of_change_and (C := Tryd.checked) (X := fun w _ => laidMet Tryd.prog Rows.dateNumbersRow.laid w) (fun _ _ _ hh h => h.of_heap hh) own0 started (by kernel_rfl) Tryd.func3
    (ChangeSpec.witness_at (enc := enc) (C := Tryd.checked) (os := os) (X := fun w _ => laidMet Tryd.prog Rows.dateNumbersRow.laid w) false (laidWorld os) #[.agg #[.int .i64 0, .int .i64 0, .int .i64 0], .agg #[.int .u8 0, .int .u8 0, .int .u8 0], .int .i64 0] 8 rfl (by kernel_rfl) (by kernel_rfl) (by kernel_rfl) (by kernel_rfl) (by kernel_rfl) (laid_at os _)) ?_
  intro W base args ds gs before hval0 hW hcnd0 _ hL _
  have hval : ∀ (j : Nat) t v, Tryd.f3.params[j]? = some t → args[j]? = some v → Value.okWide Tryd.prog W .any base t v := hval0
  have hW' := hW
  obtain ⟨p, q, hA0, hV, rfl, hfz, hnd⟩ := hW
  have hA : DataW.TrodAll enc Tryd.prog W 0 (fun _ => true) true Tryd.f3.params.toList args.toList ds p := hA0
  rw [Tryd.params3] at hA hval
  obtain ⟨v0, v1, v2, d0, d1, d2, p0, p1, p2, rfl, rfl, rfl, h0, h1, h2⟩ := trodAll_three hA
  obtain ⟨rfl, rfl⟩ := trodVars_none hV
  clear hA0 hval0 hA
  simp only [List.append_nil] at hW'
  have k0 := hval 0 22 v0 rfl rfl
  have k1 := hval 1 23 v1 rfl rfl
  have k2 := hval 2 3 v2 rfl rfl
  obtain ⟨n0_0, n0_1, n0_2, rfl, w0_0, w0_1, w0_2⟩ := arr3_arg Tryd.underlying22 Tryd.underlying3 (by kernel_rfl) (by kernel_rfl) k0 h0
  obtain ⟨n1_0, n1_1, n1_2, rfl, w1_0, w1_1, w1_2⟩ := arr3_arg Tryd.underlying23 Tryd.underlying5 (by kernel_rfl) (by kernel_rfl) k1 h1
  obtain ⟨m1_0, rfl, x1_0⟩ := wf_u8 w1_0
  obtain ⟨m1_1, rfl, x1_1⟩ := wf_u8 w1_1
  obtain ⟨m1_2, rfl, x1_2⟩ := wf_u8 w1_2
  obtain ⟨n2, rfl, w2⟩ := int_arg k2 h2
  refine (numbers_true n0_0 n0_1 n0_2 m1_0 m1_1 m1_2 n2 W (dv_of hL) (wf_i64 w0_0) (wf_i64 w0_1) (wf_i64 w0_2) x1_0 x1_1 x1_2 w2).mono fun e W' ⟨he, hg⟩ => ?_
  subst he
  have hb : Below W.heap.size W W' := gr_low hg
  have hlt : ∀ x ∈ p0 ++ p1 ++ p2, x.block < W.heap.size := fun x hx => by simpa using hW'.lt x hx
  have hl0 : ∀ x ∈ p0, x.block < W.heap.size := fun x hx => hlt x (by simp [hx])
  have hl1 : ∀ x ∈ p1, x.block < W.heap.size := fun x hx => hlt x (by simp [hx])
  have hl2 : ∀ x ∈ p2, x.block < W.heap.size := fun x hx => hlt x (by simp [hx])
  refine ⟨_, rfl, _, _, _, [], p0 ++ p1 ++ p2, [], hW', ?_, ?_, rfl, hb.frame _, fun h => by cases h⟩
  · exact trodAll_mk1 (shut_bool Tryd.underlying4 true)
  · have h3 := trodAll_mk3 (Below.trod laidOut0 (by kernel_rfl) (of_decide_eq_true (by kernel_rfl)) h0 hb hl0) (Below.trod laidOut0 (by kernel_rfl) (of_decide_eq_true (by kernel_rfl)) h1 hb hl1) (Below.trod laidOut0 (by kernel_rfl) (of_decide_eq_true (by kernel_rfl)) h2 hb hl2)
    rw [← List.append_assoc] at h3
    exact h3

theorem numbers_row : Rows.DateNumbersSaid :=
  OpenClaim.holds_of_wide 3 Tryd.f3 rfl rfl rfl rfl rfl rfl rfl ⟨rfl, rfl, rfl, rfl, rfl⟩ rfl rfl rfl rfl rfl (by kernel_rfl) Tryd.func3 (by kernel_rfl)
    (of_decide_eq_true (by kernel_rfl)) (by unfold Func.isWrapper; first | (rw [if_pos (by decide +kernel)]; kernel_rfl) | (rw [if_neg (by decide +kernel)]; exact ⟨rfl, rfl⟩))
    (fun os started H enc _ => numbers_lifted os started H enc)
end Go.Proofs.YtaenalhglmkfdaaDoor
