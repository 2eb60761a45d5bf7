/- nat.montgomeryBy. -/
import Derived.Test.YtednijejgadmnaaDoorImage
namespace Go.Proofs.YtednijejgadmnaaDoor
open Go.RowKit Mth

theorem inv_step {m x x' q d D W : Int} (h : d ∣ m * x - 1) (hD : D ∣ d * d) (hW : D ∣ W) (hx : x' = x * (2 - m * x) + W * q) : D ∣ m * x' - 1 := by
  obtain ⟨t, ht⟩ := h
  obtain ⟨s, hs⟩ := hD
  obtain ⟨u, hu⟩ := hW
  refine ⟨u * q * m - s * (t * t), ?_⟩
  subst hx hu
  have h1 : m * x = 1 + d * t := by omega
  have e1 : m * (x * (2 - m * x)) = 1 - d * d * (t * t) := by
    rw [← Int.mul_assoc, h1]
    grind
  grind

/-- How many bits are right after j rounds. -/
def rb : Nat → Nat
  | 0 => 3
  | 1 => 6
  | 2 => 12
  | 3 => 24
  | 4 => 48
  | _ => 96
def rd (j : Nat) : Int := if j < 5 then 2 ^ rb j else 18446744073709551616
theorem rd_step (j : Nat) (h : j < 5) : rd (j + 1) ∣ rd j * rd j ∧ rd (j + 1) ∣ 18446744073709551616 := by
  rcases j with _ | _ | _ | _ | _ | j
  · decide
  · decide
  · decide
  · decide
  · exact ⟨⟨4294967296, by decide⟩, ⟨1, by decide⟩⟩
  · omega
theorem odd_eight {m : Nat} (h : m % 2 = 1) : rd 0 ∣ (m : Int) * m - 1 := by
  have h8 : ((m : Int) * m - 1) % 8 = 0 := by
    have : (m : Int) % 8 = 1 ∨ (m : Int) % 8 = 3 ∨ (m : Int) % 8 = 5 ∨ (m : Int) % 8 = 7 := by omega
    rw [Int.sub_emod, Int.mul_emod]
    rcases this with h | h | h | h <;> rw [h] <;> decide
  exact Int.dvd_of_emod_eq_zero h8
theorem inv_end {M m x y z : Nat} (hM : M = m + W64 * z) (h : rd 5 ∣ (m : Int) * (x : Int) - 1) (hy : -(x : Int) % 18446744073709551616 = (y : Int)) : (M * y + 1) % W64 = 0 := by
  obtain ⟨t, ht⟩ := h
  rw [show rd 5 = 18446744073709551616 from rfl] at ht
  have hq := Int.emod_add_mul_ediv (-(x : Int)) 18446744073709551616
  rw [hy] at hq
  generalize -(x : Int) / 18446744073709551616 = q at hq
  have hM' : (M : Int) = m + 18446744073709551616 * z := by rw [hM, W64_eq]; simp
  have hd : (18446744073709551616 : Int) ∣ (M : Int) * y + 1 := by
    refine ⟨-t - m * q + z * y, ?_⟩
    have hy2 : (y : Int) = -x - 18446744073709551616 * q := by omega
    rw [hM']
    have e : (m : Int) * x = 1 + 18446744073709551616 * t := by omega
    grind
  have h2 : ((M * y + 1 : Nat) : Int) % 18446744073709551616 = 0 := by
    have := Int.emod_eq_zero_of_dvd hd
    simpa using this
  rw [W64_eq]
  omega

set_option maxHeartbeats 4000000 in
set_option maxRecDepth 100000 in
theorem montgomeryBy_any (bm om n cm M : Nat) (ms : List Nat) (w : World) (hm : NumAt w bm om n cm ms M) (hodd : gt ms om % 2 = 1) (hn0 : 0 < n) :
    Calls Tryd.prog 67 #[.slice (some ⟨bm, om, none⟩) n cm] w fun e w' => ∃ inv, e = .returned (mval (.slice (some ⟨bm, om, none⟩) n cm) inv) ∧ (M * inv + 1) % W64 = 0 ∧ w.grownBy w' none := by
  obtain ⟨m, hmv⟩ : ∃ m, m = gt ms om := ⟨_, rfl⟩
  rw [← hmv] at hodd
  have hfit := hm.fit
  have hcell : w.cell? ⟨bm, om, none⟩ = some (.int .u64 (m : Int)) := by rw [hmv]; exact hm.blk.cell (by omega)
  have h0 : rd 0 ∣ (m : Int) * (m : Int) - 1 := odd_eight hodd
  have hmW : m < W64 := by rw [hmv]; exact hm.dg _
  have HMV := Lib.hid hmv
  clear hmv
  go_enter Tryd.func67, Tryd.ntmps67
  have hcell1 := (gr_alloc w (.cells #[.slice none 0 0, .int .u64 0] 89) none).cell hcell (by simp)
  have hg1 := gr_alloc w (.cells #[.slice none 0 0, .int .u64 0] 89) none
  have hbx : (w.alloc (.cells #[.slice none 0 0, .int .u64 0] 89)).heap[w.heap.size]? = some (.cells #[.slice none 0 0, .int .u64 0] 89 (0, 0)) := heap_alloc_new _ _
  go_wp2_with fail
  obtain ⟨w1, hw1⟩ : ∃ w1, w1 = w.alloc (.cells #[.slice none 0 0, .int .u64 0] 89) := ⟨_, rfl⟩
  rw [← hw1] at hcell1 hg1 hbx ⊢
  have HW1 := Lib.hid hw1
  clear hw1
  go_loopw [3, 4] (fun v i wr => ∃ j x : Nat, j ≤ 5 ∧ i = .int .i64 ((rb j : Nat) : Int) ∧ v = .int .u64 (x : Int) ∧ wr = w1 ∧ Hid (rd j ∣ (m : Int) * (x : Int) - 1)) (fun _ i _ => 96 - (intOf i).toNat)
  case atStart => exact ⟨0, m, by omega, rfl, rfl, rfl, h0⟩
  case round =>
    obtain ⟨j, x, hj, rfl, rfl, rfl, HI⟩ := hrel
    by_cases hj5 : j < 5
    · obtain ⟨x', hx'⟩ : ∃ x' : Nat, (x' : Int) = ((x : Int) * (2 - (m : Int) * (x : Int))) % 18446744073709551616 := ⟨(((x : Int) * (2 - (m : Int) * (x : Int))) % 18446744073709551616).toNat, by omega⟩
      have hnext : rd (j + 1) ∣ (m : Int) * (x' : Int) - 1 := inv_step (W := 18446744073709551616) (q := -(((x : Int) * (2 - (m : Int) * (x : Int))) / 18446744073709551616)) HI.out (rd_step j hj5).1 (rd_step j hj5).2 (by rw [hx']; have := Int.emod_add_mul_ediv ((x : Int) * (2 - (m : Int) * (x : Int))) 18446744073709551616; omega)
      have HN := Lib.hid hnext
      have HX := Lib.hid hx'
      clear hx' hnext
      have hb64 : ((rb j : Nat) : Int) < 64 := by rcases j with _ | _ | _ | _ | _ | j <;> simp [rb] <;> omega
      have hb2 : ((rb j : Nat) : Int) * 2 = ((rb (j + 1) : Nat) : Int) := by rcases j with _ | _ | _ | _ | _ | j <;> simp [rb] <;> omega
      have hwr : IntKind.u64.wrap ((x : Int) * IntKind.u64.wrap (2 - IntKind.u64.wrap ((m : Int) * (x : Int)))) = (x' : Int) := by
        rw [wrap_mod, wrap_mod, wrap_mod, HX.out]
        have e1 : (2 - (m : Int) * (x : Int) % 18446744073709551616) % 18446744073709551616 = (2 - (m : Int) * (x : Int)) % 18446744073709551616 := by omega
        rw [e1, Int.mul_emod, Int.emod_emod_of_dvd _ (Int.dvd_refl _), ← Int.mul_emod]
      have hms : 96 - (intOf (Value.int IntKind.i64 ((rb (j + 1) : Nat) : Int))).toNat < 96 - (intOf (Value.int IntKind.i64 ((rb j : Nat) : Int))).toNat := by
        rcases j with _ | _ | _ | _ | _ | j
        · decide
        · decide
        · decide
        · decide
        · decide
        · omega
      have HWR := Lib.hid hwr
      clear hwr
      go_wp2
      exact ⟨⟨j + 1, x', by omega, rfl, by rw [HWR.out], trivial, HN⟩, hms⟩
    · obtain rfl : j = 5 := by omega
      rw [show rb 5 = 96 from rfl]
      have k0 : wr.cell? ⟨w.heap.size, 0, none⟩ = some (.slice none 0 0) := by rw [cell_of_row _ _ 0 _ _ _ hbx]; rfl
      have k1 : wr.cell? ⟨w.heap.size, 1, none⟩ = some (.int .u64 0) := by rw [cell_of_row _ _ 1 _ _ _ hbx]; rfl
      have f0 : wr.frozen? ⟨w.heap.size, 0, none⟩ = false := by unfold World.frozen?; rw [hbx]; rfl
      have f1 : wr.frozen? ⟨w.heap.size, 1, none⟩ = false := by unfold World.frozen?; rw [hbx]; rfl
      obtain ⟨y, hy⟩ : ∃ y : Nat, IntKind.u64.wrap (-(x : Int)) = (y : Int) := ⟨(IntKind.u64.wrap (-(x : Int))).toNat, by rw [wrap_mod]; omega⟩
      have hyv := hy
      rw [wrap_mod] at hyv
      have HY := Lib.hid hyv
      clear hyv
      have k1' : (wr.setCell ⟨w.heap.size, 0, none⟩ (.slice (some ⟨bm, om, none⟩) n cm)).cell? ⟨w.heap.size, 1, none⟩ = some (.int .u64 0) := by rw [World.cell?_setCell_other _ _ _ _ (by simp)]; exact k1
      have f1' : (wr.setCell ⟨w.heap.size, 0, none⟩ (.slice (some ⟨bm, om, none⟩) n cm)).frozen? ⟨w.heap.size, 1, none⟩ = false := by rw [World.frozen?_setCell]; exact f1
      go_wp2
      have hfin : (M * y + 1) % W64 = 0 := by
        refine inv_end (m := m) (x := x) (z := vs W64 ms (om + 1) (n - 1)) ?_ HI.out HY.out
        obtain ⟨k, rfl⟩ : ∃ k, n = k + 1 := ⟨n - 1, by omega⟩
        have hv := hm.val
        rw [vs_left, ← HMV.out] at hv
        rw [show k + 1 - 1 = k from rfl]
        exact hv.symm
      have r0 : ((wr.setCell ⟨w.heap.size, 0, none⟩ (.slice (some ⟨bm, om, none⟩) n cm)).setCell ⟨w.heap.size, 1, none⟩ (.int .u64 (y : Int))).cell? ⟨w.heap.size, 0, none⟩ = some (.slice (some ⟨bm, om, none⟩) n cm) := by rw [World.cell?_setCell_other _ _ _ _ (by simp)]; exact World.cell?_setCell_same' _ _ _ (by rw [k0]; rfl)
      have r1 : ((wr.setCell ⟨w.heap.size, 0, none⟩ (.slice (some ⟨bm, om, none⟩) n cm)).setCell ⟨w.heap.size, 1, none⟩ (.int .u64 (y : Int))).cell? ⟨w.heap.size, 1, none⟩ = some (.int .u64 (y : Int)) := World.cell?_setCell_same' _ _ _ (by rw [k1']; rfl)
      have hgf : w.grownBy ((wr.setCell ⟨w.heap.size, 0, none⟩ (.slice (some ⟨bm, om, none⟩) n cm)).setCell ⟨w.heap.size, 1, none⟩ (.int .u64 (y : Int))) none := gr_new (gr_new hg1 (gr_set _ _ _ _) (Nat.le_refl _)) (gr_set _ _ _ _) (Nat.le_refl _)
      refine bodyPost_ret (v := .agg #[.slice (some ⟨bm, om, none⟩) n cm, .int .u64 (y : Int)]) (by simp [results, Tryd.f67, go_sem, r0, r1]) rfl ⟨y, rfl, hfin, hgf⟩
end Go.Proofs.YtednijejgadmnaaDoor
