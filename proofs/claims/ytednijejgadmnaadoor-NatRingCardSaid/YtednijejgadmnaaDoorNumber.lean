/- What a Montgomery image stands for. -/
import Derived.Test.YtednijejgadmnaaDoorImage
namespace Go.Proofs.YtednijejgadmnaaDoor
open Go.RowKit Mth

set_option maxHeartbeats 8000000 in
set_option maxRecDepth 100000 in
theorem number_any (bm om n cm inv M : Nat) (ms : List Nat) (v : Value) (r : Nat) (w : World) (hm : NumAt w bm om n cm ms M) (hsm : n < 1099511627776) (hM0 : 0 < M) (hinv : (M * inv + 1) % W64 = 0) (hv : ImgOf w v n M r) :
    Calls Tryd.prog 68 #[mval (.slice (some ⟨bm, om, none⟩) n cm) inv, v] w fun e w' => ∃ g o c us, e = .returned (.slice (some ⟨g, o, none⟩) n c) ∧ n ≤ c ∧ c ≤ maxLen ∧ Blk .u64 57 w' g us ∧ o + n ≤ us.length ∧ Dg W64 us ∧ vs W64 us o n = r % M ∧ w.grownBy w' none := by
  obtain ⟨g1, o1, c1, us1, rfl, h11, h12, h13, h14⟩ := hv
  have hn0 : 0 < n := by
    rcases Nat.eq_zero_or_pos n with h | h
    · subst h; have := hm.val; simp [vs] at this; omega
    · exact h
  unfold mval
  have hbx : (w.alloc (.cells #[.slice (some ⟨bm, om, none⟩) n cm, .int .u64 (inv : Int)] 89)).heap[w.heap.size]? = some (.cells #[.slice (some ⟨bm, om, none⟩) n cm, .int .u64 (inv : Int)] 89 (0, 0)) := heap_alloc_new _ _
  have hg0 := gr_alloc w (.cells #[.slice (some ⟨bm, om, none⟩) n cm, .int .u64 (inv : Int)] 89) none
  have hsz1 : (w.alloc (.cells #[.slice (some ⟨bm, om, none⟩) n cm, .int .u64 (inv : Int)] 89)).heap.size = w.heap.size + 1 := by simp
  go_enter Tryd.func68, Tryd.ntmps68
  have hm1 := hm.kept hg0 (by simp)
  have h1 := h11.kept hg0 (by simp)
  have hc0 : (w.alloc (.cells #[.slice (some ⟨bm, om, none⟩) n cm, .int .u64 (inv : Int)] 89)).cell? ⟨w.heap.size, 0, none⟩ = some (.slice (some ⟨bm, om, none⟩) n cm) := by rw [cell_of_row _ _ 0 _ _ _ hbx]; rfl
  have hc1 : (w.alloc (.cells #[.slice (some ⟨bm, om, none⟩) n cm, .int .u64 (inv : Int)] 89)).cell? ⟨w.heap.size, 1, none⟩ = some (.int .u64 (inv : Int)) := by rw [cell_of_row _ _ 1 _ _ _ hbx]; rfl
  go_wp2_with fail
  generalize w.alloc (.cells #[.slice (some ⟨bm, om, none⟩) n cm, .int .u64 (inv : Int)] 89) = w1 at *
  have hg2 := gr_alloc w1.drew (.cells #[.int .u64 1] 57) none
  have hd0 : w1.drew.cell? ⟨w.heap.size, 0, none⟩ = some (.slice (some ⟨bm, om, none⟩) n cm) := hc0
  have hd1 : w1.drew.cell? ⟨w.heap.size, 1, none⟩ = some (.int .u64 (inv : Int)) := hc1
  have he0 := hg2.cell hd0 (by simp)
  have he1 := hg2.cell hd1 (by simp)
  have hb2 : Blk .u64 57 (w1.drew.alloc (.cells #[.int .u64 1] 57)) w1.drew.heap.size [1] := blk_one w1.drew .u64 57 1
  have hszd : w1.drew.heap.size = w.heap.size + 1 := hsz1
  rw [hszd] at hb2
  have HB2 := Lib.hid hb2
  have HM2 := Lib.hid ((hm1.kept (gr_drew w1 none) (by simp)).kept hg2 (by simp))
  have HV2 := Lib.hid ((h1.kept (gr_drew w1 none) (by simp)).kept hg2 (by simp))
  clear hb2 hm1 h1 hszd
  go_region_with (first
    | (go_at_call 86; refine (padded_any (some ⟨bm, om, none⟩) n cm inv (w.heap.size + 1) 0 1 1 [1] _ HB2.out (by simp) (dg_one (by decide)) (by omega) (by omega)).mono ?_; rintro e w3 ⟨g3, us3, rfl, hlt3, hrow3, hg3⟩; have hf0 := hg3.cell he0 (by simp); have hf1 := hg3.cell he1 (by simp); have HR3 := Lib.hid hrow3; clear hrow3)
    | (go_at_call 71; refine (mprod_any bm om n cm inv M ms g1 o1 c1 us1 g3 0 n us3 (r * W64 ^ n % M) w3 (HM2.out.kept hg3 (by simp)) hsm hinv (HV2.out.kept hg3 (by simp)) h12 h13 h14 (Nat.mod_lt _ hM0) HR3.out.blk (by rw [HR3.out.len]; omega) HR3.out.dg).mono ?_; rintro e w4 ⟨g4, us4, rfl, hlt4, hb4, hl4, hd4, hltM, hval, hg4⟩; have HU := Lib.hid (And.intro hl4 (And.intro hd4 (And.intro hltM hval))); clear hl4 hd4 hltM hval))
  all_goals
    go_wp2
    go_ret
    refine ⟨g4, n, n + 1, us4, rfl, by omega, by unfold maxLen; omega, hb4, by rw [HU.out.1]; omega, HU.out.2.1, ?_, gr_then hg0 (gr_then (gr_drew w1 none) (gr_then hg2 (gr_then hg3 hg4)))⟩
    have hval := HU.out.2.2.2
    rw [HR3.out.val, vs_one, Nat.mul_one, Nat.mod_mod] at hval
    have h2 := mod_cancel hval (coprime_W hinv n)
    rw [Nat.mod_eq_of_lt HU.out.2.2.1] at h2
    exact h2
end Go.Proofs.YtednijejgadmnaaDoor
