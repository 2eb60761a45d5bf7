/- The contract of the product modulo an even number (nat.powerByEven's closure). -/
import Derived.Test.YtednijejgadmnaaDoorQuo
import Derived.Deep.RegionWith
namespace Go.Proofs.YtednijejgadmnaaDoor
open Go.RowKit Mth

theorem len_max {n : Nat} (h : n ≤ 2199023255552) : n ≤ maxLen := by unfold maxLen; omega
theorem NumAt.len_le {w : World} {g off m c N k : Nat} {xs : List Nat} (h : NumAt w g off m c xs N) (hN : N < W64 ^ k) : m ≤ k := by
  rcases Nat.lt_or_ge k m with h1 | h1
  · obtain ⟨j, rfl⟩ : ∃ j, m = j + 1 := ⟨m - 1, by omega⟩
    have h3 : gt xs (off + j) ≠ 0 := by rcases h.top with h | h; omega; simpa using h
    have h4 := h.val
    simp only [vs] at h4
    have h5 : W64 ^ j * 1 ≤ W64 ^ j * gt xs (off + j) := Nat.mul_le_mul_left _ (by omega)
    have h6 : W64 ^ k ≤ W64 ^ j := Nat.pow_le_pow_right W64_pos (by omega)
    omega
  · exact h1

set_option maxHeartbeats 4000000 in
theorem even_times (va vb vm : Value) (A B M Bm : Nat) (w : World) (ha : Num w va A) (hb : Num w vb B) (hm : Num w vm M) (hc : w.cell? ⟨Bm, 0, none⟩ = some vm) (h0 : 0 < M) (hs : A * B < M ∨ M < W64) (hsz : A < W64 ∧ B < W64) :
    Calls Tryd.prog 72 #[va, vb, .pointer (some ⟨Bm, 0, none⟩)] w fun e w' => ∃ r, e = .returned r ∧ Num w' r (A * B % M) ∧ w.grownBy w' none := by
  obtain ⟨g1, o1, m1, c1, xs, rfl, h1⟩ := ha
  obtain ⟨g2, o2, m2, c2, ys, rfl, h2⟩ := hb
  obtain ⟨g3, o3, m3, c3, us, rfl, h3⟩ := hm
  have H1 := Lib.hid h1
  have H2 := Lib.hid h2
  have H3 := Lib.hid h3
  have HS := Lib.hid hs
  have hsm : m1 ≤ 1 ∧ m2 ≤ 1 := ⟨h1.len_le (by simpa using hsz.1), h2.len_le (by simpa using hsz.2)⟩
  have HSM := Lib.hid hsm
  clear h1 h2 h3 hs hsz hsm
  go_enter Tryd.func72, Tryd.ntmps72
  go_wp2_with fail
  go_region_with (first
    | (go_at_call 30; refine (product_any g1 o1 m1 c1 g2 o2 m2 c2 xs ys _ (by exact H1.out.blk) H1.out.fit H1.out.dg (by exact H2.out.blk) H2.out.fit H2.out.dg H1.out.small H2.out.small).mono ?_; rintro e w3 ⟨b, zs, rfl, hlt, hbz, hg3, hdz, hlz, hvz⟩; have hc3 := hg3.cell (a := ⟨Bm, 0, none⟩) hc (by simp); have HZ := Lib.hid (And.intro hdz (And.intro hlz hvz)); clear hdz hlz hvz)
    | (go_at_call 54; refine (trimmed_num b 0 zs.length zs.length zs w3 hbz (Nat.le_of_eq (Nat.zero_add _)) HZ.out.1 (Nat.le_refl _) (len_max (by have := HZ.out.2.1; have := H1.out.small; have := H2.out.small; omega)) (by have := HZ.out.2.1; have := HSM.out; omega)).mono ?_; rintro e w4 ⟨⟨m4, rfl, hm4⟩, rfl⟩; have HM4 := Lib.hid hm4; clear hm4)
    | (go_at_call 39; refine (divide_num _ _ (A * B) M w3 ⟨b, 0, m4, zs.length, zs, rfl, (by have h := HM4.out; rw [HZ.out.2.2, H1.out.val, H2.out.val] at h; exact h)⟩ ⟨g3, o3, m3, c3, us, rfl, H3.out.kept (gr_then (gr_drew w none) hg3) (by simp)⟩ h0 HS.out).mono ?_; rintro e w5 ⟨q, r, rfl, hq, hr, hg5⟩; have HQ := Lib.hid hq; have HR := Lib.hid hr; clear hq hr))
  all_goals
    go_wp2
    go_ret
    exact ⟨r, rfl, HR.out, gr_then (gr_then (gr_drew w none) hg3) hg5⟩
end Go.Proofs.YtednijejgadmnaaDoor
