/- Montgomery's image of a number. -/
import Derived.Test.YtednijejgadmnaaDoorPowE
import Derived.Test.YtednijejgadmnaaDoorConcat
namespace Go.Proofs.YtednijejgadmnaaDoor
open Go.RowKit Mth

set_option maxHeartbeats 8000000 in
set_option maxRecDepth 100000 in
theorem image_any (bm om n cm inv M : Nat) (ms : List Nat) (ba oa na ca A : Nat) (xs : List Nat) (w : World) (hm : NumAt w bm om n cm ms M) (hM1 : M < W64) (hM0 : 0 < M) (ha : NumAt w ba oa na ca xs A) (hna : na ≤ 137438953473) (hn : n ≤ 137438953473) :
    Calls Tryd.prog 70 #[mval (.slice (some ⟨bm, om, none⟩) n cm) inv, .slice (some ⟨ba, oa, none⟩) na ca] w fun e w' => ∃ g us, e = .returned (.slice (some ⟨g, 0, none⟩) n n) ∧ w.heap.size ≤ g ∧ Row w' g n (A * W64 ^ n % M) us ∧ w.grownBy w' none := by
  obtain ⟨i0, hi, hz0, hz1, hz2⟩ := info_parts infoW
  unfold mval
  have hbx : (w.alloc (.cells #[.slice (some ⟨bm, om, none⟩) n cm, .int .u64 (inv : Int)] 89)).heap[w.heap.size]? = some (.cells #[.slice (some ⟨bm, om, none⟩) n cm, .int .u64 (inv : Int)] 89 (0, 0)) := heap_alloc_new _ _
  go_enter Tryd.func70, Tryd.ntmps70
  have hg0 := gr_alloc w (.cells #[.slice (some ⟨bm, om, none⟩) n cm, .int .u64 (inv : Int)] 89) none
  have hm1 := hm.kept hg0 (by simp)
  have ha1 := ha.kept hg0 (by simp)
  have hc0 : (w.alloc (.cells #[.slice (some ⟨bm, om, none⟩) n cm, .int .u64 (inv : Int)] 89)).cell? ⟨w.heap.size, 0, none⟩ = some (.slice (some ⟨bm, om, none⟩) n cm) := by rw [cell_of_row _ _ 0 _ _ _ hbx]; rfl
  go_wp2_with fail
  generalize w.alloc (.cells #[.slice (some ⟨bm, om, none⟩) n cm, .int .u64 (inv : Int)] 89) = w1 at *
  obtain ⟨w2, hmk, hown, hg2⟩ := run_make_full (P := Tryd.prog) w1.drew 0 51 57 i0 (.int .u64 0) 1 Tryd.underlying51 hi hz0 hz1 .i64 .i64 n (by rw [hz2]; omega) (by unfold maxLen; omega) (Nat.zero_le _)
  have hb2 := blk_made hown
  have hl2 : (List.replicate n 0 : List Nat).length = n := List.length_replicate
  have HZ := Lib.hid (gt_rep0 n)
  have hn0 : 0 < n := by
    rcases Nat.eq_zero_or_pos n with h | h
    · subst h; have := hm.val; simp [vs] at this; omega
    · exact h
  obtain ⟨G, hG⟩ : ∃ G, G = w1.drew.heap.size := ⟨_, rfl⟩
  rw [← hG] at hmk hb2
  have HG := Lib.hid hG
  generalize (List.replicate n 0 : List Nat) = z0 at *
  have hcd : w1.drew.cell? ⟨w.heap.size, 0, none⟩ = some (.slice (some ⟨bm, om, none⟩) n cm) := hc0
  have hc2 := hg2.cell hcd (by simp)
  have hm2 := (hm1.kept (gr_drew w1 none) (by simp)).kept hg2 (by simp)
  have ha2 := (ha1.kept (gr_drew w1 none) (by simp)).kept hg2 (by simp)
  have hg3 := gr_alloc w2 (.cells #[.slice (some ⟨G, 0, none⟩) n n, .slice (some ⟨ba, oa, none⟩) na ca] 51) none
  have hc3 := hg3.cell hc2 (by simp)
  have hm3 := hm2.kept hg3 (by simp)
  have ha3 := ha2.kept hg3 (by simp)
  have hb3 := hb2.kept hg3 (by simp)
  have hgs : (w2.alloc (.cells #[.slice (some ⟨G, 0, none⟩) n n, .slice (some ⟨ba, oa, none⟩) na ca] 51)).heap[w2.heap.size]? = some (.cells #[.slice (some ⟨G, 0, none⟩) n n, .slice (some ⟨ba, oa, none⟩) na ca] 51 (0, 0)) := heap_alloc_new _ _
  have HGS := Lib.hid hgs
  have HB3 := Lib.hid hb3
  have HA3 := Lib.hid ha3
  have HM3 := Lib.hid hm3
  have HL2 := Lib.hid hl2
  clear hgs hb3 ha3 hm3 hl2 hG hown hb2 hm2 ha2 ha1 hm1
  go_cut [5, 6] from 7 to 20 (fun q r wx => Num wx r (A * W64 ^ n % M) ∧ w1.grownBy wx none)
  case first =>
    go_region_with (first
      | (go_at_call 88; refine (concat_two w2.heap.size 2 G 0 n n ba oa na ca z0 xs _ HGS.out HB3.out (by rw [HL2.out]; omega) (fun i => by rw [HZ.out]; exact W64_pos) HA3.out.blk HA3.out.fit HA3.out.dg hn0 (by omega) (by omega)).mono ?_; rintro e w4 ⟨g4, us, rfl, hlt4, hb4, hlen4, hmax4, hd4, hv4, hg4⟩; have hc4 := hg4.cell hc3 (by simp); have HU := Lib.hid (And.intro hlen4 (And.intro hmax4 (And.intro hd4 hv4))); have HM4 := Lib.hid (HM3.out.kept hg4 (by simp)); clear hlen4 hmax4 hd4 hv4)
      | (go_at_call 54; refine (trimmed_num g4 0 (n + na) us.length us w4 hb4 (by have := HU.out.1; omega) HU.out.2.2.1 HU.out.1 HU.out.2.1 (by omega)).mono ?_; rintro e w5 ⟨⟨m5, rfl, hm5⟩, rfl⟩; have HM5 := Lib.hid hm5; clear hm5)
      | (go_at_call 39; refine (divide_num _ _ (vs W64 us 0 (n + na)) M w4 ⟨g4, 0, m5, us.length, us, rfl, HM5.out⟩ ⟨bm, om, n, cm, ms, rfl, HM4.out⟩ hM0 (.inr hM1)).mono ?_; rintro e w6 ⟨q, r, rfl, hq, hr, hg6⟩; have HQ := Lib.hid hq; have HR := Lib.hid hr; clear hq hr))
    all_goals
      go_wp2
      go_meet
      refine ⟨?_, gr_then (gr_drew w1 none) (gr_then hg2 (gr_then hg3 (gr_then hg4 hg6)))⟩
      have h := HR.out
      rw [HU.out.2.2.2, vs_zero (fun i _ => HZ.out _), Nat.zero_add, HA3.out.val, Nat.mul_comm] at h
      exact h
  case rest =>
    obtain ⟨hr, hgc⟩ := hcut
    have hbc : wc.heap[w.heap.size]? = some (.cells #[.slice (some ⟨bm, om, none⟩) n cm, .int .u64 (inv : Int)] 89 (0, 0)) := by rw [hgc.block _ (Array.getElem?_eq_some_iff.1 hbx).1 (by simp)]; exact hbx
    have hcc0 : wc.cell? ⟨w.heap.size, 0, none⟩ = some (.slice (some ⟨bm, om, none⟩) n cm) := by rw [cell_of_row _ _ 0 _ _ _ hbc]; rfl
    have hcc1 : wc.cell? ⟨w.heap.size, 1, none⟩ = some (.int .u64 (inv : Int)) := by rw [cell_of_row _ _ 1 _ _ _ hbc]; rfl
    have hgw : w.grownBy wc none := gr_then hg0 hgc
    obtain ⟨g6, o6, m6, c6, zs6, rfl, h6⟩ := hr
    have H6 := Lib.hid h6
    clear h6
    have hle : m6 ≤ n := H6.out.len_le (by
      have h1 : M < W64 ^ n := by rw [← hm.val]; exact vs_lt hm.dg
      have h2 := Nat.mod_lt (A * W64 ^ n) hM0
      omega)
    go_wp2_with fail
    refine (padded_any (some ⟨bm, om, none⟩) n cm inv g6 o6 m6 c6 zs6 wc H6.out.blk H6.out.fit H6.out.dg hle (by omega)).mono ?_
    rintro e w7 ⟨g7, us7, rfl, hlt7, hrow7, hg7⟩
    rw [H6.out.val] at hrow7
    have HR7 := Lib.hid hrow7
    clear hrow7
    go_wp2
    go_ret
    exact ⟨g7, us7, rfl, by have := hgw.size; omega, HR7.out, gr_then hgw hg7⟩

theorem mod_cancel {a b c M : Nat} (h : (a * c) % M = (b * c) % M) (hc : Nat.Coprime M c) : a % M = b % M := by
  have key : ∀ a b : Nat, a ≤ b → (a * c) % M = (b * c) % M → a % M = b % M := by
    intro a b hab h
    have h1 : (b * c - a * c) % M = 0 := Nat.sub_mod_eq_zero_of_mod_eq h.symm
    rw [← Nat.sub_mul] at h1
    have h2 : M ∣ b - a := hc.dvd_of_dvd_mul_right (Nat.dvd_of_mod_eq_zero h1)
    obtain ⟨k, hk⟩ := h2
    have : b = a + M * k := by omega
    rw [this, Nat.add_mul_mod_self_left]
  rcases Nat.le_total a b with hab | hab
  · exact key a b hab h
  · exact (key b a hab h.symm).symm
theorem coprime_W {M inv : Nat} (h : (M * inv + 1) % W64 = 0) (n : Nat) : Nat.Coprime M (W64 ^ n) := by
  refine Nat.Coprime.pow_right n ?_
  obtain ⟨k, hk⟩ := Nat.dvd_of_mod_eq_zero h
  have h1 : Nat.gcd M W64 ∣ M * inv + 1 := by rw [hk]; exact Nat.dvd_trans (Nat.gcd_dvd_right _ _) (Nat.dvd_mul_right _ _)
  have h2 : Nat.gcd M W64 ∣ M * inv := Nat.dvd_trans (Nat.gcd_dvd_left _ _) (Nat.dvd_mul_right _ _)
  have h3 : Nat.gcd M W64 ∣ 1 := (Nat.dvd_add_right h2).1 h1
  exact Nat.dvd_one.1 h3

/-- v is the image, in n words, of r modulo M. -/
def ImgOf (w : World) (v : Value) (n M r : Nat) : Prop := ∃ g o c us, v = .slice (some ⟨g, o, none⟩) n c ∧ Blk .u64 57 w g us ∧ o + n ≤ us.length ∧ Dg W64 us ∧ vs W64 us o n = r * W64 ^ n % M
theorem ImgOf.kept {w w' : World} {v : Value} {n M r : Nat} (h : ImgOf w v n M r) (hg : w.grownBy w' none) : ImgOf w' v n M r := by
  obtain ⟨g, o, c, us, rfl, h1, h2⟩ := h
  exact ⟨g, o, c, us, rfl, h1.kept hg (by simp), h2⟩
theorem ImgOf.congr {w : World} {v : Value} {n M r s : Nat} (h : ImgOf w v n M r) (e : r % M = s % M) : ImgOf w v n M s := by
  obtain ⟨g, o, c, us, rfl, h1, h2, h3, h4⟩ := h
  refine ⟨g, o, c, us, rfl, h1, h2, h3, ?_⟩
  rw [h4, Nat.mul_mod, e, ← Nat.mul_mod]

theorem mont_times (bm om n cm inv M : Nat) (ms : List Nat) (va vb : Value) (a b : Nat) (w : World) (hm : NumAt w bm om n cm ms M) (hsm : n < 1099511627776) (hM0 : 0 < M) (hinv : (M * inv + 1) % W64 = 0) (ha : ImgOf w va n M a) (hb : ImgOf w vb n M b) :
    Calls Tryd.prog 71 #[mval (.slice (some ⟨bm, om, none⟩) n cm) inv, va, vb] w fun e w' => ∃ r, e = .returned r ∧ ImgOf w' r n M (a * b % M) ∧ w.grownBy w' none := by
  obtain ⟨g1, o1, c1, us1, rfl, h11, h12, h13, h14⟩ := ha
  obtain ⟨g2, o2, c2, us2, rfl, h21, h22, h23, h24⟩ := hb
  refine (mprod_any bm om n cm inv M ms g1 o1 c1 us1 g2 o2 c2 us2 _ w hm hsm hinv h11 h12 h13 h14 (Nat.mod_lt _ hM0) h21 h22 h23).mono ?_
  rintro e w' ⟨g, us, rfl, hlt, hbu, hlu, hdu, hltM, hval, hg⟩
  refine ⟨_, rfl, ⟨g, n, n + 1, us, rfl, hbu, by rw [hlu]; omega, hdu, ?_⟩, hg⟩
  rw [h24] at hval
  have h1 : (a * W64 ^ n % M * (b * W64 ^ n % M)) % M = (a * b % M * W64 ^ n * W64 ^ n) % M := by
    rw [← Nat.mul_mod, Nat.mul_mul_mul_comm, ← Nat.mul_assoc, Nat.mul_mod (a * b * W64 ^ n), Nat.mul_mod (a * b), Nat.mul_mod (a * b % M * W64 ^ n), Nat.mul_mod (a * b % M) (W64 ^ n) M, Nat.mod_mod]
  rw [h1] at hval
  have h2 := mod_cancel hval (coprime_W hinv n)
  rw [Nat.mod_eq_of_lt hltM] at h2
  exact h2
end Go.Proofs.YtednijejgadmnaaDoor
