/- Contracts of package nat and of the reference, part 7: Padded, MontM, MontP, Concat, Image, MontW. -/
import Derived.Test.YtoadjhmehgkeaaaDoorEInts6
import Derived.Lib.AppendZeros
namespace Go.Proofs.YtoadjhmehgkeaaaDoor
open Go.RowKit Mth

def mval (v : Value) (inv : Nat) : Value := .agg #[v, .int .u64 (inv : Int)]
theorem gt_rep0 (n i : Nat) : gt (List.replicate n 0) i = 0 := by
  simp [gt, List.getD, List.getElem?_replicate]; split <;> rfl
/-- A slice of n words, just its block, with the value V. -/
structure Row (w : World) (g n V : Nat) (us : List Nat) : Prop where
  blk : Blk .u64 57 w g us
  len : us.length = n
  dg : Dg W64 us
  val : vs W64 us 0 n = V
theorem Row.kept {w w' : World} {g n V : Nat} {us : List Nat} (h : Row w g n V us) {r : Option Nat} (hg : w.grownBy w' r) (hne : some g ≠ r) : Row w' g n V us := ⟨h.blk.kept hg hne, h.len, h.dg, h.val⟩

set_option maxRecDepth 100000 in
theorem padded_any (am : Option Addr) (nm cm inv : Nat) (b o n c : Nat) (xs : List Nat) (w : World) (hb : Blk .u64 57 w b xs) (hn : o + n ≤ xs.length) (hd : Dg W64 xs) (hle : n ≤ nm) (hm : nm ≤ 1099511627776) :
    Calls Tryd.prog 86 #[mval (.slice am nm cm) inv, .slice (some ⟨b, o, none⟩) n c] w fun e w' => ∃ g us, e = .returned (.slice (some ⟨g, 0, none⟩) nm nm) ∧ w.heap.size ≤ g ∧ Row w' g nm (vs W64 xs o n) us ∧ w.grownBy w' none := by
  obtain ⟨i0, hi, hz0, hz1, hz2⟩ := info_parts infoW
  unfold mval
  go_enter Tryd.func86, Tryd.ntmps86
  go_wp2_with (at_make; refine wpList_make_full _ rfl _ _ 51 rfl 0 57 i0 (.int .u64 0) 1 Tryd.underlying51 hi hz0 hz1 .i64 .i64 _ _ nm rfl rfl ?_ ?_ ?_ ?_ (Nat.zero_le _) ?_)
  case refine_1 => omega
  case refine_2 => omega
  case refine_3 => rw [hz2]; omega
  case refine_4 => unfold maxLen; omega
  intro w1 hown hgr
  have hb0 := blk_made' hown
  have hg1 := gr_then (gr_alloc w (.cells #[.slice am nm cm, .int .u64 (inv : Int)] 89) none) hgr
  have hb1 := hb.kept hg1 (by simp)
  have hl0 : (List.replicate nm 0 : List Nat).length = nm := List.length_replicate
  have HZ := Lib.hid (gt_rep0 nm)
  generalize (List.replicate nm 0 : List Nat) = z0 at hb0 hl0 HZ
  clear hown hi hz0 hz1 hz2 hgr
  have hmin : Nat.min n nm = n := Nat.min_eq_left hle
  go_wp2_with (with_reducible refine wpList_copy_blk rfl (.tmp 10) (.tmp 11) 51 51 rfl 57 Tryd.underlying51 (by kernel_rfl) .u64 57 (w.heap.size + 1) 0 nm nm b o n c z0 xs rfl rfl hb0 hb1 hn ?_ ?_)
  · omega
  intro w2 hb2 hg2
  have hl2 : (copied z0 xs 0 o n).length = nm := by rw [length_copied (by omega) (by omega), hl0]
  have hgt := gt_copied (zs := z0) (xs := xs) (off := 0) (o1 := o) (m := n) (by omega) (by omega)
  generalize copied z0 xs 0 o n = us at hb2 hl2 hgt
  have hrow : Row w2 (w.heap.size + 1) nm (vs W64 xs o n) us := by
    refine ⟨hb2, hl2, fun i => ?_, ?_⟩
    · rw [hgt]; split
      · exact hd _
      · rw [HZ.out]; exact W64_pos
    · obtain ⟨k, rfl⟩ : ∃ k, nm = n + k := ⟨nm - n, by omega⟩
      rw [vs_split, vs_congr (ys := xs) (off' := o) (n := n) (fun i hi => by rw [hgt, if_pos (by omega)]; congr 1; omega), vs_zero (n := k) (fun i hi => by rw [hgt, if_neg (by omega), HZ.out])]
      simp
  have HR := Lib.hid hrow
  have hgf : w.grownBy w2 none := gr_new hg1 hg2 (by omega)
  clear hb2 hl2 hgt hrow hb0 hl0
  go_wp2
  go_ret
  exact ⟨_, us, rfl, by omega, HR.out, hgf⟩
end Go.Proofs.YtoadjhmehgkeaaaDoor
namespace Go.Proofs.YtoadjhmehgkeaaaDoor
open Go.RowKit Mth

theorem vs_three (xs : List Nat) (i n r : Nat) : vs W64 xs 0 (i + n + r) = vs W64 xs 0 i + W64 ^ i * (vs W64 xs i n + W64 ^ n * vs W64 xs (i + n) r) := by
  rw [vs_split, vs_split, Nat.zero_add, Nat.zero_add, Nat.pow_add, Nat.mul_add, Nat.mul_assoc]
  omega
/-- Words added at place i, the carry behind them. -/
theorem add_at {zs us vs' : List Nat} {i n r c y L : Nat} (hL : L = i + n + r) (h1 : AddedM zs us i n c y) (h2 : AddedW us vs' (i + n) r c) (hb : vs W64 zs 0 L + W64 ^ i * y < W64 ^ L) :
    Dg W64 vs' ∧ vs'.length = zs.length ∧ (∀ j, j < i → gt vs' j = gt zs j) ∧ vs W64 vs' 0 L = vs W64 zs 0 L + W64 ^ i * y := by
  obtain ⟨a1, a2, a3, a4⟩ := h1
  obtain ⟨b1, b2, k, b3⟩ := h2
  have hlow : ∀ j, j < i → gt vs' j = gt zs j := fun j hj => (b1.out j (by omega)).trans (a1.out j (by omega))
  refine ⟨b2, b1.len.trans a1.len, hlow, ?_⟩
  subst hL
  rw [vs_three] at hb ⊢
  rw [vs_three zs]
  have e1 : vs W64 vs' 0 i = vs W64 zs 0 i := vs_congr (fun j hj => by rw [Nat.zero_add]; exact hlow j hj)
  have e2 : vs W64 vs' i n = vs W64 us i n := vs_congr (fun j hj => b1.out _ (by omega))
  have e3 : vs W64 us (i + n) r = vs W64 zs (i + n) r := vs_congr (fun j hj => a1.out _ (by omega))
  rw [e1, e2]
  rw [e3] at b3
  generalize vs W64 zs 0 i = l at *
  generalize vs W64 us i n = p at *
  generalize vs W64 zs i n = q at *
  generalize vs W64 zs (i + n) r = s at *
  generalize vs W64 vs' (i + n) r = t at *
  rw [Nat.pow_add, Nat.pow_add] at hb
  generalize W64 ^ i = X at *
  generalize W64 ^ n = Y at *
  generalize W64 ^ r = Z at *
  have hX : X * (p + Y * t) + X * (Y * (Z * k)) = X * (q + Y * s) + X * y := by
    rw [← Nat.mul_add, ← Nat.mul_add]
    congr 1
    rw [Nat.add_assoc, ← Nat.mul_add, b3, Nat.mul_add]
    omega
  have hk : k = 0 := by
    rcases Nat.eq_zero_or_pos k with h | h
    · exact h
    · have h3 : X * (Y * Z) ≤ X * (Y * (Z * k)) := Nat.mul_le_mul_left _ (Nat.mul_le_mul_left _ (Nat.le_mul_of_pos_right _ h))
      rw [Nat.mul_assoc] at hb
      omega
  subst hk
  simp at hX
  omega

/-- The loop of the product: i rounds are over. -/
structure MontInv (A M : Nat) (ys zs : List Nat) (n o2 i : Nat) : Prop where
  len : zs.length = 2 * n + 1
  dg : Dg W64 zs
  low : ∀ j, j < i → gt zs j = 0
  val : ∃ Q, Q < W64 ^ i ∧ vs W64 zs 0 (2 * n + 1) = A * vs W64 ys o2 i + M * Q

theorem mont_bound {A M n i Q V y : Nat} (hA : A < M) (hM : M < W64 ^ n) (hi : i < n) (hQ : Q < W64 ^ i) (hV : V < W64 ^ i) (hy : y < W64) : A * V + M * Q + W64 ^ i * (A * y) < W64 ^ (2 * n + 1) ∧ A * V + M * Q + W64 ^ i * (A * y) + W64 ^ i * (M * (W64 - 1)) < W64 ^ (2 * n + 1) := by
  have h1 : A * V ≤ M * W64 ^ i := Nat.mul_le_mul (by omega) (by omega)
  have h2 : M * Q ≤ M * W64 ^ i := Nat.mul_le_mul_left _ (by omega)
  have h3 : W64 ^ i * (A * y) ≤ W64 ^ i * (M * (W64 - 1)) := Nat.mul_le_mul_left _ (Nat.mul_le_mul (by omega) (by omega))
  have h4 : W64 ^ i * (M * (W64 - 1)) = M * W64 ^ i * (W64 - 1) := by rw [← Nat.mul_assoc, Nat.mul_comm (W64 ^ i)]
  have h5 : M * W64 ^ i * (2 * W64) ≤ W64 ^ n * W64 ^ (n - 1) * (2 * W64) := Nat.mul_le_mul_right _ (Nat.mul_le_mul (by omega) (Nat.pow_le_pow_right W64_pos (by omega)))
  have h6 : W64 ^ n * W64 ^ (n - 1) * (2 * W64) ≤ W64 ^ (2 * n + 1) := by
    rw [show 2 * n + 1 = n + (n - 1) + 2 from by omega, Nat.pow_add, Nat.pow_add]
    exact Nat.mul_le_mul_left _ (by decide)
  have h7 : M * W64 ^ i * (2 * W64) = 2 * (M * W64 ^ i * (W64 - 1)) + 2 * (M * W64 ^ i) := by
    rw [show 2 * W64 = 2 * (W64 - 1) + 2 from by decide, Nat.mul_add]
    rw [Nat.mul_left_comm, Nat.mul_comm _ 2]
  have h8 : 0 < M * W64 ^ i := Nat.mul_pos (by omega) (Nat.pow_pos W64_pos)
  have h9 : A * V < M * W64 ^ i := by
    have : A * V ≤ A * W64 ^ i := Nat.mul_le_mul_left _ (by omega)
    have : A * W64 ^ i < M * W64 ^ i := Nat.mul_lt_mul_of_pos_right hA (Nat.pow_pos W64_pos)
    omega
  constructor
  · omega
  · omega

/-- One round: a's multiple, then the modulus's. -/
theorem MontInv.next {A M n i o2 y q inv : Nat} {ys zs us us' vs' ws : List Nat} {c c' : Nat} (h : MontInv A M ys zs n o2 i) (hA : A < M) (hM : M < W64 ^ n) (hi : i < n) (hdy : Dg W64 ys) (hy : y = gt ys (o2 + i))
    (hinv : (M * inv + 1) % W64 = 0)
    (h1 : AddedM zs us i n c (A * y)) (h2 : AddedW us us' (i + n) (n + 1 - i) c)
    (hq : q = gt us' i * inv % W64)
    (h3 : AddedM us' vs' i n c' (M * q)) (h4 : AddedW vs' ws (i + n) (n + 1 - i) c') : MontInv A M ys ws n o2 (i + 1) := by
  obtain ⟨Q, hQ, hval⟩ := h.val
  have hV : vs W64 ys o2 i < W64 ^ i := vs_lt hdy
  have hyW : y < W64 := by rw [hy]; exact hdy _
  have hqW : q < W64 := by rw [hq]; exact Nat.mod_lt _ W64_pos
  have hL : 2 * n + 1 = i + n + (n + 1 - i) := by omega
  obtain ⟨b1, b2⟩ := mont_bound hA hM hi hQ hV hyW
  have s1 := add_at hL h1 h2 (by rw [hval]; exact b1)
  obtain ⟨d1, l1, w1, v1⟩ := s1
  have hle : W64 ^ i * (M * q) ≤ W64 ^ i * (M * (W64 - 1)) := Nat.mul_le_mul_left _ (Nat.mul_le_mul_left _ (by omega))
  obtain ⟨d2, l2, w2, v2⟩ := add_at hL h3 h4 (by rw [v1, hval]; omega)
  have htot : vs W64 ws 0 (2 * n + 1) = A * vs W64 ys o2 (i + 1) + M * (Q + W64 ^ i * q) := by
    rw [v2, v1, hval]
    have : vs W64 ys o2 (i + 1) = vs W64 ys o2 i + W64 ^ i * y := by simp only [vs]; rw [hy]
    rw [this, Nat.mul_add, Nat.mul_add, Nat.mul_left_comm A, Nat.mul_left_comm M]
    omega
  refine ⟨by rw [l2, l1, h.len], d2, ?_, Q + W64 ^ i * q, ?_, htot⟩
  · intro j hj
    by_cases e : j = i
    · subst e
      have hlow : vs W64 us' 0 j = 0 := vs_zero (fun k hk => by rw [Nat.zero_add, w1 k hk]; exact h.low k hk)
      have hloww : vs W64 ws 0 j = 0 := vs_zero (fun k hk => by rw [Nat.zero_add, w2 k hk, w1 k hk]; exact h.low k hk)
      have e1 : 2 * n + 1 = j + 1 + (2 * n - j) := by omega
      rw [e1, vs_split W64 ws, vs_split W64 us'] at v2
      simp only [vs] at v2
      rw [hlow, hloww] at v2
      simp only [Nat.zero_add] at v2
      rw [Nat.pow_succ] at v2
      have hX : 0 < W64 ^ j := Nat.pow_pos W64_pos
      have v3 : gt ws j + W64 * vs W64 ws (j + 1) (2 * n - j) = gt us' j + W64 * vs W64 us' (j + 1) (2 * n - j) + M * q := by
        refine Nat.eq_of_mul_eq_mul_left hX ?_
        rw [Nat.mul_add, Nat.mul_add, Nat.mul_add, ← Nat.mul_assoc, ← Nat.mul_assoc]
        exact v2
      have v4 : gt ws j % W64 = (gt us' j + M * q) % W64 := by
        have := congrArg (· % W64) v3
        simp only [Nat.add_mul_mod_self_left] at this
        rw [this, Nat.add_right_comm, Nat.add_mul_mod_self_left]
      rw [Nat.mod_eq_of_lt (d2 j)] at v4
      rw [v4, hq]
      have : (gt us' j + M * (gt us' j * inv % W64)) % W64 = (gt us' j * (M * inv + 1)) % W64 := by
        rw [Nat.add_mod, Nat.mul_mod M, Nat.mod_mod, ← Nat.mul_mod, ← Nat.add_mod]
        congr 1
        rw [Nat.mul_add, Nat.mul_one, Nat.mul_left_comm]
        omega
      rw [this, Nat.mul_mod, hinv]; simp
    · rw [w2 j (by omega), w1 j (by omega)]; exact h.low j (by omega)
  · rw [Nat.pow_succ]
    have : W64 ^ i * q ≤ W64 ^ i * (W64 - 1) := Nat.mul_le_mul_left _ (by omega)
    have h5 : W64 ^ i * W64 = W64 ^ i * (W64 - 1) + W64 ^ i := by
      rw [← Nat.mul_succ]; congr 1
    omega
/-- What is left in the end, ahead of the last subtraction. -/
theorem MontInv.done {A M n o2 : Nat} {ys zs : List Nat} (h : MontInv A M ys zs n o2 n) (hA : A < M) (hdy : Dg W64 ys) : vs W64 zs n (n + 1) < 2 * M ∧ ∃ Q, vs W64 zs n (n + 1) * W64 ^ n = A * vs W64 ys o2 n + M * Q := by
  obtain ⟨Q, hQ, hval⟩ := h.val
  have hV : vs W64 ys o2 n < W64 ^ n := vs_lt hdy
  rw [show 2 * n + 1 = n + (n + 1) from by omega, vs_split, vs_zero (n := n) (fun k hk => by rw [Nat.zero_add]; exact h.low k hk), Nat.zero_add, Nat.zero_add] at hval
  refine ⟨?_, Q, by rw [Nat.mul_comm]; exact hval⟩
  have h1 : A * vs W64 ys o2 n ≤ M * W64 ^ n := Nat.mul_le_mul (by omega) (by omega)
  have h2 : M * Q < M * W64 ^ n := Nat.mul_lt_mul_of_pos_left hQ (by omega)
  refine Nat.lt_of_mul_lt_mul_left (a := W64 ^ n) ?_
  rw [hval, Nat.mul_comm (W64 ^ n), Nat.mul_assoc]
  omega
end Go.Proofs.YtoadjhmehgkeaaaDoor
namespace Go.Proofs.YtoadjhmehgkeaaaDoor
open Go.RowKit Mth

theorem geq_cmpN (T M : Nat) : decide (0 ≤ cmpN T M) = decide (M ≤ T) := by
  unfold cmpN
  by_cases h : T < M
  · rw [if_pos h, decide_eq_false (by omega), decide_eq_false (by omega)]
  · rw [if_neg h, decide_eq_true (by split <;> omega), decide_eq_true (by omega)]
theorem vs_low {us : List Nat} {i : Nat} (h : vs W64 us i (i + 1) < W64 ^ i) : vs W64 us i i = vs W64 us i (i + 1) := by
  simp only [vs] at h ⊢
  rcases Nat.eq_zero_or_pos (gt us (i + i)) with h0 | h0
  · rw [h0]; simp
  · have := Nat.le_mul_of_pos_right (W64 ^ i) h0
    omega

set_option maxHeartbeats 8000000 in
set_option maxRecDepth 100000 in
theorem mprod_any (bm om n cm inv M : Nat) (ms : List Nat) (ba oa ca : Nat) (xs : List Nat) (bb ob cb : Nat) (ys : List Nat) (A : Nat) (w : World)
    (hm : NumAt w bm om n cm ms M) (hsm : n < 1099511627776) (hinv : (M * inv + 1) % W64 = 0)
    (hba : Blk .u64 57 w ba xs) (hna : oa + n ≤ xs.length) (hda : Dg W64 xs) (hA : vs W64 xs oa n = A) (hAM : A < M)
    (hbb : Blk .u64 57 w bb ys) (hnb : ob + n ≤ ys.length) (hdb : Dg W64 ys) :
    Calls Tryd.prog 71 #[mval (.slice (some ⟨bm, om, none⟩) n cm) inv, .slice (some ⟨ba, oa, none⟩) n ca, .slice (some ⟨bb, ob, none⟩) n cb] w fun e w' => ∃ g us, e = .returned (.slice (some ⟨g, n, none⟩) n (n + 1)) ∧ w.heap.size ≤ g ∧ Blk .u64 57 w' g us ∧ us.length = 2 * n + 1 ∧ Dg W64 us ∧ vs W64 us n n < M ∧ (vs W64 us n n * W64 ^ n) % M = (A * vs W64 ys ob n) % M ∧ w.grownBy w' none := by
  obtain ⟨i0, hi, hz0, hz1, hz2⟩ := info_parts infoW
  unfold mval
  go_enter Tryd.func71, Tryd.ntmps71
  go_wp2_with (at_make; refine wpList_make_full _ rfl _ _ 51 rfl 0 57 i0 (.int .u64 0) 1 Tryd.underlying51 hi hz0 hz1 .i64 .i64 _ _ (2 * n + 1) rfl rfl ?_ ?_ ?_ ?_ (Nat.zero_le _) ?_)
  case refine_1 => omega
  case refine_2 => omega
  case refine_3 => rw [hz2]; omega
  case refine_4 => unfold maxLen; omega
  intro w1 hown hgr
  have hb0 := blk_made' hown
  have hg1 := gr_then (gr_alloc w (.cells #[.slice (some ⟨bm, om, none⟩) n cm, .int .u64 (inv : Int)] 89) none) hgr
  have hl0 : (List.replicate (2 * n + 1) 0 : List Nat).length = 2 * n + 1 := List.length_replicate
  have hz := gt_rep0 (2 * n + 1)
  have hbx : (w.alloc (.cells #[.slice (some ⟨bm, om, none⟩) n cm, .int .u64 (inv : Int)] 89)).heap[w.heap.size]? = some (.cells #[.slice (some ⟨bm, om, none⟩) n cm, .int .u64 (inv : Int)] 89 (0, 0)) := heap_alloc_new _ _
  have hbx1 : w1.heap[w.heap.size]? = some (.cells #[.slice (some ⟨bm, om, none⟩) n cm, .int .u64 (inv : Int)] 89 (0, 0)) := by rw [hgr.block _ (by simp) (by simp)]; exact hbx
  have hi0 : MontInv A M ys (List.replicate (2 * n + 1) 0) n ob 0 := ⟨hl0, fun j => by rw [hz]; exact W64_pos, fun j hj => hz j, 0, by simp, by rw [vs_zero (fun j _ => hz _)]; simp [vs]⟩
  have HI0 := Lib.hid hi0
  generalize (List.replicate (2 * n + 1) 0 : List Nat) = z0 at hb0 HI0
  clear hown hi hz0 hz1 hz2 hl0 hz hi0 hbx hgr
  go_wp2
  go_loopw [21] (fun j wr => ∃ (i : Nat) (zs : List Nat), i ≤ n ∧ j = .int .i64 i ∧ Blk .u64 57 wr (w.heap.size + 1) zs ∧ w1.grownBy wr (some (w.heap.size + 1)) ∧ Hid (MontInv A M ys zs n ob i)) (fun j _ => n - (intOf j).toNat)
  case atStart => exact ⟨0, z0, Nat.zero_le _, rfl, hb0, World.grownBy.refl _ _, HI0⟩
  case round =>
    obtain ⟨i, zs, hile, rfl, hbz, hg, HI⟩ := hrel
    have hgw : w.grownBy wr none := gr_new hg1 hg (by omega)
    have hbxr : wr.heap[w.heap.size]? = some (.cells #[.slice (some ⟨bm, om, none⟩) n cm, .int .u64 (inv : Int)] 89 (0, 0)) := by rw [hg.block _ (Array.getElem?_eq_some_iff.1 hbx1).1 (by simp)]; exact hbx1
    have hba' := hba.kept hgw (by simp)
    have hbb' := hbb.kept hgw (by simp)
    have hm' := hm.kept hgw (by simp)
    have hba1 : ba ≠ w.heap.size + 1 := by have := hba.lt; omega
    have hbm1 : bm ≠ w.heap.size + 1 := by have := hm.blk.lt; omega
    clear hb0 HI0
    by_cases hlt : i < n
    · have hcell2 : wr.cell? ⟨bb, ob + i, none⟩ = some (.int .u64 ((gt ys (ob + i) : Nat) : Int)) := hbb'.cell (by omega)
      have hc0 : wr.cell? ⟨w.heap.size, 0, none⟩ = some (.slice (some ⟨bm, om, none⟩) n cm) := by rw [cell_of_row wr _ 0 _ _ _ hbxr]; rfl
      have hc1 : wr.cell? ⟨w.heap.size, 1, none⟩ = some (.int .u64 (inv : Int)) := by rw [cell_of_row wr _ 1 _ _ _ hbxr]; rfl
      have hlz := HI.out.len
      have hdz := HI.out.dg
      have hdy := hdb (ob + i)
      have hcut : ¬ 2 * n + 1 = i := by omega
      have hcut2 : ¬ 2 * n + 1 = i + n := by omega
      have HLZ := Lib.hid hlz
      obtain ⟨y, hy⟩ : ∃ y, y = gt ys (ob + i) := ⟨_, rfl⟩
      rw [← hy] at hcell2 hdy
      have HY := Lib.hid hy
      have HA := Lib.hid hA
      clear hlz hy hA
      have hf0 : IntKind.i64.wrap ((i : Int) + (n : Int)) = (i : Int) + (n : Int) := by rw [IntKind.wrap_i64]; omega
      have hf1 : (0 : Int) ≤ (i : Int) + (n : Int) := by omega
      have hf2 : (i : Int) + (n : Int) ≤ 2 * (n : Int) + 1 := by omega
      have hf3 : (i : Int) ≤ 2 * (n : Int) + 1 := by omega
      have hf4 : ((i : Int) + (n : Int)).toNat = i + n := by omega
      go_wp2_with fail
      go_cut [] from 26 to 37 (fun wx => ∃ us zs' c, Blk .u64 57 wx (w.heap.size + 1) zs' ∧ wr.grownBy wx (some (w.heap.size + 1)) ∧ Hid (AddedM zs us i n c (A * y)) ∧ Hid (AddedW us zs' (i + n) (n + 1 - i) c))
      case first =>
        go_region_with (first
          | (go_at_call 56; refine (addMultiple_any (w.heap.size + 1) i (2 * n + 1 - i) (2 * n + 1 - i) ba oa n ca y zs xs _ (by exact hbz) (by rw [HLZ.out]; omega) hdz (by exact hba') hna hda hba1 (by omega) hdy (by unfold maxLen; omega)).mono ?_; rintro e w5 ⟨c, us, rfl, hu, hg5, hadd⟩; rw [HA.out] at hadd; have HADD := Lib.hid hadd; clear hadd)
          | (go_at_call 82; refine (addWordTo_any (w.heap.size + 1) (i + n) (2 * n + 1 - (i + n)) (2 * n + 1 - (i + n)) c us _ (by exact hu) (by rw [HADD.out.1.len, HLZ.out]; omega) HADD.out.2.1 HADD.out.2.2.1 (by unfold maxLen; omega)).mono ?_; rintro e w6 ⟨rfl, zs', hz6, hg6, hadd6⟩; have HADD6 := Lib.hid hadd6; clear hadd6))
        all_goals
          go_wp2
          go_meet
          exact ⟨us, zs', c, hz6, gr_then (gr_drew wr none) (gr_trans hg5 hg6 (.inr rfl) (.inr (.inl rfl))), HADD, by rw [show n + 1 - i = 2 * n + 1 - (i + n) from by omega]; exact HADD6⟩
      case rest =>
        obtain ⟨us, zs', c, hzc, hgc, HADD, HADDW⟩ := hcut
        have hlc : zs'.length = 2 * n + 1 := by rw [HADDW.out.1.len, HADD.out.1.len, HLZ.out]
        have HLC := Lib.hid hlc
        have hdc := HADDW.out.2.1
        have hbxc : wc.heap[w.heap.size]? = some (.cells #[.slice (some ⟨bm, om, none⟩) n cm, .int .u64 (inv : Int)] 89 (0, 0)) := by rw [hgc.block _ (Array.getElem?_eq_some_iff.1 hbxr).1 (by simp)]; exact hbxr
        have hcc0 : wc.cell? ⟨w.heap.size, 0, none⟩ = some (.slice (some ⟨bm, om, none⟩) n cm) := by rw [cell_of_row wc _ 0 _ _ _ hbxc]; rfl
        have hcc1 : wc.cell? ⟨w.heap.size, 1, none⟩ = some (.int .u64 (inv : Int)) := by rw [cell_of_row wc _ 1 _ _ _ hbxc]; rfl
        obtain ⟨t, ht⟩ : ∃ t, t = gt zs' i := ⟨_, rfl⟩
        have hct : wc.cell? ⟨w.heap.size + 1, i, none⟩ = some (.int .u64 (t : Int)) := by rw [ht]; exact hzc.cell (by omega)
        obtain ⟨q, hq⟩ : ∃ q, q = t * inv % W64 := ⟨_, rfl⟩
        have hqw : IntKind.u64.wrap ((t : Int) * (inv : Int)) = (q : Int) := by rw [wrap_mod, hq, W64_eq]; omega
        have hqlt : q < W64 := by rw [hq]; exact Nat.mod_lt _ W64_pos
        have HQ := Lib.hid (show q = gt zs' i * inv % W64 from by rw [hq, ht])
        have hmc := hm'.kept hgc (by simpa using hbm1)
        have HG := Lib.hid (hmc.val)
        have hif : (i : Int) < 2 * (n : Int) + 1 := by omega
        clear ht hq hlc hc0 hc1 hcell2
        go_wp2_with fail
        go_region_with (first
          | (go_at_call 56; refine (addMultiple_any (w.heap.size + 1) i (2 * n + 1 - i) (2 * n + 1 - i) bm om n cm q zs' ms _ (by exact hzc) (by rw [HLC.out]; omega) hdc (by exact hmc.blk) hmc.fit hmc.dg hbm1 (by omega) hqlt (by unfold maxLen; omega)).mono ?_; rintro e w5 ⟨c', vs', rfl, hu, hg5, hadd⟩; rw [HG.out] at hadd; have HADD5 := Lib.hid hadd; clear hadd)
          | (go_at_call 82; refine (addWordTo_any (w.heap.size + 1) (i + n) (2 * n + 1 - (i + n)) (2 * n + 1 - (i + n)) c' vs' _ (by exact hu) (by rw [HADD5.out.1.len, HLC.out]; omega) HADD5.out.2.1 HADD5.out.2.2.1 (by unfold maxLen; omega)).mono ?_; rintro e w6 ⟨rfl, ws, hz6, hg6, hadd6⟩; have HADD6 := Lib.hid hadd6; clear hadd6))
        all_goals
          go_wp2
          refine ⟨⟨i + 1, ws, by omega, by go_num, hz6, gr_trans hg (gr_trans hgc (gr_then (gr_drew wc none) (gr_trans hg5 hg6 (.inr rfl) (.inr (.inl rfl)))) (.inr rfl) (.inr (.inl rfl))) (.inr rfl) (.inr (.inl rfl)), ?_⟩, by simp [intOf]; omega⟩
          have hM : M < W64 ^ n := by rw [← hm.val]; exact vs_lt hm.dg
          exact HI.out.next hAM hM hlt hdb HY.out hinv HADD.out HADDW.out HQ.out HADD5.out (by rw [show n + 1 - i = 2 * n + 1 - (i + n) from by omega]; exact HADD6.out)
    · obtain rfl : i = n := by omega
      obtain ⟨hT, HQ⟩ := HI.out.done hAM hdb
      have hlz := HI.out.len
      have hdz := HI.out.dg
      obtain ⟨T, hTe⟩ : ∃ T, T = vs W64 zs i (i + 1) := ⟨_, rfl⟩
      rw [← hTe] at hT HQ
      have HT := Lib.hid hTe
      have HQQ := Lib.hid HQ
      have HTM := Lib.hid hT
      have HLZ := Lib.hid hlz
      have HA := Lib.hid hA
      have hc0 : wr.cell? ⟨w.heap.size, 0, none⟩ = some (.slice (some ⟨bm, om, none⟩) i cm) := by rw [cell_of_row wr _ 0 _ _ _ hbxr]; rfl
      have hcut : ¬ 2 * i + 1 = i := by omega
      have hf3 : (i : Int) ≤ 2 * (i : Int) + 1 := by omega
      have hlen : 2 * i + 1 - i = i + 1 := by omega
      have HG := Lib.hid hm'.val
      clear hTe HQ hT hlz hA
      have HBZ := Lib.hid hbz
      go_wp2_with fail
      go_cut [66] from 61 to 66 (fun v wx => v = .bool (decide (M ≤ T)) ∧ wr.grownBy wx none)
      case first =>
        go_region_with (first
          | (go_at_call 54; refine (trimmed_num (w.heap.size + 1) i (i + 1) (i + 1) zs _ (by exact HBZ.out) (by rw [HLZ.out]; omega) hdz (Nat.le_refl _) (by unfold maxLen; omega) (by omega)).mono ?_; rintro e w5 ⟨⟨m5, rfl, hm5⟩, rfl⟩; rw [← HT.out] at hm5; have HM5 := Lib.hid hm5; clear hm5)
          | (go_at_call 59; refine (compare_any (w.heap.size + 1) i m5 (i + 1) bm om i cm zs ms _ (by exact HM5.out.blk) HM5.out.fit (by exact hm'.blk) hm'.fit hdz hm'.dg HM5.out.small HM5.out.top hm'.top).mono ?_; rintro e w6 ⟨rfl, hq6⟩; rw [HM5.out.val, HG.out]; have HQ6 := Lib.hid hq6; clear hq6))
        all_goals
          go_wp2
          go_meet
          exact ⟨by rw [geq_cmpN], gr_then (gr_drew wr none) (HQ6.out.gr none)⟩
      case rest =>
        obtain ⟨rfl, hgc⟩ := hcut
        have hmW : M < W64 ^ i := by rw [← hm.val]; exact vs_lt hm.dg
        have hzc := HBZ.out.kept hgc (by simp)
        have hmc := hm'.kept hgc (by simp)
        have hcc0 : wc.cell? ⟨w.heap.size, 0, none⟩ = some (.slice (some ⟨bm, om, none⟩) i cm) := hgc.cell hc0 (by simp)
        have HMW := Lib.hid hmW
        have hgwc : w.grownBy wc none := gr_then hgw hgc
        clear hmW hc0
        by_cases hMT : M ≤ T
        · have hd : decide (M ≤ T) = true := decide_eq_true hMT
          have HMT := Lib.hid hMT
          clear hMT
          go_wp2_with fail
          refine (subtractFrom_any (w.heap.size + 1) i (i + 1) (i + 1) bm om i cm zs ms wc hzc (by rw [HLZ.out]; omega) hdz (by unfold maxLen; omega) hmc.blk hmc.fit hmc.dg hbm1 (by omega) (by rw [hmc.val, ← HT.out]; exact HMT.out)).mono ?_
          rintro e w7 ⟨rfl, us, hu, hg7, hwr, hdu, hvu⟩
          rw [HG.out, ← HT.out] at hvu
          have HU := Lib.hid (And.intro hwr.len (And.intro hdu hvu))
          have hgf : w.grownBy w7 none := gr_new hgwc hg7 (by omega)
          clear hwr hdu hvu hg7
          go_wp2
          go_ret
          refine ⟨w.heap.size + 1, us, rfl, by omega, hu, by rw [HU.out.1, HLZ.out], HU.out.2.1, ?_⟩
          have hlt : vs W64 us i (i + 1) < M := by have := HU.out.2.2; have := HTM.out; omega
          have hv := vs_low (by have := HMW.out; omega : vs W64 us i (i + 1) < W64 ^ i)
          refine ⟨by rw [hv]; exact hlt, ?_, hgf⟩
          obtain ⟨Q, hQ⟩ := HQQ.out
          rw [hv, ← Nat.add_mul_mod_self_left (A * vs W64 ys ob i) M Q, ← hQ, ← HU.out.2.2, Nat.add_mul, Nat.add_mul_mod_self_left]
        · have hd : decide (M ≤ T) = false := decide_eq_false hMT
          have HMT := Lib.hid hMT
          clear hMT
          go_wp2
          go_ret
          refine ⟨w.heap.size + 1, zs, rfl, by omega, hzc, HLZ.out, hdz, ?_⟩
          have hlt : vs W64 zs i (i + 1) < M := by rw [← HT.out]; have := HMT.out; omega
          have hv := vs_low (by have := HMW.out; omega : vs W64 zs i (i + 1) < W64 ^ i)
          refine ⟨by rw [hv]; exact hlt, ?_, hgwc⟩
          obtain ⟨Q, hQ⟩ := HQQ.out
          rw [hv, ← HT.out, hQ, Nat.add_mul_mod_self_left]
end Go.Proofs.YtoadjhmehgkeaaaDoor
namespace Go.Proofs.YtoadjhmehgkeaaaDoor
open Go.RowKit Mth

/-- append into room. -/
theorem wpList_append_room_blk {P : Program} {w : World} {ops : Array Oper} {rest : List Oper} {o : Oper} {a : Act} {Q : Exit → Act → World → Prop} (hgd : o.guard = none) (s x : Operand) (t : TypeId)
    (ho : o.op = .call { callee := .builtin .append, args := #[s, x], argTypes := #[t, t] })
    (k : IntKind) (e : TypeId) (i : TypeInfo) (ht : P.underlying t = some (.slice e)) (hi : P.info? e = some i) (hsize : i.size = 1)
    (g n : Nat) (zs : List Nat) (hs : a.eval s = .slice (some ⟨g, 0, none⟩) n zs.length) (hb : Blk k e w g zs) (b off m c : Nat) (xs : List Nat) (hx : a.eval x = .slice (some ⟨b, off, none⟩) m c)
    (hcell : ∀ j, j < m → w.cell? ⟨b, off + j, none⟩ = some (.int k ((gt xs (off + j) : Nat) : Int))) (hm : off + m ≤ xs.length) (hroom : n + m ≤ zs.length)
    (h : ∀ w' us, us.length = zs.length → Blk k e w' g us → w.grownBy w' (some g) → Apped zs us xs n m off → wpList P ops Q rest (a.put o.dst (.slice (some ⟨g, 0, none⟩) (n + m) zs.length)) w') : wpList P ops Q (o :: rest) a w := by
  refine wpList_plain hgd fun K hK => ?_
  have hnl : (cellsOf k ((xs.drop off).take m)).length = m := by rw [length_cellsOf]; simp; omega
  have hl : (cellsOf k ((xs.drop off).take m)).length = m * i.size := by rw [hsize, hnl, Nat.mul_one]
  have hnews : ∀ j u, (cellsOf k ((xs.drop off).take m))[j]? = some u → w.cell? ((⟨b, off, none⟩ : Addr).add j) = some u := by
    intro j u hu
    have hj : j < m := by have := (List.getElem?_eq_some_iff.1 hu).1; omega
    rw [Addr.add_lit, hcell j hj]
    rw [cellsOf_get k _ _ (by simp; omega), gt_take hj, gt_drop] at hu
    exact hu
  have hone : ∀ u ∈ cellsOf k ((xs.drop off).take m), u.oneCell' = true := by
    intro u hu
    simp only [cellsOf, List.mem_map] at hu
    obtain ⟨_, _, rfl⟩ := hu
    rfl
  have hr := run_append_room (P := P) w t o.type e i ht hi g n zs.length (cellsOf k zs).toArray hb ⟨b, off, none⟩ m c _ hl hnews hone hroom (by rw [hsize, hnl]; simp [length_cellsOf]; omega)
  have hcells : (((cellsOf k zs).toArray.toList.take (n * i.size) ++ cellsOf k ((xs.drop off).take m) ++ (cellsOf k zs).toArray.toList.drop (n * i.size + (cellsOf k ((xs.drop off).take m)).length)).toArray) = (cellsOf k (zs.take n ++ (xs.drop off).take m ++ zs.drop (n + m))).toArray := by
    rw [hsize, hnl, Nat.mul_one]; simp [cellsOf, List.map_take, List.map_drop]
  rw [hcells] at hr
  have hlen : (zs.take n ++ (xs.drop off).take m ++ zs.drop (n + m)).length = zs.length := by simp; omega
  have hfin := h _ _ hlen (setRow_heap w g _ _ e _ hb) ⟨rfl, rfl, rfl, by simp, fun k _ hk => setRow_other w g k _ (fun e => hk (by simp [e]))⟩ (apped_room hroom hm)
  unfold Oper.wp execOp
  simp only [ho, resolve, invoke, builtin, Sem.run_bind, Sem.run_pure, Result.andThen_ok, List.map_toArray, List.map_cons, List.map_nil, hs, hx, hr]
  exact hK _ _ hfin

set_option maxRecDepth 100000 in
theorem grow_nil (n : Nat) (w : World) (h0 : 0 < n) (hn : n ≤ 8796093022208) :
    Calls Tryd.prog 99 #[.slice none 0 0, .int .i64 n] w fun e w' => ∃ zs, e = .returned (.slice (some ⟨w.heap.size, 0, none⟩) 0 zs.length) ∧ Blk .u64 57 w' w.heap.size zs ∧ n ≤ zs.length ∧ zs.length ≤ maxLen ∧ Dg W64 zs ∧ w.grownBy w' none := by
  obtain ⟨i0, hi, hz0, hz1, hz2⟩ := info_parts infoW
  have hr := Lib.run_append_nil_zeros (P := Tryd.prog) w 51 3 51 57 i0 (.int .u64 0) .i64 .i64 Tryd.underlying51 Tryd.underlying3 hi hz0 n h0 (by omega) (by omega) (by rw [hz2]; omega)
  have hge := grownCap_ge w n 0 57
  have hle := grownCap_le_maxLen w n 0 57 (by unfold maxLen; omega)
  have hzz : Builtin.zeroCells (Value.int .u64 0).cells n ++ Builtin.zeroCells (Value.int .u64 0).cells (grownCap w n 0 57 - n) = (cellsOf .u64 (List.replicate (grownCap w n 0 57) 0)).toArray := by
    have hzc : ∀ q, (Builtin.zeroCells (Value.int .u64 0).cells q) = (cellsOf .u64 (List.replicate q 0)).toArray := fun q => by rw [← zeroCells_int, Array.toArray_toList]
    rw [hzc, hzc, List.append_toArray, ← cellsOf_append, List.replicate_append_replicate, show n + (grownCap w n 0 57 - n) = grownCap w n 0 57 from by omega]
  rw [hzz] at hr
  have hln : (List.replicate (grownCap w n 0 57) 0 : List Nat).length = grownCap w n 0 57 := List.length_replicate
  have hgz := gt_rep0 (grownCap w n 0 57)
  have hblk : Blk .u64 57 (w.drew.alloc (.cells (cellsOf .u64 (List.replicate (grownCap w n 0 57) 0)).toArray 57)) w.heap.size (List.replicate (grownCap w n 0 57) 0) := heap_alloc_new w.drew _
  have hgr : w.grownBy (w.drew.alloc (.cells (cellsOf .u64 (List.replicate (grownCap w n 0 57) 0)).toArray 57)) none := gr_then (gr_drew w none) (gr_alloc _ _ _)
  generalize hZ : (List.replicate (grownCap w n 0 57) 0 : List Nat) = zs at *
  rw [← hln] at hr hge hle
  have HR := Lib.hid hr
  have HB := Lib.hid hblk
  have HG := Lib.hid hgz
  generalize w.drew.alloc (.cells (cellsOf .u64 zs).toArray 57) = w2 at *
  clear hr hblk hgz hzz hZ hln hi hz0 hz1 hz2
  go_enter Tryd.func99, Tryd.ntmps99
  go_wp2_with (at_builtin; refine Lib.wpList_append_run _ rfl (.tmp 20) (.tmp 21) 51 3 rfl _ _ rfl rfl _ _ HR.out ?_)
  go_wp2
  go_ret
  exact ⟨zs, rfl, HB.out, hge, hle, fun i => by rw [HG.out]; exact W64_pos, hgr⟩

def sz2 (n1 n2 : Nat) : Nat → Nat
  | 0 => 0
  | 1 => n1
  | _ => n1 + n2

set_option maxHeartbeats 4000000 in
set_option maxRecDepth 100000 in
theorem concat_two (gs : Nat) (cs : Nat) (b1 o1 n1 c1 b2 o2 n2 c2 : Nat) (xs ys : List Nat) (w : World) (hgs : w.heap[gs]? = some (.cells #[.slice (some ⟨b1, o1, none⟩) n1 c1, .slice (some ⟨b2, o2, none⟩) n2 c2] 51 (0, 0)))
    (hb1 : Blk .u64 57 w b1 xs) (hn1 : o1 + n1 ≤ xs.length) (hd1 : Dg W64 xs) (hb2 : Blk .u64 57 w b2 ys) (hn2 : o2 + n2 ≤ ys.length) (hd2 : Dg W64 ys) (h0 : 0 < n1) (hs1 : n1 ≤ 1099511627776) (hs2 : n2 ≤ 1099511627776) :
    Calls Tryd.prog 88 #[.slice (some ⟨gs, 0, none⟩) 2 cs] w fun e w' => ∃ g us, e = .returned (.slice (some ⟨g, 0, none⟩) (n1 + n2) us.length) ∧ w.heap.size ≤ g ∧ Blk .u64 57 w' g us ∧ n1 + n2 ≤ us.length ∧ us.length ≤ maxLen ∧ Dg W64 us ∧ vs W64 us 0 (n1 + n2) = vs W64 xs o1 n1 + W64 ^ n1 * vs W64 ys o2 n2 ∧ w.grownBy w' none := by
  obtain ⟨i0, hi, hz0, hz1, hz2⟩ := info_parts infoW
  have hlt1 := hb1.lt
  have hlt2 := hb2.lt
  have hltg : gs < w.heap.size := (Array.getElem?_eq_some_iff.1 hgs).1
  have hc0 : w.cell? ⟨gs, 0, none⟩ = some (.slice (some ⟨b1, o1, none⟩) n1 c1) := by rw [cell_of_row w _ 0 _ _ _ hgs]; rfl
  have hc1 : w.cell? ⟨gs, 1, none⟩ = some (.slice (some ⟨b2, o2, none⟩) n2 c2) := by rw [cell_of_row w _ 1 _ _ _ hgs]; rfl
  go_enter Tryd.func88, Tryd.ntmps88
  go_wp2
  go_loopw [3, 11] (fun s j wr => ∃ i, i ≤ 2 ∧ j = .int .i64 (i : Nat) ∧ s = .int .i64 ((sz2 n1 n2 i : Nat) : Int) ∧ wr = w) (fun _ j _ => 2 - (intOf j).toNat)
  case atStart => exact ⟨0, by omega, rfl, rfl, rfl⟩
  case round =>
    obtain ⟨i, hile, rfl, rfl, rfl⟩ := hrel
    rcases i with _ | _ | _ | i
    · have hnn : ¬ ((n1 : Int) < 0) := by omega
      rw [show sz2 n1 n2 0 = 0 from rfl]
      go_wp2
      exact ⟨⟨1, by omega, rfl, rfl, trivial⟩, by decide⟩
    · rw [show sz2 n1 n2 (0 + 1) = n1 from rfl]
      have hnn : ¬ ((n1 : Int) + (n2 : Int) < 0) := by omega
      go_wp2
      exact ⟨⟨2, by omega, rfl, by simp [sz2], trivial⟩, by decide⟩
    · rw [show sz2 n1 n2 (0 + 1 + 1) = n1 + n2 from rfl]
      obtain ⟨wz, rfl⟩ : ∃ wz, wz = wr := ⟨_, rfl⟩
      go_wp2_with fail
      rw [show ((n1 : Int) + (n2 : Int)) = ((n1 + n2 : Nat) : Int) from by omega]
      refine (grow_nil (n1 + n2) wz (by omega) (by omega)).mono ?_
      rintro e w2 ⟨z0, rfl, hbz, hz1', hz2', hdz, hg2⟩
      have hgs2 : w2.heap[gs]? = some (.cells #[.slice (some ⟨b1, o1, none⟩) n1 c1, .slice (some ⟨b2, o2, none⟩) n2 c2] 51 (0, 0)) := by rw [hg2.block _ hltg (by simp)]; exact hgs
      have hltw2 : wz.heap.size < w2.heap.size := hbz.lt
      obtain ⟨L, hL⟩ : ∃ L, L = z0.length := ⟨_, rfl⟩
      rw [← hL] at hz1' hz2' ⊢
      have HL := Lib.hid hL
      obtain ⟨G, hG⟩ : ∃ G, G = wz.heap.size := ⟨_, rfl⟩
      rw [← hG] at hbz hltw2 ⊢
      have hlt1' : b1 < G := by omega
      have hlt2' : b2 < G := by omega
      have hltg' : gs < G := by omega
      have HG := Lib.hid hG
      clear hL hG hc0 hc1
      go_wp2
      go_loopw [6, 27] (fun v j wq => ∃ i us, i ≤ 2 ∧ j = .int .i64 (i : Nat) ∧ v = .slice (some ⟨G, 0, none⟩) (sz2 n1 n2 i) L ∧ Blk .u64 57 wq G us ∧ w2.grownBy wq (some G) ∧ Hid (us.length = L ∧ Dg W64 us ∧ (1 ≤ i → ∀ j, j < n1 → gt us j = gt xs (o1 + j)) ∧ (2 ≤ i → ∀ j, j < n2 → gt us (n1 + j) = gt ys (o2 + j)))) (fun _ j _ => 2 - (intOf j).toNat)
      case atStart => exact ⟨0, z0, by omega, rfl, rfl, hbz, World.grownBy.refl _ _, ⟨HL.out.symm, hdz, fun h => by omega, fun h => by omega⟩⟩
      case round =>
        obtain ⟨i, us, hile, rfl, rfl, hbu, hgu, HU⟩ := hrel
        have hgsq : wr.heap[gs]? = some (.cells #[.slice (some ⟨b1, o1, none⟩) n1 c1, .slice (some ⟨b2, o2, none⟩) n2 c2] 51 (0, 0)) := by rw [hgu.block _ (by omega) (by simp; omega)]; exact hgs2
        have hc0 : wr.cell? ⟨gs, 0, none⟩ = some (.slice (some ⟨b1, o1, none⟩) n1 c1) := by rw [cell_of_row wr _ 0 _ _ _ hgsq]; rfl
        have hc1 : wr.cell? ⟨gs, 1, none⟩ = some (.slice (some ⟨b2, o2, none⟩) n2 c2) := by rw [cell_of_row wr _ 1 _ _ _ hgsq]; rfl
        have hb1r := (hb1.kept hg2 (by simp)).kept hgu (by simp; omega)
        have hb2r := (hb2.kept hg2 (by simp)).kept hgu (by simp; omega)
        rcases i with _ | _ | _ | i
        · rw [show sz2 n1 n2 0 = 0 from rfl]
          obtain ⟨hlu, hdu, _, _⟩ := HU.out
          have HLU := Lib.hid hlu
          clear hlu
          go_wp2_with (at_builtin; refine wpList_append_room_blk rfl (.tmp 31) (.tmp 32) 51 rfl .u64 57 i0 Tryd.underlying51 hi hz1 G 0 us (by rw [HLU.out]; rfl) hbu b1 o1 n1 c1 xs rfl ?_ hn1 ?_ ?_)
          case refine_1 => intro j hj; exact hb1r.cell (by omega)
          case refine_2 => rw [HLU.out]; omega
          intro w3 vs3 hl3 hb3 hg3 hap
          rw [HLU.out] at hl3 ⊢
          have HAP := Lib.hid hap
          have HL3 := Lib.hid hl3
          clear hap hl3
          go_wp2
          refine ⟨⟨1, vs3, by omega, rfl, rfl, hb3, gr_trans hgu hg3 (.inr rfl) (.inr (.inl rfl)), HL3.out, HAP.out.dg W64_pos hdu hd1, fun _ j hj => by have := HAP.out.new j hj; rwa [Nat.zero_add] at this, fun h => by omega⟩, by decide⟩
        · rw [show sz2 n1 n2 (0 + 1) = n1 from rfl]
          obtain ⟨hlu, hdu, hold, _⟩ := HU.out
          have HLU := Lib.hid hlu
          have HOLD := Lib.hid hold
          clear hlu hold
          go_wp2_with (at_builtin; refine wpList_append_room_blk rfl (.tmp 31) (.tmp 32) 51 rfl .u64 57 i0 Tryd.underlying51 hi hz1 G n1 us (by rw [HLU.out]; rfl) hbu b2 o2 n2 c2 ys rfl ?_ hn2 ?_ ?_)
          case refine_1 => intro j hj; exact hb2r.cell (by omega)
          case refine_2 => rw [HLU.out]; omega
          intro w3 vs3 hl3 hb3 hg3 hap
          rw [HLU.out] at hl3 ⊢
          have HAP := Lib.hid hap
          have HL3 := Lib.hid hl3
          clear hap hl3
          go_wp2
          refine ⟨⟨2, vs3, by omega, rfl, rfl, hb3, gr_trans hgu hg3 (.inr rfl) (.inr (.inl rfl)), HL3.out, HAP.out.dg W64_pos hdu hd2, fun _ j hj => by rw [HAP.out.old j hj]; exact HOLD.out (by omega) j hj, fun _ j hj => HAP.out.new j hj⟩, by decide⟩
        · rw [show sz2 n1 n2 (0 + 1 + 1) = n1 + n2 from rfl]
          have hgf : wz.grownBy wr none := gr_new hg2 hgu (by rw [HG.out]; exact Nat.le_refl _)
          go_wp2
          go_ret
          obtain ⟨hlu, hdu, hx, hy⟩ := HU.out
          refine ⟨G, us, by rw [hlu]; rfl, by rw [HG.out]; exact Nat.le_refl _, hbu, by omega, by omega, hdu, ?_, hgf⟩
          rw [vs_split, vs_congr (ys := xs) (off' := o1) (fun j hj => by rw [Nat.zero_add]; exact hx (by omega) j hj), Nat.zero_add, vs_congr (xs := us) (ys := ys) (off := n1) (off' := o2) (fun j hj => hy (by omega) j hj)]
        · omega
    · omega
end Go.Proofs.YtoadjhmehgkeaaaDoor
namespace Go.Proofs.YtoadjhmehgkeaaaDoor
open Go.RowKit Mth

set_option maxHeartbeats 8000000 in
set_option maxRecDepth 100000 in
theorem image_any (bm om n cm inv M : Nat) (ms : List Nat) (ba oa na ca A : Nat) (xs : List Nat) (w : World) (hm : NumAt w bm om n cm ms M) (hM0 : 0 < M) (ha : NumAt w ba oa na ca xs A) (hna : na ≤ 137438953473) (hn : n ≤ 137438953473) :
    Calls Tryd.prog 70 #[mval (.slice (some ⟨bm, om, none⟩) n cm) inv, .slice (some ⟨ba, oa, none⟩) na ca] w fun e w' => ∃ g us, e = .returned (.slice (some ⟨g, 0, none⟩) n n) ∧ w.heap.size ≤ g ∧ Row w' g n (A * W64 ^ n % M) us ∧ w.grownBy w' none := by
  obtain ⟨i0, hi, hz0, hz1, hz2⟩ := info_parts infoW
  unfold mval
  have hbx : (w.alloc (.cells #[.slice (some ⟨bm, om, none⟩) n cm, .int .u64 (inv : Int)] 89)).heap[w.heap.size]? = some (.cells #[.slice (some ⟨bm, om, none⟩) n cm, .int .u64 (inv : Int)] 89 (0, 0)) := heap_alloc_new _ _
  go_enter Tryd.func70, Tryd.ntmps70
  have hg0 := gr_alloc w (.cells #[.slice (some ⟨bm, om, none⟩) n cm, .int .u64 (inv : Int)] 89) none
  have hm1 := hm.kept hg0 (by simp)
  have ha1 := ha.kept hg0 (by simp)
  have hc0 : (w.alloc (.cells #[.slice (some ⟨bm, om, none⟩) n cm, .int .u64 (inv : Int)] 89)).cell? ⟨w.heap.size, 0, none⟩ = some (.slice (some ⟨bm, om, none⟩) n cm) := by rw [cell_of_row _ _ 0 _ _ _ hbx]; rfl
  go_wp2_with fail
  generalize w.alloc (.cells #[.slice (some ⟨bm, om, none⟩) n cm, .int .u64 (inv : Int)] 89) = w1 at *
  obtain ⟨w2, hmk, hown, hg2⟩ := run_make_full (P := Tryd.prog) w1.drew 0 51 57 i0 (.int .u64 0) 1 Tryd.underlying51 hi hz0 hz1 .i64 .i64 n (by rw [hz2]; omega) (by unfold maxLen; omega) (Nat.zero_le _)
  have hb2 := blk_made hown
  have hl2 : (List.replicate n 0 : List Nat).length = n := List.length_replicate
  have HZ := Lib.hid (gt_rep0 n)
  have hn0 : 0 < n := by
    rcases Nat.eq_zero_or_pos n with h | h
    · subst h; have := hm.val; simp [vs] at this; omega
    · exact h
  obtain ⟨G, hG⟩ : ∃ G, G = w1.drew.heap.size := ⟨_, rfl⟩
  rw [← hG] at hmk hb2
  have HG := Lib.hid hG
  generalize (List.replicate n 0 : List Nat) = z0 at *
  have hcd : w1.drew.cell? ⟨w.heap.size, 0, none⟩ = some (.slice (some ⟨bm, om, none⟩) n cm) := hc0
  have hc2 := hg2.cell hcd (by simp)
  have hm2 := (hm1.kept (gr_drew w1 none) (by simp)).kept hg2 (by simp)
  have ha2 := (ha1.kept (gr_drew w1 none) (by simp)).kept hg2 (by simp)
  have hg3 := gr_alloc w2 (.cells #[.slice (some ⟨G, 0, none⟩) n n, .slice (some ⟨ba, oa, none⟩) na ca] 51) none
  have hc3 := hg3.cell hc2 (by simp)
  have hm3 := hm2.kept hg3 (by simp)
  have ha3 := ha2.kept hg3 (by simp)
  have hb3 := hb2.kept hg3 (by simp)
  have hgs : (w2.alloc (.cells #[.slice (some ⟨G, 0, none⟩) n n, .slice (some ⟨ba, oa, none⟩) na ca] 51)).heap[w2.heap.size]? = some (.cells #[.slice (some ⟨G, 0, none⟩) n n, .slice (some ⟨ba, oa, none⟩) na ca] 51 (0, 0)) := heap_alloc_new _ _
  have HGS := Lib.hid hgs
  have HB3 := Lib.hid hb3
  have HA3 := Lib.hid ha3
  have HM3 := Lib.hid hm3
  have HL2 := Lib.hid hl2
  clear hgs hb3 ha3 hm3 hl2 hG hown hb2 hm2 ha2 ha1 hm1
  go_cut [5, 6] from 7 to 20 (fun q r wx => Num wx r (A * W64 ^ n % M) ∧ w1.grownBy wx none)
  case first =>
    go_region_with (first
      | (go_at_call 88; refine (concat_two w2.heap.size 2 G 0 n n ba oa na ca z0 xs _ HGS.out HB3.out (by rw [HL2.out]; omega) (fun i => by rw [HZ.out]; exact W64_pos) HA3.out.blk HA3.out.fit HA3.out.dg hn0 (by omega) (by omega)).mono ?_; rintro e w4 ⟨g4, us, rfl, hlt4, hb4, hlen4, hmax4, hd4, hv4, hg4⟩; have hc4 := hg4.cell hc3 (by simp); have HU := Lib.hid (And.intro hlen4 (And.intro hmax4 (And.intro hd4 hv4))); have HM4 := Lib.hid (HM3.out.kept hg4 (by simp)); clear hlen4 hmax4 hd4 hv4)
      | (go_at_call 54; refine (trimmed_num g4 0 (n + na) us.length us w4 hb4 (by have := HU.out.1; omega) HU.out.2.2.1 HU.out.1 HU.out.2.1 (by omega)).mono ?_; rintro e w5 ⟨⟨m5, rfl, hm5⟩, rfl⟩; have HM5 := Lib.hid hm5; clear hm5)
      | (go_at_call 39; refine (divide_all _ _ (vs W64 us 0 (n + na)) M w4 ⟨g4, 0, m5, us.length, us, rfl, HM5.out⟩ ⟨bm, om, n, cm, ms, rfl, HM4.out⟩ hM0).mono ?_; rintro e w6 ⟨q, r, rfl, hq, hr, hg6⟩; have HQ := Lib.hid hq; have HR := Lib.hid hr; clear hq hr))
    all_goals
      go_wp2
      go_meet
      refine ⟨?_, gr_then (gr_drew w1 none) (gr_then hg2 (gr_then hg3 (gr_then hg4 hg6)))⟩
      have h := HR.out
      rw [HU.out.2.2.2, vs_zero (fun i _ => HZ.out _), Nat.zero_add, HA3.out.val, Nat.mul_comm] at h
      exact h
  case rest =>
    obtain ⟨hr, hgc⟩ := hcut
    have hbc : wc.heap[w.heap.size]? = some (.cells #[.slice (some ⟨bm, om, none⟩) n cm, .int .u64 (inv : Int)] 89 (0, 0)) := by rw [hgc.block _ (Array.getElem?_eq_some_iff.1 hbx).1 (by simp)]; exact hbx
    have hcc0 : wc.cell? ⟨w.heap.size, 0, none⟩ = some (.slice (some ⟨bm, om, none⟩) n cm) := by rw [cell_of_row _ _ 0 _ _ _ hbc]; rfl
    have hcc1 : wc.cell? ⟨w.heap.size, 1, none⟩ = some (.int .u64 (inv : Int)) := by rw [cell_of_row _ _ 1 _ _ _ hbc]; rfl
    have hgw : w.grownBy wc none := gr_then hg0 hgc
    obtain ⟨g6, o6, m6, c6, zs6, rfl, h6⟩ := hr
    have H6 := Lib.hid h6
    clear h6
    have hle : m6 ≤ n := H6.out.len_le (by
      have h1 : M < W64 ^ n := by rw [← hm.val]; exact vs_lt hm.dg
      have h2 := Nat.mod_lt (A * W64 ^ n) hM0
      omega)
    go_wp2_with fail
    refine (padded_any (some ⟨bm, om, none⟩) n cm inv g6 o6 m6 c6 zs6 wc H6.out.blk H6.out.fit H6.out.dg hle (by omega)).mono ?_
    rintro e w7 ⟨g7, us7, rfl, hlt7, hrow7, hg7⟩
    rw [H6.out.val] at hrow7
    have HR7 := Lib.hid hrow7
    clear hrow7
    go_wp2
    go_ret
    exact ⟨g7, us7, rfl, by have := hgw.size; omega, HR7.out, gr_then hgw hg7⟩

theorem mod_cancel {a b c M : Nat} (h : (a * c) % M = (b * c) % M) (hc : Nat.Coprime M c) : a % M = b % M := by
  have key : ∀ a b : Nat, a ≤ b → (a * c) % M = (b * c) % M → a % M = b % M := by
    intro a b hab h
    have h1 : (b * c - a * c) % M = 0 := Nat.sub_mod_eq_zero_of_mod_eq h.symm
    rw [← Nat.sub_mul] at h1
    have h2 : M ∣ b - a := hc.dvd_of_dvd_mul_right (Nat.dvd_of_mod_eq_zero h1)
    obtain ⟨k, hk⟩ := h2
    have : b = a + M * k := by omega
    rw [this, Nat.add_mul_mod_self_left]
  rcases Nat.le_total a b with hab | hab
  · exact key a b hab h
  · exact (key b a hab h.symm).symm
theorem coprime_W {M inv : Nat} (h : (M * inv + 1) % W64 = 0) (n : Nat) : Nat.Coprime M (W64 ^ n) := by
  refine Nat.Coprime.pow_right n ?_
  obtain ⟨k, hk⟩ := Nat.dvd_of_mod_eq_zero h
  have h1 : Nat.gcd M W64 ∣ M * inv + 1 := by rw [hk]; exact Nat.dvd_trans (Nat.gcd_dvd_right _ _) (Nat.dvd_mul_right _ _)
  have h2 : Nat.gcd M W64 ∣ M * inv := Nat.dvd_trans (Nat.gcd_dvd_left _ _) (Nat.dvd_mul_right _ _)
  have h3 : Nat.gcd M W64 ∣ 1 := (Nat.dvd_add_right h2).1 h1
  exact Nat.dvd_one.1 h3

/-- v is the image, in n words, of r modulo M. -/
def ImgOf (w : World) (v : Value) (n M r : Nat) : Prop := ∃ g o c us, v = .slice (some ⟨g, o, none⟩) n c ∧ Blk .u64 57 w g us ∧ o + n ≤ us.length ∧ Dg W64 us ∧ vs W64 us o n = r * W64 ^ n % M
theorem ImgOf.kept {w w' : World} {v : Value} {n M r : Nat} (h : ImgOf w v n M r) (hg : w.grownBy w' none) : ImgOf w' v n M r := by
  obtain ⟨g, o, c, us, rfl, h1, h2⟩ := h
  exact ⟨g, o, c, us, rfl, h1.kept hg (by simp), h2⟩
theorem ImgOf.congr {w : World} {v : Value} {n M r s : Nat} (h : ImgOf w v n M r) (e : r % M = s % M) : ImgOf w v n M s := by
  obtain ⟨g, o, c, us, rfl, h1, h2, h3, h4⟩ := h
  refine ⟨g, o, c, us, rfl, h1, h2, h3, ?_⟩
  rw [h4, Nat.mul_mod, e, ← Nat.mul_mod]

theorem mont_times (bm om n cm inv M : Nat) (ms : List Nat) (va vb : Value) (a b : Nat) (w : World) (hm : NumAt w bm om n cm ms M) (hsm : n < 1099511627776) (hM0 : 0 < M) (hinv : (M * inv + 1) % W64 = 0) (ha : ImgOf w va n M a) (hb : ImgOf w vb n M b) :
    Calls Tryd.prog 71 #[mval (.slice (some ⟨bm, om, none⟩) n cm) inv, va, vb] w fun e w' => ∃ r, e = .returned r ∧ ImgOf w' r n M (a * b % M) ∧ w.grownBy w' none := by
  obtain ⟨g1, o1, c1, us1, rfl, h11, h12, h13, h14⟩ := ha
  obtain ⟨g2, o2, c2, us2, rfl, h21, h22, h23, h24⟩ := hb
  refine (mprod_any bm om n cm inv M ms g1 o1 c1 us1 g2 o2 c2 us2 _ w hm hsm hinv h11 h12 h13 h14 (Nat.mod_lt _ hM0) h21 h22 h23).mono ?_
  rintro e w' ⟨g, us, rfl, hlt, hbu, hlu, hdu, hltM, hval, hg⟩
  refine ⟨_, rfl, ⟨g, n, n + 1, us, rfl, hbu, by rw [hlu]; omega, hdu, ?_⟩, hg⟩
  rw [h24] at hval
  have h1 : (a * W64 ^ n % M * (b * W64 ^ n % M)) % M = (a * b % M * W64 ^ n * W64 ^ n) % M := by
    rw [← Nat.mul_mod, Nat.mul_mul_mul_comm, ← Nat.mul_assoc, Nat.mul_mod (a * b * W64 ^ n), Nat.mul_mod (a * b), Nat.mul_mod (a * b % M * W64 ^ n), Nat.mul_mod (a * b % M) (W64 ^ n) M, Nat.mod_mod]
  rw [h1] at hval
  have h2 := mod_cancel hval (coprime_W hinv n)
  rw [Nat.mod_eq_of_lt hltM] at h2
  exact h2
end Go.Proofs.YtoadjhmehgkeaaaDoor
namespace Go.Proofs.YtoadjhmehgkeaaaDoor
open Go.RowKit Go.Shelf Mth

theorem img_own {W W' : World} {v : Value} {n M r : Nat} {row : Option Nat} (h : ImgOf W v n M r) (hg : W.grownBy W' row) (hrow : ∀ r, row = some r → ∃ o : Obj, W.heap[r]? = some o ∧ o.isCells = false) : ImgOf W' v n M r := by
  obtain ⟨g, o, c, us, rfl, hb, h⟩ := h
  refine ⟨g, o, c, us, rfl, hb.kept hg ?_, h⟩
  intro e
  obtain ⟨o, ho, hc⟩ := hrow g e.symm
  unfold Blk at hb
  rw [hb] at ho
  obtain rfl := Option.some.inj ho
  simp [Obj.isCells] at hc
theorem numAt_own {W W' : World} {g off m c N : Nat} {xs : List Nat} {row : Option Nat} (h : NumAt W g off m c xs N) (hg : W.grownBy W' row) (hrow : ∀ r, row = some r → ∃ o : Obj, W.heap[r]? = some o ∧ o.isCells = false) : NumAt W' g off m c xs N := by
  refine h.kept hg ?_
  intro e
  obtain ⟨o, ho, hc⟩ := hrow g e.symm
  have hb := h.blk
  unfold Blk at hb
  rw [hb] at ho
  obtain rfl := Option.some.inj ho
  simp [Obj.isCells] at hc
theorem img_set {W : World} {x v : Value} {n M r K B n' M' : Nat} (h : ImgOf W x n M r) (hx : ImgOf W v n' M' K) (hv : W.cell? ⟨B, 0, none⟩ = some v) (u : Value) : ImgOf (W.setCell ⟨B, 0, none⟩ u) x n M r := by
  obtain ⟨_, _, _, _, rfl, _⟩ := hx
  obtain ⟨g, o, c, us, rfl, hb, h⟩ := h
  exact ⟨g, o, c, us, rfl, hb.kept (gr_set _ _ _ _) (by have := blk_ne hb hv; simpa using this), h⟩
theorem numAt_set {W : World} {v : Value} {g off m c N K B n' M' : Nat} {xs : List Nat} (h : NumAt W g off m c xs N) (hx : ImgOf W v n' M' K) (hv : W.cell? ⟨B, 0, none⟩ = some v) (u : Value) : NumAt (W.setCell ⟨B, 0, none⟩ u) g off m c xs N := by
  obtain ⟨_, _, _, _, rfl, _⟩ := hx
  exact h.kept (gr_set _ _ _ _) (by have := blk_ne h.blk hv; simpa using this)

attribute [local go_sem] Oper.semAt_some
set_option maxRecDepth 100000 in
set_option maxHeartbeats 2000000 in
theorem power_mont (vb vo : Value) (bm om n cm inv M : Nat) (ms : List Nat) (b : Nat) (e : ByteArray) (w : World) (hb : ImgOf w vb n M b) (ho : ImgOf w vo n M 1) (hm : NumAt w bm om n cm ms M) (hsm : n < 1099511627776) (hM0 : 0 < M) (hinv : (M * inv + 1) % W64 = 0) (hsz : e.size ≤ 1000000000000) :
    Calls Tryd.prog 69 #[vb, vo, .string e, .func (.func 71) #[mval (.slice (some ⟨bm, om, none⟩) n cm) inv] #[]] w fun x w' => ∃ r, x = .returned r ∧ ImgOf w' r n M (accP M b (bitsTop (num e.data.toList) (bitsN (num e.data.toList)))) ∧ w.grownBy w' none := by
  obtain ⟨g1, o1, c1, xs, rfl, hb⟩ := hb
  obtain ⟨g2, o2, c2, ys, rfl, ho⟩ := ho
  have HB := Lib.hid hb
  have HO := Lib.hid ho
  have HM := Lib.hid hm
  clear hb ho hm
  refine (callsIn_wide (n := 5)).1 ?_
  refine callsIn_of_wp_marks Tryd.func69 rfl trivial ?_ rfl
  simp only [Tryd.ntmps69, List.size_toArray, List.length_cons, List.length_nil, Nat.reduceAdd, Nat.reduceSub, Array.replicate_succ, Array.replicate_zero, List.push_toArray, List.append_toArray, List.nil_append, List.cons_append]
  gi_wp2
  refine ⟨trivial, (callsIn_wide.2 (bitsFromTop_any _ _)).mono ?_⟩
  rintro e' w' ⟨rfl, rfl⟩
  obtain ⟨W0, hW0⟩ : ∃ W0, W0 = (((w.alloc (Obj.cells #[Value.slice (some ⟨g1, o1, none⟩) n c1] 51)).alloc (Obj.cells #[(.func (.func 71) #[mval (.slice (some ⟨bm, om, none⟩) n cm) inv] #[] : Value)] 52)).alloc (Obj.cells #[Value.slice (some ⟨g2, o2, none⟩) n c2] 51)).alloc (Obj.cells #[.string e] 24) := ⟨_, rfl⟩
  obtain ⟨hs0, k0, k1, k2, k3, f2, hg0⟩ := boxes4 w _ _ _ _ _ _ _ _ W0 hW0
  rw [← hW0]
  simp only [World.size_alloc]
  clear hW0
  gi_wp2
  have hn1 : ImgOf W0 (.slice (some ⟨g1, o1, none⟩) n c1) n M b := ⟨g1, o1, c1, xs, rfl, HB.out.1.kept hg0 (by simp), HB.out.2⟩
  have hn2 : ImgOf W0 (.slice (some ⟨g2, o2, none⟩) n c2) n M 1 := ⟨g2, o2, c2, ys, rfl, HO.out.1.kept hg0 (by simp), HO.out.2⟩
  have hnm : NumAt W0 bm om n cm ms M := HM.out.kept hg0 (by simp)
  have hbb : Below w.heap.size w W0 := ⟨hg0.os, hg0.tape, hg0.output, hg0.size, fun k hk => hg0.block k hk (by simp)⟩
  refine wpIn_rangeFunc_ownF rfl (by omega) (gf := 98) (lb := #[.pointer (some ⟨w.heap.size + 1 + 1 + 1, 0, none⟩)]) rfl trivial (enters_of Tryd.func98 (by kernel_rfl) rfl)
    (bits_stops 4 (w.heap.size + 1 + 1 + 1) e W0 k3 hsz) (fun h k v hv => k v (h v hv)) (fun W l o o' _ hl ho _ v hv => ?_) (Below.refl _ _) (fun _ => rfl)
    (fun pre W => (∃ v, W.cell? ⟨w.heap.size + 1 + 1, 0, none⟩ = some v ∧ W.frozen? ⟨w.heap.size + 1 + 1, 0, none⟩ = false ∧ ImgOf W v n M (accP M b pre) ∧ W.cell? ⟨w.heap.size, 0, none⟩ = some (.slice (some ⟨g1, o1, none⟩) n c1) ∧ ImgOf W (.slice (some ⟨g1, o1, none⟩) n c1) n M b ∧ W.cell? ⟨w.heap.size + 1, 0, none⟩ = some (.func (.func 71) #[mval (.slice (some ⟨bm, om, none⟩) n cm) inv] #[]) ∧ NumAt W bm om n cm ms M) ∧ Below w.heap.size w W)
    (fun _ _ _ => False)
    (OwnFrom.and (Own.from (fun s A B row hs hg hr => by obtain ⟨v, q1, q2, q3, q4, q5, q6, q8⟩ := hs; exact ⟨v, cell_kept q1 hg hr, (frozen_kept q1 hg hr).trans q2, img_own q3 hg hr, cell_kept q4 hg hr, img_own q5 hg hr, cell_kept q6 hg hr, numAt_own q8 hg hr⟩) _) (ownFrom_below (Nat.le_refl _) (by omega)))
    (fun _ _ _ _ _ hs _ _ => hs)
    ⟨⟨_, k2, f2, hn2.congr (by rw [show accP M b [] = 1 % M from rfl, Nat.mod_mod]), k0, hn1, k1, hnm⟩, hbb⟩
    (fun x => { tmps := #[.slice (some ⟨g1, o1, none⟩) n c1, .slice (some ⟨g2, o2, none⟩) n c2, .string e, .func (.func 71) #[mval (.slice (some ⟨bm, om, none⟩) n cm) inv] #[], .pointer (some ⟨w.heap.size, 0, none⟩), undef, undef, .pointer (some ⟨w.heap.size + 1, 0, none⟩), .slice none 0 0, .pointer (some ⟨w.heap.size + 1 + 1, 0, none⟩), .bool x, .slice (some ⟨g2, o2, none⟩) n c2, .string e, .func (.func 98) #[] #[.pointer (some ⟨w.heap.size + 1 + 1 + 1, 0, none⟩)], .bool x, undef, undef, undef, undef, undef, undef, undef, undef, undef, undef], defers := [] }) ?assign ?body ?done ?stop
  case assign =>
    intro l x W K hK
    gi_wp2
    exact hK
  case body =>
    rintro l pre x W ⟨⟨v, q1, q2, q3, q4, q5, q6, q8⟩, hB⟩ _
    have hne0 : w.heap.size ≠ w.heap.size + 1 + 1 := by omega
    have hne1 : w.heap.size + 1 ≠ w.heap.size + 1 + 1 := by omega
    have hne3 : w.heap.size + 1 + 1 + 1 ≠ w.heap.size + 1 + 1 := by omega
    have HI := Lib.hid (And.intro q3 (And.intro q5 q8))
    clear q3 q5 q8 k0 k1 k2 k3 f2 hn1 hn2 hnm hbb hg0 hs0
    gi_wp2
    refine ⟨trivial, (CallsIn.inRound l (callsIn_wide.2 (mont_times bm om n cm inv M ms v v _ _ W HI.out.2.2 hsm hM0 hinv HI.out.1 HI.out.1))).mono ?_⟩
    rintro e' W1 ⟨r, rfl, hr, hg1⟩
    obtain ⟨sg, so, sc, ss, rfl, hr⟩ := hr
    have p1 := hg1.cell q1 (by simp)
    have p2 : W1.frozen? ⟨w.heap.size + 1 + 1, 0, none⟩ = false := (World.frozen?_of_block (hg1.block _ (World.block_lt_of_cell? W _ q1) (by simp))).trans q2
    have p4 := hg1.cell q4 (by simp)
    have p6 := hg1.cell q6 (by simp)
    have hv1 := HI.out.1.kept hg1
    have hb1 := HI.out.2.1.kept hg1
    have hm1 := HI.out.2.2.kept hg1 (by simp)
    have hr : ImgOf W1 (.slice (some ⟨sg, so, none⟩) n sc) n M _ := ⟨sg, so, sc, ss, rfl, hr⟩
    have HR := Lib.hid (And.intro hr (And.intro hv1 (And.intro hb1 hm1)))
    clear hr hv1 hb1 hm1 q1 q2 q4 q6
    cases x with
    | false =>
      gi_wp2
      refine ⟨(KeepsOthers.of_grownBy hg1 (by simp)).trans (KeepsOthers.setCell _ _ _), fun u hu => (gr_set _ _ _ _).cell (hg1.cell hu (by simp)) (by simp), ⟨_, World.cell?_setCell_same' _ _ _ (by rw [p1]; rfl), by rw [World.frozen?_setCell]; exact p2, ?_, (gr_set _ _ _ _).cell p4 (by simp; omega), img_set HR.out.2.2.1 HR.out.2.1 p1 _, (gr_set _ _ _ _).cell p6 (by simp), numAt_set HR.out.2.2.2 HR.out.2.1 p1 _⟩, (hB.grown hg1 hB.size (by simp)).setCell (p := ⟨w.heap.size + 1 + 1, 0, none⟩) (by simp; omega) _⟩
      rw [accP_snoc, if_neg (by decide)]
      exact img_set HR.out.1 HR.out.2.1 p1 _
    | true =>
      gi_wp2
      have n1 := img_set HR.out.1 HR.out.2.1 p1 (.slice (some ⟨sg, so, none⟩) n sc)
      have n3 := img_set HR.out.2.2.1 HR.out.2.1 p1 (.slice (some ⟨sg, so, none⟩) n sc)
      have n4 := numAt_set HR.out.2.2.2 HR.out.2.1 p1 (.slice (some ⟨sg, so, none⟩) n sc)
      have s1 : (W1.setCell ⟨w.heap.size + 1 + 1, 0, none⟩ (.slice (some ⟨sg, so, none⟩) n sc)).cell? ⟨w.heap.size + 1 + 1, 0, none⟩ = some (.slice (some ⟨sg, so, none⟩) n sc) := World.cell?_setCell_same' _ _ _ (by rw [p1]; rfl)
      have s2 : (W1.setCell ⟨w.heap.size + 1 + 1, 0, none⟩ (.slice (some ⟨sg, so, none⟩) n sc)).frozen? ⟨w.heap.size + 1 + 1, 0, none⟩ = false := by rw [World.frozen?_setCell]; exact p2
      have s4 := (gr_set W1 (w.heap.size + 1 + 1) 0 (.slice (some ⟨sg, so, none⟩) n sc)).cell p4 (by simp; omega)
      have s6 := (gr_set W1 (w.heap.size + 1 + 1) 0 (.slice (some ⟨sg, so, none⟩) n sc)).cell p6 (by simp)
      have sB := (hB.grown hg1 hB.size (by simp)).setCell (p := ⟨w.heap.size + 1 + 1, 0, none⟩) (by simp; omega) (.slice (some ⟨sg, so, none⟩) n sc)
      have sK : KeepsOthers W (W1.setCell ⟨w.heap.size + 1 + 1, 0, none⟩ (.slice (some ⟨sg, so, none⟩) n sc)) := (KeepsOthers.of_grownBy hg1 (by simp)).trans (KeepsOthers.setCell _ _ _)
      have sP : KpBox (w.heap.size + 1 + 1 + 1) W (W1.setCell ⟨w.heap.size + 1 + 1, 0, none⟩ (.slice (some ⟨sg, so, none⟩) n sc)) := fun u hu => (gr_set _ _ _ _).cell (hg1.cell hu (by simp)) (by simp)
      generalize W1.setCell ⟨w.heap.size + 1 + 1, 0, none⟩ (.slice (some ⟨sg, so, none⟩) n sc) = W2 at *
      have HN := Lib.hid (And.intro n1 (And.intro n3 n4))
      have HSK := Lib.hid (And.intro sK sP)
      clear n1 n3 n4 HR p1 p2 p4 p6 hg1 sK sP
      refine ⟨trivial, (CallsIn.inRound l (callsIn_wide.2 (mont_times bm om n cm inv M ms _ _ _ _ W2 HN.out.2.2 hsm hM0 hinv HN.out.1 HN.out.2.1))).mono ?_⟩
      rintro e' W3 ⟨r3, rfl, hr3, hg3⟩
      obtain ⟨tg, tof, tc, ts, rfl, hr3⟩ := hr3
      have t1 := hg3.cell s1 (by simp)
      have t2 : W3.frozen? ⟨w.heap.size + 1 + 1, 0, none⟩ = false := (World.frozen?_of_block (hg3.block _ (World.block_lt_of_cell? W2 _ s1) (by simp))).trans s2
      have t4 := hg3.cell s4 (by simp)
      have t6 := hg3.cell s6 (by simp)
      have hr3' : ImgOf W3 (.slice (some ⟨tg, tof, none⟩) n tc) n M _ := ⟨tg, tof, tc, ts, rfl, hr3⟩
      have HR3 := Lib.hid (And.intro hr3' (And.intro (HN.out.1.kept hg3) (And.intro (HN.out.2.1.kept hg3) (HN.out.2.2.kept hg3 (by simp)))))
      clear hr3 hr3' s1 s2 s4 s6
      gi_wp2
      refine ⟨HSK.out.1.trans ((KeepsOthers.of_grownBy hg3 (by simp)).trans (KeepsOthers.setCell _ _ _)), fun u hu => (gr_set _ _ _ _).cell (hg3.cell (HSK.out.2 u hu) (by simp)) (by simp), ⟨_, World.cell?_setCell_same' _ _ _ (by rw [t1]; rfl), by rw [World.frozen?_setCell]; exact t2, ?_, (gr_set _ _ _ _).cell t4 (by simp; omega), img_set HR3.out.2.2.1 HR3.out.2.1 t1 _, (gr_set _ _ _ _).cell t6 (by simp), numAt_set HR3.out.2.2.2 HR3.out.2.1 t1 _⟩, (sB.grown hg3 sB.size (by simp)).setCell (p := ⟨w.heap.size + 1 + 1, 0, none⟩) (by simp; omega) _⟩
      rw [accP_snoc, if_pos rfl]
      exact img_set HR3.out.1 HR3.out.2.1 t1 _
  case done =>
    rintro D ys' W hD rfl ⟨⟨v, q1, q2, q3, q4, q5, q6, q8⟩, hB⟩ hK
    have hBK := hB.trans (belowK_b (w := w) (Nat.le_refl _) W D _ (.deferred none) (by omega) hK rfl rfl)
    have hnv := img_own q3 (grownBy_putObj' W D (.deferred none)) (fun r e => by cases e; exact ⟨_, hK, rfl⟩)
    clear q3 q5 q8
    gi_wp2
    refine ⟨by simp, .inl ⟨_, _, rfl, run_takeDeferred hK, ?_⟩⟩
    exact ⟨_, results_tmp rfl _ _ _, v, rfl, hnv, below_gr hBK⟩
  case stop =>
    rintro D c pre W _ _ h _
    exact h.elim
  exact cell_kept hv (grownBy_putObj' W l o') (fun r e => by cases e; exact ⟨o, hl, ho⟩)
end Go.Proofs.YtoadjhmehgkeaaaDoor
