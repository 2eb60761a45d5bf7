/- The contract of nat.product: the product of two slices of words, in new memory. -/
import Derived.Test.YtednijejgadmnaaDoorMulW
import Derived.Test.YtednijejgadmnaaDoorWords
namespace Go.Proofs.YtednijejgadmnaaDoor
open Go.RowKit Mth

def ProdInv (A : Nat) (ys zs : List Nat) (n1 o2 i : Nat) : Prop := Dg W64 zs ∧ (∀ j, n1 + i ≤ j → gt zs j = 0) ∧ vs W64 zs 0 (n1 + i) = A * vs W64 ys o2 i
theorem ProdInv.next {A : Nat} {ys zs us : List Nat} {n1 o2 i c : Nat} (h : ProdInv A ys zs n1 o2 i) (hlen : n1 + i < zs.length) (g : AddedM zs us i n1 c (A * gt ys (o2 + i))) : ProdInv A ys (us.set (i + n1) c) n1 o2 (i + 1) := by
  obtain ⟨h1, h2, h3⟩ := h
  obtain ⟨g1, g2, g3, g4⟩ := g
  have hl : i + n1 < us.length := by rw [g1.len]; omega
  refine ⟨g2.set g3, fun j hj => ?_, ?_⟩
  · rw [gt_set hl, if_neg (by omega), g1.out j (by omega)]; exact h2 j (by omega)
  · rw [show n1 + (i + 1) = i + (n1 + 1) from by omega, vs_split]
    simp only [vs, Nat.zero_add]
    rw [gt_set hl, if_pos rfl]
    rw [vs_congr (ys := us) (off' := i) (n := n1) (fun j hj => by rw [gt_set hl, if_neg (by omega)])]
    rw [vs_congr (ys := zs) (off := 0) (off' := 0) (n := i) (fun j hj => by rw [gt_set hl, if_neg (by omega)]; exact g1.out _ (by omega))]
    rw [g4]
    rw [show n1 + i = i + n1 from by omega, vs_split, Nat.zero_add] at h3
    rw [Nat.mul_add, Nat.mul_add, ← h3, Nat.mul_left_comm A]
    omega

theorem product_any (b1 o1 n1 c1 b2 o2 n2 c2 : Nat) (xs ys : List Nat) (w : World) (hb : Blk .u64 57 w b1 xs) (hn : o1 + n1 ≤ xs.length) (hd : Dg W64 xs)
    (hb2 : Blk .u64 57 w b2 ys) (hn2 : o2 + n2 ≤ ys.length) (hd2 : Dg W64 ys) (hs1 : n1 ≤ 1099511627776) (hs2 : n2 ≤ 1099511627776) :
    Calls Tryd.prog 30 #[.slice (some ⟨b1, o1, none⟩) n1 c1, .slice (some ⟨b2, o2, none⟩) n2 c2] w fun e w' => ∃ b zs, e = .returned (.slice (some ⟨b, 0, none⟩) zs.length zs.length) ∧ w.heap.size ≤ b ∧ Blk .u64 57 w' b zs ∧ w.grownBy w' none ∧ Dg W64 zs ∧ zs.length = n1 + n2 ∧ vs W64 zs 0 zs.length = vs W64 xs o1 n1 * vs W64 ys o2 n2 := by
  obtain ⟨i0, hi, hz0, hz1, hz2⟩ := info_parts infoW
  obtain ⟨A, hA⟩ : ∃ A, A = vs W64 xs o1 n1 := ⟨_, rfl⟩
  have HA := Lib.hid hA
  clear hA
  go_enter Tryd.func30, Tryd.ntmps30
  go_wp2_with (at_make; refine wpList_make_full _ rfl _ _ 51 rfl 0 57 i0 (.int .u64 0) 1 Tryd.underlying51 hi hz0 hz1 .i64 .i64 _ _ (n1 + n2) rfl rfl ?_ ?_ ?_ ?_ (Nat.zero_le _) ?_)
  case refine_1 => omega
  case refine_2 => omega
  case refine_3 => rw [hz2]; omega
  case refine_4 => unfold maxLen; omega
  intro w1 hown hgr
  have hb0 := blk_made' hown
  have hl0 : (List.replicate (n1 + n2) 0 : List Nat).length = n1 + n2 := List.length_replicate
  have hi0 : ProdInv A ys (List.replicate (n1 + n2) 0) n1 o2 0 := by
    have hz : ∀ j, gt (List.replicate (n1 + n2) 0) j = 0 := fun j => by simp [gt, List.getD, List.getElem?_replicate]; split <;> rfl
    exact ⟨fun j => by rw [hz]; exact W64_pos, fun j _ => hz j, by rw [vs_zero (fun j _ => hz _)]; simp [vs]⟩
  generalize (List.replicate (n1 + n2) 0 : List Nat) = z0 at hb0 hl0 hi0
  clear hown hi hz0 hz1 hz2
  go_wp2
  go_loopw [16] (fun j wr => ∃ (i : Nat) (zs : List Nat), i ≤ n2 ∧ j = .int .i64 i ∧ Blk .u64 57 wr w.heap.size zs ∧ zs.length = n1 + n2 ∧ w.grownBy wr none ∧ ProdInv A ys zs n1 o2 i) (fun j _ => n2 - (intOf j).toNat)
  case atStart => exact ⟨0, z0, Nat.zero_le _, rfl, hb0, hl0, hgr, hi0⟩
  case round =>
    obtain ⟨i, zs, hile, rfl, hbz, hlz, hg, hinv⟩ := hrel
    have hbr := hb.kept hg (by simp)
    have hb2r := hb2.kept hg (by simp)
    have hne : b1 ≠ w.heap.size := by have := hb.lt; omega
    have HLZ := Lib.hid hlz
    clear hb0 hl0 hi0
    by_cases hlt : i < n2
    · have hcell2 : wr.cell? ⟨b2, o2 + i, none⟩ = some (.int .u64 ((gt ys (o2 + i) : Nat) : Int)) := hb2r.cell (by omega)
      have hcut : ¬ n1 + n2 = i := by omega
      clear hlz
      go_wp2_with fail
      refine (addMultiple_any w.heap.size i (n1 + n2 - i) (n1 + n2 - i) b1 o1 n1 c1 (gt ys (o2 + i)) zs xs wr hbz (by rw [HLZ.out]; omega) hinv.1 hbr hn hd hne (by omega) (hd2 _) (by unfold maxLen; omega)).mono ?_
      rintro e w' ⟨c, us, rfl, hu, hg2, hadd⟩
      rw [← HA.out] at hadd
      have hnx := hinv.next (by rw [HLZ.out]; omega) hadd
      have hfr : w'.frozen? ⟨w.heap.size, i + n1, none⟩ = false := hu.frozen _
      have hlu : us.length = n1 + n2 := hadd.1.len.trans HLZ.out
      have HLU := Lib.hid hlu
      clear hlu
      have hold : w'.cell? ⟨w.heap.size, i + n1, none⟩ = some (.int .u64 ((gt us (i + n1) : Nat) : Int)) := hu.cell (by rw [HLU.out]; omega)
      go_wp2
      refine ⟨⟨i + 1, us.set (i + n1) c, by omega, by go_num, hu.set _ _, by rw [List.length_set]; exact HLU.out, ?_, hnx⟩, by simp [intOf]; omega⟩
      exact gr_new (gr_new hg hg2 (Nat.le_refl _)) (gr_set _ _ _ _) (Nat.le_refl _)
    · obtain rfl : i = n2 := by omega
      go_wp2
      go_ret
      refine ⟨w.heap.size, zs, by rw [HLZ.out]; rfl, Nat.le_refl _, hbz, hg, hinv.1, HLZ.out, ?_⟩
      rw [HLZ.out, hinv.2.2, HA.out]
end Go.Proofs.YtednijejgadmnaaDoor
