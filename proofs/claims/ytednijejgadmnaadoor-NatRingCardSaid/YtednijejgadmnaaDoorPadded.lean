/- The Montgomery receiver; padded. -/
import Derived.Test.YtednijejgadmnaaDoorIsText
import Derived.Test.YtednijejgadmnaaDoorCopy
namespace Go.Proofs.YtednijejgadmnaaDoor
open Go.RowKit Mth

def mval (v : Value) (inv : Nat) : Value := .agg #[v, .int .u64 (inv : Int)]
theorem gt_rep0 (n i : Nat) : gt (List.replicate n 0) i = 0 := by
  simp [gt, List.getD, List.getElem?_replicate]; split <;> rfl
/-- A slice of n words, just its block, with the value V. -/
structure Row (w : World) (g n V : Nat) (us : List Nat) : Prop where
  blk : Blk .u64 57 w g us
  len : us.length = n
  dg : Dg W64 us
  val : vs W64 us 0 n = V
theorem Row.kept {w w' : World} {g n V : Nat} {us : List Nat} (h : Row w g n V us) {r : Option Nat} (hg : w.grownBy w' r) (hne : some g ≠ r) : Row w' g n V us := ⟨h.blk.kept hg hne, h.len, h.dg, h.val⟩

set_option maxRecDepth 100000 in
theorem padded_any (am : Option Addr) (nm cm inv : Nat) (b o n c : Nat) (xs : List Nat) (w : World) (hb : Blk .u64 57 w b xs) (hn : o + n ≤ xs.length) (hd : Dg W64 xs) (hle : n ≤ nm) (hm : nm ≤ 1099511627776) :
    Calls Tryd.prog 86 #[mval (.slice am nm cm) inv, .slice (some ⟨b, o, none⟩) n c] w fun e w' => ∃ g us, e = .returned (.slice (some ⟨g, 0, none⟩) nm nm) ∧ w.heap.size ≤ g ∧ Row w' g nm (vs W64 xs o n) us ∧ w.grownBy w' none := by
  obtain ⟨i0, hi, hz0, hz1, hz2⟩ := info_parts infoW
  unfold mval
  go_enter Tryd.func86, Tryd.ntmps86
  go_wp2_with (at_make; refine wpList_make_full _ rfl _ _ 51 rfl 0 57 i0 (.int .u64 0) 1 Tryd.underlying51 hi hz0 hz1 .i64 .i64 _ _ nm rfl rfl ?_ ?_ ?_ ?_ (Nat.zero_le _) ?_)
  case refine_1 => omega
  case refine_2 => omega
  case refine_3 => rw [hz2]; omega
  case refine_4 => unfold maxLen; omega
  intro w1 hown hgr
  have hb0 := blk_made' hown
  have hg1 := gr_then (gr_alloc w (.cells #[.slice am nm cm, .int .u64 (inv : Int)] 89) none) hgr
  have hb1 := hb.kept hg1 (by simp)
  have hl0 : (List.replicate nm 0 : List Nat).length = nm := List.length_replicate
  have HZ := Lib.hid (gt_rep0 nm)
  generalize (List.replicate nm 0 : List Nat) = z0 at hb0 hl0 HZ
  clear hown hi hz0 hz1 hz2 hgr
  have hmin : Nat.min n nm = n := Nat.min_eq_left hle
  go_wp2_with (with_reducible refine wpList_copy_blk rfl (.tmp 10) (.tmp 11) 51 51 rfl 57 Tryd.underlying51 (by kernel_rfl) .u64 57 (w.heap.size + 1) 0 nm nm b o n c z0 xs rfl rfl hb0 hb1 hn ?_ ?_)
  · omega
  intro w2 hb2 hg2
  have hl2 : (copied z0 xs 0 o n).length = nm := by rw [length_copied (by omega) (by omega), hl0]
  have hgt := gt_copied (zs := z0) (xs := xs) (off := 0) (o1 := o) (m := n) (by omega) (by omega)
  generalize copied z0 xs 0 o n = us at hb2 hl2 hgt
  have hrow : Row w2 (w.heap.size + 1) nm (vs W64 xs o n) us := by
    refine ⟨hb2, hl2, fun i => ?_, ?_⟩
    · rw [hgt]; split
      · exact hd _
      · rw [HZ.out]; exact W64_pos
    · obtain ⟨k, rfl⟩ : ∃ k, nm = n + k := ⟨nm - n, by omega⟩
      rw [vs_split, vs_congr (ys := xs) (off' := o) (n := n) (fun i hi => by rw [hgt, if_pos (by omega)]; congr 1; omega), vs_zero (n := k) (fun i hi => by rw [hgt, if_neg (by omega), HZ.out])]
      simp
  have HR := Lib.hid hrow
  have hgf : w.grownBy w2 none := gr_new hg1 hg2 (by omega)
  clear hb2 hl2 hgt hrow hb0 hl0
  go_wp2
  go_ret
  exact ⟨_, us, rfl, by omega, HR.out, hgf⟩
end Go.Proofs.YtednijejgadmnaaDoor
