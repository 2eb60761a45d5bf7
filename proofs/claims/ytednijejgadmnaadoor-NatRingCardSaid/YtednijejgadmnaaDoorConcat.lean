/- slices.Grow of nil, slices.Concat of two slices of words. -/
import Derived.Test.YtednijejgadmnaaDoorMontP
import Derived.Lib.AppendZeros
namespace Go.Proofs.YtednijejgadmnaaDoor
open Go.RowKit Mth

/-- append into room. -/
theorem wpList_append_room_blk {P : Program} {w : World} {ops : Array Oper} {rest : List Oper} {o : Oper} {a : Act} {Q : Exit → Act → World → Prop} (hgd : o.guard = none) (s x : Operand) (t : TypeId)
    (ho : o.op = .call { callee := .builtin .append, args := #[s, x], argTypes := #[t, t] })
    (k : IntKind) (e : TypeId) (i : TypeInfo) (ht : P.underlying t = some (.slice e)) (hi : P.info? e = some i) (hsize : i.size = 1)
    (g n : Nat) (zs : List Nat) (hs : a.eval s = .slice (some ⟨g, 0, none⟩) n zs.length) (hb : Blk k e w g zs) (b off m c : Nat) (xs : List Nat) (hx : a.eval x = .slice (some ⟨b, off, none⟩) m c)
    (hcell : ∀ j, j < m → w.cell? ⟨b, off + j, none⟩ = some (.int k ((gt xs (off + j) : Nat) : Int))) (hm : off + m ≤ xs.length) (hroom : n + m ≤ zs.length)
    (h : ∀ w' us, us.length = zs.length → Blk k e w' g us → w.grownBy w' (some g) → Apped zs us xs n m off → wpList P ops Q rest (a.put o.dst (.slice (some ⟨g, 0, none⟩) (n + m) zs.length)) w') : wpList P ops Q (o :: rest) a w := by
  refine wpList_plain hgd fun K hK => ?_
  have hnl : (cellsOf k ((xs.drop off).take m)).length = m := by rw [length_cellsOf]; simp; omega
  have hl : (cellsOf k ((xs.drop off).take m)).length = m * i.size := by rw [hsize, hnl, Nat.mul_one]
  have hnews : ∀ j u, (cellsOf k ((xs.drop off).take m))[j]? = some u → w.cell? ((⟨b, off, none⟩ : Addr).add j) = some u := by
    intro j u hu
    have hj : j < m := by have := (List.getElem?_eq_some_iff.1 hu).1; omega
    rw [Addr.add_lit, hcell j hj]
    rw [cellsOf_get k _ _ (by simp; omega), gt_take hj, gt_drop] at hu
    exact hu
  have hone : ∀ u ∈ cellsOf k ((xs.drop off).take m), u.oneCell' = true := by
    intro u hu
    simp only [cellsOf, List.mem_map] at hu
    obtain ⟨_, _, rfl⟩ := hu
    rfl
  have hr := run_append_room (P := P) w t o.type e i ht hi g n zs.length (cellsOf k zs).toArray hb ⟨b, off, none⟩ m c _ hl hnews hone hroom (by rw [hsize, hnl]; simp [length_cellsOf]; omega)
  have hcells : (((cellsOf k zs).toArray.toList.take (n * i.size) ++ cellsOf k ((xs.drop off).take m) ++ (cellsOf k zs).toArray.toList.drop (n * i.size + (cellsOf k ((xs.drop off).take m)).length)).toArray) = (cellsOf k (zs.take n ++ (xs.drop off).take m ++ zs.drop (n + m))).toArray := by
    rw [hsize, hnl, Nat.mul_one]; simp [cellsOf, List.map_take, List.map_drop]
  rw [hcells] at hr
  have hlen : (zs.take n ++ (xs.drop off).take m ++ zs.drop (n + m)).length = zs.length := by simp; omega
  have hfin := h _ _ hlen (setRow_heap w g _ _ e _ hb) ⟨rfl, rfl, rfl, by simp, fun k _ hk => setRow_other w g k _ (fun e => hk (by simp [e]))⟩ (apped_room hroom hm)
  unfold Oper.wp execOp
  simp only [ho, resolve, invoke, builtin, Sem.run_bind, Sem.run_pure, Result.andThen_ok, List.map_toArray, List.map_cons, List.map_nil, hs, hx, hr]
  exact hK _ _ hfin

set_option maxRecDepth 100000 in
theorem grow_nil (n : Nat) (w : World) (h0 : 0 < n) (hn : n ≤ 8796093022208) :
    Calls Tryd.prog 99 #[.slice none 0 0, .int .i64 n] w fun e w' => ∃ zs, e = .returned (.slice (some ⟨w.heap.size, 0, none⟩) 0 zs.length) ∧ Blk .u64 57 w' w.heap.size zs ∧ n ≤ zs.length ∧ zs.length ≤ maxLen ∧ Dg W64 zs ∧ w.grownBy w' none := by
  obtain ⟨i0, hi, hz0, hz1, hz2⟩ := info_parts infoW
  have hr := Lib.run_append_nil_zeros (P := Tryd.prog) w 51 3 51 57 i0 (.int .u64 0) .i64 .i64 Tryd.underlying51 Tryd.underlying3 hi hz0 n h0 (by omega) (by omega) (by rw [hz2]; omega)
  have hge := grownCap_ge w n 0 57
  have hle := grownCap_le_maxLen w n 0 57 (by unfold maxLen; omega)
  have hzz : Builtin.zeroCells (Value.int .u64 0).cells n ++ Builtin.zeroCells (Value.int .u64 0).cells (grownCap w n 0 57 - n) = (cellsOf .u64 (List.replicate (grownCap w n 0 57) 0)).toArray := by
    have hzc : ∀ q, (Builtin.zeroCells (Value.int .u64 0).cells q) = (cellsOf .u64 (List.replicate q 0)).toArray := fun q => by rw [← zeroCells_int, Array.toArray_toList]
    rw [hzc, hzc, List.append_toArray, ← cellsOf_append, List.replicate_append_replicate, show n + (grownCap w n 0 57 - n) = grownCap w n 0 57 from by omega]
  rw [hzz] at hr
  have hln : (List.replicate (grownCap w n 0 57) 0 : List Nat).length = grownCap w n 0 57 := List.length_replicate
  have hgz := gt_rep0 (grownCap w n 0 57)
  have hblk : Blk .u64 57 (w.drew.alloc (.cells (cellsOf .u64 (List.replicate (grownCap w n 0 57) 0)).toArray 57)) w.heap.size (List.replicate (grownCap w n 0 57) 0) := heap_alloc_new w.drew _
  have hgr : w.grownBy (w.drew.alloc (.cells (cellsOf .u64 (List.replicate (grownCap w n 0 57) 0)).toArray 57)) none := gr_then (gr_drew w none) (gr_alloc _ _ _)
  generalize hZ : (List.replicate (grownCap w n 0 57) 0 : List Nat) = zs at *
  rw [← hln] at hr hge hle
  have HR := Lib.hid hr
  have HB := Lib.hid hblk
  have HG := Lib.hid hgz
  generalize w.drew.alloc (.cells (cellsOf .u64 zs).toArray 57) = w2 at *
  clear hr hblk hgz hzz hZ hln hi hz0 hz1 hz2
  go_enter Tryd.func99, Tryd.ntmps99
  go_wp2_with (at_builtin; refine Lib.wpList_append_run _ rfl (.tmp 20) (.tmp 21) 51 3 rfl _ _ rfl rfl _ _ HR.out ?_)
  go_wp2
  go_ret
  exact ⟨zs, rfl, HB.out, hge, hle, fun i => by rw [HG.out]; exact W64_pos, hgr⟩

def sz2 (n1 n2 : Nat) : Nat → Nat
  | 0 => 0
  | 1 => n1
  | _ => n1 + n2

set_option maxHeartbeats 4000000 in
set_option maxRecDepth 100000 in
theorem concat_two (gs : Nat) (cs : Nat) (b1 o1 n1 c1 b2 o2 n2 c2 : Nat) (xs ys : List Nat) (w : World) (hgs : w.heap[gs]? = some (.cells #[.slice (some ⟨b1, o1, none⟩) n1 c1, .slice (some ⟨b2, o2, none⟩) n2 c2] 51 (0, 0)))
    (hb1 : Blk .u64 57 w b1 xs) (hn1 : o1 + n1 ≤ xs.length) (hd1 : Dg W64 xs) (hb2 : Blk .u64 57 w b2 ys) (hn2 : o2 + n2 ≤ ys.length) (hd2 : Dg W64 ys) (h0 : 0 < n1) (hs1 : n1 ≤ 1099511627776) (hs2 : n2 ≤ 1099511627776) :
    Calls Tryd.prog 88 #[.slice (some ⟨gs, 0, none⟩) 2 cs] w fun e w' => ∃ g us, e = .returned (.slice (some ⟨g, 0, none⟩) (n1 + n2) us.length) ∧ w.heap.size ≤ g ∧ Blk .u64 57 w' g us ∧ n1 + n2 ≤ us.length ∧ us.length ≤ maxLen ∧ Dg W64 us ∧ vs W64 us 0 (n1 + n2) = vs W64 xs o1 n1 + W64 ^ n1 * vs W64 ys o2 n2 ∧ w.grownBy w' none := by
  obtain ⟨i0, hi, hz0, hz1, hz2⟩ := info_parts infoW
  have hlt1 := hb1.lt
  have hlt2 := hb2.lt
  have hltg : gs < w.heap.size := (Array.getElem?_eq_some_iff.1 hgs).1
  have hc0 : w.cell? ⟨gs, 0, none⟩ = some (.slice (some ⟨b1, o1, none⟩) n1 c1) := by rw [cell_of_row w _ 0 _ _ _ hgs]; rfl
  have hc1 : w.cell? ⟨gs, 1, none⟩ = some (.slice (some ⟨b2, o2, none⟩) n2 c2) := by rw [cell_of_row w _ 1 _ _ _ hgs]; rfl
  go_enter Tryd.func88, Tryd.ntmps88
  go_wp2
  go_loopw [3, 11] (fun s j wr => ∃ i, i ≤ 2 ∧ j = .int .i64 (i : Nat) ∧ s = .int .i64 ((sz2 n1 n2 i : Nat) : Int) ∧ wr = w) (fun _ j _ => 2 - (intOf j).toNat)
  case atStart => exact ⟨0, by omega, rfl, rfl, rfl⟩
  case round =>
    obtain ⟨i, hile, rfl, rfl, rfl⟩ := hrel
    rcases i with _ | _ | _ | i
    · have hnn : ¬ ((n1 : Int) < 0) := by omega
      rw [show sz2 n1 n2 0 = 0 from rfl]
      go_wp2
      exact ⟨⟨1, by omega, rfl, rfl, trivial⟩, by decide⟩
    · rw [show sz2 n1 n2 (0 + 1) = n1 from rfl]
      have hnn : ¬ ((n1 : Int) + (n2 : Int) < 0) := by omega
      go_wp2
      exact ⟨⟨2, by omega, rfl, by simp [sz2], trivial⟩, by decide⟩
    · rw [show sz2 n1 n2 (0 + 1 + 1) = n1 + n2 from rfl]
      obtain ⟨wz, rfl⟩ : ∃ wz, wz = wr := ⟨_, rfl⟩
      go_wp2_with fail
      rw [show ((n1 : Int) + (n2 : Int)) = ((n1 + n2 : Nat) : Int) from by omega]
      refine (grow_nil (n1 + n2) wz (by omega) (by omega)).mono ?_
      rintro e w2 ⟨z0, rfl, hbz, hz1', hz2', hdz, hg2⟩
      have hgs2 : w2.heap[gs]? = some (.cells #[.slice (some ⟨b1, o1, none⟩) n1 c1, .slice (some ⟨b2, o2, none⟩) n2 c2] 51 (0, 0)) := by rw [hg2.block _ hltg (by simp)]; exact hgs
      have hltw2 : wz.heap.size < w2.heap.size := hbz.lt
      obtain ⟨L, hL⟩ : ∃ L, L = z0.length := ⟨_, rfl⟩
      rw [← hL] at hz1' hz2' ⊢
      have HL := Lib.hid hL
      obtain ⟨G, hG⟩ : ∃ G, G = wz.heap.size := ⟨_, rfl⟩
      rw [← hG] at hbz hltw2 ⊢
      have hlt1' : b1 < G := by omega
      have hlt2' : b2 < G := by omega
      have hltg' : gs < G := by omega
      have HG := Lib.hid hG
      clear hL hG hc0 hc1
      go_wp2
      go_loopw [6, 27] (fun v j wq => ∃ i us, i ≤ 2 ∧ j = .int .i64 (i : Nat) ∧ v = .slice (some ⟨G, 0, none⟩) (sz2 n1 n2 i) L ∧ Blk .u64 57 wq G us ∧ w2.grownBy wq (some G) ∧ Hid (us.length = L ∧ Dg W64 us ∧ (1 ≤ i → ∀ j, j < n1 → gt us j = gt xs (o1 + j)) ∧ (2 ≤ i → ∀ j, j < n2 → gt us (n1 + j) = gt ys (o2 + j)))) (fun _ j _ => 2 - (intOf j).toNat)
      case atStart => exact ⟨0, z0, by omega, rfl, rfl, hbz, World.grownBy.refl _ _, ⟨HL.out.symm, hdz, fun h => by omega, fun h => by omega⟩⟩
      case round =>
        obtain ⟨i, us, hile, rfl, rfl, hbu, hgu, HU⟩ := hrel
        have hgsq : wr.heap[gs]? = some (.cells #[.slice (some ⟨b1, o1, none⟩) n1 c1, .slice (some ⟨b2, o2, none⟩) n2 c2] 51 (0, 0)) := by rw [hgu.block _ (by omega) (by simp; omega)]; exact hgs2
        have hc0 : wr.cell? ⟨gs, 0, none⟩ = some (.slice (some ⟨b1, o1, none⟩) n1 c1) := by rw [cell_of_row wr _ 0 _ _ _ hgsq]; rfl
        have hc1 : wr.cell? ⟨gs, 1, none⟩ = some (.slice (some ⟨b2, o2, none⟩) n2 c2) := by rw [cell_of_row wr _ 1 _ _ _ hgsq]; rfl
        have hb1r := (hb1.kept hg2 (by simp)).kept hgu (by simp; omega)
        have hb2r := (hb2.kept hg2 (by simp)).kept hgu (by simp; omega)
        rcases i with _ | _ | _ | i
        · rw [show sz2 n1 n2 0 = 0 from rfl]
          obtain ⟨hlu, hdu, _, _⟩ := HU.out
          have HLU := Lib.hid hlu
          clear hlu
          go_wp2_with (at_builtin; refine wpList_append_room_blk rfl (.tmp 31) (.tmp 32) 51 rfl .u64 57 i0 Tryd.underlying51 hi hz1 G 0 us (by rw [HLU.out]; rfl) hbu b1 o1 n1 c1 xs rfl ?_ hn1 ?_ ?_)
          case refine_1 => intro j hj; exact hb1r.cell (by omega)
          case refine_2 => rw [HLU.out]; omega
          intro w3 vs3 hl3 hb3 hg3 hap
          rw [HLU.out] at hl3 ⊢
          have HAP := Lib.hid hap
          have HL3 := Lib.hid hl3
          clear hap hl3
          go_wp2
          refine ⟨⟨1, vs3, by omega, rfl, rfl, hb3, gr_trans hgu hg3 (.inr rfl) (.inr (.inl rfl)), HL3.out, HAP.out.dg W64_pos hdu hd1, fun _ j hj => by have := HAP.out.new j hj; rwa [Nat.zero_add] at this, fun h => by omega⟩, by decide⟩
        · rw [show sz2 n1 n2 (0 + 1) = n1 from rfl]
          obtain ⟨hlu, hdu, hold, _⟩ := HU.out
          have HLU := Lib.hid hlu
          have HOLD := Lib.hid hold
          clear hlu hold
          go_wp2_with (at_builtin; refine wpList_append_room_blk rfl (.tmp 31) (.tmp 32) 51 rfl .u64 57 i0 Tryd.underlying51 hi hz1 G n1 us (by rw [HLU.out]; rfl) hbu b2 o2 n2 c2 ys rfl ?_ hn2 ?_ ?_)
          case refine_1 => intro j hj; exact hb2r.cell (by omega)
          case refine_2 => rw [HLU.out]; omega
          intro w3 vs3 hl3 hb3 hg3 hap
          rw [HLU.out] at hl3 ⊢
          have HAP := Lib.hid hap
          have HL3 := Lib.hid hl3
          clear hap hl3
          go_wp2
          refine ⟨⟨2, vs3, by omega, rfl, rfl, hb3, gr_trans hgu hg3 (.inr rfl) (.inr (.inl rfl)), HL3.out, HAP.out.dg W64_pos hdu hd2, fun _ j hj => by rw [HAP.out.old j hj]; exact HOLD.out (by omega) j hj, fun _ j hj => HAP.out.new j hj⟩, by decide⟩
        · rw [show sz2 n1 n2 (0 + 1 + 1) = n1 + n2 from rfl]
          have hgf : wz.grownBy wr none := gr_new hg2 hgu (by rw [HG.out]; exact Nat.le_refl _)
          go_wp2
          go_ret
          obtain ⟨hlu, hdu, hx, hy⟩ := HU.out
          refine ⟨G, us, by rw [hlu]; rfl, by rw [HG.out]; exact Nat.le_refl _, hbu, by omega, by omega, hdu, ?_, hgf⟩
          rw [vs_split, vs_congr (ys := xs) (off' := o1) (fun j hj => by rw [Nat.zero_add]; exact hx (by omega) j hj), Nat.zero_add, vs_congr (xs := us) (ys := ys) (off := n1) (off' := o2) (fun j hj => hy (by omega) j hj)]
        · omega
    · omega
end Go.Proofs.YtednijejgadmnaaDoor
