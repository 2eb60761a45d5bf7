/- Contracts of package nat and of the reference, part 9: Concat, Image, MontW, MontB, Number, Odd, PowO, Gcd. -/
import Derived.Test.YtoadjhmehgkeaaaGreatDoorETexts8
import Derived.Lib.AppendZeros
import Derived.Deep.RegionHeld3
import Derived.Deep.RegionWith
namespace Go.Proofs.YtoadjhmehgkeaaaGreatDoor
open Go.RowKit Mth

/-- append into room. -/
theorem wpList_append_room_blk {P : Program} {w : World} {ops : Array Oper} {rest : List Oper} {o : Oper} {a : Act} {Q : Exit → Act → World → Prop} (hgd : o.guard = none) (s x : Operand) (t : TypeId)
    (ho : o.op = .call { callee := .builtin .append, args := #[s, x], argTypes := #[t, t] })
    (k : IntKind) (e : TypeId) (i : TypeInfo) (ht : P.underlying t = some (.slice e)) (hi : P.info? e = some i) (hsize : i.size = 1)
    (g n : Nat) (zs : List Nat) (hs : a.eval s = .slice (some ⟨g, 0, none⟩) n zs.length) (hb : Blk k e w g zs) (b off m c : Nat) (xs : List Nat) (hx : a.eval x = .slice (some ⟨b, off, none⟩) m c)
    (hcell : ∀ j, j < m → w.cell? ⟨b, off + j, none⟩ = some (.int k ((gt xs (off + j) : Nat) : Int))) (hm : off + m ≤ xs.length) (hroom : n + m ≤ zs.length)
    (h : ∀ w' us, us.length = zs.length → Blk k e w' g us → w.grownBy w' (some g) → Apped zs us xs n m off → wpList P ops Q rest (a.put o.dst (.slice (some ⟨g, 0, none⟩) (n + m) zs.length)) w') : wpList P ops Q (o :: rest) a w := by
  refine wpList_plain hgd fun K hK => ?_
  have hnl : (cellsOf k ((xs.drop off).take m)).length = m := by rw [length_cellsOf]; simp; omega
  have hl : (cellsOf k ((xs.drop off).take m)).length = m * i.size := by rw [hsize, hnl, Nat.mul_one]
  have hnews : ∀ j u, (cellsOf k ((xs.drop off).take m))[j]? = some u → w.cell? ((⟨b, off, none⟩ : Addr).add j) = some u := by
    intro j u hu
    have hj : j < m := by have := (List.getElem?_eq_some_iff.1 hu).1; omega
    rw [Addr.add_lit, hcell j hj]
    rw [cellsOf_get k _ _ (by simp; omega), gt_take hj, gt_drop] at hu
    exact hu
  have hone : ∀ u ∈ cellsOf k ((xs.drop off).take m), u.oneCell' = true := by
    intro u hu
    simp only [cellsOf, List.mem_map] at hu
    obtain ⟨_, _, rfl⟩ := hu
    rfl
  have hr := run_append_room (P := P) w t o.type e i ht hi g n zs.length (cellsOf k zs).toArray hb ⟨b, off, none⟩ m c _ hl hnews hone hroom (by rw [hsize, hnl]; simp [length_cellsOf]; omega)
  have hcells : (((cellsOf k zs).toArray.toList.take (n * i.size) ++ cellsOf k ((xs.drop off).take m) ++ (cellsOf k zs).toArray.toList.drop (n * i.size + (cellsOf k ((xs.drop off).take m)).length)).toArray) = (cellsOf k (zs.take n ++ (xs.drop off).take m ++ zs.drop (n + m))).toArray := by
    rw [hsize, hnl, Nat.mul_one]; simp [cellsOf, List.map_take, List.map_drop]
  rw [hcells] at hr
  have hlen : (zs.take n ++ (xs.drop off).take m ++ zs.drop (n + m)).length = zs.length := by simp; omega
  have hfin := h _ _ hlen (setRow_heap w g _ _ e _ hb) ⟨rfl, rfl, rfl, by simp, fun k _ hk => setRow_other w g k _ (fun e => hk (by simp [e]))⟩ (apped_room hroom hm)
  unfold Oper.wp execOp
  simp only [ho, resolve, invoke, builtin, Sem.run_bind, Sem.run_pure, Result.andThen_ok, List.map_toArray, List.map_cons, List.map_nil, hs, hx, hr]
  exact hK _ _ hfin

set_option maxRecDepth 100000 in
theorem grow_nil (n : Nat) (w : World) (h0 : 0 < n) (hn : n ≤ 8796093022208) :
    Calls Tryz.prog 175 #[.slice none 0 0, .int .i64 n] w fun e w' => ∃ zs, e = .returned (.slice (some ⟨w.heap.size, 0, none⟩) 0 zs.length) ∧ Blk .u64 96 w' w.heap.size zs ∧ n ≤ zs.length ∧ zs.length ≤ maxLen ∧ Dg W64 zs ∧ w.grownBy w' none := by
  obtain ⟨i0, hi, hz0, hz1, hz2⟩ := info_parts infoW
  have hr := Lib.run_append_nil_zeros (P := Tryz.prog) w 81 3 81 96 i0 (.int .u64 0) .i64 .i64 Tryz.underlying81 Tryz.underlying3 hi hz0 n h0 (by omega) (by omega) (by rw [hz2]; omega)
  have hge := grownCap_ge w n 0 96
  have hle := grownCap_le_maxLen w n 0 96 (by unfold maxLen; omega)
  have hzz : Builtin.zeroCells (Value.int .u64 0).cells n ++ Builtin.zeroCells (Value.int .u64 0).cells (grownCap w n 0 96 - n) = (cellsOf .u64 (List.replicate (grownCap w n 0 96) 0)).toArray := by
    have hzc : ∀ q, (Builtin.zeroCells (Value.int .u64 0).cells q) = (cellsOf .u64 (List.replicate q 0)).toArray := fun q => by rw [← zeroCells_int, Array.toArray_toList]
    rw [hzc, hzc, List.append_toArray, ← cellsOf_append, List.replicate_append_replicate, show n + (grownCap w n 0 96 - n) = grownCap w n 0 96 from by omega]
  rw [hzz] at hr
  have hln : (List.replicate (grownCap w n 0 96) 0 : List Nat).length = grownCap w n 0 96 := List.length_replicate
  have hgz := gt_rep0 (grownCap w n 0 96)
  have hblk : Blk .u64 96 (w.drew.alloc (.cells (cellsOf .u64 (List.replicate (grownCap w n 0 96) 0)).toArray 96)) w.heap.size (List.replicate (grownCap w n 0 96) 0) := heap_alloc_new w.drew _
  have hgr : w.grownBy (w.drew.alloc (.cells (cellsOf .u64 (List.replicate (grownCap w n 0 96) 0)).toArray 96)) none := gr_then (gr_drew w none) (gr_alloc _ _ _)
  generalize hZ : (List.replicate (grownCap w n 0 96) 0 : List Nat) = zs at *
  rw [← hln] at hr hge hle
  have HR := Lib.hid hr
  have HB := Lib.hid hblk
  have HG := Lib.hid hgz
  generalize w.drew.alloc (.cells (cellsOf .u64 zs).toArray 96) = w2 at *
  clear hr hblk hgz hzz hZ hln hi hz0 hz1 hz2
  go_enter Tryz.func175, Tryz.ntmps175
  go_wp2_with (at_builtin; refine Lib.wpList_append_run _ rfl (.tmp 20) (.tmp 21) 81 3 rfl _ _ rfl rfl _ _ HR.out ?_)
  go_wp2
  go_ret
  exact ⟨zs, rfl, HB.out, hge, hle, fun i => by rw [HG.out]; exact W64_pos, hgr⟩

def sz2 (n1 n2 : Nat) : Nat → Nat
  | 0 => 0
  | 1 => n1
  | _ => n1 + n2

set_option maxHeartbeats 4000000 in
set_option maxRecDepth 100000 in
theorem concat_two (gs : Nat) (cs : Nat) (b1 o1 n1 c1 b2 o2 n2 c2 : Nat) (xs ys : List Nat) (w : World) (hgs : w.heap[gs]? = some (.cells #[.slice (some ⟨b1, o1, none⟩) n1 c1, .slice (some ⟨b2, o2, none⟩) n2 c2] 81 (0, 0)))
    (hb1 : Blk .u64 96 w b1 xs) (hn1 : o1 + n1 ≤ xs.length) (hd1 : Dg W64 xs) (hb2 : Blk .u64 96 w b2 ys) (hn2 : o2 + n2 ≤ ys.length) (hd2 : Dg W64 ys) (h0 : 0 < n1) (hs1 : n1 ≤ 1099511627776) (hs2 : n2 ≤ 1099511627776) :
    Calls Tryz.prog 162 #[.slice (some ⟨gs, 0, none⟩) 2 cs] w fun e w' => ∃ g us, e = .returned (.slice (some ⟨g, 0, none⟩) (n1 + n2) us.length) ∧ w.heap.size ≤ g ∧ Blk .u64 96 w' g us ∧ n1 + n2 ≤ us.length ∧ us.length ≤ maxLen ∧ Dg W64 us ∧ vs W64 us 0 (n1 + n2) = vs W64 xs o1 n1 + W64 ^ n1 * vs W64 ys o2 n2 ∧ w.grownBy w' none := by
  obtain ⟨i0, hi, hz0, hz1, hz2⟩ := info_parts infoW
  have hlt1 := hb1.lt
  have hlt2 := hb2.lt
  have hltg : gs < w.heap.size := (Array.getElem?_eq_some_iff.1 hgs).1
  have hc0 : w.cell? ⟨gs, 0, none⟩ = some (.slice (some ⟨b1, o1, none⟩) n1 c1) := by rw [cell_of_row w _ 0 _ _ _ hgs]; rfl
  have hc1 : w.cell? ⟨gs, 1, none⟩ = some (.slice (some ⟨b2, o2, none⟩) n2 c2) := by rw [cell_of_row w _ 1 _ _ _ hgs]; rfl
  go_enter Tryz.func162, Tryz.ntmps162
  go_wp2
  go_loopw [3, 11] (fun s j wr => ∃ i, i ≤ 2 ∧ j = .int .i64 (i : Nat) ∧ s = .int .i64 ((sz2 n1 n2 i : Nat) : Int) ∧ wr = w) (fun _ j _ => 2 - (intOf j).toNat)
  case atStart => exact ⟨0, by omega, rfl, rfl, rfl⟩
  case round =>
    obtain ⟨i, hile, rfl, rfl, rfl⟩ := hrel
    rcases i with _ | _ | _ | i
    · have hnn : ¬ ((n1 : Int) < 0) := by omega
      rw [show sz2 n1 n2 0 = 0 from rfl]
      go_wp2
      exact ⟨⟨1, by omega, rfl, rfl, trivial⟩, by decide⟩
    · rw [show sz2 n1 n2 (0 + 1) = n1 from rfl]
      have hnn : ¬ ((n1 : Int) + (n2 : Int) < 0) := by omega
      go_wp2
      exact ⟨⟨2, by omega, rfl, by simp [sz2], trivial⟩, by decide⟩
    · rw [show sz2 n1 n2 (0 + 1 + 1) = n1 + n2 from rfl]
      obtain ⟨wz, rfl⟩ : ∃ wz, wz = wr := ⟨_, rfl⟩
      go_wp2_with fail
      rw [show ((n1 : Int) + (n2 : Int)) = ((n1 + n2 : Nat) : Int) from by omega]
      refine (grow_nil (n1 + n2) wz (by omega) (by omega)).mono ?_
      rintro e w2 ⟨z0, rfl, hbz, hz1', hz2', hdz, hg2⟩
      have hgs2 : w2.heap[gs]? = some (.cells #[.slice (some ⟨b1, o1, none⟩) n1 c1, .slice (some ⟨b2, o2, none⟩) n2 c2] 81 (0, 0)) := by rw [hg2.block _ hltg (by simp)]; exact hgs
      have hltw2 : wz.heap.size < w2.heap.size := hbz.lt
      obtain ⟨L, hL⟩ : ∃ L, L = z0.length := ⟨_, rfl⟩
      rw [← hL] at hz1' hz2' ⊢
      have HL := Lib.hid hL
      obtain ⟨G, hG⟩ : ∃ G, G = wz.heap.size := ⟨_, rfl⟩
      rw [← hG] at hbz hltw2 ⊢
      have hlt1' : b1 < G := by omega
      have hlt2' : b2 < G := by omega
      have hltg' : gs < G := by omega
      have HG := Lib.hid hG
      clear hL hG hc0 hc1
      go_wp2
      go_loopw [6, 27] (fun v j wq => ∃ i us, i ≤ 2 ∧ j = .int .i64 (i : Nat) ∧ v = .slice (some ⟨G, 0, none⟩) (sz2 n1 n2 i) L ∧ Blk .u64 96 wq G us ∧ w2.grownBy wq (some G) ∧ Hid (us.length = L ∧ Dg W64 us ∧ (1 ≤ i → ∀ j, j < n1 → gt us j = gt xs (o1 + j)) ∧ (2 ≤ i → ∀ j, j < n2 → gt us (n1 + j) = gt ys (o2 + j)))) (fun _ j _ => 2 - (intOf j).toNat)
      case atStart => exact ⟨0, z0, by omega, rfl, rfl, hbz, World.grownBy.refl _ _, ⟨HL.out.symm, hdz, fun h => by omega, fun h => by omega⟩⟩
      case round =>
        obtain ⟨i, us, hile, rfl, rfl, hbu, hgu, HU⟩ := hrel
        have hgsq : wr.heap[gs]? = some (.cells #[.slice (some ⟨b1, o1, none⟩) n1 c1, .slice (some ⟨b2, o2, none⟩) n2 c2] 81 (0, 0)) := by rw [hgu.block _ (by omega) (by simp; omega)]; exact hgs2
        have hc0 : wr.cell? ⟨gs, 0, none⟩ = some (.slice (some ⟨b1, o1, none⟩) n1 c1) := by rw [cell_of_row wr _ 0 _ _ _ hgsq]; rfl
        have hc1 : wr.cell? ⟨gs, 1, none⟩ = some (.slice (some ⟨b2, o2, none⟩) n2 c2) := by rw [cell_of_row wr _ 1 _ _ _ hgsq]; rfl
        have hb1r := (hb1.kept hg2 (by simp)).kept hgu (by simp; omega)
        have hb2r := (hb2.kept hg2 (by simp)).kept hgu (by simp; omega)
        rcases i with _ | _ | _ | i
        · rw [show sz2 n1 n2 0 = 0 from rfl]
          obtain ⟨hlu, hdu, _, _⟩ := HU.out
          have HLU := Lib.hid hlu
          clear hlu
          go_wp2_with (at_builtin; refine wpList_append_room_blk rfl (.tmp 31) (.tmp 32) 81 rfl .u64 96 i0 Tryz.underlying81 hi hz1 G 0 us (by rw [HLU.out]; rfl) hbu b1 o1 n1 c1 xs rfl ?_ hn1 ?_ ?_)
          case refine_1 => intro j hj; exact hb1r.cell (by omega)
          case refine_2 => rw [HLU.out]; omega
          intro w3 vs3 hl3 hb3 hg3 hap
          rw [HLU.out] at hl3 ⊢
          have HAP := Lib.hid hap
          have HL3 := Lib.hid hl3
          clear hap hl3
          go_wp2
          refine ⟨⟨1, vs3, by omega, rfl, rfl, hb3, gr_trans hgu hg3 (.inr rfl) (.inr (.inl rfl)), HL3.out, HAP.out.dg W64_pos hdu hd1, fun _ j hj => by have := HAP.out.new j hj; rwa [Nat.zero_add] at this, fun h => by omega⟩, by decide⟩
        · rw [show sz2 n1 n2 (0 + 1) = n1 from rfl]
          obtain ⟨hlu, hdu, hold, _⟩ := HU.out
          have HLU := Lib.hid hlu
          have HOLD := Lib.hid hold
          clear hlu hold
          go_wp2_with (at_builtin; refine wpList_append_room_blk rfl (.tmp 31) (.tmp 32) 81 rfl .u64 96 i0 Tryz.underlying81 hi hz1 G n1 us (by rw [HLU.out]; rfl) hbu b2 o2 n2 c2 ys rfl ?_ hn2 ?_ ?_)
          case refine_1 => intro j hj; exact hb2r.cell (by omega)
          case refine_2 => rw [HLU.out]; omega
          intro w3 vs3 hl3 hb3 hg3 hap
          rw [HLU.out] at hl3 ⊢
          have HAP := Lib.hid hap
          have HL3 := Lib.hid hl3
          clear hap hl3
          go_wp2
          refine ⟨⟨2, vs3, by omega, rfl, rfl, hb3, gr_trans hgu hg3 (.inr rfl) (.inr (.inl rfl)), HL3.out, HAP.out.dg W64_pos hdu hd2, fun _ j hj => by rw [HAP.out.old j hj]; exact HOLD.out (by omega) j hj, fun _ j hj => HAP.out.new j hj⟩, by decide⟩
        · rw [show sz2 n1 n2 (0 + 1 + 1) = n1 + n2 from rfl]
          have hgf : wz.grownBy wr none := gr_new hg2 hgu (by rw [HG.out]; exact Nat.le_refl _)
          go_wp2
          go_ret
          obtain ⟨hlu, hdu, hx, hy⟩ := HU.out
          refine ⟨G, us, by rw [hlu]; rfl, by rw [HG.out]; exact Nat.le_refl _, hbu, by omega, by omega, hdu, ?_, hgf⟩
          rw [vs_split, vs_congr (ys := xs) (off' := o1) (fun j hj => by rw [Nat.zero_add]; exact hx (by omega) j hj), Nat.zero_add, vs_congr (xs := us) (ys := ys) (off := n1) (off' := o2) (fun j hj => hy (by omega) j hj)]
        · omega
    · omega
end Go.Proofs.YtoadjhmehgkeaaaGreatDoor
namespace Go.Proofs.YtoadjhmehgkeaaaGreatDoor
open Go.RowKit Mth

set_option maxHeartbeats 8000000 in
set_option maxRecDepth 100000 in
theorem image_any (bm om n cm inv M : Nat) (ms : List Nat) (ba oa na ca A : Nat) (xs : List Nat) (w : World) (hm : NumAt w bm om n cm ms M) (hM0 : 0 < M) (ha : NumAt w ba oa na ca xs A) (hna : na ≤ 137438953473) (hn : n ≤ 137438953473) :
    Calls Tryz.prog 140 #[mval (.slice (some ⟨bm, om, none⟩) n cm) inv, .slice (some ⟨ba, oa, none⟩) na ca] w fun e w' => ∃ g us, e = .returned (.slice (some ⟨g, 0, none⟩) n n) ∧ w.heap.size ≤ g ∧ Row w' g n (A * W64 ^ n % M) us ∧ w.grownBy w' none := by
  obtain ⟨i0, hi, hz0, hz1, hz2⟩ := info_parts infoW
  unfold mval
  have hbx : (w.alloc (.cells #[.slice (some ⟨bm, om, none⟩) n cm, .int .u64 (inv : Int)] 140)).heap[w.heap.size]? = some (.cells #[.slice (some ⟨bm, om, none⟩) n cm, .int .u64 (inv : Int)] 140 (0, 0)) := heap_alloc_new _ _
  go_enter Tryz.func140, Tryz.ntmps140
  have hg0 := gr_alloc w (.cells #[.slice (some ⟨bm, om, none⟩) n cm, .int .u64 (inv : Int)] 140) none
  have hm1 := hm.kept hg0 (by simp)
  have ha1 := ha.kept hg0 (by simp)
  have hc0 : (w.alloc (.cells #[.slice (some ⟨bm, om, none⟩) n cm, .int .u64 (inv : Int)] 140)).cell? ⟨w.heap.size, 0, none⟩ = some (.slice (some ⟨bm, om, none⟩) n cm) := by rw [cell_of_row _ _ 0 _ _ _ hbx]; rfl
  go_wp2_with fail
  generalize w.alloc (.cells #[.slice (some ⟨bm, om, none⟩) n cm, .int .u64 (inv : Int)] 140) = w1 at *
  obtain ⟨w2, hmk, hown, hg2⟩ := run_make_full (P := Tryz.prog) w1.drew 0 81 96 i0 (.int .u64 0) 1 Tryz.underlying81 hi hz0 hz1 .i64 .i64 n (by rw [hz2]; omega) (by unfold maxLen; omega) (Nat.zero_le _)
  have hb2 := blk_made hown
  have hl2 : (List.replicate n 0 : List Nat).length = n := List.length_replicate
  have HZ := Lib.hid (gt_rep0 n)
  have hn0 : 0 < n := by
    rcases Nat.eq_zero_or_pos n with h | h
    · subst h; have := hm.val; simp [vs] at this; omega
    · exact h
  obtain ⟨G, hG⟩ : ∃ G, G = w1.drew.heap.size := ⟨_, rfl⟩
  rw [← hG] at hmk hb2
  have HG := Lib.hid hG
  generalize (List.replicate n 0 : List Nat) = z0 at *
  have hcd : w1.drew.cell? ⟨w.heap.size, 0, none⟩ = some (.slice (some ⟨bm, om, none⟩) n cm) := hc0
  have hc2 := hg2.cell hcd (by simp)
  have hm2 := (hm1.kept (gr_drew w1 none) (by simp)).kept hg2 (by simp)
  have ha2 := (ha1.kept (gr_drew w1 none) (by simp)).kept hg2 (by simp)
  have hg3 := gr_alloc w2 (.cells #[.slice (some ⟨G, 0, none⟩) n n, .slice (some ⟨ba, oa, none⟩) na ca] 81) none
  have hc3 := hg3.cell hc2 (by simp)
  have hm3 := hm2.kept hg3 (by simp)
  have ha3 := ha2.kept hg3 (by simp)
  have hb3 := hb2.kept hg3 (by simp)
  have hgs : (w2.alloc (.cells #[.slice (some ⟨G, 0, none⟩) n n, .slice (some ⟨ba, oa, none⟩) na ca] 81)).heap[w2.heap.size]? = some (.cells #[.slice (some ⟨G, 0, none⟩) n n, .slice (some ⟨ba, oa, none⟩) na ca] 81 (0, 0)) := heap_alloc_new _ _
  have HGS := Lib.hid hgs
  have HB3 := Lib.hid hb3
  have HA3 := Lib.hid ha3
  have HM3 := Lib.hid hm3
  have HL2 := Lib.hid hl2
  clear hgs hb3 ha3 hm3 hl2 hG hown hb2 hm2 ha2 ha1 hm1
  go_cut [5, 6] from 7 to 20 (fun q r wx => Num wx r (A * W64 ^ n % M) ∧ w1.grownBy wx none)
  case first =>
    go_region_with (first
      | (go_at_call 162; refine (concat_two w2.heap.size 2 G 0 n n ba oa na ca z0 xs _ HGS.out HB3.out (by rw [HL2.out]; omega) (fun i => by rw [HZ.out]; exact W64_pos) HA3.out.blk HA3.out.fit HA3.out.dg hn0 (by omega) (by omega)).mono ?_; rintro e w4 ⟨g4, us, rfl, hlt4, hb4, hlen4, hmax4, hd4, hv4, hg4⟩; have hc4 := hg4.cell hc3 (by simp); have HU := Lib.hid (And.intro hlen4 (And.intro hmax4 (And.intro hd4 hv4))); have HM4 := Lib.hid (HM3.out.kept hg4 (by simp)); clear hlen4 hmax4 hd4 hv4)
      | (go_at_call 125; refine (trimmed_num g4 0 (n + na) us.length us w4 hb4 (by have := HU.out.1; omega) HU.out.2.2.1 HU.out.1 HU.out.2.1 (by omega)).mono ?_; rintro e w5 ⟨⟨m5, rfl, hm5⟩, rfl⟩; have HM5 := Lib.hid hm5; clear hm5)
      | (go_at_call 82; refine (divide_all _ _ (vs W64 us 0 (n + na)) M w4 ⟨g4, 0, m5, us.length, us, rfl, HM5.out⟩ ⟨bm, om, n, cm, ms, rfl, HM4.out⟩ hM0).mono ?_; rintro e w6 ⟨q, r, rfl, hq, hr, hg6⟩; have HQ := Lib.hid hq; have HR := Lib.hid hr; clear hq hr))
    all_goals
      go_wp2
      go_meet
      refine ⟨?_, gr_then (gr_drew w1 none) (gr_then hg2 (gr_then hg3 (gr_then hg4 hg6)))⟩
      have h := HR.out
      rw [HU.out.2.2.2, vs_zero (fun i _ => HZ.out _), Nat.zero_add, HA3.out.val, Nat.mul_comm] at h
      exact h
  case rest =>
    obtain ⟨hr, hgc⟩ := hcut
    have hbc : wc.heap[w.heap.size]? = some (.cells #[.slice (some ⟨bm, om, none⟩) n cm, .int .u64 (inv : Int)] 140 (0, 0)) := by rw [hgc.block _ (Array.getElem?_eq_some_iff.1 hbx).1 (by simp)]; exact hbx
    have hcc0 : wc.cell? ⟨w.heap.size, 0, none⟩ = some (.slice (some ⟨bm, om, none⟩) n cm) := by rw [cell_of_row _ _ 0 _ _ _ hbc]; rfl
    have hcc1 : wc.cell? ⟨w.heap.size, 1, none⟩ = some (.int .u64 (inv : Int)) := by rw [cell_of_row _ _ 1 _ _ _ hbc]; rfl
    have hgw : w.grownBy wc none := gr_then hg0 hgc
    obtain ⟨g6, o6, m6, c6, zs6, rfl, h6⟩ := hr
    have H6 := Lib.hid h6
    clear h6
    have hle : m6 ≤ n := H6.out.len_le (by
      have h1 : M < W64 ^ n := by rw [← hm.val]; exact vs_lt hm.dg
      have h2 := Nat.mod_lt (A * W64 ^ n) hM0
      omega)
    go_wp2_with fail
    refine (padded_any (some ⟨bm, om, none⟩) n cm inv g6 o6 m6 c6 zs6 wc H6.out.blk H6.out.fit H6.out.dg hle (by omega)).mono ?_
    rintro e w7 ⟨g7, us7, rfl, hlt7, hrow7, hg7⟩
    rw [H6.out.val] at hrow7
    have HR7 := Lib.hid hrow7
    clear hrow7
    go_wp2
    go_ret
    exact ⟨g7, us7, rfl, by have := hgw.size; omega, HR7.out, gr_then hgw hg7⟩

theorem mod_cancel {a b c M : Nat} (h : (a * c) % M = (b * c) % M) (hc : Nat.Coprime M c) : a % M = b % M := by
  have key : ∀ a b : Nat, a ≤ b → (a * c) % M = (b * c) % M → a % M = b % M := by
    intro a b hab h
    have h1 : (b * c - a * c) % M = 0 := Nat.sub_mod_eq_zero_of_mod_eq h.symm
    rw [← Nat.sub_mul] at h1
    have h2 : M ∣ b - a := hc.dvd_of_dvd_mul_right (Nat.dvd_of_mod_eq_zero h1)
    obtain ⟨k, hk⟩ := h2
    have : b = a + M * k := by omega
    rw [this, Nat.add_mul_mod_self_left]
  rcases Nat.le_total a b with hab | hab
  · exact key a b hab h
  · exact (key b a hab h.symm).symm
theorem coprime_W {M inv : Nat} (h : (M * inv + 1) % W64 = 0) (n : Nat) : Nat.Coprime M (W64 ^ n) := by
  refine Nat.Coprime.pow_right n ?_
  obtain ⟨k, hk⟩ := Nat.dvd_of_mod_eq_zero h
  have h1 : Nat.gcd M W64 ∣ M * inv + 1 := by rw [hk]; exact Nat.dvd_trans (Nat.gcd_dvd_right _ _) (Nat.dvd_mul_right _ _)
  have h2 : Nat.gcd M W64 ∣ M * inv := Nat.dvd_trans (Nat.gcd_dvd_left _ _) (Nat.dvd_mul_right _ _)
  have h3 : Nat.gcd M W64 ∣ 1 := (Nat.dvd_add_right h2).1 h1
  exact Nat.dvd_one.1 h3

/-- v is the image, in n words, of r modulo M. -/
def ImgOf (w : World) (v : Value) (n M r : Nat) : Prop := ∃ g o c us, v = .slice (some ⟨g, o, none⟩) n c ∧ Blk .u64 96 w g us ∧ o + n ≤ us.length ∧ Dg W64 us ∧ vs W64 us o n = r * W64 ^ n % M
theorem ImgOf.kept {w w' : World} {v : Value} {n M r : Nat} (h : ImgOf w v n M r) (hg : w.grownBy w' none) : ImgOf w' v n M r := by
  obtain ⟨g, o, c, us, rfl, h1, h2⟩ := h
  exact ⟨g, o, c, us, rfl, h1.kept hg (by simp), h2⟩
theorem ImgOf.congr {w : World} {v : Value} {n M r s : Nat} (h : ImgOf w v n M r) (e : r % M = s % M) : ImgOf w v n M s := by
  obtain ⟨g, o, c, us, rfl, h1, h2, h3, h4⟩ := h
  refine ⟨g, o, c, us, rfl, h1, h2, h3, ?_⟩
  rw [h4, Nat.mul_mod, e, ← Nat.mul_mod]

theorem mont_times (bm om n cm inv M : Nat) (ms : List Nat) (va vb : Value) (a b : Nat) (w : World) (hm : NumAt w bm om n cm ms M) (hsm : n < 1099511627776) (hM0 : 0 < M) (hinv : (M * inv + 1) % W64 = 0) (ha : ImgOf w va n M a) (hb : ImgOf w vb n M b) :
    Calls Tryz.prog 141 #[mval (.slice (some ⟨bm, om, none⟩) n cm) inv, va, vb] w fun e w' => ∃ r, e = .returned r ∧ ImgOf w' r n M (a * b % M) ∧ w.grownBy w' none := by
  obtain ⟨g1, o1, c1, us1, rfl, h11, h12, h13, h14⟩ := ha
  obtain ⟨g2, o2, c2, us2, rfl, h21, h22, h23, h24⟩ := hb
  refine (mprod_any bm om n cm inv M ms g1 o1 c1 us1 g2 o2 c2 us2 _ w hm hsm hinv h11 h12 h13 h14 (Nat.mod_lt _ hM0) h21 h22 h23).mono ?_
  rintro e w' ⟨g, us, rfl, hlt, hbu, hlu, hdu, hltM, hval, hg⟩
  refine ⟨_, rfl, ⟨g, n, n + 1, us, rfl, hbu, by rw [hlu]; omega, hdu, ?_⟩, hg⟩
  rw [h24] at hval
  have h1 : (a * W64 ^ n % M * (b * W64 ^ n % M)) % M = (a * b % M * W64 ^ n * W64 ^ n) % M := by
    rw [← Nat.mul_mod, Nat.mul_mul_mul_comm, ← Nat.mul_assoc, Nat.mul_mod (a * b * W64 ^ n), Nat.mul_mod (a * b), Nat.mul_mod (a * b % M * W64 ^ n), Nat.mul_mod (a * b % M) (W64 ^ n) M, Nat.mod_mod]
  rw [h1] at hval
  have h2 := mod_cancel hval (coprime_W hinv n)
  rw [Nat.mod_eq_of_lt hltM] at h2
  exact h2
end Go.Proofs.YtoadjhmehgkeaaaGreatDoor
namespace Go.Proofs.YtoadjhmehgkeaaaGreatDoor
open Go.RowKit Go.Shelf Mth

theorem img_own {W W' : World} {v : Value} {n M r : Nat} {row : Option Nat} (h : ImgOf W v n M r) (hg : W.grownBy W' row) (hrow : ∀ r, row = some r → ∃ o : Obj, W.heap[r]? = some o ∧ o.isCells = false) : ImgOf W' v n M r := by
  obtain ⟨g, o, c, us, rfl, hb, h⟩ := h
  refine ⟨g, o, c, us, rfl, hb.kept hg ?_, h⟩
  intro e
  obtain ⟨o, ho, hc⟩ := hrow g e.symm
  unfold Blk at hb
  rw [hb] at ho
  obtain rfl := Option.some.inj ho
  simp [Obj.isCells] at hc
theorem numAt_own {W W' : World} {g off m c N : Nat} {xs : List Nat} {row : Option Nat} (h : NumAt W g off m c xs N) (hg : W.grownBy W' row) (hrow : ∀ r, row = some r → ∃ o : Obj, W.heap[r]? = some o ∧ o.isCells = false) : NumAt W' g off m c xs N := by
  refine h.kept hg ?_
  intro e
  obtain ⟨o, ho, hc⟩ := hrow g e.symm
  have hb := h.blk
  unfold Blk at hb
  rw [hb] at ho
  obtain rfl := Option.some.inj ho
  simp [Obj.isCells] at hc
theorem img_set {W : World} {x v : Value} {n M r K B n' M' : Nat} (h : ImgOf W x n M r) (hx : ImgOf W v n' M' K) (hv : W.cell? ⟨B, 0, none⟩ = some v) (u : Value) : ImgOf (W.setCell ⟨B, 0, none⟩ u) x n M r := by
  obtain ⟨_, _, _, _, rfl, _⟩ := hx
  obtain ⟨g, o, c, us, rfl, hb, h⟩ := h
  exact ⟨g, o, c, us, rfl, hb.kept (gr_set _ _ _ _) (by have := blk_ne hb hv; simpa using this), h⟩
theorem numAt_set {W : World} {v : Value} {g off m c N K B n' M' : Nat} {xs : List Nat} (h : NumAt W g off m c xs N) (hx : ImgOf W v n' M' K) (hv : W.cell? ⟨B, 0, none⟩ = some v) (u : Value) : NumAt (W.setCell ⟨B, 0, none⟩ u) g off m c xs N := by
  obtain ⟨_, _, _, _, rfl, _⟩ := hx
  exact h.kept (gr_set _ _ _ _) (by have := blk_ne h.blk hv; simpa using this)

attribute [local go_sem] Oper.semAt_some
set_option maxRecDepth 100000 in
set_option maxHeartbeats 2000000 in
theorem power_mont (vb vo : Value) (bm om n cm inv M : Nat) (ms : List Nat) (b : Nat) (e : ByteArray) (w : World) (hb : ImgOf w vb n M b) (ho : ImgOf w vo n M 1) (hm : NumAt w bm om n cm ms M) (hsm : n < 1099511627776) (hM0 : 0 < M) (hinv : (M * inv + 1) % W64 = 0) (hsz : e.size ≤ 1000000000000) :
    Calls Tryz.prog 139 #[vb, vo, .string e, .func (.func 141) #[mval (.slice (some ⟨bm, om, none⟩) n cm) inv] #[]] w fun x w' => ∃ r, x = .returned r ∧ ImgOf w' r n M (accP M b (bitsTop (num e.data.toList) (bitsN (num e.data.toList)))) ∧ w.grownBy w' none := by
  obtain ⟨g1, o1, c1, xs, rfl, hb⟩ := hb
  obtain ⟨g2, o2, c2, ys, rfl, ho⟩ := ho
  have HB := Lib.hid hb
  have HO := Lib.hid ho
  have HM := Lib.hid hm
  clear hb ho hm
  refine (callsIn_wide (n := 5)).1 ?_
  refine callsIn_of_wp_marks Tryz.func139 rfl trivial ?_ rfl
  simp only [Tryz.ntmps139, List.size_toArray, List.length_cons, List.length_nil, Nat.reduceAdd, Nat.reduceSub, Array.replicate_succ, Array.replicate_zero, List.push_toArray, List.append_toArray, List.nil_append, List.cons_append]
  gi_wp2
  refine ⟨trivial, (callsIn_wide.2 (bitsFromTop_any _ _)).mono ?_⟩
  rintro e' w' ⟨rfl, rfl⟩
  obtain ⟨W0, hW0⟩ : ∃ W0, W0 = (((w.alloc (Obj.cells #[Value.slice (some ⟨g1, o1, none⟩) n c1] 81)).alloc (Obj.cells #[(.func (.func 141) #[mval (.slice (some ⟨bm, om, none⟩) n cm) inv] #[] : Value)] 89)).alloc (Obj.cells #[Value.slice (some ⟨g2, o2, none⟩) n c2] 81)).alloc (Obj.cells #[.string e] 24) := ⟨_, rfl⟩
  obtain ⟨hs0, k0, k1, k2, k3, f2, hg0⟩ := boxes4 w _ _ _ _ _ _ _ _ W0 hW0
  rw [← hW0]
  simp only [World.size_alloc]
  clear hW0
  gi_wp2
  have hn1 : ImgOf W0 (.slice (some ⟨g1, o1, none⟩) n c1) n M b := ⟨g1, o1, c1, xs, rfl, HB.out.1.kept hg0 (by simp), HB.out.2⟩
  have hn2 : ImgOf W0 (.slice (some ⟨g2, o2, none⟩) n c2) n M 1 := ⟨g2, o2, c2, ys, rfl, HO.out.1.kept hg0 (by simp), HO.out.2⟩
  have hnm : NumAt W0 bm om n cm ms M := HM.out.kept hg0 (by simp)
  have hbb : Below w.heap.size w W0 := ⟨hg0.os, hg0.tape, hg0.output, hg0.size, fun k hk => hg0.block k hk (by simp)⟩
  refine wpIn_rangeFunc_ownF rfl (by omega) (gf := 174) (lb := #[.pointer (some ⟨w.heap.size + 1 + 1 + 1, 0, none⟩)]) rfl trivial (enters_of Tryz.func174 (by kernel_rfl) rfl)
    (bits_stops 4 (w.heap.size + 1 + 1 + 1) e W0 k3 hsz) (fun h k v hv => k v (h v hv)) (fun W l o o' _ hl ho _ v hv => ?_) (Below.refl _ _) (fun _ => rfl)
    (fun pre W => (∃ v, W.cell? ⟨w.heap.size + 1 + 1, 0, none⟩ = some v ∧ W.frozen? ⟨w.heap.size + 1 + 1, 0, none⟩ = false ∧ ImgOf W v n M (accP M b pre) ∧ W.cell? ⟨w.heap.size, 0, none⟩ = some (.slice (some ⟨g1, o1, none⟩) n c1) ∧ ImgOf W (.slice (some ⟨g1, o1, none⟩) n c1) n M b ∧ W.cell? ⟨w.heap.size + 1, 0, none⟩ = some (.func (.func 141) #[mval (.slice (some ⟨bm, om, none⟩) n cm) inv] #[]) ∧ NumAt W bm om n cm ms M) ∧ Below w.heap.size w W)
    (fun _ _ _ => False)
    (OwnFrom.and (Own.from (fun s A B row hs hg hr => by obtain ⟨v, q1, q2, q3, q4, q5, q6, q8⟩ := hs; exact ⟨v, cell_kept q1 hg hr, (frozen_kept q1 hg hr).trans q2, img_own q3 hg hr, cell_kept q4 hg hr, img_own q5 hg hr, cell_kept q6 hg hr, numAt_own q8 hg hr⟩) _) (ownFrom_below (Nat.le_refl _) (by omega)))
    (fun _ _ _ _ _ hs _ _ => hs)
    ⟨⟨_, k2, f2, hn2.congr (by rw [show accP M b [] = 1 % M from rfl, Nat.mod_mod]), k0, hn1, k1, hnm⟩, hbb⟩
    (fun x => { tmps := #[.slice (some ⟨g1, o1, none⟩) n c1, .slice (some ⟨g2, o2, none⟩) n c2, .string e, .func (.func 141) #[mval (.slice (some ⟨bm, om, none⟩) n cm) inv] #[], .pointer (some ⟨w.heap.size, 0, none⟩), undef, undef, .pointer (some ⟨w.heap.size + 1, 0, none⟩), .slice none 0 0, .pointer (some ⟨w.heap.size + 1 + 1, 0, none⟩), .bool x, .slice (some ⟨g2, o2, none⟩) n c2, .string e, .func (.func 174) #[] #[.pointer (some ⟨w.heap.size + 1 + 1 + 1, 0, none⟩)], .bool x, undef, undef, undef, undef, undef, undef, undef, undef, undef, undef], defers := [] }) ?assign ?body ?done ?stop
  case assign =>
    intro l x W K hK
    gi_wp2
    exact hK
  case body =>
    rintro l pre x W ⟨⟨v, q1, q2, q3, q4, q5, q6, q8⟩, hB⟩ _
    have hne0 : w.heap.size ≠ w.heap.size + 1 + 1 := by omega
    have hne1 : w.heap.size + 1 ≠ w.heap.size + 1 + 1 := by omega
    have hne3 : w.heap.size + 1 + 1 + 1 ≠ w.heap.size + 1 + 1 := by omega
    have HI := Lib.hid (And.intro q3 (And.intro q5 q8))
    clear q3 q5 q8 k0 k1 k2 k3 f2 hn1 hn2 hnm hbb hg0 hs0
    gi_wp2
    refine ⟨trivial, (CallsIn.inRound l (callsIn_wide.2 (mont_times bm om n cm inv M ms v v _ _ W HI.out.2.2 hsm hM0 hinv HI.out.1 HI.out.1))).mono ?_⟩
    rintro e' W1 ⟨r, rfl, hr, hg1⟩
    obtain ⟨sg, so, sc, ss, rfl, hr⟩ := hr
    have p1 := hg1.cell q1 (by simp)
    have p2 : W1.frozen? ⟨w.heap.size + 1 + 1, 0, none⟩ = false := (World.frozen?_of_block (hg1.block _ (World.block_lt_of_cell? W _ q1) (by simp))).trans q2
    have p4 := hg1.cell q4 (by simp)
    have p6 := hg1.cell q6 (by simp)
    have hv1 := HI.out.1.kept hg1
    have hb1 := HI.out.2.1.kept hg1
    have hm1 := HI.out.2.2.kept hg1 (by simp)
    have hr : ImgOf W1 (.slice (some ⟨sg, so, none⟩) n sc) n M _ := ⟨sg, so, sc, ss, rfl, hr⟩
    have HR := Lib.hid (And.intro hr (And.intro hv1 (And.intro hb1 hm1)))
    clear hr hv1 hb1 hm1 q1 q2 q4 q6
    cases x with
    | false =>
      gi_wp2
      refine ⟨(KeepsOthers.of_grownBy hg1 (by simp)).trans (KeepsOthers.setCell _ _ _), fun u hu => (gr_set _ _ _ _).cell (hg1.cell hu (by simp)) (by simp), ⟨_, World.cell?_setCell_same' _ _ _ (by rw [p1]; rfl), by rw [World.frozen?_setCell]; exact p2, ?_, (gr_set _ _ _ _).cell p4 (by simp; omega), img_set HR.out.2.2.1 HR.out.2.1 p1 _, (gr_set _ _ _ _).cell p6 (by simp), numAt_set HR.out.2.2.2 HR.out.2.1 p1 _⟩, (hB.grown hg1 hB.size (by simp)).setCell (p := ⟨w.heap.size + 1 + 1, 0, none⟩) (by simp; omega) _⟩
      rw [accP_snoc, if_neg (by decide)]
      exact img_set HR.out.1 HR.out.2.1 p1 _
    | true =>
      gi_wp2
      have n1 := img_set HR.out.1 HR.out.2.1 p1 (.slice (some ⟨sg, so, none⟩) n sc)
      have n3 := img_set HR.out.2.2.1 HR.out.2.1 p1 (.slice (some ⟨sg, so, none⟩) n sc)
      have n4 := numAt_set HR.out.2.2.2 HR.out.2.1 p1 (.slice (some ⟨sg, so, none⟩) n sc)
      have s1 : (W1.setCell ⟨w.heap.size + 1 + 1, 0, none⟩ (.slice (some ⟨sg, so, none⟩) n sc)).cell? ⟨w.heap.size + 1 + 1, 0, none⟩ = some (.slice (some ⟨sg, so, none⟩) n sc) := World.cell?_setCell_same' _ _ _ (by rw [p1]; rfl)
      have s2 : (W1.setCell ⟨w.heap.size + 1 + 1, 0, none⟩ (.slice (some ⟨sg, so, none⟩) n sc)).frozen? ⟨w.heap.size + 1 + 1, 0, none⟩ = false := by rw [World.frozen?_setCell]; exact p2
      have s4 := (gr_set W1 (w.heap.size + 1 + 1) 0 (.slice (some ⟨sg, so, none⟩) n sc)).cell p4 (by simp; omega)
      have s6 := (gr_set W1 (w.heap.size + 1 + 1) 0 (.slice (some ⟨sg, so, none⟩) n sc)).cell p6 (by simp)
      have sB := (hB.grown hg1 hB.size (by simp)).setCell (p := ⟨w.heap.size + 1 + 1, 0, none⟩) (by simp; omega) (.slice (some ⟨sg, so, none⟩) n sc)
      have sK : KeepsOthers W (W1.setCell ⟨w.heap.size + 1 + 1, 0, none⟩ (.slice (some ⟨sg, so, none⟩) n sc)) := (KeepsOthers.of_grownBy hg1 (by simp)).trans (KeepsOthers.setCell _ _ _)
      have sP : KpBox (w.heap.size + 1 + 1 + 1) W (W1.setCell ⟨w.heap.size + 1 + 1, 0, none⟩ (.slice (some ⟨sg, so, none⟩) n sc)) := fun u hu => (gr_set _ _ _ _).cell (hg1.cell hu (by simp)) (by simp)
      generalize W1.setCell ⟨w.heap.size + 1 + 1, 0, none⟩ (.slice (some ⟨sg, so, none⟩) n sc) = W2 at *
      have HN := Lib.hid (And.intro n1 (And.intro n3 n4))
      have HSK := Lib.hid (And.intro sK sP)
      clear n1 n3 n4 HR p1 p2 p4 p6 hg1 sK sP
      refine ⟨trivial, (CallsIn.inRound l (callsIn_wide.2 (mont_times bm om n cm inv M ms _ _ _ _ W2 HN.out.2.2 hsm hM0 hinv HN.out.1 HN.out.2.1))).mono ?_⟩
      rintro e' W3 ⟨r3, rfl, hr3, hg3⟩
      obtain ⟨tg, tof, tc, ts, rfl, hr3⟩ := hr3
      have t1 := hg3.cell s1 (by simp)
      have t2 : W3.frozen? ⟨w.heap.size + 1 + 1, 0, none⟩ = false := (World.frozen?_of_block (hg3.block _ (World.block_lt_of_cell? W2 _ s1) (by simp))).trans s2
      have t4 := hg3.cell s4 (by simp)
      have t6 := hg3.cell s6 (by simp)
      have hr3' : ImgOf W3 (.slice (some ⟨tg, tof, none⟩) n tc) n M _ := ⟨tg, tof, tc, ts, rfl, hr3⟩
      have HR3 := Lib.hid (And.intro hr3' (And.intro (HN.out.1.kept hg3) (And.intro (HN.out.2.1.kept hg3) (HN.out.2.2.kept hg3 (by simp)))))
      clear hr3 hr3' s1 s2 s4 s6
      gi_wp2
      refine ⟨HSK.out.1.trans ((KeepsOthers.of_grownBy hg3 (by simp)).trans (KeepsOthers.setCell _ _ _)), fun u hu => (gr_set _ _ _ _).cell (hg3.cell (HSK.out.2 u hu) (by simp)) (by simp), ⟨_, World.cell?_setCell_same' _ _ _ (by rw [t1]; rfl), by rw [World.frozen?_setCell]; exact t2, ?_, (gr_set _ _ _ _).cell t4 (by simp; omega), img_set HR3.out.2.2.1 HR3.out.2.1 t1 _, (gr_set _ _ _ _).cell t6 (by simp), numAt_set HR3.out.2.2.2 HR3.out.2.1 t1 _⟩, (sB.grown hg3 sB.size (by simp)).setCell (p := ⟨w.heap.size + 1 + 1, 0, none⟩) (by simp; omega) _⟩
      rw [accP_snoc, if_pos rfl]
      exact img_set HR3.out.1 HR3.out.2.1 t1 _
  case done =>
    rintro D ys' W hD rfl ⟨⟨v, q1, q2, q3, q4, q5, q6, q8⟩, hB⟩ hK
    have hBK := hB.trans (belowK_b (w := w) (Nat.le_refl _) W D _ (.deferred none) (by omega) hK rfl rfl)
    have hnv := img_own q3 (grownBy_putObj' W D (.deferred none)) (fun r e => by cases e; exact ⟨_, hK, rfl⟩)
    clear q3 q5 q8
    gi_wp2
    refine ⟨by simp, .inl ⟨_, _, rfl, run_takeDeferred hK, ?_⟩⟩
    exact ⟨_, results_tmp rfl _ _ _, v, rfl, hnv, below_gr hBK⟩
  case stop =>
    rintro D c pre W _ _ h _
    exact h.elim
  exact cell_kept hv (grownBy_putObj' W l o') (fun r e => by cases e; exact ⟨o, hl, ho⟩)
end Go.Proofs.YtoadjhmehgkeaaaGreatDoor
namespace Go.Proofs.YtoadjhmehgkeaaaGreatDoor
open Go.RowKit Mth

theorem inv_step {m x x' q d D W : Int} (h : d ∣ m * x - 1) (hD : D ∣ d * d) (hW : D ∣ W) (hx : x' = x * (2 - m * x) + W * q) : D ∣ m * x' - 1 := by
  obtain ⟨t, ht⟩ := h
  obtain ⟨s, hs⟩ := hD
  obtain ⟨u, hu⟩ := hW
  refine ⟨u * q * m - s * (t * t), ?_⟩
  subst hx hu
  have h1 : m * x = 1 + d * t := by omega
  have e1 : m * (x * (2 - m * x)) = 1 - d * d * (t * t) := by
    rw [← Int.mul_assoc, h1]
    grind
  grind

/-- How many bits are right after j rounds. -/
def rb : Nat → Nat
  | 0 => 3
  | 1 => 6
  | 2 => 12
  | 3 => 24
  | 4 => 48
  | _ => 96
def rd (j : Nat) : Int := if j < 5 then 2 ^ rb j else 18446744073709551616
theorem rd_step (j : Nat) (h : j < 5) : rd (j + 1) ∣ rd j * rd j ∧ rd (j + 1) ∣ 18446744073709551616 := by
  rcases j with _ | _ | _ | _ | _ | j
  · decide
  · decide
  · decide
  · decide
  · exact ⟨⟨4294967296, by decide⟩, ⟨1, by decide⟩⟩
  · omega
theorem odd_eight {m : Nat} (h : m % 2 = 1) : rd 0 ∣ (m : Int) * m - 1 := by
  have h8 : ((m : Int) * m - 1) % 8 = 0 := by
    have : (m : Int) % 8 = 1 ∨ (m : Int) % 8 = 3 ∨ (m : Int) % 8 = 5 ∨ (m : Int) % 8 = 7 := by omega
    rw [Int.sub_emod, Int.mul_emod]
    rcases this with h | h | h | h <;> rw [h] <;> decide
  exact Int.dvd_of_emod_eq_zero h8
theorem inv_end {M m x y z : Nat} (hM : M = m + W64 * z) (h : rd 5 ∣ (m : Int) * (x : Int) - 1) (hy : -(x : Int) % 18446744073709551616 = (y : Int)) : (M * y + 1) % W64 = 0 := by
  obtain ⟨t, ht⟩ := h
  rw [show rd 5 = 18446744073709551616 from rfl] at ht
  have hq := Int.emod_add_mul_ediv (-(x : Int)) 18446744073709551616
  rw [hy] at hq
  generalize -(x : Int) / 18446744073709551616 = q at hq
  have hM' : (M : Int) = m + 18446744073709551616 * z := by rw [hM, W64_eq]; simp
  have hd : (18446744073709551616 : Int) ∣ (M : Int) * y + 1 := by
    refine ⟨-t - m * q + z * y, ?_⟩
    have hy2 : (y : Int) = -x - 18446744073709551616 * q := by omega
    rw [hM']
    have e : (m : Int) * x = 1 + 18446744073709551616 * t := by omega
    grind
  have h2 : ((M * y + 1 : Nat) : Int) % 18446744073709551616 = 0 := by
    have := Int.emod_eq_zero_of_dvd hd
    simpa using this
  rw [W64_eq]
  omega

set_option maxHeartbeats 4000000 in
set_option maxRecDepth 100000 in
theorem montgomeryBy_any (bm om n cm M : Nat) (ms : List Nat) (w : World) (hm : NumAt w bm om n cm ms M) (hodd : gt ms om % 2 = 1) (hn0 : 0 < n) :
    Calls Tryz.prog 137 #[.slice (some ⟨bm, om, none⟩) n cm] w fun e w' => ∃ inv, e = .returned (mval (.slice (some ⟨bm, om, none⟩) n cm) inv) ∧ (M * inv + 1) % W64 = 0 ∧ w.grownBy w' none := by
  obtain ⟨m, hmv⟩ : ∃ m, m = gt ms om := ⟨_, rfl⟩
  rw [← hmv] at hodd
  have hfit := hm.fit
  have hcell : w.cell? ⟨bm, om, none⟩ = some (.int .u64 (m : Int)) := by rw [hmv]; exact hm.blk.cell (by omega)
  have h0 : rd 0 ∣ (m : Int) * (m : Int) - 1 := odd_eight hodd
  have hmW : m < W64 := by rw [hmv]; exact hm.dg _
  have HMV := Lib.hid hmv
  clear hmv
  go_enter Tryz.func137, Tryz.ntmps137
  have hcell1 := (gr_alloc w (.cells #[.slice none 0 0, .int .u64 0] 140) none).cell hcell (by simp)
  have hg1 := gr_alloc w (.cells #[.slice none 0 0, .int .u64 0] 140) none
  have hbx : (w.alloc (.cells #[.slice none 0 0, .int .u64 0] 140)).heap[w.heap.size]? = some (.cells #[.slice none 0 0, .int .u64 0] 140 (0, 0)) := heap_alloc_new _ _
  go_wp2_with fail
  obtain ⟨w1, hw1⟩ : ∃ w1, w1 = w.alloc (.cells #[.slice none 0 0, .int .u64 0] 140) := ⟨_, rfl⟩
  rw [← hw1] at hcell1 hg1 hbx ⊢
  have HW1 := Lib.hid hw1
  clear hw1
  go_loopw [3, 4] (fun v i wr => ∃ j x : Nat, j ≤ 5 ∧ i = .int .i64 ((rb j : Nat) : Int) ∧ v = .int .u64 (x : Int) ∧ wr = w1 ∧ Hid (rd j ∣ (m : Int) * (x : Int) - 1)) (fun _ i _ => 96 - (intOf i).toNat)
  case atStart => exact ⟨0, m, by omega, rfl, rfl, rfl, h0⟩
  case round =>
    obtain ⟨j, x, hj, rfl, rfl, rfl, HI⟩ := hrel
    by_cases hj5 : j < 5
    · obtain ⟨x', hx'⟩ : ∃ x' : Nat, (x' : Int) = ((x : Int) * (2 - (m : Int) * (x : Int))) % 18446744073709551616 := ⟨(((x : Int) * (2 - (m : Int) * (x : Int))) % 18446744073709551616).toNat, by omega⟩
      have hnext : rd (j + 1) ∣ (m : Int) * (x' : Int) - 1 := inv_step (W := 18446744073709551616) (q := -(((x : Int) * (2 - (m : Int) * (x : Int))) / 18446744073709551616)) HI.out (rd_step j hj5).1 (rd_step j hj5).2 (by rw [hx']; have := Int.emod_add_mul_ediv ((x : Int) * (2 - (m : Int) * (x : Int))) 18446744073709551616; omega)
      have HN := Lib.hid hnext
      have HX := Lib.hid hx'
      clear hx' hnext
      have hb64 : ((rb j : Nat) : Int) < 64 := by rcases j with _ | _ | _ | _ | _ | j <;> simp [rb] <;> omega
      have hb2 : ((rb j : Nat) : Int) * 2 = ((rb (j + 1) : Nat) : Int) := by rcases j with _ | _ | _ | _ | _ | j <;> simp [rb] <;> omega
      have hwr : IntKind.u64.wrap ((x : Int) * IntKind.u64.wrap (2 - IntKind.u64.wrap ((m : Int) * (x : Int)))) = (x' : Int) := by
        rw [wrap_mod, wrap_mod, wrap_mod, HX.out]
        have e1 : (2 - (m : Int) * (x : Int) % 18446744073709551616) % 18446744073709551616 = (2 - (m : Int) * (x : Int)) % 18446744073709551616 := by omega
        rw [e1, Int.mul_emod, Int.emod_emod_of_dvd _ (Int.dvd_refl _), ← Int.mul_emod]
      have hms : 96 - (intOf (Value.int IntKind.i64 ((rb (j + 1) : Nat) : Int))).toNat < 96 - (intOf (Value.int IntKind.i64 ((rb j : Nat) : Int))).toNat := by
        rcases j with _ | _ | _ | _ | _ | j
        · decide
        · decide
        · decide
        · decide
        · decide
        · omega
      have HWR := Lib.hid hwr
      clear hwr
      go_wp2
      exact ⟨⟨j + 1, x', by omega, rfl, by rw [HWR.out], trivial, HN⟩, hms⟩
    · obtain rfl : j = 5 := by omega
      rw [show rb 5 = 96 from rfl]
      have k0 : wr.cell? ⟨w.heap.size, 0, none⟩ = some (.slice none 0 0) := by rw [cell_of_row _ _ 0 _ _ _ hbx]; rfl
      have k1 : wr.cell? ⟨w.heap.size, 1, none⟩ = some (.int .u64 0) := by rw [cell_of_row _ _ 1 _ _ _ hbx]; rfl
      have f0 : wr.frozen? ⟨w.heap.size, 0, none⟩ = false := by unfold World.frozen?; rw [hbx]; rfl
      have f1 : wr.frozen? ⟨w.heap.size, 1, none⟩ = false := by unfold World.frozen?; rw [hbx]; rfl
      obtain ⟨y, hy⟩ : ∃ y : Nat, IntKind.u64.wrap (-(x : Int)) = (y : Int) := ⟨(IntKind.u64.wrap (-(x : Int))).toNat, by rw [wrap_mod]; omega⟩
      have hyv := hy
      rw [wrap_mod] at hyv
      have HY := Lib.hid hyv
      clear hyv
      have k1' : (wr.setCell ⟨w.heap.size, 0, none⟩ (.slice (some ⟨bm, om, none⟩) n cm)).cell? ⟨w.heap.size, 1, none⟩ = some (.int .u64 0) := by rw [World.cell?_setCell_other _ _ _ _ (by simp)]; exact k1
      have f1' : (wr.setCell ⟨w.heap.size, 0, none⟩ (.slice (some ⟨bm, om, none⟩) n cm)).frozen? ⟨w.heap.size, 1, none⟩ = false := by rw [World.frozen?_setCell]; exact f1
      go_wp2
      have hfin : (M * y + 1) % W64 = 0 := by
        refine inv_end (m := m) (x := x) (z := vs W64 ms (om + 1) (n - 1)) ?_ HI.out HY.out
        obtain ⟨k, rfl⟩ : ∃ k, n = k + 1 := ⟨n - 1, by omega⟩
        have hv := hm.val
        rw [vs_left, ← HMV.out] at hv
        rw [show k + 1 - 1 = k from rfl]
        exact hv.symm
      have r0 : ((wr.setCell ⟨w.heap.size, 0, none⟩ (.slice (some ⟨bm, om, none⟩) n cm)).setCell ⟨w.heap.size, 1, none⟩ (.int .u64 (y : Int))).cell? ⟨w.heap.size, 0, none⟩ = some (.slice (some ⟨bm, om, none⟩) n cm) := by rw [World.cell?_setCell_other _ _ _ _ (by simp)]; exact World.cell?_setCell_same' _ _ _ (by rw [k0]; rfl)
      have r1 : ((wr.setCell ⟨w.heap.size, 0, none⟩ (.slice (some ⟨bm, om, none⟩) n cm)).setCell ⟨w.heap.size, 1, none⟩ (.int .u64 (y : Int))).cell? ⟨w.heap.size, 1, none⟩ = some (.int .u64 (y : Int)) := World.cell?_setCell_same' _ _ _ (by rw [k1']; rfl)
      have hgf : w.grownBy ((wr.setCell ⟨w.heap.size, 0, none⟩ (.slice (some ⟨bm, om, none⟩) n cm)).setCell ⟨w.heap.size, 1, none⟩ (.int .u64 (y : Int))) none := gr_new (gr_new hg1 (gr_set _ _ _ _) (Nat.le_refl _)) (gr_set _ _ _ _) (Nat.le_refl _)
      refine bodyPost_ret (v := .agg #[.slice (some ⟨bm, om, none⟩) n cm, .int .u64 (y : Int)]) (by simp [results, Tryz.f137, go_sem, r0, r1]) rfl ⟨y, rfl, hfin, hgf⟩
end Go.Proofs.YtoadjhmehgkeaaaGreatDoor
namespace Go.Proofs.YtoadjhmehgkeaaaGreatDoor
open Go.RowKit Mth

set_option maxHeartbeats 8000000 in
set_option maxRecDepth 100000 in
theorem number_any (bm om n cm inv M : Nat) (ms : List Nat) (v : Value) (r : Nat) (w : World) (hm : NumAt w bm om n cm ms M) (hsm : n < 1099511627776) (hM0 : 0 < M) (hinv : (M * inv + 1) % W64 = 0) (hv : ImgOf w v n M r) :
    Calls Tryz.prog 138 #[mval (.slice (some ⟨bm, om, none⟩) n cm) inv, v] w fun e w' => ∃ g o c us, e = .returned (.slice (some ⟨g, o, none⟩) n c) ∧ n ≤ c ∧ c ≤ maxLen ∧ Blk .u64 96 w' g us ∧ o + n ≤ us.length ∧ Dg W64 us ∧ vs W64 us o n = r % M ∧ w.grownBy w' none := by
  obtain ⟨g1, o1, c1, us1, rfl, h11, h12, h13, h14⟩ := hv
  have hn0 : 0 < n := by
    rcases Nat.eq_zero_or_pos n with h | h
    · subst h; have := hm.val; simp [vs] at this; omega
    · exact h
  unfold mval
  have hbx : (w.alloc (.cells #[.slice (some ⟨bm, om, none⟩) n cm, .int .u64 (inv : Int)] 140)).heap[w.heap.size]? = some (.cells #[.slice (some ⟨bm, om, none⟩) n cm, .int .u64 (inv : Int)] 140 (0, 0)) := heap_alloc_new _ _
  have hg0 := gr_alloc w (.cells #[.slice (some ⟨bm, om, none⟩) n cm, .int .u64 (inv : Int)] 140) none
  have hsz1 : (w.alloc (.cells #[.slice (some ⟨bm, om, none⟩) n cm, .int .u64 (inv : Int)] 140)).heap.size = w.heap.size + 1 := by simp
  go_enter Tryz.func138, Tryz.ntmps138
  have hm1 := hm.kept hg0 (by simp)
  have h1 := h11.kept hg0 (by simp)
  have hc0 : (w.alloc (.cells #[.slice (some ⟨bm, om, none⟩) n cm, .int .u64 (inv : Int)] 140)).cell? ⟨w.heap.size, 0, none⟩ = some (.slice (some ⟨bm, om, none⟩) n cm) := by rw [cell_of_row _ _ 0 _ _ _ hbx]; rfl
  have hc1 : (w.alloc (.cells #[.slice (some ⟨bm, om, none⟩) n cm, .int .u64 (inv : Int)] 140)).cell? ⟨w.heap.size, 1, none⟩ = some (.int .u64 (inv : Int)) := by rw [cell_of_row _ _ 1 _ _ _ hbx]; rfl
  go_wp2_with fail
  generalize w.alloc (.cells #[.slice (some ⟨bm, om, none⟩) n cm, .int .u64 (inv : Int)] 140) = w1 at *
  have hg2 := gr_alloc w1.drew (.cells #[.int .u64 1] 96) none
  have hd0 : w1.drew.cell? ⟨w.heap.size, 0, none⟩ = some (.slice (some ⟨bm, om, none⟩) n cm) := hc0
  have hd1 : w1.drew.cell? ⟨w.heap.size, 1, none⟩ = some (.int .u64 (inv : Int)) := hc1
  have he0 := hg2.cell hd0 (by simp)
  have he1 := hg2.cell hd1 (by simp)
  have hb2 : Blk .u64 96 (w1.drew.alloc (.cells #[.int .u64 1] 96)) w1.drew.heap.size [1] := blk_one w1.drew .u64 96 1
  have hszd : w1.drew.heap.size = w.heap.size + 1 := hsz1
  rw [hszd] at hb2
  have HB2 := Lib.hid hb2
  have HM2 := Lib.hid ((hm1.kept (gr_drew w1 none) (by simp)).kept hg2 (by simp))
  have HV2 := Lib.hid ((h1.kept (gr_drew w1 none) (by simp)).kept hg2 (by simp))
  clear hb2 hm1 h1 hszd
  go_region_with (first
    | (go_at_call 160; refine (padded_any (some ⟨bm, om, none⟩) n cm inv (w.heap.size + 1) 0 1 1 [1] _ HB2.out (by simp) (dg_one (by decide)) (by omega) (by omega)).mono ?_; rintro e w3 ⟨g3, us3, rfl, hlt3, hrow3, hg3⟩; have hf0 := hg3.cell he0 (by simp); have hf1 := hg3.cell he1 (by simp); have HR3 := Lib.hid hrow3; clear hrow3)
    | (go_at_call 141; refine (mprod_any bm om n cm inv M ms g1 o1 c1 us1 g3 0 n us3 (r * W64 ^ n % M) w3 (HM2.out.kept hg3 (by simp)) hsm hinv (HV2.out.kept hg3 (by simp)) h12 h13 h14 (Nat.mod_lt _ hM0) HR3.out.blk (by rw [HR3.out.len]; omega) HR3.out.dg).mono ?_; rintro e w4 ⟨g4, us4, rfl, hlt4, hb4, hl4, hd4, hltM, hval, hg4⟩; have HU := Lib.hid (And.intro hl4 (And.intro hd4 (And.intro hltM hval))); clear hl4 hd4 hltM hval))
  all_goals
    go_wp2
    go_ret
    refine ⟨g4, n, n + 1, us4, rfl, by omega, by unfold maxLen; omega, hb4, by rw [HU.out.1]; omega, HU.out.2.1, ?_, gr_then hg0 (gr_then (gr_drew w1 none) (gr_then hg2 (gr_then hg3 hg4)))⟩
    have hval := HU.out.2.2.2
    rw [HR3.out.val, vs_one, Nat.mul_one, Nat.mod_mod] at hval
    have h2 := mod_cancel hval (coprime_W hinv n)
    rw [Nat.mod_eq_of_lt HU.out.2.2.1] at h2
    exact h2
end Go.Proofs.YtoadjhmehgkeaaaGreatDoor
namespace Go.Proofs.YtoadjhmehgkeaaaGreatDoor
open Go.RowKit Mth

theorem Row.img {w : World} {g n M A : Nat} {us : List Nat} (h : Row w g n (A * W64 ^ n % M) us) : ImgOf w (.slice (some ⟨g, 0, none⟩) n n) n M A := ⟨g, 0, n, us, rfl, h.blk, by rw [h.len]; omega, h.dg, h.val⟩

theorem numAt_one (w : World) : NumAt (w.alloc (.cells #[.int .u64 1] 96)) w.heap.size 0 1 1 [1] 1 :=
  ⟨blk_one w .u64 96 1, by simp, dg_one (by decide), vs_one _ _, .inr (by simp [gt]), Nat.le_refl _, by decide, by omega⟩

set_option maxHeartbeats 16000000 in
set_option maxRecDepth 100000 in
theorem powerByOdd_any (bm om n cm M : Nat) (ms : List Nat) (ba oa na ca A : Nat) (xs : List Nat) (e : ByteArray) (w : World) (hm : NumAt w bm om n cm ms M) (hodd : gt ms om % 2 = 1) (hn0 : 0 < n) (ha : NumAt w ba oa na ca xs A) (hna : na ≤ 137438953473) (hn : n ≤ 137438953473) (hsz : e.size ≤ 1000000000000) :
    Calls Tryz.prog 89 #[.slice (some ⟨ba, oa, none⟩) na ca, .string e, .slice (some ⟨bm, om, none⟩) n cm] w fun x w' => ∃ g o c us, x = .returned (.slice (some ⟨g, o, none⟩) n c) ∧ n ≤ c ∧ c ≤ maxLen ∧ Blk .u64 96 w' g us ∧ o + n ≤ us.length ∧ Dg W64 us ∧ vs W64 us o n = accP M A (bitsTop (num e.data.toList) (bitsN (num e.data.toList))) % M ∧ w.grownBy w' none := by
  have hM0 : 0 < M := hm.pos hn0
  go_enter Tryz.func89, Tryz.ntmps89
  go_wp2_with fail
  refine (montgomeryBy_any bm om n cm M ms w hm hodd hn0).mono ?_
  rintro x w1 ⟨inv, rfl, hinv, hg1⟩
  unfold mval
  go_wp2_with fail
  obtain ⟨W2, hW2⟩ : ∃ W2, W2 = w1.alloc (.cells #[.slice (some ⟨bm, om, none⟩) n cm, .int .u64 (inv : Int)] 140) := ⟨_, rfl⟩
  have hbx : W2.heap[w1.heap.size]? = some (.cells #[.slice (some ⟨bm, om, none⟩) n cm, .int .u64 (inv : Int)] 140 (0, 0)) := by rw [hW2]; exact heap_alloc_new _ _
  have hg2 : w1.grownBy W2 none := by rw [hW2]; exact gr_alloc _ _ _
  rw [← hW2]
  clear hW2
  have hc0 : W2.drew.cell? ⟨w1.heap.size, 0, none⟩ = some (.slice (some ⟨bm, om, none⟩) n cm) := by rw [cell_of_row _ _ 0 _ _ _ (show W2.drew.heap[w1.heap.size]? = _ from hbx)]; rfl
  have hc1 : W2.drew.cell? ⟨w1.heap.size, 1, none⟩ = some (.int .u64 (inv : Int)) := by rw [cell_of_row _ _ 1 _ _ _ (show W2.drew.heap[w1.heap.size]? = _ from hbx)]; rfl
  have hgd : w.grownBy W2.drew none := gr_then hg1 (gr_then hg2 (gr_drew _ _))
  have HMd := Lib.hid (hm.kept hgd (by simp))
  have HAd := Lib.hid (ha.kept hgd (by simp))
  have hgo : W2.drew.grownBy (W2.alloc (.cells #[.int .u64 1] 96)).drew none := gr_alloc W2.drew (.cells #[.int .u64 1] 96) none
  have hone : NumAt (W2.alloc (.cells #[.int .u64 1] 96)).drew W2.heap.size 0 1 1 [1] 1 := numAt_one W2.drew
  have HONE0 := Lib.hid hone
  clear hone
  have hd0 := hgo.cell hc0 (by simp)
  have hd1 := hgo.cell hc1 (by simp)
  clear hbx hg2
  go_region_held3 (fun w' => w'.cell? ⟨w1.heap.size, 0, none⟩ = some (.slice (some ⟨bm, om, none⟩) n cm) ∧ w'.cell? ⟨w1.heap.size, 1, none⟩ = some (.int .u64 (inv : Int))) (first | exact ⟨hc0, hc1⟩ | exact ⟨hd0, hd1⟩ | go_keep)
    (first
      | (go_at_call_of 140 (Value.slice (some ⟨ba, oa, none⟩) na ca); have hp := image_any bm om n cm inv M ms ba oa na ca A xs W2.drew HMd.out hM0 HAd.out hna hn; unfold mval at hp; with_reducible refine hp.mono ?_; clear hp; rintro e4 w4 ⟨g4, us4, rfl, hlt4, hrow4, hg4⟩; have hi0 := hg4.cell hc0 (by simp); have hi1 := hg4.cell hc1 (by simp); have hgo4 := gr_alloc w4 (.cells #[.int .u64 1] 96) none; have hk0 := hgo4.cell hi0 (by simp); have hk1 := hgo4.cell hi1 (by simp); have HI4 := Lib.hid hrow4.img; have HM4 := Lib.hid ((HMd.out.kept hg4 (by simp)).kept hgo4 (by simp)); have HONE := Lib.hid (numAt_one w4); clear hrow4)
      | (go_at_call_of 140 (Value.slice (some ⟨ba, oa, none⟩) na ca); have hp := image_any bm om n cm inv M ms ba oa na ca A xs (W2.alloc (.cells #[.int .u64 1] 96)).drew (HMd.out.kept hgo (by simp)) hM0 (HAd.out.kept hgo (by simp)) hna hn; unfold mval at hp; with_reducible refine hp.mono ?_; clear hp; rintro e4 w4 ⟨g4, us4, rfl, hlt4, hrow4, hg4r⟩; have hk0 := hg4r.cell hd0 (by simp); have hk1 := hg4r.cell hd1 (by simp); have hg4 := gr_then hgo hg4r; have hgo4 := World.grownBy.refl w4 none; have HI4 := Lib.hid hrow4.img; have HM4 := Lib.hid ((HMd.out.kept hgo (by simp)).kept hg4r (by simp)); have HONE := Lib.hid (HONE0.out.kept hg4r (by simp)); clear hrow4)
      | (go_at_call_of 140 (Value.slice (some ⟨w4.heap.size, 0, none⟩) 1 1); have hp := image_any bm om n cm inv M ms w4.heap.size 0 1 1 1 [1] _ HM4.out hM0 HONE.out (by omega) hn; unfold mval at hp; refine hp.mono ?_; clear hp; rintro e5 w5 ⟨g5, us5, rfl, hlt5, hrow5, hg5⟩; have hl0 := hg5.cell hk0 (by simp); have hl1 := hg5.cell hk1 (by simp); have HI5 := Lib.hid hrow5.img; clear hrow5)
      | (go_at_call_of 140 (Value.slice (some ⟨W2.heap.size, 0, none⟩) 1 1); have hp := image_any bm om n cm inv M ms W2.heap.size 0 1 1 1 [1] w4 HM4.out hM0 HONE.out (by omega) hn; unfold mval at hp; refine hp.mono ?_; clear hp; rintro e5 w5 ⟨g5, us5, rfl, hlt5, hrow5, hg5⟩; have hl0 := hg5.cell hk0 (by simp); have hl1 := hg5.cell hk1 (by simp); have HI5 := Lib.hid hrow5.img; clear hrow5)
      | (go_at_call 139; have hp := power_mont (.slice (some ⟨g4, 0, none⟩) n n) (.slice (some ⟨g5, 0, none⟩) n n) bm om n cm inv M ms A e w5 ((HI4.out.kept hgo4).kept hg5) HI5.out (HM4.out.kept hg5 (by simp)) (by omega) hM0 hinv hsz; unfold mval at hp; refine hp.mono ?_; clear hp; rintro e6 w6 ⟨r6, rfl, hr6, hg6⟩; have hm0 := hg6.cell hl0 (by simp); have hm1 := hg6.cell hl1 (by simp); have HR6 := Lib.hid hr6; clear hr6)
      | (go_at_call 138; have hp := number_any bm om n cm inv M ms r6 _ w6 ((HM4.out.kept hg5 (by simp)).kept hg6 (by simp)) (by omega) hM0 hinv HR6.out; unfold mval at hp; refine hp.mono ?_; clear hp; rintro e7 w7 ⟨g7, o7, c7, us7, rfl, hnc7, hcm7, hb7, hf7, hd7, hv7, hg7⟩; have ho0 := hg7.cell hm0 (by simp); have ho1 := hg7.cell hm1 (by simp); have HU7 := Lib.hid (And.intro hnc7 (And.intro hcm7 (And.intro hb7 (And.intro hf7 (And.intro hd7 hv7))))); clear hnc7 hcm7 hb7 hf7 hd7 hv7))
  all_goals
    go_wp2
    go_ret
    exact ⟨g7, o7, c7, us7, rfl, HU7.out.1, HU7.out.2.1, HU7.out.2.2.1, HU7.out.2.2.2.1, HU7.out.2.2.2.2.1, HU7.out.2.2.2.2.2, gr_then hgd (gr_then hg4 (gr_then hgo4 (gr_then hg5 (gr_then hg6 hg7))))⟩
end Go.Proofs.YtoadjhmehgkeaaaGreatDoor
namespace Go.Proofs.YtoadjhmehgkeaaaGreatDoor
open Go.RowKit Go.Shelf Mth

set_option maxHeartbeats 2000000 in
theorem pow_odd (s e t : ByteArray) (w : World) (hs : s.size ≤ 1000000000000) (he : e.size ≤ 1000000000000) (ht : t.size ≤ 1000000000000) (h1 : 0 < num t.data.toList) (hodd : num t.data.toList % 2 = 1) :
    Calls Tryz.prog 30 #[.string s, .string e, .string t] w fun x w' => x = .returned (.tuple #[.string ⟨(enc (accP (num t.data.toList) (num s.data.toList % num t.data.toList) (bitsTop (num e.data.toList) (bitsN (num e.data.toList))))).toArray⟩, .bool true]) ∧ w.grownBy w' none := by
  obtain ⟨y, hy⟩ : ∃ y, y = num t.data.toList := ⟨_, rfl⟩
  have HY := Lib.hid hy
  rw [← hy] at h1 hodd ⊢
  have hacc0 := accP_lt h1 (num s.data.toList % y) (bitsTop (num e.data.toList) (bitsN (num e.data.toList)))
  have HACC0 := Lib.hid hacc0
  clear hacc0
  obtain ⟨acc, hacc⟩ : ∃ acc, acc = (⟨(enc (accP y (num s.data.toList % y) (bitsTop (num e.data.toList) (bitsN (num e.data.toList))))).toArray⟩ : ByteArray) := ⟨_, rfl⟩
  rw [← hacc]
  have HACC := Lib.hid hacc
  clear hy hacc
  go_enter Tryz.func30, Tryz.ntmps30
  go_wp2_with fail
  refine (wordsOf_any t w (by omega)).mono ?_
  rintro x w1 ⟨b1, ys, rfl, hlt1, hb1, hg1, hw1, hsz1⟩
  rw [← HY.out] at hw1
  have hpos : 0 < ys.length := words_pos hw1 h1
  obtain ⟨z, hz⟩ : ∃ z, z = gt ys 0 := ⟨_, rfl⟩
  have hpz : z % 2 = y % 2 := by rw [hz]; exact words_odd hw1 hpos
  have hM : y < W64 ^ ys.length := hw1.lt
  obtain ⟨n, hn⟩ : ∃ n, n = ys.length := ⟨_, rfl⟩
  have hn1 := NumAt.of_words hb1 hw1 (by omega)
  have hcell : w1.cell? ⟨b1, 0, none⟩ = some (.int .u64 (z : Int)) := by rw [hb1.cell hpos, hz]
  have hb0 : ((n : Int) == 0) = false := by rw [beq_eq_false_iff_ne]; omega
  have hnK : n ≤ 137438953473 := by omega
  rw [← hn] at hn1 hM hpos ⊢
  have HN1 := Lib.hid hn1
  have HZ := Lib.hid hz
  have HMY := Lib.hid hM
  clear hn1 hw1 hsz1 hz hM hn
  go_wp2_with fail
  refine (wordsOf_any s w1 (by omega)).mono ?_
  rintro x w2 ⟨b2, xs, rfl, hlt2, hb2, hg2, hw2, hsz2⟩
  have HN2 := Lib.hid (Num.of_words hb2 hw2 (by omega))
  have hcell2 := hg2.cell hcell (by simp)
  clear hcell
  have hnm2 : Num w2 (.slice (some ⟨b1, 0, none⟩) n n) y := ⟨b1, 0, n, n, ys, rfl, HN1.out.kept hg2 (by simp)⟩
  have HNM2 := Lib.hid hnm2
  clear hnm2
  go_wp2_with fail
  refine (divide_all _ _ _ _ w2 HN2.out HNM2.out (by omega)).mono ?_
  rintro x w3 ⟨q, r, rfl, hq, hr, hg3⟩
  obtain ⟨g3, o3, m3, c3, zs, rfl, hr⟩ := hr
  have HR := Lib.hid hr
  have hle3 : m3 ≤ n := hr.len_le (Nat.lt_trans (Nat.mod_lt _ h1) HMY.out)
  have hcell3 := hg3.cell hcell2 (by simp)
  have hpar : (((z : Int) % 2) == 1) = true := by rw [beq_iff_eq]; omega
  clear hq hr hcell2
  go_wp2_with fail
  refine (powerByOdd_any b1 0 n n y ys g3 o3 m3 c3 _ zs e w3 ((HN1.out.kept hg2 (by simp)).kept hg3 (by simp)) (by rw [← HZ.out]; omega) (by omega) HR.out (by omega) (by omega) he).mono ?_
  rintro x w4 ⟨g4, o4, c4, us4, rfl, hnc4, hcm4, hb4, hf4, hd4, hv4, hg4⟩
  rw [Nat.mod_eq_of_lt HACC0.out] at hv4
  have HV4 := Lib.hid hv4
  have HF4 := Lib.hid (And.intro hnc4 (And.intro hcm4 (And.intro hb4 (And.intro hf4 hd4))))
  clear hv4 hnc4 hcm4 hb4 hf4 hd4
  go_wp2_with fail
  refine (natOf_any g4 o4 n c4 us4 w4 HF4.out.2.2.1 HF4.out.2.2.2.1 HF4.out.2.2.2.2 HF4.out.1 HF4.out.2.1 (by omega)).mono ?_
  rintro x w5 ⟨rfl, hg5⟩
  rw [HV4.out, ← HACC.out]
  go_wp2
  go_ret2
  exact ⟨rfl, gr_then hg1 (gr_then hg2 (gr_then hg3 (gr_then hg4 hg5)))⟩
end Go.Proofs.YtoadjhmehgkeaaaGreatDoor
namespace Go.Proofs.YtoadjhmehgkeaaaGreatDoor
open Go.RowKit Mth

theorem gcd_zero (s t : ByteArray) (w : World) (hs : s.size ≤ 1000000000000) (ht : t.size ≤ 1000000000000) (h0 : num t.data.toList = 0) :
    Calls Tryz.prog 28 #[.string s, .string t] w fun e w' => e = .returned (.string ⟨(enc (num s.data.toList)).toArray⟩) ∧ w.grownBy w' none := by
  have H0 := Lib.hid h0
  clear h0
  go_enter Tryz.func28, Tryz.ntmps28
  go_wp2_with fail
  refine (wordsOf_any s w (by omega)).mono ?_
  rintro e w1 ⟨b1, xs, rfl, hlt1, hb1, hg1, hw1, hsz1⟩
  go_wp2_with fail
  refine (wordsOf_any t w1 (by omega)).mono ?_
  rintro e w2 ⟨b2, ys, rfl, hlt2, hb2, hg2, hw2, hsz2⟩
  have hpos : ys.length = 0 := by
    rcases Nat.eq_zero_or_pos ys.length with h | h
    · exact h
    · have := hw2.ge h; have := Nat.pow_pos (n := ys.length - 1) W64_pos; have := H0.out; omega
  have hn1 := (Num.of_words hb1 hw1 (by omega)).kept hg2
  rw [hpos]
  have HN1 := Lib.hid hn1
  clear hn1 hpos
  go_wp2_with fail
  go_loopw [5, 6] (fun u v wr => u = .slice (some ⟨b1, 0, none⟩) xs.length xs.length ∧ v = .slice (some ⟨b2, 0, none⟩) 0 0 ∧ wr = w2) (fun _ _ _ => 0)
  case atStart => exact ⟨rfl, rfl, rfl⟩
  case round =>
    obtain ⟨rfl, rfl, rfl⟩ := hrel
    go_wp2_with fail
    refine (natOf_num _ _ _ (.inr HN1.out)).mono ?_
    rintro e w3 ⟨rfl, hg3⟩
    go_wp2
    go_ret
    exact ⟨rfl, gr_then hg1 (gr_then hg2 hg3)⟩

theorem natOf_one (n : Nat) (w : World) (h : n < W64) :
    Calls Tryz.prog 73 #[.slice (some ⟨w.heap.size, 0, none⟩) 1 1] (w.alloc (.cells #[.int .u64 (n : Int)] 96)) fun e w' => e = .returned (.string ⟨(enc n).toArray⟩) ∧ w.grownBy w' none := by
  have := natOf_any w.heap.size 0 1 1 [n] _ (blk_one w .u64 96 n) (by simp) (dg_one h) (Nat.le_refl _) (by decide) (by omega)
  rw [vs_one] at this
  exact this.mono fun _ _ ⟨h1, h2⟩ => ⟨h1, gr_then (gr_alloc _ _ _) h2⟩

set_option maxHeartbeats 4000000 in
theorem gcd_word (s t : ByteArray) (w : World) (hs : s.size ≤ 1000000000000) (ht : t.size ≤ 1000000000000) (h0 : 0 < num t.data.toList) (h1 : num t.data.toList < W64) :
    Calls Tryz.prog 28 #[.string s, .string t] w fun e w' => e = .returned (.string ⟨(enc (Nat.gcd (num s.data.toList) (num t.data.toList))).toArray⟩) ∧ w.grownBy w' none := by
  obtain ⟨y, hy⟩ : ∃ y, y = num t.data.toList := ⟨_, rfl⟩
  have HY := Lib.hid hy
  rw [← hy] at h0 h1
  clear hy
  go_enter Tryz.func28, Tryz.ntmps28
  go_wp2_with fail
  refine (wordsOf_any s w (by omega)).mono ?_
  rintro e w1 ⟨b1, xs, rfl, hlt1, hb1, hg1, hw1, hsz1⟩
  go_wp2_with fail
  refine (wordsOf_any t w1 (by omega)).mono ?_
  rintro e w2 ⟨b2, ys, rfl, hlt2, hb2, hg2, hw2, hsz2⟩
  rw [← HY.out] at hw2
  have hpos : ys.length = 1 := (NumAt.of_words hb2 hw2 (by omega)).len_one h0 h1
  have hyv := (words_one hw2 hpos).1
  have hcell : w2.cell? ⟨b2, 0, none⟩ = some (.int .u64 (y : Int)) := by rw [hb2.cell (by omega), hyv]
  have hb1k := hb1.kept hg2 (by simp)
  have hne : b1 ≠ b2 := by have := hb1.lt; omega
  rw [hpos]
  have HW := Lib.hid hw1
  have hdx := hw1.dg
  have hg12 := gr_then hg1 hg2
  clear hpos hyv hw1 hw2
  go_wp2_with fail
  go_loopw [5, 6] (fun u v wr => u = .slice (some ⟨b1, 0, none⟩) xs.length xs.length ∧ v = .slice (some ⟨b2, 0, none⟩) 1 1 ∧ wr = w2) (fun _ _ _ => 0)
  case atStart => exact ⟨rfl, rfl, rfl⟩
  case round =>
    obtain ⟨rfl, rfl, rfl⟩ := hrel
    go_wp2_with fail
    go_region_with (first
      | (go_at_call 88; refine (divideInPlace_any b1 0 xs.length xs.length y xs _ (by exact hb1k) (by omega) hdx (by omega) h0 h1).mono ?_; rintro e w3 ⟨r, zs, rfl, hb3, hg3, hdv⟩; have hc3 := hg3.cell (a := ⟨b2, 0, none⟩) hcell (by simp; omega))
      | (go_at_call 87; refine (gcdOfWords_any y r _ h1 (Nat.lt_trans hdv.2.2.1 h1)).mono ?_; rintro e w4 ⟨rfl, hq4⟩; have hgW : Nat.gcd y r < W64 := Nat.lt_of_le_of_lt (Nat.gcd_le_left r h0) h1; generalize hG : Nat.gcd y r = gg at hgW; have HG := Lib.hid hG; clear hG)
      | (go_at_call 73; refine (natOf_one gg w4 hgW).mono ?_; rintro e w5 ⟨rfl, hg5⟩))
    all_goals
      go_wp2
      go_ret
      refine ⟨?_, ?_⟩
      · have hd4 := hdv.2.2.2
        rw [HW.out.val] at hd4
        have hgcd : gg = Nat.gcd (num s.data.toList) (num t.data.toList) := by
          have hmod : num s.data.toList % y = r := by rw [hd4, Nat.mul_add_mod, Nat.mod_eq_of_lt hdv.2.2.1]
          have hrec := Nat.gcd_rec y (num s.data.toList)
          rw [hmod] at hrec
          rw [← HG.out, ← HY.out, Nat.gcd_comm (num s.data.toList) y, hrec, Nat.gcd_comm]
        rw [← hgcd]; rfl
      · have hq := hq4.gr none
        have hga := gr_then hg12 (gr_drew _ none)
        exact gr_then (gr_then (gr_new hga hg3 hlt1) hq) hg5
end Go.Proofs.YtoadjhmehgkeaaaGreatDoor
