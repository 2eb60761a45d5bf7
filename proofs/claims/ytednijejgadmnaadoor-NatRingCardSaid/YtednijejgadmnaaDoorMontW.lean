/- The contract of nat.power over Montgomery's product. -/
import Derived.Test.YtednijejgadmnaaDoorImage
namespace Go.Proofs.YtednijejgadmnaaDoor
open Go.RowKit Go.Shelf Mth

theorem img_own {W W' : World} {v : Value} {n M r : Nat} {row : Option Nat} (h : ImgOf W v n M r) (hg : W.grownBy W' row) (hrow : ∀ r, row = some r → ∃ o : Obj, W.heap[r]? = some o ∧ o.isCells = false) : ImgOf W' v n M r := by
  obtain ⟨g, o, c, us, rfl, hb, h⟩ := h
  refine ⟨g, o, c, us, rfl, hb.kept hg ?_, h⟩
  intro e
  obtain ⟨o, ho, hc⟩ := hrow g e.symm
  unfold Blk at hb
  rw [hb] at ho
  obtain rfl := Option.some.inj ho
  simp [Obj.isCells] at hc
theorem numAt_own {W W' : World} {g off m c N : Nat} {xs : List Nat} {row : Option Nat} (h : NumAt W g off m c xs N) (hg : W.grownBy W' row) (hrow : ∀ r, row = some r → ∃ o : Obj, W.heap[r]? = some o ∧ o.isCells = false) : NumAt W' g off m c xs N := by
  refine h.kept hg ?_
  intro e
  obtain ⟨o, ho, hc⟩ := hrow g e.symm
  have hb := h.blk
  unfold Blk at hb
  rw [hb] at ho
  obtain rfl := Option.some.inj ho
  simp [Obj.isCells] at hc
theorem img_set {W : World} {x v : Value} {n M r K B n' M' : Nat} (h : ImgOf W x n M r) (hx : ImgOf W v n' M' K) (hv : W.cell? ⟨B, 0, none⟩ = some v) (u : Value) : ImgOf (W.setCell ⟨B, 0, none⟩ u) x n M r := by
  obtain ⟨_, _, _, _, rfl, _⟩ := hx
  obtain ⟨g, o, c, us, rfl, hb, h⟩ := h
  exact ⟨g, o, c, us, rfl, hb.kept (gr_set _ _ _ _) (by have := blk_ne hb hv; simpa using this), h⟩
theorem numAt_set {W : World} {v : Value} {g off m c N K B n' M' : Nat} {xs : List Nat} (h : NumAt W g off m c xs N) (hx : ImgOf W v n' M' K) (hv : W.cell? ⟨B, 0, none⟩ = some v) (u : Value) : NumAt (W.setCell ⟨B, 0, none⟩ u) g off m c xs N := by
  obtain ⟨_, _, _, _, rfl, _⟩ := hx
  exact h.kept (gr_set _ _ _ _) (by have := blk_ne h.blk hv; simpa using this)

attribute [local go_sem] Oper.semAt_some
set_option maxRecDepth 100000 in
set_option maxHeartbeats 2000000 in
theorem power_mont (vb vo : Value) (bm om n cm inv M : Nat) (ms : List Nat) (b : Nat) (e : ByteArray) (w : World) (hb : ImgOf w vb n M b) (ho : ImgOf w vo n M 1) (hm : NumAt w bm om n cm ms M) (hsm : n < 1099511627776) (hM0 : 0 < M) (hinv : (M * inv + 1) % W64 = 0) (hsz : e.size ≤ 1000000000000) :
    Calls Tryd.prog 69 #[vb, vo, .string e, .func (.func 71) #[mval (.slice (some ⟨bm, om, none⟩) n cm) inv] #[]] w fun x w' => ∃ r, x = .returned r ∧ ImgOf w' r n M (accP M b (bitsTop (num e.data.toList) (bitsN (num e.data.toList)))) ∧ w.grownBy w' none := by
  obtain ⟨g1, o1, c1, xs, rfl, hb⟩ := hb
  obtain ⟨g2, o2, c2, ys, rfl, ho⟩ := ho
  have HB := Lib.hid hb
  have HO := Lib.hid ho
  have HM := Lib.hid hm
  clear hb ho hm
  refine (callsIn_wide (n := 5)).1 ?_
  refine callsIn_of_wp_marks Tryd.func69 rfl trivial ?_ rfl
  simp only [Tryd.ntmps69, List.size_toArray, List.length_cons, List.length_nil, Nat.reduceAdd, Nat.reduceSub, Array.replicate_succ, Array.replicate_zero, List.push_toArray, List.append_toArray, List.nil_append, List.cons_append]
  gi_wp2
  refine ⟨trivial, (callsIn_wide.2 (bitsFromTop_any _ _)).mono ?_⟩
  rintro e' w' ⟨rfl, rfl⟩
  obtain ⟨W0, hW0⟩ : ∃ W0, W0 = (((w.alloc (Obj.cells #[Value.slice (some ⟨g1, o1, none⟩) n c1] 51)).alloc (Obj.cells #[(.func (.func 71) #[mval (.slice (some ⟨bm, om, none⟩) n cm) inv] #[] : Value)] 52)).alloc (Obj.cells #[Value.slice (some ⟨g2, o2, none⟩) n c2] 51)).alloc (Obj.cells #[.string e] 24) := ⟨_, rfl⟩
  obtain ⟨hs0, k0, k1, k2, k3, f2, hg0⟩ := boxes4 w _ _ _ _ _ _ _ _ W0 hW0
  rw [← hW0]
  simp only [World.size_alloc]
  clear hW0
  gi_wp2
  have hn1 : ImgOf W0 (.slice (some ⟨g1, o1, none⟩) n c1) n M b := ⟨g1, o1, c1, xs, rfl, HB.out.1.kept hg0 (by simp), HB.out.2⟩
  have hn2 : ImgOf W0 (.slice (some ⟨g2, o2, none⟩) n c2) n M 1 := ⟨g2, o2, c2, ys, rfl, HO.out.1.kept hg0 (by simp), HO.out.2⟩
  have hnm : NumAt W0 bm om n cm ms M := HM.out.kept hg0 (by simp)
  have hbb : Below w.heap.size w W0 := ⟨hg0.os, hg0.tape, hg0.output, hg0.size, fun k hk => hg0.block k hk (by simp)⟩
  refine wpIn_rangeFunc_ownF rfl (by omega) (gf := 98) (lb := #[.pointer (some ⟨w.heap.size + 1 + 1 + 1, 0, none⟩)]) rfl trivial (enters_of Tryd.func98 (by kernel_rfl) rfl)
    (bits_stops 4 (w.heap.size + 1 + 1 + 1) e W0 k3 hsz) (fun h k v hv => k v (h v hv)) (fun W l o o' _ hl ho _ v hv => ?_) (Below.refl _ _) (fun _ => rfl)
    (fun pre W => (∃ v, W.cell? ⟨w.heap.size + 1 + 1, 0, none⟩ = some v ∧ W.frozen? ⟨w.heap.size + 1 + 1, 0, none⟩ = false ∧ ImgOf W v n M (accP M b pre) ∧ W.cell? ⟨w.heap.size, 0, none⟩ = some (.slice (some ⟨g1, o1, none⟩) n c1) ∧ ImgOf W (.slice (some ⟨g1, o1, none⟩) n c1) n M b ∧ W.cell? ⟨w.heap.size + 1, 0, none⟩ = some (.func (.func 71) #[mval (.slice (some ⟨bm, om, none⟩) n cm) inv] #[]) ∧ NumAt W bm om n cm ms M) ∧ Below w.heap.size w W)
    (fun _ _ _ => False)
    (OwnFrom.and (Own.from (fun s A B row hs hg hr => by obtain ⟨v, q1, q2, q3, q4, q5, q6, q8⟩ := hs; exact ⟨v, cell_kept q1 hg hr, (frozen_kept q1 hg hr).trans q2, img_own q3 hg hr, cell_kept q4 hg hr, img_own q5 hg hr, cell_kept q6 hg hr, numAt_own q8 hg hr⟩) _) (ownFrom_below (Nat.le_refl _) (by omega)))
    (fun _ _ _ _ _ hs _ _ => hs)
    ⟨⟨_, k2, f2, hn2.congr (by rw [show accP M b [] = 1 % M from rfl, Nat.mod_mod]), k0, hn1, k1, hnm⟩, hbb⟩
    (fun x => { tmps := #[.slice (some ⟨g1, o1, none⟩) n c1, .slice (some ⟨g2, o2, none⟩) n c2, .string e, .func (.func 71) #[mval (.slice (some ⟨bm, om, none⟩) n cm) inv] #[], .pointer (some ⟨w.heap.size, 0, none⟩), undef, undef, .pointer (some ⟨w.heap.size + 1, 0, none⟩), .slice none 0 0, .pointer (some ⟨w.heap.size + 1 + 1, 0, none⟩), .bool x, .slice (some ⟨g2, o2, none⟩) n c2, .string e, .func (.func 98) #[] #[.pointer (some ⟨w.heap.size + 1 + 1 + 1, 0, none⟩)], .bool x, undef, undef, undef, undef, undef, undef, undef, undef, undef, undef], defers := [] }) ?assign ?body ?done ?stop
  case assign =>
    intro l x W K hK
    gi_wp2
    exact hK
  case body =>
    rintro l pre x W ⟨⟨v, q1, q2, q3, q4, q5, q6, q8⟩, hB⟩ _
    have hne0 : w.heap.size ≠ w.heap.size + 1 + 1 := by omega
    have hne1 : w.heap.size + 1 ≠ w.heap.size + 1 + 1 := by omega
    have hne3 : w.heap.size + 1 + 1 + 1 ≠ w.heap.size + 1 + 1 := by omega
    have HI := Lib.hid (And.intro q3 (And.intro q5 q8))
    clear q3 q5 q8 k0 k1 k2 k3 f2 hn1 hn2 hnm hbb hg0 hs0
    gi_wp2
    refine ⟨trivial, (CallsIn.inRound l (callsIn_wide.2 (mont_times bm om n cm inv M ms v v _ _ W HI.out.2.2 hsm hM0 hinv HI.out.1 HI.out.1))).mono ?_⟩
    rintro e' W1 ⟨r, rfl, hr, hg1⟩
    obtain ⟨sg, so, sc, ss, rfl, hr⟩ := hr
    have p1 := hg1.cell q1 (by simp)
    have p2 : W1.frozen? ⟨w.heap.size + 1 + 1, 0, none⟩ = false := (World.frozen?_of_block (hg1.block _ (World.block_lt_of_cell? W _ q1) (by simp))).trans q2
    have p4 := hg1.cell q4 (by simp)
    have p6 := hg1.cell q6 (by simp)
    have hv1 := HI.out.1.kept hg1
    have hb1 := HI.out.2.1.kept hg1
    have hm1 := HI.out.2.2.kept hg1 (by simp)
    have hr : ImgOf W1 (.slice (some ⟨sg, so, none⟩) n sc) n M _ := ⟨sg, so, sc, ss, rfl, hr⟩
    have HR := Lib.hid (And.intro hr (And.intro hv1 (And.intro hb1 hm1)))
    clear hr hv1 hb1 hm1 q1 q2 q4 q6
    cases x with
    | false =>
      gi_wp2
      refine ⟨(KeepsOthers.of_grownBy hg1 (by simp)).trans (KeepsOthers.setCell _ _ _), fun u hu => (gr_set _ _ _ _).cell (hg1.cell hu (by simp)) (by simp), ⟨_, World.cell?_setCell_same' _ _ _ (by rw [p1]; rfl), by rw [World.frozen?_setCell]; exact p2, ?_, (gr_set _ _ _ _).cell p4 (by simp; omega), img_set HR.out.2.2.1 HR.out.2.1 p1 _, (gr_set _ _ _ _).cell p6 (by simp), numAt_set HR.out.2.2.2 HR.out.2.1 p1 _⟩, (hB.grown hg1 hB.size (by simp)).setCell (p := ⟨w.heap.size + 1 + 1, 0, none⟩) (by simp; omega) _⟩
      rw [accP_snoc, if_neg (by decide)]
      exact img_set HR.out.1 HR.out.2.1 p1 _
    | true =>
      gi_wp2
      have n1 := img_set HR.out.1 HR.out.2.1 p1 (.slice (some ⟨sg, so, none⟩) n sc)
      have n3 := img_set HR.out.2.2.1 HR.out.2.1 p1 (.slice (some ⟨sg, so, none⟩) n sc)
      have n4 := numAt_set HR.out.2.2.2 HR.out.2.1 p1 (.slice (some ⟨sg, so, none⟩) n sc)
      have s1 : (W1.setCell ⟨w.heap.size + 1 + 1, 0, none⟩ (.slice (some ⟨sg, so, none⟩) n sc)).cell? ⟨w.heap.size + 1 + 1, 0, none⟩ = some (.slice (some ⟨sg, so, none⟩) n sc) := World.cell?_setCell_same' _ _ _ (by rw [p1]; rfl)
      have s2 : (W1.setCell ⟨w.heap.size + 1 + 1, 0, none⟩ (.slice (some ⟨sg, so, none⟩) n sc)).frozen? ⟨w.heap.size + 1 + 1, 0, none⟩ = false := by rw [World.frozen?_setCell]; exact p2
      have s4 := (gr_set W1 (w.heap.size + 1 + 1) 0 (.slice (some ⟨sg, so, none⟩) n sc)).cell p4 (by simp; omega)
      have s6 := (gr_set W1 (w.heap.size + 1 + 1) 0 (.slice (some ⟨sg, so, none⟩) n sc)).cell p6 (by simp)
      have sB := (hB.grown hg1 hB.size (by simp)).setCell (p := ⟨w.heap.size + 1 + 1, 0, none⟩) (by simp; omega) (.slice (some ⟨sg, so, none⟩) n sc)
      have sK : KeepsOthers W (W1.setCell ⟨w.heap.size + 1 + 1, 0, none⟩ (.slice (some ⟨sg, so, none⟩) n sc)) := (KeepsOthers.of_grownBy hg1 (by simp)).trans (KeepsOthers.setCell _ _ _)
      have sP : KpBox (w.heap.size + 1 + 1 + 1) W (W1.setCell ⟨w.heap.size + 1 + 1, 0, none⟩ (.slice (some ⟨sg, so, none⟩) n sc)) := fun u hu => (gr_set _ _ _ _).cell (hg1.cell hu (by simp)) (by simp)
      generalize W1.setCell ⟨w.heap.size + 1 + 1, 0, none⟩ (.slice (some ⟨sg, so, none⟩) n sc) = W2 at *
      have HN := Lib.hid (And.intro n1 (And.intro n3 n4))
      have HSK := Lib.hid (And.intro sK sP)
      clear n1 n3 n4 HR p1 p2 p4 p6 hg1 sK sP
      refine ⟨trivial, (CallsIn.inRound l (callsIn_wide.2 (mont_times bm om n cm inv M ms _ _ _ _ W2 HN.out.2.2 hsm hM0 hinv HN.out.1 HN.out.2.1))).mono ?_⟩
      rintro e' W3 ⟨r3, rfl, hr3, hg3⟩
      obtain ⟨tg, tof, tc, ts, rfl, hr3⟩ := hr3
      have t1 := hg3.cell s1 (by simp)
      have t2 : W3.frozen? ⟨w.heap.size + 1 + 1, 0, none⟩ = false := (World.frozen?_of_block (hg3.block _ (World.block_lt_of_cell? W2 _ s1) (by simp))).trans s2
      have t4 := hg3.cell s4 (by simp)
      have t6 := hg3.cell s6 (by simp)
      have hr3' : ImgOf W3 (.slice (some ⟨tg, tof, none⟩) n tc) n M _ := ⟨tg, tof, tc, ts, rfl, hr3⟩
      have HR3 := Lib.hid (And.intro hr3' (And.intro (HN.out.1.kept hg3) (And.intro (HN.out.2.1.kept hg3) (HN.out.2.2.kept hg3 (by simp)))))
      clear hr3 hr3' s1 s2 s4 s6
      gi_wp2
      refine ⟨HSK.out.1.trans ((KeepsOthers.of_grownBy hg3 (by simp)).trans (KeepsOthers.setCell _ _ _)), fun u hu => (gr_set _ _ _ _).cell (hg3.cell (HSK.out.2 u hu) (by simp)) (by simp), ⟨_, World.cell?_setCell_same' _ _ _ (by rw [t1]; rfl), by rw [World.frozen?_setCell]; exact t2, ?_, (gr_set _ _ _ _).cell t4 (by simp; omega), img_set HR3.out.2.2.1 HR3.out.2.1 t1 _, (gr_set _ _ _ _).cell t6 (by simp), numAt_set HR3.out.2.2.2 HR3.out.2.1 t1 _⟩, (sB.grown hg3 sB.size (by simp)).setCell (p := ⟨w.heap.size + 1 + 1, 0, none⟩) (by simp; omega) _⟩
      rw [accP_snoc, if_pos rfl]
      exact img_set HR3.out.1 HR3.out.2.1 t1 _
  case done =>
    rintro D ys' W hD rfl ⟨⟨v, q1, q2, q3, q4, q5, q6, q8⟩, hB⟩ hK
    have hBK := hB.trans (belowK_b (w := w) (Nat.le_refl _) W D _ (.deferred none) (by omega) hK rfl rfl)
    have hnv := img_own q3 (grownBy_putObj' W D (.deferred none)) (fun r e => by cases e; exact ⟨_, hK, rfl⟩)
    clear q3 q5 q8
    gi_wp2
    refine ⟨by simp, .inl ⟨_, _, rfl, run_takeDeferred hK, ?_⟩⟩
    exact ⟨_, results_tmp rfl _ _ _, v, rfl, hnv, below_gr hBK⟩
  case stop =>
    rintro D c pre W _ _ h _
    exact h.elim
  exact cell_kept hv (grownBy_putObj' W l o') (fun r e => by cases e; exact ⟨o, hl, ho⟩)
end Go.Proofs.YtednijejgadmnaaDoor
