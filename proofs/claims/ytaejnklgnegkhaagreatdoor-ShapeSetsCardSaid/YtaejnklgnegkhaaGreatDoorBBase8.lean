/- Contracts of the program and of the reference, part 8: So. -/
import Derived.Test.YtaejnklgnegkhaaGreatDoorBBase7
namespace Go.Proofs.YtaejnklgnegkhaaGreatDoor
open Go.RowKit Go.Shelf Pt Sh
attribute [local go_sem] Oper.semAt_some

/-- The count of equal pairs so far: its variable. -/
def CP (w : World) (X : Nat) (k : Nat) (W : World) : Prop := Row W X [.int .i64 (k : Int)] 3 ∧ Below w.heap.size w W
def AllE (pre : List (UInt8 × UInt8)) : Prop := AllEq pre
theorem allE_snoc {pre : List (UInt8 × UInt8)} {x : UInt8 × UInt8} (h : AllE pre) (hx : x.1 = x.2) : AllE (pre ++ [x]) := by
  intro p hp
  rcases List.mem_append.1 hp with h1 | h1
  · exact h p h1
  · obtain rfl := List.mem_singleton.1 h1
    exact hx
/-- The pair that was not equal. -/
def PX (pre : List (UInt8 × UInt8)) (k : Nat) : Prop := ∃ p x, pre = p ++ [x] ∧ AllEq p ∧ x.1 ≠ x.2 ∧ p.length = k

theorem zip_twoP {a b : Nat} {x : UInt8 × UInt8} : (#[a, b] : Array Nat).zip (encP x) = #[(a, .int .u8 (x.1.toNat : Int)), (b, .int .u8 (x.2.toNat : Int))] := by simp [encP]
set_option maxRecDepth 100000 in
set_option maxHeartbeats 2000000 in
theorem eqF_any (B : Nat) (a b : ByteArray) (w : World) (hc1 : w.cell? ⟨B, 0, none⟩ = some (.string a)) (hc2 : w.cell? ⟨B + 1, 0, none⟩ = some (.string b)) (ha : a.size ≤ 1000000) :
    Calls Tryz.prog 83 #[.func (.func 105) #[] #[.pointer (some ⟨B, 0, none⟩), .pointer (some ⟨B + 1, 0, none⟩)]] w fun e w' => e = .returned (.int .i64 (eqn (pairsF a b) : Int)) ∧ w.grownBy w' none := by
  obtain ⟨X, hX⟩ : ∃ X, w.heap.size = X := ⟨_, rfl⟩
  have hBX : B + 1 < X := by rw [← hX]; exact World.block_lt_of_cell? w _ hc2
  obtain ⟨W0, hW0⟩ : ∃ W0, w.alloc (.cells #[.int .i64 0] 3) = W0 := ⟨_, rfl⟩
  have hs0 : W0.heap.size = X + 1 := by rw [← hW0]; simp [hX]
  have g0 : w.grownBy W0 none := by rw [← hW0]; exact gr_alloc _ _ _
  have HI0 := Lib.hid (show CP w X 0 W0 from ⟨by
    have r := (Row.new w [.int .i64 0] 3)
    simp only [List.toArray] at r
    rw [hW0, hX] at r
    exact r, ⟨g0.os, g0.tape, g0.output, g0.size, fun k hk => g0.block k hk (by simp)⟩⟩)
  have HST := Lib.hid (first_stops 4 B a b W0 (g0.cell hc1 (by simp)) (g0.cell hc2 (by simp)) ha)
  have HXX := Lib.hid hX
  have HW0 := Lib.hid hW0
  clear hc1 hc2
  refine (callsIn_wide (n := 5)).1 ?_
  refine callsIn_of_wp_marks Tryz.func83 rfl trivial ?_ rfl
  simp only [Tryz.ntmps83, List.size_toArray, List.length_cons, List.length_nil, Nat.reduceAdd, Nat.reduceSub, Array.replicate_succ, Array.replicate_zero, List.push_toArray, List.append_toArray, List.nil_append, List.cons_append]
  clear hW0 g0
  gi_wp2
  rw [HW0.out]
  refine wpIn_rangeFunc_ownF rfl (by omega) (gf := 105) (lb := #[.pointer (some ⟨B, 0, none⟩), .pointer (some ⟨B + 1, 0, none⟩)]) rfl trivial (enters_of Tryz.func105 (by kernel_rfl) rfl)
    HST.out KpD.trans (fun W l o o' _ hl ho _ => KpD.of_put hl ho) (Below.refl _ _) (fun _ => rfl)
    (fun pre W => Hid (AllE pre) ∧ Row W X [.int .i64 (pre.length : Int)] 3 ∧ Below w.heap.size w W)
    (fun c pre W => (c = .exit 0 ∧ ∃ k, PX pre k ∧ Row W X [.int .i64 (k : Int)] 3) ∧ Below w.heap.size w W)
    (OwnFrom.and (Own.from (fun _ _ _ _ hs hg hr => hs) _) (OwnFrom.and (Own.from (fun _ _ _ _ hs hg hr => hs.own hg hr) _) (ownFrom_below (Nat.le_refl _) (by omega))))
    (fun c => OwnFrom.and (Own.from (fun _ _ _ _ hs hg hr => ⟨hs.1, hs.2.elim fun k h => ⟨k, h.1, h.2.own hg hr⟩⟩) _) (ownFrom_below (Nat.le_refl _) (by omega)))
    ⟨Lib.hid (fun p h => by simp at h), HI0.out⟩
    (fun x => { tmps := #[.func (.func 105) #[] #[.pointer (some ⟨B, 0, none⟩), .pointer (some ⟨B + 1, 0, none⟩)], undef, .int .i64 0, .pointer (some ⟨X, 0, none⟩), .int .u8 (x.1.toNat : Int), .int .u8 (x.2.toNat : Int), .func (.func 105) #[] #[.pointer (some ⟨B, 0, none⟩), .pointer (some ⟨B + 1, 0, none⟩)], .int .u8 (x.1.toNat : Int), .int .u8 (x.2.toNat : Int), undef, undef, undef, undef, undef, undef], defers := [] }) ?assign ?body ?done ?stop
  case assign =>
    intro l x W K hK
    rw [zip_twoP]
    gi_wp2
    exact hK
  case body =>
    rintro l pre x W ⟨HPRE, hR, hBl⟩ hlt
    obtain ⟨x1, x2⟩ := x
    have d1 := hR.cell 0 _ rfl
    have d2 := hR.fr 0
    have HR := Lib.hid hR
    have HBl := Lib.hid hBl
    have HKX := Lib.hid (show KpD (B + 2) W (W.setCell ⟨X, 0, none⟩ (.int .i64 ((pre.length : Int) + 1))) from KpD.of_grown (gr_set _ _ _ _) (fun b h1 e1 => by cases e1; omega))
    clear hR hBl
    by_cases hx : x1 = x2
    · have HX := Lib.hid hx
      have hxb : ((x1.toNat : Int) == (x2.toNat : Int)) = true := by rw [hx]; simp
      have hxn : ((x1.toNat : Int) != (x2.toNat : Int)) = false := by rw [bne, hxb]; rfl
      clear hx
      gi_wp2
      refine ⟨KeepsOthers.setCell _ _ _, HKX.out, Lib.hid (allE_snoc HPRE.out HX.out), ?_, below_set HBl.out (by omega)⟩
      have := HR.out.set 0 (.int .i64 ((pre.length : Int) + 1))
      simpa using this
    · have HX := Lib.hid hx
      have hxb : ((x1.toNat : Int) == (x2.toNat : Int)) = false := by rw [beq_eq_false_iff_ne]; exact fun h => hx (UInt8.toNat_inj.1 (Int.ofNat.inj h))
      have hxn : ((x1.toNat : Int) != (x2.toNat : Int)) = true := by rw [bne, hxb]; rfl
      clear hx
      gi_wp2
      exact ⟨KeepsOthers.refl _, ⟨rfl, pre.length, ⟨pre, (x1, x2), rfl, HPRE.out, HX.out, rfl⟩, HR.out⟩, HBl.out⟩
  case done =>
    rintro D ys W hD hys ⟨HPRE, hR, hBl⟩ hK
    have HN := Lib.hid (show eqn (pairsF a b) = ys.length from by
      have e : ys = pairsF a b := hys
      rw [← e]
      exact eqn_all HPRE.out)
    have d1 := hR.cell 0 _ rfl
    have hBK := hBl.trans (belowK_b (w := w) (Nat.le_refl _) W D _ (.deferred none) (by omega) hK rfl rfl)
    have HK := Lib.hid hK
    have HBK := Lib.hid hBK
    clear hR hBl hys hBK hK
    gi_wp2
    refine ⟨by simp, .inl ⟨_, _, rfl, run_takeDeferred HK.out, ?_⟩⟩
    exact ⟨_, results_tmp rfl _ _ _, by rw [HN.out]; rfl, gr_of_below HBK.out (Nat.le_refl _)⟩
  case stop =>
    rintro D cc pre W hD hpre ⟨⟨rfl, k, hp, hR⟩, hBl⟩ hK
    have HN := Lib.hid (show eqn (pairsF a b) = k from by
      obtain ⟨p, x, rfl, h1, h2, h3⟩ := hp
      rw [eqn_stop h1 h2 hpre, h3])
    have d1 := hR.cell 0 _ rfl
    have hBK := hBl.trans (belowK_b (w := w) (Nat.le_refl _) W D _ (.deferred none) (by omega) hK rfl rfl)
    have HK := Lib.hid hK
    have HBK := Lib.hid hBK
    clear hR hBl hp hpre hBK hK
    gi_wp2
    refine ⟨by simp, .inl ⟨_, _, rfl, run_takeDeferred HK.out, ?_⟩⟩
    exact ⟨_, results_tmp rfl _ _ _, by rw [HN.out]; rfl, gr_of_below HBK.out (Nat.le_refl _)⟩
end Go.Proofs.YtaejnklgnegkhaaGreatDoor
