/- Contracts of the program and of the reference, part 4: DivP, Est, Shift, Long, App. -/
import Derived.Test.YteajpefbmiiioaaGreatDoorBRat3
import Derived.WalkMore
namespace Go.Proofs.YteajpefbmiiioaaGreatDoor
open Go.RowKit Mth

theorem vs_left (b : Nat) (xs : List Nat) (off m : Nat) : vs b xs off (m + 1) = gt xs off + b * vs b xs (off + 1) m := by
  rw [Nat.add_comm m 1, vs_split]; simp [vs]

def DipInv (xs zs : List Nat) (off n y j r : Nat) : Prop := Wrote xs zs off n ∧ Dg W64 zs ∧ r < y ∧ (∀ i, i < off + j → gt zs i = gt xs i) ∧ vs W64 xs (off + j) (n - j) = y * vs W64 zs (off + j) (n - j) + r
theorem DipInv.next {xs zs : List Nat} {off n y j r : Nat} (h : DipInv xs zs off n y (j + 1) r) (hd : Dg W64 xs) (hj : j < n) (hx : off + n ≤ xs.length) :
    DipInv xs (zs.set (off + j) ((r * W64 + gt zs (off + j)) / y)) off n y j ((r * W64 + gt zs (off + j)) % y) := by
  obtain ⟨h1, h2, h3, h4, h5⟩ := h
  have hl : off + j < zs.length := by rw [h1.len]; omega
  have hy : 0 < y := by omega
  rw [h4 (off + j) (by omega)]
  have hxj := hd (off + j)
  have hq : (r * W64 + gt xs (off + j)) / y < W64 := by
    rw [Nat.div_lt_iff_lt_mul hy]
    have h6 : (r + 1) * W64 ≤ y * W64 := Nat.mul_le_mul_right _ h3
    rw [Nat.add_mul] at h6
    rw [Nat.mul_comm W64]
    omega
  have hdm := Nat.div_add_mod (r * W64 + gt xs (off + j)) y
  have hr := Nat.mod_lt (r * W64 + gt xs (off + j)) hy
  generalize (r * W64 + gt xs (off + j)) / y = q at *
  generalize (r * W64 + gt xs (off + j)) % y = r' at *
  refine ⟨h1.step (by omega) (by omega) (by omega), h2.set hq, hr, fun i hi => ?_, ?_⟩
  · rw [gt_set hl, if_neg (by omega)]; exact h4 i (by omega)
  · rw [show n - j = (n - (j + 1)) + 1 from by omega, vs_left, vs_left, gt_set hl, if_pos rfl]
    rw [vs_congr (xs := zs.set (off + j) q) (ys := zs) (off' := off + j + 1) (fun i hi => by rw [gt_set hl, if_neg (by omega)])]
    rw [show off + j + 1 = off + (j + 1) from by omega, h5, Nat.mul_add, Nat.mul_add]
    rw [Nat.mul_left_comm y W64]
    rw [Nat.mul_comm W64 r]
    omega

/-- What divideInPlace leaves. -/
def Dived (xs zs : List Nat) (off n y r : Nat) : Prop := Wrote xs zs off n ∧ Dg W64 zs ∧ r < y ∧ vs W64 xs off n = y * vs W64 zs off n + r

theorem divideInPlace_any (b off n c y : Nat) (xs : List Nat) (w : World) (hb : Blk .u64 96 w b xs) (hn : off + n ≤ xs.length) (hd : Dg W64 xs) (hm : n ≤ 1099511627776) (hy : 0 < y) (hy2 : y < W64) :
    Calls Tryz.prog 88 #[.slice (some ⟨b, off, none⟩) n c, .int .u64 (y : Int)] w fun e w' => ∃ r zs, e = .returned (.int .u64 ((r : Nat) : Int)) ∧ Blk .u64 96 w' b zs ∧ w.grownBy w' (some b) ∧ Dived xs zs off n y r := by
  have hy0 : DipInv xs xs off n y n 0 := ⟨Wrote.refl _ _ _, hd, hy, fun _ _ => rfl, by simp [vs]⟩
  have HI0 := Lib.hid hy0
  clear hy0
  go_enter Tryz.func88, Tryz.ntmps88
  go_wp2
  go_loopw [5, 6] (fun v i wr => ∃ (j r : Nat) (zs : List Nat), j ≤ n ∧ i = .int .i64 ((j : Int) - 1) ∧ v = .int .u64 r ∧ Blk .u64 96 wr b zs ∧ w.grownBy wr (some b) ∧ Hid (DipInv xs zs off n y j r)) (fun _ i _ => (intOf i + 1).toNat)
  case atStart => exact ⟨n, 0, xs, Nat.le_refl _, rfl, rfl, hb, World.grownBy.refl _ _, HI0⟩
  case round =>
    obtain ⟨j, r, zs, hj, rfl, rfl, hbz, hg, HI⟩ := hrel
    rcases j with _ | j
    · have hi := HI.out
      go_wp2
      go_ret
      exact ⟨r, zs, rfl, hbz, hg, hi.1, hi.2.1, hi.2.2.1, hi.2.2.2.2⟩
    · rw [show (((j + 1 : Nat) : Int) - 1) = (j : Int) from by omega]
      have hlz : zs.length = xs.length := HI.out.1.len
      have hcell : wr.cell? ⟨b, off + j, none⟩ = some (.int .u64 ((gt zs (off + j) : Nat) : Int)) := hbz.cell (by omega)
      have HNX := Lib.hid (HI.out.next hd (by omega) hn)
      have hr := HI.out.2.2.1
      have hx := HI.out.2.1 (off + j)
      have HL := Lib.hid hlz
      clear HI hlz
      go_wp2_with fail
      refine (div64_any r (gt zs (off + j)) y _ hx hr hy2).mono ?_
      rintro e w' ⟨rfl, k, rfl⟩
      obtain ⟨q, hq⟩ : ∃ q, q = (r * W64 + gt zs (off + j)) / y := ⟨_, rfl⟩
      obtain ⟨r', hr'⟩ : ∃ r', r' = (r * W64 + gt zs (off + j)) % y := ⟨_, rfl⟩
      rw [show D64Val r (gt zs (off + j)) y = .tuple #[.int .u64 (q : Int), .int .u64 (r' : Int)] from by unfold D64Val; rw [hq, hr']]
      rw [← hq, ← hr'] at HNX
      clear hq hr'
      have hbz' : Blk .u64 96 (wr.drewN k) b zs := hbz
      have hg' : w.grownBy (wr.drewN k) (some b) := gr_trans hg (gr_drewN _ _ none) (.inr rfl) (.inl rfl)
      have hcell' : (wr.drewN k).cell? ⟨b, off + j, none⟩ = some (.int .u64 ((gt zs (off + j) : Nat) : Int)) := hcell
      have hfr : (wr.drewN k).frozen? ⟨b, off + j, none⟩ = false := hbz.frozen _
      generalize wr.drewN k = wk at *
      clear hcell
      go_wp2
      refine ⟨⟨j, r', _, by omega, rfl, rfl, hbz'.set _ _, gr_trans hg' (gr_set _ _ _ _) (.inr rfl) (.inr (.inl rfl)), HNX⟩, ?_⟩
      simp [intOf]

theorem cmpU64_any (x y : Nat) (w : World) :
    Calls Tryz.prog 157 #[.int .u64 (x : Int), .int .u64 (y : Int)] w fun e w' => e = .returned (.int .i64 (cmpN x y)) ∧ w = w' := by
  rcases Nat.lt_trichotomy x y with h | h | h
  · have hc : cmpN x y = -1 := by unfold cmpN; rw [if_pos h]
    have HC := Lib.hid hc
    clear hc
    go_enter Tryz.func157, Tryz.ntmps157
    go_wp2
    go_ret
    exact ⟨by rw [HC.out]; rfl, rfl⟩
  · have hc : cmpN x y = 0 := by unfold cmpN; rw [if_neg (by omega), if_neg (by omega)]
    have HC := Lib.hid hc
    subst h
    clear hc
    go_enter Tryz.func157, Tryz.ntmps157
    go_wp2
    go_ret
    exact ⟨by rw [HC.out]; rfl, rfl⟩
  · have hc : cmpN x y = 1 := by unfold cmpN; rw [if_neg (by omega), if_pos h]
    have HC := Lib.hid hc
    clear hc
    go_enter Tryz.func157, Tryz.ntmps157
    go_wp2
    go_ret
    exact ⟨by rw [HC.out]; rfl, rfl⟩

theorem cmpN_digit {x y a b P : Nat} (ha : a < P) (hb : b < P) : cmpN (a + P * x) (b + P * y) = if x = y then cmpN a b else cmpN x y := by
  unfold cmpN
  rcases Nat.lt_trichotomy x y with h | h | h
  · have h1 : P * (x + 1) ≤ P * y := Nat.mul_le_mul_left _ h
    rw [Nat.mul_add] at h1
    rw [if_neg (show ¬ x = y by omega), if_pos (by omega), if_pos h]
  · subst h; rw [if_pos rfl]
    split <;> split <;> (try split) <;> omega
  · have h1 : P * (y + 1) ≤ P * x := Nat.mul_le_mul_left _ h
    rw [Nat.mul_add] at h1
    rw [if_neg (show ¬ x = y by omega), if_neg (by omega), if_pos (by omega), if_neg (by omega), if_pos h]
/-- Numbers whose digits from j on are equal are compared by the digit below. -/
theorem cmpN_vs {xs ys : List Nat} {o1 o2 n j : Nat} (hx : Dg W64 xs) (hy : Dg W64 ys) (hj : j < n) (he : ∀ i, j < i → i < n → gt xs (o1 + i) = gt ys (o2 + i)) (hne : gt xs (o1 + j) ≠ gt ys (o2 + j)) :
    cmpN (vs W64 xs o1 n) (vs W64 ys o2 n) = cmpN (gt xs (o1 + j)) (gt ys (o2 + j)) := by
  obtain ⟨m, rfl⟩ : ∃ m, n = j + (m + 1) := ⟨n - (j + 1), by omega⟩
  rw [vs_split W64 xs o1 j (m + 1), vs_split W64 ys o2 j (m + 1), cmpN_digit (vs_lt hx) (vs_lt hy), vs_left, vs_left]
  rw [vs_congr (xs := ys) (ys := xs) (off := o2 + j + 1) (off' := o1 + j + 1) (n := m) (fun i hi => by rw [Nat.add_assoc, Nat.add_assoc, Nat.add_assoc, Nat.add_assoc]; exact (he (j + (1 + i)) (by omega) (by omega)).symm)]
  generalize vs W64 xs (o1 + j + 1) m = T
  generalize gt xs (o1 + j) = x at *
  generalize gt ys (o2 + j) = y at *
  generalize W64 * T = S
  rw [if_neg (by omega)]
  unfold cmpN
  rcases Nat.lt_or_gt_of_ne hne with h | h
  · rw [if_pos (by omega), if_pos (by omega)]
  · rw [if_neg (by omega), if_pos (by omega), if_neg (by omega), if_pos (by omega)]

theorem compare_ne (b1 o1 n1 c1 b2 o2 n2 c2 : Nat) (xs ys : List Nat) (w : World) (hd : Dg W64 xs) (hd2 : Dg W64 ys) (ht1 : n1 = 0 ∨ gt xs (o1 + (n1 - 1)) ≠ 0) (ht2 : n2 = 0 ∨ gt ys (o2 + (n2 - 1)) ≠ 0) (hne : n1 ≠ n2) :
    Calls Tryz.prog 130 #[.slice (some ⟨b1, o1, none⟩) n1 c1, .slice (some ⟨b2, o2, none⟩) n2 c2] w fun e w' => e = .returned (.int .i64 (cmpN (vs W64 xs o1 n1) (vs W64 ys o2 n2))) ∧ w = w' := by
  have hge : ∀ {zs : List Nat} {o n m : Nat}, (n = 0 ∨ gt zs (o + (n - 1)) ≠ 0) → m < n → W64 ^ m ≤ vs W64 zs o n := by
    intro zs o n m ht hm
    obtain ⟨k, rfl⟩ : ∃ k, n = k + 1 := ⟨n - 1, by omega⟩
    have h1 : gt zs (o + k) ≠ 0 := by rcases ht with h | h; omega; simpa using h
    simp only [vs]
    have h2 : W64 ^ k * 1 ≤ W64 ^ k * gt zs (o + k) := Nat.mul_le_mul_left _ (by omega)
    have h3 : W64 ^ m ≤ W64 ^ k := Nat.pow_le_pow_right W64_pos (by omega)
    omega
  have h1 := vs_lt (off := o1) (n := n1) hd
  have h2 := vs_lt (off := o2) (n := n2) hd2
  have hc : Lib.compareInt (n1 : Int) (n2 : Int) = cmpN (vs W64 xs o1 n1) (vs W64 ys o2 n2) := by
    unfold Lib.compareInt cmpN
    rcases Nat.lt_or_gt_of_ne hne with h | h
    · have h3 := hge ht2 h
      rw [if_pos (by omega), if_pos (by omega)]
    · have h3 := hge ht1 h
      rw [if_neg (by omega), if_pos (by omega), if_neg (by omega), if_pos (by omega)]
  have HC := Lib.hid hc
  have hb : ((n1 : Int) != (n2 : Int)) = true := by rw [bne_iff_ne]; omega
  clear hc hge h1 h2 hne
  go_enter Tryz.func130, Tryz.ntmps130
  go_wp2_with fail
  refine (Tryz.cmp_Compare_int _ _ _).mono ?_
  rintro e w' ⟨rfl, rfl⟩
  go_wp2
  go_ret
  exact ⟨by rw [← HC.out]; rfl, rfl⟩

theorem quiet_add_left {P : Program} {f : FuncId} {args : Array Value} {w : World} {a n : Nat} {v : Value}
    (h : Calls P f args (w.drewN (a + n)) fun e w' => e = .returned v ∧ w.drewN (a + n) = w') :
    Calls P f args (w.drewN (a + n)) fun e w'' => e = .returned v ∧ ∃ m, w'' = w.drewN (a + m) :=
  h.mono fun _ _ ⟨he, hm⟩ => ⟨he, n, hm.symm⟩
/-- wr is w, but for draws. -/
def Qt (w wr : World) : Prop := ∃ k, wr = w.drewN k
theorem Qt.refl (w : World) : Qt w w := ⟨0, rfl⟩
theorem Qt.more {w wr : World} (h : Qt w wr) (n : Nat) : Qt w (wr.drewN n) := by obtain ⟨k, rfl⟩ := h; exact ⟨k + n, World.drewN_drewN _ _ _⟩
theorem Qt.gr {w wr : World} (h : Qt w wr) (r : Option Nat) : w.grownBy wr r := by obtain ⟨k, rfl⟩ := h; exact gr_drewN _ _ _

theorem compare_eq (b1 o1 n c1 b2 o2 c2 : Nat) (xs ys : List Nat) (w : World) (hb1 : Blk .u64 96 w b1 xs) (hn1 : o1 + n ≤ xs.length) (hb2 : Blk .u64 96 w b2 ys) (hn2 : o2 + n ≤ ys.length) (hd : Dg W64 xs) (hd2 : Dg W64 ys) (hm : n ≤ 1099511627776) :
    Calls Tryz.prog 130 #[.slice (some ⟨b1, o1, none⟩) n c1, .slice (some ⟨b2, o2, none⟩) n c2] w fun e w' => e = .returned (.int .i64 (cmpN (vs W64 xs o1 n) (vs W64 ys o2 n))) ∧ Qt w w' := by
  have hb : ((n : Int) != (n : Int)) = false := by rw [bne_eq_false_iff_eq]
  go_enter Tryz.func130, Tryz.ntmps130
  go_wp2
  go_loopw [5] (fun i wr => ∃ (j : Nat), j ≤ n ∧ i = .int .i64 ((j : Int) - 1) ∧ Qt w wr ∧ Hid (∀ i, j ≤ i → i < n → gt xs (o1 + i) = gt ys (o2 + i))) (fun i _ => (intOf i + 1).toNat)
  case atStart => exact ⟨n, Nat.le_refl _, rfl, Qt.refl _, fun i h1 h2 => by omega⟩
  case round =>
    obtain ⟨j, hj, rfl, hqt, HE⟩ := hrel
    have hb1r := hb1.kept (hqt.gr none) (by simp)
    have hb2r := hb2.kept (hqt.gr none) (by simp)
    rcases j with _ | j
    · have hv : cmpN (vs W64 xs o1 n) (vs W64 ys o2 n) = 0 := by
        rw [vs_congr (ys := ys) (off' := o2) (fun i hi => HE.out i (Nat.zero_le _) hi)]
        unfold cmpN; rw [if_neg (by omega), if_neg (by omega)]
      have HV := Lib.hid hv
      clear hv
      go_wp2
      go_ret
      exact ⟨by rw [HV.out]; rfl, hqt⟩
    · rw [show (((j + 1 : Nat) : Int) - 1) = (j : Int) from by omega]
      obtain ⟨x, hx⟩ : ∃ x, x = gt xs (o1 + j) := ⟨_, rfl⟩
      obtain ⟨y, hy⟩ : ∃ y, y = gt ys (o2 + j) := ⟨_, rfl⟩
      have hcx : wr.cell? ⟨b1, o1 + j, none⟩ = some (.int .u64 (x : Int)) := by rw [hx]; exact hb1r.cell (by omega)
      have hcy : wr.cell? ⟨b2, o2 + j, none⟩ = some (.int .u64 (y : Int)) := by rw [hy]; exact hb2r.cell (by omega)
      have hjn : (j : Int) < (n : Int) := by omega
      have hj0 : (0 : Int) ≤ (j : Int) := by omega
      have HX := Lib.hid hx
      have HY := Lib.hid hy
      clear hx hy
      by_cases he : x = y
      · have hbx : ((x : Int) != (y : Int)) = false := by rw [bne_eq_false_iff_eq, he]
        have HE2 := Lib.hid he
        clear he
        go_wp2
        go_quiet (fail)
        go_wp2
        refine ⟨⟨j, by omega, rfl, hqt.more _, fun i h1 h2 => ?_⟩, by simp [intOf]⟩
        by_cases e : i = j
        · rw [e, ← HX.out, ← HY.out]; exact HE2.out
        · exact HE.out i (by omega) h2
      · have hbx : ((x : Int) != (y : Int)) = true := by rw [bne_iff_ne]; omega
        go_wp2
        go_quiet (fail)
        go_wp2
        go_quiet ((go_at_call 157; exact quiet_add_left (cmpU64_any _ _ _)))
        go_wp2
        have hv : cmpN (vs W64 xs o1 n) (vs W64 ys o2 n) = cmpN x y := by
          rw [HX.out, HY.out]
          exact cmpN_vs hd hd2 (by omega) (fun i h1 h2 => HE.out i h1 h2) (by rw [← HX.out, ← HY.out]; exact he)
        go_ret
        exact ⟨by rw [hv]; rfl, (hqt.more _).more _⟩

theorem compare_any (b1 o1 n1 c1 b2 o2 n2 c2 : Nat) (xs ys : List Nat) (w : World) (hb1 : Blk .u64 96 w b1 xs) (hn1 : o1 + n1 ≤ xs.length) (hb2 : Blk .u64 96 w b2 ys) (hn2 : o2 + n2 ≤ ys.length) (hd : Dg W64 xs) (hd2 : Dg W64 ys) (hm : n1 ≤ 1099511627776)
    (ht1 : n1 = 0 ∨ gt xs (o1 + (n1 - 1)) ≠ 0) (ht2 : n2 = 0 ∨ gt ys (o2 + (n2 - 1)) ≠ 0) :
    Calls Tryz.prog 130 #[.slice (some ⟨b1, o1, none⟩) n1 c1, .slice (some ⟨b2, o2, none⟩) n2 c2] w fun e w' => e = .returned (.int .i64 (cmpN (vs W64 xs o1 n1) (vs W64 ys o2 n2))) ∧ Qt w w' := by
  by_cases h : n1 = n2
  · subst h; exact compare_eq b1 o1 n1 c1 b2 o2 c2 xs ys w hb1 hn1 hb2 hn2 hd hd2 hm
  · exact (compare_ne b1 o1 n1 c1 b2 o2 n2 c2 xs ys w hd hd2 ht1 ht2 h).mono fun _ _ ⟨h1, h2⟩ => ⟨h1, h2 ▸ Qt.refl _⟩

theorem gcdOfWords_any (x y : Nat) (w : World) (_hx : x < W64) (_hy : y < W64) :
    Calls Tryz.prog 87 #[.int .u64 (x : Int), .int .u64 (y : Int)] w fun e w' => e = .returned (.int .u64 ((Nat.gcd x y : Nat) : Int)) ∧ Qt w w' := by
  go_enter Tryz.func87, Tryz.ntmps87
  go_wp2
  go_loopw [0, 1] (fun u v wr => ∃ (a b : Nat), u = .int .u64 a ∧ v = .int .u64 b ∧ Qt w wr ∧ Hid (Nat.gcd a b = Nat.gcd x y)) (fun _ v _ => (intOf v).toNat)
  case atStart => exact ⟨x, y, rfl, rfl, Qt.refl _, rfl⟩
  case round =>
    obtain ⟨a, b, rfl, rfl, hqt, HG⟩ := hrel
    rcases Nat.eq_zero_or_pos b with h | h
    · subst h
      go_wp2
      go_ret
      exact ⟨by rw [← HG.out, Nat.gcd_zero_right]; rfl, hqt⟩
    · have hb0 : ((b : Int) == 0) = false := by rw [beq_eq_false_iff_ne]; omega
      have hlt := Nat.mod_lt a h
      obtain ⟨r, hr⟩ : ∃ r, r = a % b := ⟨_, rfl⟩
      have hw : (a : Int) % (b : Int) = (r : Int) := by rw [hr, Int.natCast_emod]
      rw [← hr] at hlt
      have HR := Lib.hid hr
      clear hr
      go_wp2
      go_quiet (fail)
      go_wp2
      refine ⟨⟨b, r, rfl, by rw [hw], hqt.more _, ?_⟩, by rw [hw]; simp [intOf]; omega⟩
      show _ = _
      rw [← HG.out, HR.out, Nat.gcd_comm b, ← Nat.gcd_rec, Nat.gcd_comm]
end Go.Proofs.YteajpefbmiiioaaGreatDoor
namespace Go.Proofs.YteajpefbmiiioaaGreatDoor
open Go.RowKit Mth

theorem est_of {xs ys : List Nat} {o1 o2 n U V : Nat} (hd1 : Dg W64 xs) (hd2 : Dg W64 ys) (hn : 2 ≤ n) (hU : vs W64 xs o1 (n + 1) = U) (hV : vs W64 ys o2 n = V) (htop : gt ys (o2 + (n - 1)) ≠ 0) (hlt : U < W64 * V) :
    Est (W64 ^ (n - 2)) U V (gt xs (o1 + n)) (gt xs (o1 + (n - 1))) (gt xs (o1 + (n - 2))) (gt ys (o2 + (n - 1))) (gt ys (o2 + (n - 2))) := by
  obtain ⟨k, rfl⟩ : ∃ k, n = k + 2 := ⟨n - 2, by omega⟩
  simp only [vs, show k + 2 - 1 = k + 1 from by omega, show k + 2 - 2 = k from by omega] at *
  refine ⟨⟨vs W64 xs o1 k, ?_, vs_lt hd1⟩, ⟨vs W64 ys o2 k, ?_, vs_lt hd2⟩, by omega, hlt, hd1 _, hd1 _, hd2 _⟩
  · rw [← hU, Nat.pow_succ, Nat.pow_succ]; grind
  · rw [← hV, Nat.pow_succ]; grind

theorem add64_small (x y : Nat) (h : x + y < W64 * 2) : (addLo x y 0) + W64 * (addHi x y 0) = x + y ∧ addHi x y 0 ≤ 1 := by
  refine ⟨by have := add_split x y 0; omega, ?_⟩
  unfold addHi; rw [W64_eq] at *; omega

theorem quiet_add_more {P : Program} {f : FuncId} {args : Array Value} {w : World} {a n : Nat} {v : Value}
    (h : Calls P f args (w.drewN (a + n)) fun e w' => e = .returned v ∧ ∃ m, w' = (w.drewN (a + n)).drewN m) :
    Calls P f args (w.drewN (a + n)) fun e w'' => e = .returned v ∧ ∃ m, w'' = w.drewN (a + m) :=
  h.mono fun _ _ ⟨he, m, hm⟩ => ⟨he, n + m, by rw [hm, World.drewN_drewN, Nat.add_assoc]⟩

set_option maxHeartbeats 2000000 in
theorem estimateDigit_any (b1 o1 n c1 b2 o2 c2 U V : Nat) (xs ys : List Nat) (w : World) (hb1 : Blk .u64 96 w b1 xs) (hn1 : o1 + (n + 1) ≤ xs.length) (hd1 : Dg W64 xs) (hb2 : Blk .u64 96 w b2 ys) (hn2 : o2 + n ≤ ys.length) (hd2 : Dg W64 ys) (hm : n ≤ 1099511627776)
    (hn : 2 ≤ n) (hU : vs W64 xs o1 (n + 1) = U) (hV : vs W64 ys o2 n = V) (htop : gt ys (o2 + (n - 1)) ≠ 0) (hlt : U < W64 * V) :
    Calls Tryz.prog 158 #[.slice (some ⟨b1, o1, none⟩) (n + 1) c1, .slice (some ⟨b2, o2, none⟩) n c2] w fun e w' => ∃ d, e = .returned (.int .u64 ((d : Nat) : Int)) ∧ U / V ≤ d ∧ d ≤ U / V + 1 ∧ d < W64 ∧ Qt w w' := by
  have hest := est_of hd1 hd2 hn hU hV htop hlt
  have hcu : w.cell? ⟨b1, o1 + n, none⟩ = some (.int .u64 ((gt xs (o1 + n) : Nat) : Int)) := hb1.cell (by omega)
  have hcu1 : w.cell? ⟨b1, o1 + (n - 1), none⟩ = some (.int .u64 ((gt xs (o1 + (n - 1)) : Nat) : Int)) := hb1.cell (by omega)
  have hcu2 : w.cell? ⟨b1, o1 + (n - 2), none⟩ = some (.int .u64 ((gt xs (o1 + (n - 2)) : Nat) : Int)) := hb1.cell (by omega)
  have hcv1 : w.cell? ⟨b2, o2 + (n - 1), none⟩ = some (.int .u64 ((gt ys (o2 + (n - 1)) : Nat) : Int)) := hb2.cell (by omega)
  have hcv2 : w.cell? ⟨b2, o2 + (n - 2), none⟩ = some (.int .u64 ((gt ys (o2 + (n - 2)) : Nat) : Int)) := hb2.cell (by omega)
  have hv1 := hd2 (o2 + (n - 1))
  have hv2 := hd2 (o2 + (n - 2))
  have hu1 := hd1 (o1 + (n - 1))
  have hu2 := hd1 (o1 + (n - 2))
  generalize gt xs (o1 + n) = u at *
  generalize gt xs (o1 + (n - 1)) = u1 at *
  generalize gt xs (o1 + (n - 2)) = u2 at *
  generalize gt ys (o2 + (n - 1)) = v1 at *
  generalize gt ys (o2 + (n - 2)) = v2 at *
  have HE := Lib.hid hest
  have hule := hest.u_le
  clear hest hb1 hd1 hb2 hd2 hU hV htop hlt hn1 hn2
  have ha := add64_run0
  go_enter Tryz.func158, Tryz.ntmps158
  go_wp2
  go_step3
  go_wp2
  go_quiet (fail)
  rcases Nat.lt_or_ge u v1 with hlt | hge
  · have hd : decide ((u : Int) < (v1 : Int)) = true := decide_eq_true (by omega)
    have hinit := HE.out.init_lt hlt
    have hv1p := HE.out.pos
    have hrlt := Nat.mod_lt (u * W64 + u1) hv1p
    have hdiv : ∀ w, Calls Tryz.prog 136 #[.int .u64 (u : Int), .int .u64 (u1 : Int), .int .u64 (v1 : Int)] w fun e w' => e = .returned (.tuple #[.int .u64 (((u * W64 + u1) / v1 : Nat) : Int), .int .u64 (((u * W64 + u1) % v1 : Nat) : Int)]) ∧ ∃ n, w' = w.drewN n := fun w => div64_any u u1 v1 w hu1 hlt hv1
    have HD := Lib.hid hdiv
    have HI0 := Lib.hid hinit
    generalize (u * W64 + u1) / v1 = q at *
    generalize (u * W64 + u1) % v1 = r0 at *
    clear hdiv hinit
    go_wp2
    go_quiet ((go_at_call 136; exact quiet_add_more (HD.out _)))
    go_wp2_with fail
    go_step3
    go_wp2_with fail
    go_loopw [8, 9, 10] (fun vd vr vc wr => ∃ (d r c : Nat), vd = .int .u64 d ∧ vr = .int .u64 r ∧ vc = .int .u64 c ∧ r < W64 ∧ c ≤ 1 ∧ Hid (EInv U V u u1 v1 d (r + W64 * c)) ∧ d < W64 ∧ Qt w wr) (fun vd _ _ _ => (intOf vd).toNat)
    case atStart => exact ⟨q, r0, 0, rfl, rfl, rfl, by omega, by omega, by rw [Nat.mul_zero, Nat.add_zero]; exact HI0, HI0.out.lt, (Qt.more ⟨_, rfl⟩ _)⟩
    case round =>
      obtain ⟨d, r, c, rfl, rfl, rfl, hr, hc, HI, hdW, k, rfl⟩ := hrel
      have hcu2' : (w.drewN k).cell? ⟨b1, o1 + (n - 2), none⟩ = some (.int .u64 (u2 : Int)) := hcu2
      rcases Nat.lt_or_ge c 1 with h0 | h1
      · obtain rfl : c = 0 := by omega
        have hgo := HI.out
        rw [Nat.mul_zero, Nat.add_zero] at hgo
        have hsp := mul_split d v2
        have HG := Lib.hid hgo
        clear HI hgo hcu hcu1 hcu2 hcv1 hcv2
        go_wp2_with fail
        refine (mul64_run _ _ hdW hv2 _).mono ?_
        rintro e w' ⟨rfl, rfl⟩
        have hlo := mulLo_lt d v2
        generalize mulHi d v2 = hi at *
        generalize mulLo d v2 = lo at *
        by_cases hle : lo + W64 * hi ≤ r * W64 + u2
        · have hfin := HG.out.done HE.out (by rw [← hsp]; exact hle)
          have HF := Lib.hid (And.intro HG.out.ge hfin)
          have hor : hi < r ∨ (hi = r ∧ lo ≤ u2) := by
            rcases Nat.lt_trichotomy hi r with h | h | h
            · exact .inl h
            · subst h; exact .inr ⟨rfl, by rw [Nat.mul_comm] at hle; omega⟩
            · exfalso
              have : W64 * (r + 1) ≤ W64 * hi := Nat.mul_le_mul_left _ h
              rw [Nat.mul_add, Nat.mul_comm W64 r] at this
              omega
          clear hle hsp hfin
          rcases hor with h | ⟨h, h'⟩
          · have hb1 : decide ((hi : Int) < (r : Int)) = true := decide_eq_true (by omega)
            go_wp2
            rw [Exit.noGoto_ret]
            go_ret
            exact ⟨d, rfl, HF.out.1, HF.out.2, hdW, k, rfl⟩
          · subst h
            go_wp2
            rw [Exit.noGoto_ret]
            go_ret
            exact ⟨d, rfl, HF.out.1, HF.out.2, hdW, k, rfl⟩
        · have hlt2 : r * W64 + u2 < d * v2 := by rw [← hsp]; omega
          obtain ⟨hd0, hnx⟩ := HG.out.next HE.out hlt2
          have hsum := add_split r v1 0
          rw [Nat.add_zero] at hsum
          rw [← hsum] at hnx
          have HN := Lib.hid hnx
          have hhi := addHi_le hr hv1 (Nat.zero_le 1)
          have hlow := addLo_lt r v1 0
          have hwr : IntKind.u64.wrap ((d : Int) - 1) = ((d - 1 : Nat) : Int) := by
            rw [show (d : Int) - 1 = ((d - 1 : Nat) : Int) from by omega]; exact wrap_u64 _ (by omega)
          have hor : r < hi ∨ (hi = r ∧ u2 < lo) := by
            rcases Nat.lt_trichotomy hi r with h | h | h
            · exfalso
              have : W64 * (hi + 1) ≤ W64 * r := Nat.mul_le_mul_left _ h
              rw [Nat.mul_add, Nat.mul_comm W64 r] at this
              omega
            · subst h; exact .inr ⟨rfl, by rw [Nat.mul_comm] at hle; omega⟩
            · exact .inl h
          have hd1 : d - 1 < W64 := by omega
          clear hle hsp hlt2 hnx hsum
          rcases hor with h | ⟨h, h'⟩
          · have hb2 : ¬ hi = r := by omega
            go_wp2
            go_roundw
            case rel => exact ⟨d - 1, _, _, by first | rfl | rw [hwr], rfl, rfl, hlow, hhi, HN, hd1, k, rfl⟩
            case measure => simp [intOf]; omega
          · subst h
            go_wp2
            go_roundw
            case rel => exact ⟨d - 1, _, _, by first | rfl | rw [hwr], rfl, rfl, hlow, hhi, HN, hd1, k, rfl⟩
            case measure => simp [intOf]; omega
      · obtain rfl : c = 1 := by omega
        have hfin := HI.out.done HE.out (HI.out.over HE.out (by omega))
        have HF := Lib.hid (And.intro HI.out.ge hfin)
        clear hfin HI
        go_wp2
        rw [Exit.noGoto_ret]
        go_ret
        exact ⟨d, rfl, HF.out.1, HF.out.2, hdW, k, rfl⟩
  · have hd : decide ((u : Int) < (v1 : Int)) = false := decide_eq_false (by omega)
    have heq : u = v1 := by omega
    have hnlt : ¬ u < v1 := by omega
    have hinit := HE.out.init_eq heq
    have hsum := add_split u1 v1 0
    rw [Nat.add_zero] at hsum
    rw [← hsum] at hinit
    have HI0 := Lib.hid hinit
    have hhi0 := addHi_le hu1 hv1 (Nat.zero_le 1)
    have hlo0 := addLo_lt u1 v1 0
    clear hinit hsum heq
    go_wp2_with fail
    go_step3
    go_wp2_with fail
    go_loopw [8, 9, 10] (fun vd vr vc wr => ∃ (d r c : Nat), vd = .int .u64 d ∧ vr = .int .u64 r ∧ vc = .int .u64 c ∧ r < W64 ∧ c ≤ 1 ∧ Hid (EInv U V u u1 v1 d (r + W64 * c)) ∧ d < W64 ∧ Qt w wr) (fun vd _ _ _ => (intOf vd).toNat)
    case atStart => exact ⟨W64 - 1, _, _, rfl, rfl, rfl, hlo0, hhi0, HI0, by decide, ⟨_, rfl⟩⟩
    case round =>
      obtain ⟨d, r, c, rfl, rfl, rfl, hr, hc, HI, hdW, k, rfl⟩ := hrel
      have hcu2' : (w.drewN k).cell? ⟨b1, o1 + (n - 2), none⟩ = some (.int .u64 (u2 : Int)) := hcu2
      rcases Nat.lt_or_ge c 1 with h0 | h1
      · obtain rfl : c = 0 := by omega
        have hgo := HI.out
        rw [Nat.mul_zero, Nat.add_zero] at hgo
        have hsp := mul_split d v2
        have HG := Lib.hid hgo
        clear HI hgo hcu hcu1 hcu2 hcv1 hcv2
        go_wp2_with fail
        refine (mul64_run _ _ hdW hv2 _).mono ?_
        rintro e w' ⟨rfl, rfl⟩
        have hlo := mulLo_lt d v2
        generalize mulHi d v2 = hi at *
        generalize mulLo d v2 = lo at *
        by_cases hle : lo + W64 * hi ≤ r * W64 + u2
        · have hfin := HG.out.done HE.out (by rw [← hsp]; exact hle)
          have HF := Lib.hid (And.intro HG.out.ge hfin)
          have hor : hi < r ∨ (hi = r ∧ lo ≤ u2) := by
            rcases Nat.lt_trichotomy hi r with h | h | h
            · exact .inl h
            · subst h; exact .inr ⟨rfl, by rw [Nat.mul_comm] at hle; omega⟩
            · exfalso
              have : W64 * (r + 1) ≤ W64 * hi := Nat.mul_le_mul_left _ h
              rw [Nat.mul_add, Nat.mul_comm W64 r] at this
              omega
          clear hle hsp hfin
          rcases hor with h | ⟨h, h'⟩
          · have hb1 : decide ((hi : Int) < (r : Int)) = true := decide_eq_true (by omega)
            go_wp2
            rw [Exit.noGoto_ret]
            go_ret
            exact ⟨d, rfl, HF.out.1, HF.out.2, hdW, k, rfl⟩
          · subst h
            go_wp2
            rw [Exit.noGoto_ret]
            go_ret
            exact ⟨d, rfl, HF.out.1, HF.out.2, hdW, k, rfl⟩
        · have hlt2 : r * W64 + u2 < d * v2 := by rw [← hsp]; omega
          obtain ⟨hd0, hnx⟩ := HG.out.next HE.out hlt2
          have hsum := add_split r v1 0
          rw [Nat.add_zero] at hsum
          rw [← hsum] at hnx
          have HN := Lib.hid hnx
          have hhi := addHi_le hr hv1 (Nat.zero_le 1)
          have hlow := addLo_lt r v1 0
          have hwr : IntKind.u64.wrap ((d : Int) - 1) = ((d - 1 : Nat) : Int) := by
            rw [show (d : Int) - 1 = ((d - 1 : Nat) : Int) from by omega]; exact wrap_u64 _ (by omega)
          have hor : r < hi ∨ (hi = r ∧ u2 < lo) := by
            rcases Nat.lt_trichotomy hi r with h | h | h
            · exfalso
              have : W64 * (hi + 1) ≤ W64 * r := Nat.mul_le_mul_left _ h
              rw [Nat.mul_add, Nat.mul_comm W64 r] at this
              omega
            · subst h; exact .inr ⟨rfl, by rw [Nat.mul_comm] at hle; omega⟩
            · exact .inl h
          have hd1 : d - 1 < W64 := by omega
          clear hle hsp hlt2 hnx hsum
          rcases hor with h | ⟨h, h'⟩
          · have hb2 : ¬ hi = r := by omega
            go_wp2
            go_roundw
            case rel => exact ⟨d - 1, _, _, by first | rfl | rw [hwr], rfl, rfl, hlow, hhi, HN, hd1, k, rfl⟩
            case measure => simp [intOf]; omega
          · subst h
            go_wp2
            go_roundw
            case rel => exact ⟨d - 1, _, _, by first | rfl | rw [hwr], rfl, rfl, hlow, hhi, HN, hd1, k, rfl⟩
            case measure => simp [intOf]; omega
      · obtain rfl : c = 1 := by omega
        have hfin := HI.out.done HE.out (HI.out.over HE.out (by omega))
        have HF := Lib.hid (And.intro HI.out.ge hfin)
        clear hfin HI
        go_wp2
        rw [Exit.noGoto_ret]
        go_ret
        exact ⟨d, rfl, HF.out.1, HF.out.2, hdW, k, rfl⟩
end Go.Proofs.YteajpefbmiiioaaGreatDoor
namespace Go.Proofs.YteajpefbmiiioaaGreatDoor
open Go.RowKit Mth

theorem shl_cast (x s : Nat) : IntKind.u64.wrap ((x : Int) * (2 : Int) ^ s) = ((x * 2 ^ s % W64 : Nat) : Int) := by
  rw [wrap_mod, W64_eq]
  simp
theorem or_cast {x y : Nat} (hx : x < W64) (hy : y < W64) : bits BinOp.or IntKind.u64 (x : Int) (y : Int) = ((x ||| y : Nat) : Int) :=
  bits_or_u64_nat _ _ (by rw [W64_eq] at hx; exact hx) (by rw [W64_eq] at hy; exact hy)

set_option maxHeartbeats 2000000 in
theorem shiftedLeft_any (b o n c s : Nat) (xs : List Nat) (w : World) (hb : Blk .u64 96 w b xs) (hn : o + n ≤ xs.length) (hd : Dg W64 xs) (hm : n ≤ 1099511627776) (hs : s ≤ 63) :
    Calls Tryz.prog 133 #[.slice (some ⟨b, o, none⟩) n c, .int .i64 (s : Int)] w fun e w' => ∃ g zs, e = .returned (.slice (some ⟨g, 0, none⟩) (n + 1) (n + 1)) ∧ w.heap.size ≤ g ∧ Blk .u64 96 w' g zs ∧ w.grownBy w' none ∧ Dg W64 zs ∧ zs.length = n + 1 ∧ vs W64 zs 0 (n + 1) = vs W64 xs o n * 2 ^ s := by
  obtain ⟨i0, hi, hz0, hz1, hz2⟩ := info_parts infoW
  go_enter Tryz.func133, Tryz.ntmps133
  go_wp2_with (at_make; refine wpList_make_full _ rfl _ _ 81 rfl 0 96 i0 (.int .u64 0) 1 Tryz.underlying81 hi hz0 hz1 .i64 .i64 _ _ (n + 1) rfl rfl ?_ ?_ ?_ ?_ (Nat.zero_le _) ?_)
  case refine_1 => omega
  case refine_2 => omega
  case refine_3 => rw [hz2]; omega
  case refine_4 => unfold maxLen; omega
  intro w1 hown hgr
  have hb0 := blk_made' hown
  have hl0 : (List.replicate (n + 1) 0 : List Nat).length = n + 1 := List.length_replicate
  have hz : ∀ j, gt (List.replicate (n + 1) 0) j = 0 := fun j => by simp [gt, List.getD, List.getElem?_replicate]; split <;> rfl
  have hi0 : ShlInv xs (List.replicate (n + 1) 0) o n s 0 := by
    refine ⟨hl0, fun j => by rw [hz]; exact W64_pos, fun j _ => hz j, by rw [hz]; exact Nat.pow_pos (by decide), ?_⟩
    simp [vs, hz]
  have HI0 := Lib.hid hi0
  generalize (List.replicate (n + 1) 0 : List Nat) = z0 at hb0 HI0
  clear hown hi hz0 hz1 hz2 hl0 hz hi0
  go_wp2
  go_loopw [14] (fun j wr => ∃ (i : Nat) (zs : List Nat), i ≤ n ∧ j = .int .i64 i ∧ Blk .u64 96 wr w.heap.size zs ∧ w.grownBy wr none ∧ Hid (ShlInv xs zs o n s i)) (fun j _ => n - (intOf j).toNat)
  case atStart => exact ⟨0, z0, Nat.zero_le _, rfl, hb0, hgr, HI0⟩
  case round =>
    obtain ⟨i, zs, hile, rfl, hbz, hg, HI⟩ := hrel
    have hbr := hb.kept hg (by simp)
    have hne : b ≠ w.heap.size := by have := hb.lt; omega
    have hlz := HI.out.len
    by_cases hlt : i < n
    · have hcell2 : wr.cell? ⟨b, o + i, none⟩ = some (.int .u64 ((gt xs (o + i) : Nat) : Int)) := hbr.cell (by omega)
      have hcell : wr.cell? ⟨w.heap.size, i, none⟩ = some (.int .u64 ((gt zs i : Nat) : Int)) := hbz.cell (by omega)
      have hfr : wr.frozen? ⟨w.heap.size, i, none⟩ = false := hbz.frozen _
      have hcell3 : wr.cell? ⟨w.heap.size, i + 1, none⟩ = some (.int .u64 ((gt zs (i + 1) : Nat) : Int)) := hbz.cell (by omega)
      have hfr3 : wr.frozen? ⟨w.heap.size, i + 1, none⟩ = false := hbz.frozen _
      have HN := Lib.hid (HI.out.next hs hlt (hd (o + i)))
      clear hb0
      go_wp2
      have hor := shl_word (x := gt xs (o + i)) (by omega : s ≤ 64) HI.out.low
      have hlt2 : gt xs (o + i) * 2 ^ s % W64 < W64 := Nat.mod_lt _ W64_pos
      have HO := Lib.hid (or_cast (HI.out.dg i) hlt2)
      have HS := Lib.hid (shl_cast (gt xs (o + i)) s)
      have HR := Lib.hid (show ((gt xs (o + i) : Nat) : Int) / 2 ^ (64 - s) = ((gt xs (o + i) / 2 ^ (64 - s) : Nat) : Int) from by rw [Int.natCast_ediv, Int.natCast_pow]; rfl)
      clear hor hlt2
      go_region
      go_wp2
      refine ⟨⟨i + 1, _, by omega, by go_num, ?_, ?_, HN⟩, by simp [intOf]; omega⟩
      · rw [HS.out, HO.out, HR.out]
        exact ((hbz.set _ _).set _ _).drew
      · exact gr_then (gr_new (gr_new hg (gr_set _ _ _ _) (Nat.le_refl _)) (gr_set _ _ _ _) (Nat.le_refl _)) (gr_drew _ none)
    · obtain rfl : i = n := by omega
      have hfin := HI.out
      have HV := Lib.hid hfin.val
      have HD := Lib.hid hfin.dg
      clear hfin hb0
      go_wp2
      go_ret
      exact ⟨w.heap.size, zs, rfl, Nat.le_refl _, hbz, hg, HD.out, hlz, HV.out⟩

set_option maxHeartbeats 2000000 in
theorem shiftRight_any (b n c s : Nat) (xs : List Nat) (w : World) (hb : Blk .u64 96 w b xs) (hn : n = xs.length) (hd : Dg W64 xs) (hm : n ≤ 1099511627777) (hs : s ≤ 63) :
    Calls Tryz.prog 135 #[.slice (some ⟨b, 0, none⟩) n c, .int .i64 (s : Int)] w fun e w' => e = .returned (.tuple #[]) ∧ ∃ zs, Blk .u64 96 w' b zs ∧ w.grownBy w' (some b) ∧ zs.length = n ∧ Dg W64 zs ∧ vs W64 zs 0 n = vs W64 xs 0 n / 2 ^ s := by
  obtain ⟨X, hX⟩ : ∃ X, X = vs W64 xs 0 xs.length := ⟨_, rfl⟩
  have hi0 : ShrInv X xs xs s 0 := ⟨rfl, hd, fun j hj => by omega, fun _ _ => rfl⟩
  have HI0 := Lib.hid hi0
  have HX := Lib.hid hX
  have HNL := Lib.hid hn
  clear hi0 hX hn
  go_enter Tryz.func135, Tryz.ntmps135
  go_wp2
  go_loopw [7] (fun j wr => ∃ (i : Nat) (zs : List Nat), i ≤ n ∧ j = .int .i64 i ∧ Blk .u64 96 wr b zs ∧ w.grownBy wr (some b) ∧ Hid (ShrInv X xs zs s i)) (fun j _ => n - (intOf j).toNat)
  case atStart => exact ⟨0, xs, Nat.zero_le _, rfl, hb, World.grownBy.refl _ _, HI0⟩
  case round =>
    obtain ⟨i, zs, hile, rfl, hbz, hg, HI⟩ := hrel
    by_cases hlt : i < n
    · have hlz : zs.length = n := HI.out.len.trans HNL.out.symm
      have hix : i < xs.length := by rw [← HNL.out]; exact hlt
      have hcell : wr.cell? ⟨b, i, none⟩ = some (.int .u64 ((gt zs i : Nat) : Int)) := hbz.cell (by omega)
      have hfr : wr.frozen? ⟨b, i, none⟩ = false := hbz.frozen _
      have HR := Lib.hid (show ((gt zs i : Nat) : Int) / 2 ^ s = ((gt zs i / 2 ^ s : Nat) : Int) from by rw [Int.natCast_ediv, Int.natCast_pow]; rfl)
      by_cases hl2 : i + 1 < n
      · have hcell3 : wr.cell? ⟨b, i + 1, none⟩ = some (.int .u64 ((gt zs (i + 1) : Nat) : Int)) := hbz.cell (by omega)
        have hx : gt zs (i + 1) = gt xs (i + 1) := HI.out.rest _ (by omega)
        have HN := Lib.hid (HI.out.next (by omega) HX.out hd hix hx)
        have HW := Lib.hid (shr_word (x := gt zs (i + 1)) (s := s) (by omega) (HI.out.dg i))
        have hlt2 : gt zs (i + 1) * 2 ^ (64 - s) % W64 < W64 := Nat.mod_lt _ W64_pos
        have hlt3 : gt zs i / 2 ^ s < W64 := Nat.lt_of_le_of_lt (Nat.div_le_self _ _) (HI.out.dg i)
        have HO := Lib.hid (or_cast hlt3 hlt2)
        have HS := Lib.hid (shl_cast (gt zs (i + 1)) (64 - s))
        clear hlt2 hlt3 hx
        go_wp2
        go_region
        go_wp2
        refine ⟨⟨i + 1, _, by omega, by go_num, ?_, gr_trans hg (gr_trans (gr_trans (gr_set _ _ _ _) (gr_set _ _ _ _) (.inr rfl) (.inr (.inl rfl))) (gr_drew _ none) (.inr rfl) (.inl rfl)) (.inr rfl) (.inr (.inl rfl)), HN.out.2⟩, by simp [intOf]; omega⟩
        rw [HR.out, HS.out, HO.out, HW.out.1]
        have h2 := (hbz.set i (gt zs i / 2 ^ s)).set i (gt zs i / 2 ^ s + gt zs (i + 1) * 2 ^ (64 - s) % W64)
        rw [List.set_set] at h2
        exact h2.drew
      · have hx : 0 = gt xs (i + 1) := by rw [gt_of_ge (by rw [← HNL.out]; omega)]
        have HN := Lib.hid (HI.out.next (by omega) HX.out hd hix hx)
        clear hx
        go_wp2
        refine ⟨⟨i + 1, _, by omega, by go_num, ?_, gr_trans hg (gr_set _ _ _ _) (.inr rfl) (.inr (.inl rfl)), HN.out.2⟩, by simp [intOf]; omega⟩
        rw [HR.out, Nat.zero_mul, Nat.zero_mod, Nat.add_zero]
        exact hbz.set _ _
    · obtain rfl : i = n := by omega
      have hv := HI.out
      rw [HNL.out] at hv
      have hv2 := hv.all HX.out hd
      have HV := Lib.hid (And.intro (hv.len.trans HNL.out.symm) (And.intro hv.dg hv2))
      clear hv hv2
      go_wp2
      go_end0
      refine ⟨rfl, zs, hbz, hg, HV.out.1, HV.out.2.1, ?_⟩
      rw [HNL.out, HV.out.2.2, HX.out]
end Go.Proofs.YteajpefbmiiioaaGreatDoor
namespace Go.Proofs.YteajpefbmiiioaaGreatDoor
open Go.RowKit Mth

/-- What the three steps at one place come to. -/
theorem place_steps {zs us : List Nat} {i n U V d c : Nat} (hU : vs W64 zs i (n + 1) = U) (hV0 : 0 < V) (hVn : V ≤ W64 ^ n) (h1 : U / V ≤ d) (h2 : d ≤ U / V + 1)
    (hlen : i + n < zs.length) (hsub : SubbedM zs us i n c (V * d)) :
    (us.set (i + n) (subLo (gt us (i + n)) c 0)).length = zs.length ∧ Dg W64 (us.set (i + n) (subLo (gt us (i + n)) c 0)) ∧ (∀ j, (j < i ∨ i + (n + 1) ≤ j) → gt (us.set (i + n) (subLo (gt us (i + n)) c 0)) j = gt zs j) ∧
      (subHi (gt us (i + n)) c 0 = 0 → d = U / V ∧ vs W64 (us.set (i + n) (subLo (gt us (i + n)) c 0)) i (n + 1) = U % V) ∧
      (subHi (gt us (i + n)) c 0 = 1 → 0 < d ∧ ∀ ws, AddedW (us.set (i + n) (subLo (gt us (i + n)) c 0)) ws i (n + 1) V → 0 < d ∧ d - 1 = U / V ∧ vs W64 ws i (n + 1) = U % V) := by
  obtain ⟨s1, s2, s3, s4⟩ := hsub
  have hl : i + n < us.length := by rw [s1.len]; exact hlen
  have hp : gt us (i + n) = gt zs (i + n) := s1.out _ (by omega)
  have hsp := sub_split (s2 (i + n)) s3 (Nat.zero_le 1)
  have hdz : Dg W64 (us.set (i + n) (subLo (gt us (i + n)) c 0)) := s2.set (subLo_lt _ _ _)
  have hval : vs W64 (us.set (i + n) (subLo (gt us (i + n)) c 0)) i (n + 1) + V * d = U + W64 ^ (n + 1) * subHi (gt us (i + n)) c 0 := by
    rw [← hU]
    simp only [vs]
    rw [gt_set hl, if_pos rfl, vs_congr (ys := us) (off' := i) (n := n) (fun j hj => by rw [gt_set hl, if_neg (by omega)])]
    rw [← hp]
    generalize gt us (i + n) = p at *
    have e : W64 ^ n * subLo p c 0 + W64 ^ n * c = W64 ^ n * p + W64 ^ (n + 1) * subHi p c 0 := by
      rw [Nat.pow_succ, Nat.mul_assoc, ← Nat.mul_add, ← Nat.mul_add]
      congr 1
    omega
  refine ⟨by rw [List.length_set]; exact s1.len, hdz, fun j hj => ?_, fun h0 => ?_, fun h0 => ⟨?_, fun ws hadd => ?_⟩⟩
  · rw [gt_set hl, if_neg (by omega)]; exact s1.out j (by omega)
  · rw [h0, Nat.mul_zero, Nat.add_zero] at hval
    exact step_zero hV0 h1 h2 hval
  · rw [h0, Nat.mul_one] at hval
    rcases Nat.eq_zero_or_pos d with e | e
    · rw [e, Nat.mul_zero] at hval
      have := vs_lt (off := i) (n := n + 1) hdz
      omega
    · exact e
  · rw [h0, Nat.mul_one] at hval
    obtain ⟨a1, a2, k, a3⟩ := hadd
    have hle : W64 ^ n ≤ W64 ^ (n + 1) := Nat.pow_le_pow_right W64_pos (by omega)
    exact step_one hV0 (Nat.le_trans hVn hle) h1 h2 (vs_lt hdz) (vs_lt a2) hval a3

theorem top_ne {ys : List Nat} {n V : Nat} (hd : Dg W64 ys) (hV : vs W64 ys 0 n = V) (h : W64 ^ (n - 1) ≤ V) (hn : 0 < n) : gt ys (0 + (n - 1)) ≠ 0 := by
  intro e
  obtain ⟨k, rfl⟩ : ∃ k, n = k + 1 := ⟨n - 1, by omega⟩
  rw [Nat.add_sub_cancel] at e h
  simp only [vs] at hV
  rw [e] at hV
  have := vs_lt (off := 0) (n := k) hd
  omega

set_option maxHeartbeats 4000000 in
set_option maxRecDepth 100000 in
theorem divideLong_any (b1 n1 c1 b2 n c2 m V R0 : Nat) (xs ys : List Nat) (w : World) (hb1 : Blk .u64 96 w b1 xs) (hl1 : xs.length = n1) (hd1 : Dg W64 xs) (hc1 : c1 = n1) (hb2 : Blk .u64 96 w b2 ys) (hn2 : n ≤ ys.length) (hd2 : Dg W64 ys) (hm1 : n1 ≤ 1099511627777) (hn40 : n ≤ 1099511627776)
    (hne : b2 ≠ b1) (hn : 2 ≤ n) (hm : n1 = m + n) (hV : vs W64 ys 0 n = V) (htop : W64 ^ (n - 1) ≤ V) (hR : vs W64 xs 0 n1 = R0) (hsm : vs W64 xs m n < V) :
    Calls Tryz.prog 134 #[.slice (some ⟨b1, 0, none⟩) n1 c1, .slice (some ⟨b2, 0, none⟩) n c2] w fun e w' => ∃ g qs zs, e = .returned (.slice (some ⟨g, 0, none⟩) m m) ∧ w.heap.size ≤ g ∧ Blk .u64 96 w' g qs ∧ qs.length = m ∧ Dg W64 qs ∧ vs W64 qs 0 m = R0 / V ∧ Blk .u64 96 w' b1 zs ∧ zs.length = n1 ∧ Dg W64 zs ∧ vs W64 zs 0 n1 = R0 % V ∧ w.grownBy w' (some b1) := by
  subst hc1
  subst hm
  obtain ⟨i0, hi, hz0, hz1, hz2⟩ := info_parts infoW
  have HT := Lib.hid (top_ne hd2 hV htop (by omega))
  have hV0 : 0 < V := Nat.lt_of_lt_of_le (Nat.pow_pos W64_pos) htop
  have hVn : V ≤ W64 ^ n := by rw [← hV]; exact Nat.le_of_lt (vs_lt hd2)
  have HVN := Lib.hid hVn
  have HVV := Lib.hid hV
  have hs64 := sub64_runz
  have hlt1 := hb1.lt
  have hi0 : ∀ qs : List Nat, qs.length = m → Dg W64 qs → LongInv R0 V xs qs n m m := fun qs h1 h2 => ⟨by omega, h1, hd1, h2, hsm, fun j hj => gt_of_ge (by omega), by rw [Nat.sub_self]; simp only [vs, Nat.mul_zero, Nat.zero_mul, Nat.zero_add]; exact hR.symm⟩
  have HI0 := Lib.hid hi0
  clear hi0 hsm hR hV htop hVn
  go_enter Tryz.func134, Tryz.ntmps134
  go_wp2_with (at_make; refine wpList_make_full _ rfl _ _ 81 rfl 0 96 i0 (.int .u64 0) 1 Tryz.underlying81 hi hz0 hz1 .i64 .i64 _ _ m rfl rfl ?_ ?_ ?_ ?_ (Nat.zero_le _) ?_)
  case refine_1 => omega
  case refine_2 => omega
  case refine_3 => rw [hz2]; omega
  case refine_4 => unfold maxLen; omega
  intro w1 hown hgr
  have hb0 := blk_made' hown
  have hl0 : (List.replicate m 0 : List Nat).length = m := List.length_replicate
  have hz : ∀ j, gt (List.replicate m 0) j = 0 := fun j => by simp [gt, List.getD, List.getElem?_replicate]; split <;> rfl
  have HI := Lib.hid (HI0.out _ hl0 (fun j => by rw [hz]; exact W64_pos))
  generalize (List.replicate m 0 : List Nat) = q0 at hb0 HI
  have hb1' := hb1.kept hgr (by simp)
  clear hown hi hz0 hz1 hz2 hl0 hz HI0
  go_wp2
  go_loopw [7] (fun j wr => ∃ (i : Nat) (zs qs : List Nat), i ≤ m ∧ j = .int .i64 ((i : Int) - 1) ∧ Blk .u64 96 wr b1 zs ∧ Blk .u64 96 wr w.heap.size qs ∧ w.grownBy wr (some b1) ∧ Hid (LongInv R0 V zs qs n m i)) (fun j _ => (intOf j + 1).toNat)
  case atStart => exact ⟨m, xs, q0, Nat.le_refl _, rfl, hb1', hb0, gr_then hgr (World.grownBy.refl _ _), HI⟩
  case round =>
    obtain ⟨i, zs, qs, hile, rfl, hbz, hbq, hg, HI⟩ := hrel
    have hb2r := hb2.kept hg (by simpa using hne)
    have hneq : w.heap.size ≠ b1 := by omega
    rcases i with _ | i
    · have HF := Lib.hid (HI.out.done hV0)
      have HL := Lib.hid HI.out
      clear hb0 hb1'
      go_wp2
      go_ret
      refine ⟨w.heap.size, qs, zs, rfl, Nat.le_refl _, hbq, HL.out.qlen, HL.out.qdg, HF.out.1, hbz, HL.out.len, HL.out.dg, HF.out.2, hg⟩
    · rw [show (((i + 1 : Nat) : Int) - 1) = (i : Int) from by omega]
      obtain ⟨U, hU⟩ : ∃ U, vs W64 zs i (n + 1) = U := ⟨_, rfl⟩
      have hUlt := HI.out.u_lt
      rw [hU] at hUlt
      have hlz := HI.out.len
      have hdz := HI.out.dg
      have hlq := HI.out.qlen
      have hcut : ¬ m + n = i := by omega
      have HU := Lib.hid hU
      have HLT := Lib.hid hUlt
      have HLZ := Lib.hid hlz
      clear hb0 hb1' hU hUlt hlz
      go_wp2_with fail
      rw [show i + n + 1 - i = n + 1 from by omega]
      refine (estimateDigit_any b1 i n (m + n - i) b2 0 c2 U V zs ys wr hbz (by rw [HLZ.out]; omega) hdz hb2r (by omega) hd2 (by omega) hn HU.out HVV.out HT.out HLT.out).mono ?_
      rintro e w2 ⟨d, rfl, hq1, hq2, hdW, k, rfl⟩
      have HQ := Lib.hid (And.intro hq1 hq2)
      have hbzk : Blk .u64 96 (wr.drewN k) b1 zs := hbz
      have hbqk : Blk .u64 96 (wr.drewN k) w.heap.size qs := hbq
      have hb2k : Blk .u64 96 (wr.drewN k) b2 ys := hb2r
      have hgk : w.grownBy (wr.drewN k) (some b1) := gr_trans hg (gr_drewN _ _ none) (.inr rfl) (.inl rfl)
      generalize wr.drewN k = wk at *
      clear hq1 hq2
      go_wp2_with fail
      refine (subtractMultiple_any b1 i (n + 1) (m + n - i) b2 0 n c2 d zs ys wk hbzk (by rw [HLZ.out]; omega) hdz hb2k (by omega) hd2 hne (by omega) hdW (by unfold maxLen; omega)).mono ?_
      rintro e w3 ⟨c, us, rfl, hu, hg3, hsub⟩
      rw [HVV.out] at hsub
      have hpl := place_steps HU.out hV0 HVN.out HQ.out.1 HQ.out.2 (by rw [HLZ.out]; omega) hsub
      have hlu : us.length = m + n := hsub.1.len.trans HLZ.out
      have hcp : w3.cell? ⟨b1, i + n, none⟩ = some (.int .u64 ((gt us (i + n) : Nat) : Int)) := hu.cell (by omega)
      have hfp : w3.frozen? ⟨b1, i + n, none⟩ = false := hu.frozen _
      have hsub1 := subHi_le (gt us (i + n)) c 0
      have hus := fun v => hu.set (i + n) v
      have hbq3 : Blk .u64 96 w3 w.heap.size qs := hbqk.kept hg3 (by simpa using hneq)
      have hb23 : Blk .u64 96 w3 b2 ys := hb2k.kept hg3 (by simpa using hne)
      have HLU := Lib.hid hlu
      clear hsub hlu hu
      obtain ⟨lo, hlo⟩ : ∃ lo, lo = subLo (gt us (i + n)) c 0 := ⟨_, rfl⟩
      obtain ⟨hi, hhi⟩ : ∃ hi, hi = subHi (gt us (i + n)) c 0 := ⟨_, rfl⟩
      have hs3 := hs64 (gt us (i + n)) c
      rw [← hlo, ← hhi] at hs3
      rw [← hlo, ← hhi] at hpl
      rw [← hhi] at hsub1
      have HPL := Lib.hid hpl
      have husl := hus lo
      clear hpl hlo hhi hs64 hus
      have hgs : w.grownBy (w3.setCell ⟨b1, i + n, none⟩ (.int .u64 (lo : Int))) (some b1) := gr_trans (gr_trans hgk hg3 (.inr rfl) (.inr (.inl rfl))) (gr_set _ _ _ _) (.inr rfl) (.inr (.inl rfl))
      have hbq4 : Blk .u64 96 (w3.setCell ⟨b1, i + n, none⟩ (.int .u64 (lo : Int))) w.heap.size qs := hbq3.setOther hneq _ _
      have hb24 : Blk .u64 96 (w3.setCell ⟨b1, i + n, none⟩ (.int .u64 (lo : Int))) b2 ys := hb23.setOther hne _ _
      rcases Nat.lt_or_ge 0 hi with h1 | h0
      · obtain rfl : hi = 1 := by omega
        have hstep := HPL.out.2.2.2.2 rfl
        have hd0 := hstep.1
        have HST := Lib.hid hstep.2
        have hwr : IntKind.u64.wrap ((d : Int) - 1) = ((d - 1 : Nat) : Int) := by
          rw [show (d : Int) - 1 = ((d - 1 : Nat) : Int) from by omega]; exact wrap_u64 _ (by omega)
        clear hstep
        go_wp2_with fail
        refine (addTo_any b1 i (n + 1) (m + n - i) b2 0 n c2 (us.set (i + n) lo) ys _ husl (by rw [HPL.out.1, HLZ.out]; omega) HPL.out.2.1 (by omega) (by unfold maxLen; omega) hb24 (by omega) hd2 hne (by omega)).mono ?_
        rintro e w5 ⟨rfl, ws, hws, hg5, hadd⟩
        rw [HVV.out] at hadd
        have hfin := HST.out ws hadd
        have HN := Lib.hid (HI.out.next (d := d - 1) (us := ws) (by omega) HVN.out hV0 (hadd.1.len.trans HPL.out.1) (fun j hj => (hadd.1.out j (by omega)).trans (HPL.out.2.2.1 j hj)) hadd.2.1 (by rw [HU.out]; exact hfin.2.1) (by omega) (by rw [HU.out]; exact hfin.2.2))
        have hbq5 : Blk .u64 96 w5 w.heap.size qs := hbq4.kept hg5 (by simpa using hneq)
        have hcq : w5.cell? ⟨w.heap.size, i, none⟩ = some (.int .u64 ((gt qs i : Nat) : Int)) := hbq5.cell (by omega)
        have hfq : w5.frozen? ⟨w.heap.size, i, none⟩ = false := hbq5.frozen _
        have hgs5 : w.grownBy w5 (some b1) := gr_trans hgs hg5 (.inr rfl) (.inr (.inl rfl))
        clear hfin hadd
        go_wp2
        refine ⟨⟨i, _, _, by omega, rfl, hws.setOther (fun e => hneq e.symm) _ _, by first | exact hbq5.set _ _ | (rw [hwr]; exact hbq5.set _ _), gr_trans hgs5 (gr_set _ _ _ _) (.inr rfl) (.inr (.inr fun k e => by cases e; exact Nat.le_refl _)), HN⟩, by simp [intOf]⟩
      · obtain rfl : hi = 0 := by omega
        have hfin := HPL.out.2.2.2.1 rfl
        have HN := Lib.hid (HI.out.next (by omega) HVN.out hV0 HPL.out.1 HPL.out.2.2.1 HPL.out.2.1 (by rw [HU.out]; exact hfin.1) hdW (by rw [HU.out]; exact hfin.2))
        have hcq : (w3.setCell ⟨b1, i + n, none⟩ (.int .u64 (lo : Int))).cell? ⟨w.heap.size, i, none⟩ = some (.int .u64 ((gt qs i : Nat) : Int)) := hbq4.cell (by omega)
        have hfq : (w3.setCell ⟨b1, i + n, none⟩ (.int .u64 (lo : Int))).frozen? ⟨w.heap.size, i, none⟩ = false := hbq4.frozen _
        clear hfin
        go_wp2
        refine ⟨⟨i, _, _, by omega, rfl, husl.setOther (fun e => hneq e.symm) _ _, hbq4.set _ _, gr_trans hgs (gr_set _ _ _ _) (.inr rfl) (.inr (.inr fun k e => by cases e; exact Nat.le_refl _)), HN⟩, by simp [intOf]⟩
end Go.Proofs.YteajpefbmiiioaaGreatDoor
namespace Go.Proofs.YteajpefbmiiioaaGreatDoor
open Go.RowKit Mth

theorem zeroCells_int (k : IntKind) (n : Nat) : (Builtin.zeroCells (Value.int k 0).cells n).toList = cellsOf k (List.replicate n 0) := by
  simp only [Builtin.zeroCells, Value.cells, cellsOf]
  apply List.ext_getElem
  · simp
  · intro i h1 h2
    simp [Nat.mod_one]

/-- A slice that the call owns: nil, or the head of a block of numbers. -/
def Own (k : IntKind) (e : TypeId) (w : World) (v : Value) (n : Nat) (zs : List Nat) : Prop :=
  (v = .slice none 0 0 ∧ n = 0 ∧ zs = []) ∨ (∃ g, v = .slice (some ⟨g, 0, none⟩) n zs.length ∧ Blk k e w g zs ∧ n ≤ zs.length ∧ zs.length ≤ maxLen)
theorem Own.nil (k : IntKind) (e : TypeId) (w : World) : Own k e w (.slice none 0 0) 0 [] := .inl ⟨rfl, rfl, rfl⟩
theorem Own.kept {k : IntKind} {e : TypeId} {w w' : World} {v : Value} {n : Nat} {zs : List Nat} {r : Option Nat} (h : Own k e w v n zs) (hg : w.grownBy w' r) (hne : v.ownBlock = none ∨ v.ownBlock ≠ r) : Own k e w' v n zs := by
  rcases h with h | ⟨g, rfl, hb, h1, h2⟩
  · exact .inl h
  · exact .inr ⟨g, rfl, hb.kept hg (by simpa [Value.ownBlock] using hne), h1, h2⟩

/-- What append leaves: the n old numbers, the m new ones. -/
structure Apped (zs us xs : List Nat) (n m off : Nat) : Prop where
  old : ∀ i, i < n → gt us i = gt zs i
  new : ∀ i, i < m → gt us (n + i) = gt xs (off + i)
  rest : ∀ i, gt us i = 0 ∨ (∃ j, gt us i = gt zs j) ∨ (∃ j, gt us i = gt xs j)

theorem apped_grow {zs xs : List Nat} {n m off r : Nat} (hn : n ≤ zs.length) (hm : off + m ≤ xs.length) : Apped zs (zs.take n ++ (xs.drop off).take m ++ List.replicate r 0) xs n m off := by
  have h1 : (zs.take n).length = n := by simp; omega
  have h2 : ((xs.drop off).take m).length = m := by simp; omega
  have h3 : (zs.take n ++ (xs.drop off).take m).length = n + m := by rw [List.length_append, h1, h2]
  refine ⟨fun i hi => ?_, fun i hi => ?_, fun i => ?_⟩
  · rw [gt_append_left (by omega), gt_append_left (by omega), gt_take hi]
  · rw [gt_append_left (by omega), gt_append_right (by omega), h1, Nat.add_sub_cancel_left, gt_take hi, gt_drop]
  · by_cases ha : i < n
    · right; left; exact ⟨i, by rw [gt_append_left (by omega), gt_append_left (by omega), gt_take ha]⟩
    · by_cases hb : i < n + m
      · right; right; exact ⟨off + (i - n), by rw [gt_append_left (by omega), gt_append_right (by omega), h1, gt_take (by omega), gt_drop]⟩
      · left; rw [gt_append_right (by omega)]; simp [gt, List.getD, List.getElem?_replicate]; split <;> rfl
theorem apped_room {zs xs : List Nat} {n m off : Nat} (hn : n + m ≤ zs.length) (hm : off + m ≤ xs.length) : Apped zs (zs.take n ++ (xs.drop off).take m ++ zs.drop (n + m)) xs n m off := by
  have h1 : (zs.take n).length = n := by simp; omega
  have h2 : ((xs.drop off).take m).length = m := by simp; omega
  have h3 : (zs.take n ++ (xs.drop off).take m).length = n + m := by rw [List.length_append, h1, h2]
  refine ⟨fun i hi => ?_, fun i hi => ?_, fun i => ?_⟩
  · rw [gt_append_left (by omega), gt_append_left (by omega), gt_take hi]
  · rw [gt_append_left (by omega), gt_append_right (by omega), h1, Nat.add_sub_cancel_left, gt_take hi, gt_drop]
  · by_cases ha : i < n
    · right; left; exact ⟨i, by rw [gt_append_left (by omega), gt_append_left (by omega), gt_take ha]⟩
    · by_cases hb : i < n + m
      · right; right; exact ⟨off + (i - n), by rw [gt_append_left (by omega), gt_append_right (by omega), h1, gt_take (by omega), gt_drop]⟩
      · right; left; exact ⟨n + m + (i - (n + m)), by rw [gt_append_right (by omega), h3, gt_drop]⟩
theorem Apped.dg {zs us xs : List Nat} {n m off b : Nat} (h : Apped zs us xs n m off) (hb : 0 < b) (h1 : Dg b zs) (h2 : Dg b xs) : Dg b us := by
  intro i
  rcases h.rest i with h | ⟨j, h⟩ | ⟨j, h⟩
  · rw [h]; exact hb
  · rw [h]; exact h1 j
  · rw [h]; exact h2 j

theorem run_append_blk {P : Program} {w : World} (k : IntKind) (e : TypeId) (t ty : TypeId) (i : TypeInfo) (bytes : Nat) (ht : P.underlying t = some (.slice e)) (hi : P.info? e = some i) (hz : i.zero = some (.int k 0)) (hsize : i.size = 1) (hby : i.bytes = bytes)
    (v : Value) (n : Nat) (zs : List Nat) (hown : Own k e w v n zs) (b off m c : Nat) (xs : List Nat) (hcell : ∀ j, j < m → w.cell? ⟨b, off + j, none⟩ = some (.int k ((gt xs (off + j) : Nat) : Int))) (hm : off + m ≤ xs.length) (hm0 : 0 < m)
    (h63 : n + m ≤ maxLen) (hbytes : (n + m) * bytes ≤ 140737488355328) :
    ∃ v' w' us, (Builtin.append_ #[t, t] ty #[v, .slice (some ⟨b, off, none⟩) m c]).run P w = .ok v' w' ∧ Own k e w' v' (n + m) us ∧ w.grownBy w' v.ownBlock ∧ Apped zs us xs n m off ∧ (v'.ownBlock = v.ownBlock ∨ ∃ g, v'.ownBlock = some g ∧ w.heap.size ≤ g) := by
  have hsmall : n + m ≤ 9223372036854775807 := by simp only [maxLen] at h63; omega
  have hnl : (cellsOf k ((xs.drop off).take m)).length = m := by rw [length_cellsOf]; simp; omega
  have hl : (cellsOf k ((xs.drop off).take m)).length = m * i.size := by rw [hsize, hnl, Nat.mul_one]
  have hnews : ∀ j u, (cellsOf k ((xs.drop off).take m))[j]? = some u → w.cell? ((⟨b, off, none⟩ : Addr).add j) = some u := by
    intro j u hu
    have hj : j < m := by have := (List.getElem?_eq_some_iff.1 hu).1; omega
    rw [Addr.add_lit, hcell j hj]
    rw [cellsOf_get k _ _ (by simp; omega), gt_take hj, gt_drop] at hu
    exact hu
  have hone : ∀ u ∈ cellsOf k ((xs.drop off).take m), u.oneCell' = true := by
    intro u hu
    simp only [cellsOf, List.mem_map] at hu
    obtain ⟨_, _, rfl⟩ := hu
    rfl
  have hzc : ∀ q, (Builtin.zeroCells (Value.int k 0).cells q) = (cellsOf k (List.replicate q 0)).toArray := fun q => by rw [← zeroCells_int, Array.toArray_toList]
  rcases hown with ⟨rfl, rfl, rfl⟩ | ⟨g, rfl, hb, hn, hmx⟩
  · have hr := run_append_nil (P := P) w t ty e i (.int k 0) ht hi hz ⟨b, off, none⟩ m c _ hl hnews hm0 (by omega) (by rw [hby]; simp only [Nat.zero_add] at hbytes; omega)
    have hge := grownCap_ge w m 0 e
    refine ⟨_, _, (xs.drop off).take m ++ List.replicate (grownCap w m 0 e - m) 0, hr, .inr ⟨w.heap.size, ?_, ?_, ?_, ?_⟩, ⟨rfl, rfl, rfl, by simp, fun k hk _ => heap_alloc_old w.drew _ hk⟩, ?_, .inr ⟨w.heap.size, rfl, Nat.le_refl _⟩⟩
    · simp; congr 1; omega
    · unfold Blk
      rw [hzc]
      refine (heap_alloc_new w.drew _).trans ?_
      simp [cellsOf]
    · simp; omega
    · have := grownCap_le_maxLen w m 0 e (by omega)
      simp; omega
    · have := apped_grow (zs := []) (xs := xs) (n := 0) (m := m) (off := off) (r := grownCap w m 0 e - m) (Nat.le_refl _) hm
      simpa using this
  · have hnz : (cellsOf k (zs.take n)).length = n * i.size := by rw [hsize, length_cellsOf]; simp; omega
    by_cases hroom : n + m ≤ zs.length
    · have hr := run_append_room (P := P) w t ty e i ht hi g n zs.length (cellsOf k zs).toArray hb ⟨b, off, none⟩ m c _ hl hnews hone hroom (by rw [hsize, hnl]; simp [length_cellsOf]; omega)
      have hcells : (((cellsOf k zs).toArray.toList.take (n * i.size) ++ cellsOf k ((xs.drop off).take m) ++ (cellsOf k zs).toArray.toList.drop (n * i.size + (cellsOf k ((xs.drop off).take m)).length)).toArray) = (cellsOf k (zs.take n ++ (xs.drop off).take m ++ zs.drop (n + m))).toArray := by
        rw [hsize, hnl, Nat.mul_one]; simp [cellsOf, List.map_take, List.map_drop]
      rw [hcells] at hr
      have hlen : (zs.take n ++ (xs.drop off).take m ++ zs.drop (n + m)).length = zs.length := by simp; omega
      refine ⟨_, _, zs.take n ++ (xs.drop off).take m ++ zs.drop (n + m), hr, .inr ⟨g, by rw [hlen], setRow_heap w g _ _ e _ hb, by rw [hlen]; exact hroom, by rw [hlen]; exact hmx⟩, ⟨rfl, rfl, rfl, by simp, fun k _ hk => setRow_other w g k _ (fun e => hk (by simp [Value.ownBlock, e]))⟩, apped_room hroom hm, .inl rfl⟩
    · have holds : ∀ j u, (cellsOf k (zs.take n))[j]? = some u → w.cell? ((⟨g, 0, none⟩ : Addr).add j) = some u := by
        intro j u hu
        have hj : j < n := by have := (List.getElem?_eq_some_iff.1 hu).1; rw [length_cellsOf] at this; simp at this; omega
        rw [Addr.add_lit, Nat.zero_add, hb.cell (by omega)]
        rw [cellsOf_get k _ _ (by simp; omega), gt_take hj] at hu
        exact hu
      have hr := run_append_grow (P := P) w t ty e i (.int k 0) ht hi hz ⟨g, 0, none⟩ n zs.length (cellsOf k (zs.take n)) hnz holds ⟨b, off, none⟩ m c _ hl hnews (by omega) (by omega) (growslice_fits (by omega) (by rw [hby]; exact hbytes))
      have hge := grownCap_ge w (n + m) zs.length e
      refine ⟨_, _, zs.take n ++ (xs.drop off).take m ++ List.replicate (grownCap w (n + m) zs.length e - (n + m)) 0, hr, .inr ⟨w.heap.size, ?_, ?_, ?_, ?_⟩, ⟨rfl, rfl, rfl, by simp, fun k hk _ => heap_alloc_old w.drew _ hk⟩, apped_grow hn hm, .inr ⟨w.heap.size, rfl, Nat.le_refl _⟩⟩
      · simp; congr 1; omega
      · unfold Blk
        rw [hzc]
        refine (heap_alloc_new w.drew _).trans ?_
        simp [cellsOf]
      · simp; omega
      · have := grownCap_le_maxLen w (n + m) zs.length e h63
        simp; omega

theorem wpList_append_blk {P : Program} {w : World} {ops : Array Oper} {rest : List Oper} {o : Oper} {a : Act} {Q : Exit → Act → World → Prop} (hgd : o.guard = none) (s x : Operand) (t : TypeId)
    (ho : o.op = .call { callee := .builtin .append, args := #[s, x], argTypes := #[t, t] })
    (k : IntKind) (e : TypeId) (i : TypeInfo) (bytes : Nat) (ht : P.underlying t = some (.slice e)) (hi : P.info? e = some i) (hz : i.zero = some (.int k 0)) (hsize : i.size = 1) (hby : i.bytes = bytes)
    (v : Value) (n : Nat) (zs : List Nat) (hs : a.eval s = v) (hown : Own k e w v n zs) (b off m c : Nat) (xs : List Nat) (hx : a.eval x = .slice (some ⟨b, off, none⟩) m c)
    (hcell : ∀ j, j < m → w.cell? ⟨b, off + j, none⟩ = some (.int k ((gt xs (off + j) : Nat) : Int))) (hm : off + m ≤ xs.length) (hm0 : 0 < m)
    (h63 : n + m ≤ maxLen) (hbytes : (n + m) * bytes ≤ 140737488355328)
    (h : ∀ v' w' us, Own k e w' v' (n + m) us → w.grownBy w' v.ownBlock → Apped zs us xs n m off → (v'.ownBlock = v.ownBlock ∨ ∃ g, v'.ownBlock = some g ∧ w.heap.size ≤ g) → wpList P ops Q rest (a.put o.dst v') w') : wpList P ops Q (o :: rest) a w := by
  refine wpList_plain hgd fun K hK => ?_
  obtain ⟨v', w', us, hr, h2, h3, h4, h5⟩ := run_append_blk (P := P) (w := w) k e t o.type i bytes ht hi hz hsize hby v n zs hown b off m c xs hcell hm hm0 h63 hbytes
  unfold Oper.wp execOp
  simp only [ho, resolve, invoke, builtin, Sem.run_bind, Sem.run_pure, Result.andThen_ok, List.map_toArray, List.map_cons, List.map_nil, hs, hx, hr]
  exact hK _ _ (h v' w' us h2 h3 h4 h5)
end Go.Proofs.YteajpefbmiiioaaGreatDoor
