/- The contracts of nat.divideInPlace, nat.compare, nat.gcdOfWords. -/
import Derived.Test.YtednijejgadmnaaDoorDivL
import Derived.Test.YtednijejgadmnaaDoorInt
namespace Go.Proofs.YtednijejgadmnaaDoor
open Go.RowKit Mth

theorem vs_left (b : Nat) (xs : List Nat) (off m : Nat) : vs b xs off (m + 1) = gt xs off + b * vs b xs (off + 1) m := by
  rw [Nat.add_comm m 1, vs_split]; simp [vs]

def DipInv (xs zs : List Nat) (off n y j r : Nat) : Prop := Wrote xs zs off n ∧ Dg W64 zs ∧ r < y ∧ (∀ i, i < off + j → gt zs i = gt xs i) ∧ vs W64 xs (off + j) (n - j) = y * vs W64 zs (off + j) (n - j) + r
theorem DipInv.next {xs zs : List Nat} {off n y j r : Nat} (h : DipInv xs zs off n y (j + 1) r) (hd : Dg W64 xs) (hj : j < n) (hx : off + n ≤ xs.length) :
    DipInv xs (zs.set (off + j) ((r * W64 + gt zs (off + j)) / y)) off n y j ((r * W64 + gt zs (off + j)) % y) := by
  obtain ⟨h1, h2, h3, h4, h5⟩ := h
  have hl : off + j < zs.length := by rw [h1.len]; omega
  have hy : 0 < y := by omega
  rw [h4 (off + j) (by omega)]
  have hxj := hd (off + j)
  have hq : (r * W64 + gt xs (off + j)) / y < W64 := by
    rw [Nat.div_lt_iff_lt_mul hy]
    have h6 : (r + 1) * W64 ≤ y * W64 := Nat.mul_le_mul_right _ h3
    rw [Nat.add_mul] at h6
    rw [Nat.mul_comm W64]
    omega
  have hdm := Nat.div_add_mod (r * W64 + gt xs (off + j)) y
  have hr := Nat.mod_lt (r * W64 + gt xs (off + j)) hy
  generalize (r * W64 + gt xs (off + j)) / y = q at *
  generalize (r * W64 + gt xs (off + j)) % y = r' at *
  refine ⟨h1.step (by omega) (by omega) (by omega), h2.set hq, hr, fun i hi => ?_, ?_⟩
  · rw [gt_set hl, if_neg (by omega)]; exact h4 i (by omega)
  · rw [show n - j = (n - (j + 1)) + 1 from by omega, vs_left, vs_left, gt_set hl, if_pos rfl]
    rw [vs_congr (xs := zs.set (off + j) q) (ys := zs) (off' := off + j + 1) (fun i hi => by rw [gt_set hl, if_neg (by omega)])]
    rw [show off + j + 1 = off + (j + 1) from by omega, h5, Nat.mul_add, Nat.mul_add]
    rw [Nat.mul_left_comm y W64]
    rw [Nat.mul_comm W64 r]
    omega

/-- What divideInPlace leaves. -/
def Dived (xs zs : List Nat) (off n y r : Nat) : Prop := Wrote xs zs off n ∧ Dg W64 zs ∧ r < y ∧ vs W64 xs off n = y * vs W64 zs off n + r

theorem divideInPlace_any (b off n c y : Nat) (xs : List Nat) (w : World) (hb : Blk .u64 57 w b xs) (hn : off + n ≤ xs.length) (hd : Dg W64 xs) (hm : n ≤ 1099511627776) (hy : 0 < y) (hy2 : y < W64) :
    Calls Tryd.prog 45 #[.slice (some ⟨b, off, none⟩) n c, .int .u64 (y : Int)] w fun e w' => ∃ r zs, e = .returned (.int .u64 ((r : Nat) : Int)) ∧ Blk .u64 57 w' b zs ∧ w.grownBy w' (some b) ∧ Dived xs zs off n y r := by
  have hy0 : DipInv xs xs off n y n 0 := ⟨Wrote.refl _ _ _, hd, hy, fun _ _ => rfl, by simp [vs]⟩
  have HI0 := Lib.hid hy0
  clear hy0
  go_enter Tryd.func45, Tryd.ntmps45
  go_wp2
  go_loopw [5, 6] (fun v i wr => ∃ (j r : Nat) (zs : List Nat), j ≤ n ∧ i = .int .i64 ((j : Int) - 1) ∧ v = .int .u64 r ∧ Blk .u64 57 wr b zs ∧ w.grownBy wr (some b) ∧ Hid (DipInv xs zs off n y j r)) (fun _ i _ => (intOf i + 1).toNat)
  case atStart => exact ⟨n, 0, xs, Nat.le_refl _, rfl, rfl, hb, World.grownBy.refl _ _, HI0⟩
  case round =>
    obtain ⟨j, r, zs, hj, rfl, rfl, hbz, hg, HI⟩ := hrel
    rcases j with _ | j
    · have hi := HI.out
      go_wp2
      go_ret
      exact ⟨r, zs, rfl, hbz, hg, hi.1, hi.2.1, hi.2.2.1, hi.2.2.2.2⟩
    · rw [show (((j + 1 : Nat) : Int) - 1) = (j : Int) from by omega]
      have hlz : zs.length = xs.length := HI.out.1.len
      have hcell : wr.cell? ⟨b, off + j, none⟩ = some (.int .u64 ((gt zs (off + j) : Nat) : Int)) := hbz.cell (by omega)
      have HNX := Lib.hid (HI.out.next hd (by omega) hn)
      have hr := HI.out.2.2.1
      have hx := HI.out.2.1 (off + j)
      have HL := Lib.hid hlz
      clear HI hlz
      go_wp2_with fail
      refine (div64_any r (gt zs (off + j)) y _ hx hr hy2).mono ?_
      rintro e w' ⟨rfl, k, rfl⟩
      obtain ⟨q, hq⟩ : ∃ q, q = (r * W64 + gt zs (off + j)) / y := ⟨_, rfl⟩
      obtain ⟨r', hr'⟩ : ∃ r', r' = (r * W64 + gt zs (off + j)) % y := ⟨_, rfl⟩
      rw [show D64Val r (gt zs (off + j)) y = .tuple #[.int .u64 (q : Int), .int .u64 (r' : Int)] from by unfold D64Val; rw [hq, hr']]
      rw [← hq, ← hr'] at HNX
      clear hq hr'
      have hbz' : Blk .u64 57 (wr.drewN k) b zs := hbz
      have hg' : w.grownBy (wr.drewN k) (some b) := gr_trans hg (gr_drewN _ _ none) (.inr rfl) (.inl rfl)
      have hcell' : (wr.drewN k).cell? ⟨b, off + j, none⟩ = some (.int .u64 ((gt zs (off + j) : Nat) : Int)) := hcell
      have hfr : (wr.drewN k).frozen? ⟨b, off + j, none⟩ = false := hbz.frozen _
      generalize wr.drewN k = wk at *
      clear hcell
      go_wp2
      refine ⟨⟨j, r', _, by omega, rfl, rfl, hbz'.set _ _, gr_trans hg' (gr_set _ _ _ _) (.inr rfl) (.inr (.inl rfl)), HNX⟩, ?_⟩
      simp [intOf]

theorem cmpU64_any (x y : Nat) (w : World) :
    Calls Tryd.prog 83 #[.int .u64 (x : Int), .int .u64 (y : Int)] w fun e w' => e = .returned (.int .i64 (cmpN x y)) ∧ w = w' := by
  rcases Nat.lt_trichotomy x y with h | h | h
  · have hc : cmpN x y = -1 := by unfold cmpN; rw [if_pos h]
    have HC := Lib.hid hc
    clear hc
    go_enter Tryd.func83, Tryd.ntmps83
    go_wp2
    go_ret
    exact ⟨by rw [HC.out]; rfl, rfl⟩
  · have hc : cmpN x y = 0 := by unfold cmpN; rw [if_neg (by omega), if_neg (by omega)]
    have HC := Lib.hid hc
    subst h
    clear hc
    go_enter Tryd.func83, Tryd.ntmps83
    go_wp2
    go_ret
    exact ⟨by rw [HC.out]; rfl, rfl⟩
  · have hc : cmpN x y = 1 := by unfold cmpN; rw [if_neg (by omega), if_pos h]
    have HC := Lib.hid hc
    clear hc
    go_enter Tryd.func83, Tryd.ntmps83
    go_wp2
    go_ret
    exact ⟨by rw [HC.out]; rfl, rfl⟩

theorem cmpN_digit {x y a b P : Nat} (ha : a < P) (hb : b < P) : cmpN (a + P * x) (b + P * y) = if x = y then cmpN a b else cmpN x y := by
  unfold cmpN
  rcases Nat.lt_trichotomy x y with h | h | h
  · have h1 : P * (x + 1) ≤ P * y := Nat.mul_le_mul_left _ h
    rw [Nat.mul_add] at h1
    rw [if_neg (show ¬ x = y by omega), if_pos (by omega), if_pos h]
  · subst h; rw [if_pos rfl]
    split <;> split <;> (try split) <;> omega
  · have h1 : P * (y + 1) ≤ P * x := Nat.mul_le_mul_left _ h
    rw [Nat.mul_add] at h1
    rw [if_neg (show ¬ x = y by omega), if_neg (by omega), if_pos (by omega), if_neg (by omega), if_pos h]
/-- Numbers whose digits from j on are equal are compared by the digit below. -/
theorem cmpN_vs {xs ys : List Nat} {o1 o2 n j : Nat} (hx : Dg W64 xs) (hy : Dg W64 ys) (hj : j < n) (he : ∀ i, j < i → i < n → gt xs (o1 + i) = gt ys (o2 + i)) (hne : gt xs (o1 + j) ≠ gt ys (o2 + j)) :
    cmpN (vs W64 xs o1 n) (vs W64 ys o2 n) = cmpN (gt xs (o1 + j)) (gt ys (o2 + j)) := by
  obtain ⟨m, rfl⟩ : ∃ m, n = j + (m + 1) := ⟨n - (j + 1), by omega⟩
  rw [vs_split W64 xs o1 j (m + 1), vs_split W64 ys o2 j (m + 1), cmpN_digit (vs_lt hx) (vs_lt hy), vs_left, vs_left]
  rw [vs_congr (xs := ys) (ys := xs) (off := o2 + j + 1) (off' := o1 + j + 1) (n := m) (fun i hi => by rw [Nat.add_assoc, Nat.add_assoc, Nat.add_assoc, Nat.add_assoc]; exact (he (j + (1 + i)) (by omega) (by omega)).symm)]
  generalize vs W64 xs (o1 + j + 1) m = T
  generalize gt xs (o1 + j) = x at *
  generalize gt ys (o2 + j) = y at *
  generalize W64 * T = S
  rw [if_neg (by omega)]
  unfold cmpN
  rcases Nat.lt_or_gt_of_ne hne with h | h
  · rw [if_pos (by omega), if_pos (by omega)]
  · rw [if_neg (by omega), if_pos (by omega), if_neg (by omega), if_pos (by omega)]

theorem compare_ne (b1 o1 n1 c1 b2 o2 n2 c2 : Nat) (xs ys : List Nat) (w : World) (hd : Dg W64 xs) (hd2 : Dg W64 ys) (ht1 : n1 = 0 ∨ gt xs (o1 + (n1 - 1)) ≠ 0) (ht2 : n2 = 0 ∨ gt ys (o2 + (n2 - 1)) ≠ 0) (hne : n1 ≠ n2) :
    Calls Tryd.prog 59 #[.slice (some ⟨b1, o1, none⟩) n1 c1, .slice (some ⟨b2, o2, none⟩) n2 c2] w fun e w' => e = .returned (.int .i64 (cmpN (vs W64 xs o1 n1) (vs W64 ys o2 n2))) ∧ w = w' := by
  have hge : ∀ {zs : List Nat} {o n m : Nat}, (n = 0 ∨ gt zs (o + (n - 1)) ≠ 0) → m < n → W64 ^ m ≤ vs W64 zs o n := by
    intro zs o n m ht hm
    obtain ⟨k, rfl⟩ : ∃ k, n = k + 1 := ⟨n - 1, by omega⟩
    have h1 : gt zs (o + k) ≠ 0 := by rcases ht with h | h; omega; simpa using h
    simp only [vs]
    have h2 : W64 ^ k * 1 ≤ W64 ^ k * gt zs (o + k) := Nat.mul_le_mul_left _ (by omega)
    have h3 : W64 ^ m ≤ W64 ^ k := Nat.pow_le_pow_right W64_pos (by omega)
    omega
  have h1 := vs_lt (off := o1) (n := n1) hd
  have h2 := vs_lt (off := o2) (n := n2) hd2
  have hc : Lib.compareInt (n1 : Int) (n2 : Int) = cmpN (vs W64 xs o1 n1) (vs W64 ys o2 n2) := by
    unfold Lib.compareInt cmpN
    rcases Nat.lt_or_gt_of_ne hne with h | h
    · have h3 := hge ht2 h
      rw [if_pos (by omega), if_pos (by omega)]
    · have h3 := hge ht1 h
      rw [if_neg (by omega), if_pos (by omega), if_neg (by omega), if_pos (by omega)]
  have HC := Lib.hid hc
  have hb : ((n1 : Int) != (n2 : Int)) = true := by rw [bne_iff_ne]; omega
  clear hc hge h1 h2 hne
  go_enter Tryd.func59, Tryd.ntmps59
  go_wp2_with fail
  refine (Tryd.cmp_Compare_int _ _ _).mono ?_
  rintro e w' ⟨rfl, rfl⟩
  go_wp2
  go_ret
  exact ⟨by rw [← HC.out]; rfl, rfl⟩

theorem quiet_add_left {P : Program} {f : FuncId} {args : Array Value} {w : World} {a n : Nat} {v : Value}
    (h : Calls P f args (w.drewN (a + n)) fun e w' => e = .returned v ∧ w.drewN (a + n) = w') :
    Calls P f args (w.drewN (a + n)) fun e w'' => e = .returned v ∧ ∃ m, w'' = w.drewN (a + m) :=
  h.mono fun _ _ ⟨he, hm⟩ => ⟨he, n, hm.symm⟩
/-- wr is w, but for draws. -/
def Qt (w wr : World) : Prop := ∃ k, wr = w.drewN k
theorem Qt.refl (w : World) : Qt w w := ⟨0, rfl⟩
theorem Qt.more {w wr : World} (h : Qt w wr) (n : Nat) : Qt w (wr.drewN n) := by obtain ⟨k, rfl⟩ := h; exact ⟨k + n, World.drewN_drewN _ _ _⟩
theorem Qt.gr {w wr : World} (h : Qt w wr) (r : Option Nat) : w.grownBy wr r := by obtain ⟨k, rfl⟩ := h; exact gr_drewN _ _ _

theorem compare_eq (b1 o1 n c1 b2 o2 c2 : Nat) (xs ys : List Nat) (w : World) (hb1 : Blk .u64 57 w b1 xs) (hn1 : o1 + n ≤ xs.length) (hb2 : Blk .u64 57 w b2 ys) (hn2 : o2 + n ≤ ys.length) (hd : Dg W64 xs) (hd2 : Dg W64 ys) (hm : n ≤ 1099511627776) :
    Calls Tryd.prog 59 #[.slice (some ⟨b1, o1, none⟩) n c1, .slice (some ⟨b2, o2, none⟩) n c2] w fun e w' => e = .returned (.int .i64 (cmpN (vs W64 xs o1 n) (vs W64 ys o2 n))) ∧ Qt w w' := by
  have hb : ((n : Int) != (n : Int)) = false := by rw [bne_eq_false_iff_eq]
  go_enter Tryd.func59, Tryd.ntmps59
  go_wp2
  go_loopw [5] (fun i wr => ∃ (j : Nat), j ≤ n ∧ i = .int .i64 ((j : Int) - 1) ∧ Qt w wr ∧ Hid (∀ i, j ≤ i → i < n → gt xs (o1 + i) = gt ys (o2 + i))) (fun i _ => (intOf i + 1).toNat)
  case atStart => exact ⟨n, Nat.le_refl _, rfl, Qt.refl _, fun i h1 h2 => by omega⟩
  case round =>
    obtain ⟨j, hj, rfl, hqt, HE⟩ := hrel
    have hb1r := hb1.kept (hqt.gr none) (by simp)
    have hb2r := hb2.kept (hqt.gr none) (by simp)
    rcases j with _ | j
    · have hv : cmpN (vs W64 xs o1 n) (vs W64 ys o2 n) = 0 := by
        rw [vs_congr (ys := ys) (off' := o2) (fun i hi => HE.out i (Nat.zero_le _) hi)]
        unfold cmpN; rw [if_neg (by omega), if_neg (by omega)]
      have HV := Lib.hid hv
      clear hv
      go_wp2
      go_ret
      exact ⟨by rw [HV.out]; rfl, hqt⟩
    · rw [show (((j + 1 : Nat) : Int) - 1) = (j : Int) from by omega]
      obtain ⟨x, hx⟩ : ∃ x, x = gt xs (o1 + j) := ⟨_, rfl⟩
      obtain ⟨y, hy⟩ : ∃ y, y = gt ys (o2 + j) := ⟨_, rfl⟩
      have hcx : wr.cell? ⟨b1, o1 + j, none⟩ = some (.int .u64 (x : Int)) := by rw [hx]; exact hb1r.cell (by omega)
      have hcy : wr.cell? ⟨b2, o2 + j, none⟩ = some (.int .u64 (y : Int)) := by rw [hy]; exact hb2r.cell (by omega)
      have hjn : (j : Int) < (n : Int) := by omega
      have hj0 : (0 : Int) ≤ (j : Int) := by omega
      have HX := Lib.hid hx
      have HY := Lib.hid hy
      clear hx hy
      by_cases he : x = y
      · have hbx : ((x : Int) != (y : Int)) = false := by rw [bne_eq_false_iff_eq, he]
        have HE2 := Lib.hid he
        clear he
        go_wp2
        go_quiet (fail)
        go_wp2
        refine ⟨⟨j, by omega, rfl, hqt.more _, fun i h1 h2 => ?_⟩, by simp [intOf]⟩
        by_cases e : i = j
        · rw [e, ← HX.out, ← HY.out]; exact HE2.out
        · exact HE.out i (by omega) h2
      · have hbx : ((x : Int) != (y : Int)) = true := by rw [bne_iff_ne]; omega
        go_wp2
        go_quiet (fail)
        go_wp2
        go_quiet ((go_at_call 83; exact quiet_add_left (cmpU64_any _ _ _)))
        go_wp2
        have hv : cmpN (vs W64 xs o1 n) (vs W64 ys o2 n) = cmpN x y := by
          rw [HX.out, HY.out]
          exact cmpN_vs hd hd2 (by omega) (fun i h1 h2 => HE.out i h1 h2) (by rw [← HX.out, ← HY.out]; exact he)
        go_ret
        exact ⟨by rw [hv]; rfl, (hqt.more _).more _⟩

theorem compare_any (b1 o1 n1 c1 b2 o2 n2 c2 : Nat) (xs ys : List Nat) (w : World) (hb1 : Blk .u64 57 w b1 xs) (hn1 : o1 + n1 ≤ xs.length) (hb2 : Blk .u64 57 w b2 ys) (hn2 : o2 + n2 ≤ ys.length) (hd : Dg W64 xs) (hd2 : Dg W64 ys) (hm : n1 ≤ 1099511627776)
    (ht1 : n1 = 0 ∨ gt xs (o1 + (n1 - 1)) ≠ 0) (ht2 : n2 = 0 ∨ gt ys (o2 + (n2 - 1)) ≠ 0) :
    Calls Tryd.prog 59 #[.slice (some ⟨b1, o1, none⟩) n1 c1, .slice (some ⟨b2, o2, none⟩) n2 c2] w fun e w' => e = .returned (.int .i64 (cmpN (vs W64 xs o1 n1) (vs W64 ys o2 n2))) ∧ Qt w w' := by
  by_cases h : n1 = n2
  · subst h; exact compare_eq b1 o1 n1 c1 b2 o2 c2 xs ys w hb1 hn1 hb2 hn2 hd hd2 hm
  · exact (compare_ne b1 o1 n1 c1 b2 o2 n2 c2 xs ys w hd hd2 ht1 ht2 h).mono fun _ _ ⟨h1, h2⟩ => ⟨h1, h2 ▸ Qt.refl _⟩

theorem gcdOfWords_any (x y : Nat) (w : World) (_hx : x < W64) (_hy : y < W64) :
    Calls Tryd.prog 44 #[.int .u64 (x : Int), .int .u64 (y : Int)] w fun e w' => e = .returned (.int .u64 ((Nat.gcd x y : Nat) : Int)) ∧ Qt w w' := by
  go_enter Tryd.func44, Tryd.ntmps44
  go_wp2
  go_loopw [0, 1] (fun u v wr => ∃ (a b : Nat), u = .int .u64 a ∧ v = .int .u64 b ∧ Qt w wr ∧ Hid (Nat.gcd a b = Nat.gcd x y)) (fun _ v _ => (intOf v).toNat)
  case atStart => exact ⟨x, y, rfl, rfl, Qt.refl _, rfl⟩
  case round =>
    obtain ⟨a, b, rfl, rfl, hqt, HG⟩ := hrel
    rcases Nat.eq_zero_or_pos b with h | h
    · subst h
      go_wp2
      go_ret
      exact ⟨by rw [← HG.out, Nat.gcd_zero_right]; rfl, hqt⟩
    · have hb0 : ((b : Int) == 0) = false := by rw [beq_eq_false_iff_ne]; omega
      have hlt := Nat.mod_lt a h
      obtain ⟨r, hr⟩ : ∃ r, r = a % b := ⟨_, rfl⟩
      have hw : (a : Int) % (b : Int) = (r : Int) := by rw [hr, Int.natCast_emod]
      rw [← hr] at hlt
      have HR := Lib.hid hr
      clear hr
      go_wp2
      go_quiet (fail)
      go_wp2
      refine ⟨⟨b, r, rfl, by rw [hw], hqt.more _, ?_⟩, by rw [hw]; simp [intOf]; omega⟩
      show _ = _
      rw [← HG.out, HR.out, Nat.gcd_comm b, ← Nat.gcd_rec, Nat.gcd_comm]
end Go.Proofs.YtednijejgadmnaaDoor
