/- Contracts of the program and of the reference, part 0: MthQ, MthV, Mth, MthW, MthB, MthD. -/
import Derived.Lib.ItoaNum
namespace Go.Proofs.YteajpefbmiiioaaGreatDoor
namespace Mth

theorem rat_is {z : Int} {d : Nat} (hd : d ≠ 0) (hc : z.natAbs.Coprime d) {q : Rat} (h : mkRat z d = q) : q.num = z ∧ q.den = d := by
  rw [← Rat.mk_eq_mkRat z d hd hc] at h
  subst h; exact ⟨rfl, rfl⟩
theorem low_num {z : Int} {d : Nat} (hd : d ≠ 0) : (mkRat z d).num.natAbs = z.natAbs / Nat.gcd z.natAbs d := by
  rw [Rat.num_mkRat, if_neg hd, Nat.gcd_comm, Int.natAbs_ediv_of_dvd, Int.natAbs_natCast]
  exact Int.ofNat_dvd_left.2 (Nat.gcd_dvd_left _ _)
theorem low_den {z : Int} {d : Nat} (hd : d ≠ 0) : (mkRat z d).den = d / Nat.gcd z.natAbs d := by
  rw [Rat.den_mkRat, if_neg hd, Nat.gcd_comm]
theorem low_neg {z : Int} {d : Nat} (hd : d ≠ 0) : (mkRat z d).num < 0 ↔ z < 0 := by
  rw [Rat.num_mkRat, if_neg hd]
  have hg : 0 < Nat.gcd d z.natAbs := Nat.gcd_pos_of_pos_left _ (by omega)
  constructor
  · intro h
    refine Int.not_le.1 fun h2 => ?_
    have := Int.ediv_nonneg h2 (Int.natCast_nonneg (Nat.gcd d z.natAbs))
    omega
  · intro h
    exact Int.ediv_neg_of_neg_of_pos h (by omega)
theorem cop_add {x y : Int} {m : Nat} (h : x.natAbs.Coprime m) : (x + y * m).natAbs.Coprime m := by
  have h1 : Int.gcd (x + y * m) m = Int.gcd x m := by
    simp
  have e1 : Int.gcd (x + y * m) m = Nat.gcd (x + y * m).natAbs m := by simp [Int.gcd]
  have e2 : Int.gcd x m = Nat.gcd x.natAbs m := by simp [Int.gcd]
  unfold Nat.Coprime
  rw [← e1, h1, e2]; exact h
theorem knuth_sum (p q : Rat) : ∀ s a b z left : _, s = Nat.gcd p.den q.den → a = p.den / s → b = q.den / s → z = p.num * (b : Int) + q.num * (a : Int) → left = Nat.gcd z.natAbs s → (p + q).num = z / (left : Int) ∧ (p + q).den = a * (q.den / left) := by
  rintro s a b z left hs ha hb hz hl
  have hp0 := p.den_nz
  have hq0 := q.den_nz
  have hs0 : 0 < s := by rw [hs]; exact Nat.gcd_pos_of_pos_left _ (by omega)
  have hl0 : 0 < left := by rw [hl]; exact Nat.gcd_pos_of_pos_right _ hs0
  have hpa : p.den = a * s := by rw [ha]; exact (Nat.div_mul_cancel (by rw [hs]; exact Nat.gcd_dvd_left _ _)).symm
  have hqb : q.den = b * s := by rw [hb]; exact (Nat.div_mul_cancel (by rw [hs]; exact Nat.gcd_dvd_right _ _)).symm
  obtain ⟨t, ht⟩ : left ∣ s := by rw [hl]; exact Nat.gcd_dvd_right _ _
  have hlz : (left : Int) ∣ z := by rw [hl]; exact Int.ofNat_dvd_left.2 (Nat.gcd_dvd_left _ _)
  obtain ⟨z', hz'⟩ := hlz
  have hzl : z / (left : Int) = z' := by rw [hz', Int.mul_ediv_cancel_left _ (by omega)]
  have hbt : q.den / left = b * t := by
    rw [hqb, ht, show b * (left * t) = left * (b * t) from by rw [Nat.mul_left_comm], Nat.mul_div_cancel_left _ hl0]
  have hab : a.Coprime b := by rw [ha, hb, hs]; exact Nat.coprime_div_gcd_div_gcd (by rw [← hs]; exact hs0)
  have ha0 : a ≠ 0 := by intro e; rw [e, Nat.zero_mul] at hpa; exact hp0 hpa
  have hb0 : b ≠ 0 := by intro e; rw [e, Nat.zero_mul] at hqb; exact hq0 hqb
  have ht0 : t ≠ 0 := by intro e; rw [e, Nat.mul_zero] at ht; omega
  have hpc : p.num.natAbs.Coprime a := Nat.Coprime.coprime_dvd_right ⟨s, hpa⟩ p.reduced
  have hqc : q.num.natAbs.Coprime b := Nat.Coprime.coprime_dvd_right ⟨s, hqb⟩ q.reduced
  have hza : z.natAbs.Coprime a := by
    rw [hz]
    refine cop_add ?_
    rw [Int.natAbs_mul, Int.natAbs_natCast]
    exact Nat.Coprime.mul_left hpc hab.symm
  have hzb : z.natAbs.Coprime b := by
    rw [hz, Int.add_comm]
    refine cop_add ?_
    rw [Int.natAbs_mul, Int.natAbs_natCast]
    exact Nat.Coprime.mul_left hqc hab
  have hdz : z'.natAbs ∣ z.natAbs := ⟨left, by rw [hz', Int.natAbs_mul, Int.natAbs_natCast, Nat.mul_comm]⟩
  have hzt : z'.natAbs.Coprime t := by
    have h1 := Nat.coprime_div_gcd_div_gcd (m := z.natAbs) (n := s) (by rw [← hl]; exact hl0)
    rw [← hl, ht, Nat.mul_div_cancel_left _ hl0, hz', Int.natAbs_mul, Int.natAbs_natCast, Nat.mul_div_cancel_left _ hl0] at h1
    exact h1
  have hc : z'.natAbs.Coprime (a * (b * t)) := Nat.Coprime.mul_right (Nat.Coprime.coprime_dvd_left hdz hza) (Nat.Coprime.mul_right (Nat.Coprime.coprime_dvd_left hdz hzb) hzt)
  rw [hzl, hbt]
  have hd0 : a * (b * t) ≠ 0 := Nat.mul_ne_zero ha0 (Nat.mul_ne_zero hb0 ht0)
  refine rat_is hd0 hc ?_
  rw [Rat.add_def', Rat.mkRat_eq_iff hd0 (Nat.mul_ne_zero hp0 hq0), hpa, hqb, ht]
  have hz2 : p.num * (b : Int) + q.num * (a : Int) = (left : Int) * z' := by rw [← hz, hz']
  push_cast
  grind
theorem knuth_mul (p q : Rat) : ∀ ab ba : Nat, ab = Nat.gcd p.num.natAbs q.den → ba = Nat.gcd q.num.natAbs p.den →
    (p * q).num = p.num / (ab : Int) * (q.num / (ba : Int)) ∧ (p * q).den = p.den / ba * (q.den / ab) := by
  rintro ab ba h1 h2
  have hp0 := p.den_nz
  have hq0 := q.den_nz
  have hab0 : 0 < ab := by rw [h1]; exact Nat.gcd_pos_of_pos_right _ (by omega)
  have hba0 : 0 < ba := by rw [h2]; exact Nat.gcd_pos_of_pos_right _ (by omega)
  obtain ⟨x, hx⟩ : (ab : Int) ∣ p.num := by rw [h1]; exact Int.ofNat_dvd_left.2 (Nat.gcd_dvd_left _ _)
  obtain ⟨y, hy⟩ : (ba : Int) ∣ q.num := by rw [h2]; exact Int.ofNat_dvd_left.2 (Nat.gcd_dvd_left _ _)
  obtain ⟨u, hu⟩ : ba ∣ p.den := by rw [h2]; exact Nat.gcd_dvd_right _ _
  obtain ⟨v, hv⟩ : ab ∣ q.den := by rw [h1]; exact Nat.gcd_dvd_right _ _
  have hu0 : u ≠ 0 := by intro e; rw [e, Nat.mul_zero] at hu; exact hp0 hu
  have hv0 : v ≠ 0 := by intro e; rw [e, Nat.mul_zero] at hv; exact hq0 hv
  have e1 : p.num / (ab : Int) = x := by rw [hx, Int.mul_ediv_cancel_left _ (by omega)]
  have e2 : q.num / (ba : Int) = y := by rw [hy, Int.mul_ediv_cancel_left _ (by omega)]
  have e3 : p.den / ba = u := by rw [hu, Nat.mul_div_cancel_left _ hba0]
  have e4 : q.den / ab = v := by rw [hv, Nat.mul_div_cancel_left _ hab0]
  have nx : p.num.natAbs = ab * x.natAbs := by rw [hx, Int.natAbs_mul, Int.natAbs_natCast]
  have ny : q.num.natAbs = ba * y.natAbs := by rw [hy, Int.natAbs_mul, Int.natAbs_natCast]
  have cxu : x.natAbs.Coprime u := Nat.Coprime.coprime_dvd_left ⟨ab, by rw [nx, Nat.mul_comm]⟩ (Nat.Coprime.coprime_dvd_right ⟨ba, by rw [hu, Nat.mul_comm]⟩ p.reduced)
  have cyv : y.natAbs.Coprime v := Nat.Coprime.coprime_dvd_left ⟨ba, by rw [ny, Nat.mul_comm]⟩ (Nat.Coprime.coprime_dvd_right ⟨ab, by rw [hv, Nat.mul_comm]⟩ q.reduced)
  have cxv : x.natAbs.Coprime v := by
    have h := Nat.coprime_div_gcd_div_gcd (m := p.num.natAbs) (n := q.den) (by rw [← h1]; exact hab0)
    rw [← h1, nx, hv, Nat.mul_div_cancel_left _ hab0, Nat.mul_div_cancel_left _ hab0] at h
    exact h
  have cyu : y.natAbs.Coprime u := by
    have h := Nat.coprime_div_gcd_div_gcd (m := q.num.natAbs) (n := p.den) (by rw [← h2]; exact hba0)
    rw [← h2, ny, hu, Nat.mul_div_cancel_left _ hba0, Nat.mul_div_cancel_left _ hba0] at h
    exact h
  have hc : (x * y).natAbs.Coprime (u * v) := by
    rw [Int.natAbs_mul]
    exact Nat.Coprime.mul_left (Nat.Coprime.mul_right cxu cxv) (Nat.Coprime.mul_right cyu cyv)
  rw [e1, e2, e3, e4]
  have hd0 : u * v ≠ 0 := Nat.mul_ne_zero hu0 hv0
  refine rat_is hd0 hc ?_
  rw [Rat.mul_def', Rat.mkRat_eq_iff hd0 (Nat.mul_ne_zero hp0 hq0), hx, hy, hu, hv]
  push_cast
  grind
/-- The value of a sign and a natural number. -/
def sg (neg : Bool) (n : Nat) : Int := if neg then -(n : Int) else n
theorem sg_abs (neg : Bool) (n : Nat) : (sg neg n).natAbs = n := by unfold sg; split <;> simp
theorem sg_neg (neg : Bool) (n : Nat) : sg neg n < 0 ↔ neg = true ∧ n ≠ 0 := by unfold sg; split <;> simp_all <;> omega
theorem sg_num (q : Rat) : sg (decide (q.num < 0)) q.num.natAbs = q.num := by
  unfold sg
  by_cases h : q.num < 0
  · rw [if_pos (by simpa using h)]; omega
  · rw [if_neg (by simpa using h)]; omega
/-- The sign of a rational number, and how two are compared. -/
def sgnQ (q : Rat) : Int := if q.num < 0 then -1 else if q.num = 0 then 0 else 1
def cmpQ (p q : Rat) : Int := sgnQ (p - q)
theorem num_lt_zero {q : Rat} : q.num < 0 ↔ q < 0 := by
  rw [← Int.not_le, Rat.num_nonneg, ← Rat.not_lt, Classical.not_not]
theorem sgnQ_neg {q : Rat} (h : q < 0) : sgnQ q = -1 := by unfold sgnQ; rw [if_pos (num_lt_zero.2 h)]
theorem sgnQ_zero : sgnQ 0 = 0 := by decide
theorem sgnQ_pos {q : Rat} (h : 0 < q) : sgnQ q = 1 := by
  have h1 : ¬ q.num < 0 := by rw [num_lt_zero]; exact Rat.not_lt.2 (Rat.le_of_lt h)
  have h2 : ¬ q.num = 0 := by rw [Rat.num_eq_zero]; intro e; rw [e] at h; exact absurd h (by decide)
  unfold sgnQ; rw [if_neg h1, if_neg h2]
theorem tri (q : Rat) : q < 0 ∨ q = 0 ∨ 0 < q := by
  by_cases h1 : q < 0
  · exact .inl h1
  · by_cases h2 : 0 < q
    · exact .inr (.inr h2)
    · exact .inr (.inl (Rat.le_antisymm (Rat.not_lt.1 h2) (Rat.not_lt.1 h1)))
theorem neg_pos_of {q : Rat} (h : q < 0) : 0 < -q := by
  have := Rat.neg_lt_neg_iff.2 h
  rwa [Rat.neg_zero] at this
theorem neg_neg_of {q : Rat} (h : 0 < q) : -q < 0 := by
  have := Rat.neg_lt_neg_iff.2 h
  rwa [Rat.neg_zero] at this
theorem sgnQ_negate (q : Rat) : sgnQ (-q) = - sgnQ q := by
  rcases tri q with h | h | h
  · rw [sgnQ_neg h, sgnQ_pos (neg_pos_of h)]; rfl
  · rw [h, Rat.neg_zero, sgnQ_zero]; rfl
  · rw [sgnQ_pos h, sgnQ_neg (neg_neg_of h)]
theorem sgnQ_mul (p q : Rat) : sgnQ (p * q) = sgnQ p * sgnQ q := by
  rcases tri p with h | h | h
  · rcases tri q with g | g | g
    · have : 0 < -p * -q := Rat.mul_pos (neg_pos_of h) (neg_pos_of g)
      rw [Rat.neg_mul, Rat.mul_neg, Rat.neg_neg] at this
      rw [sgnQ_pos this, sgnQ_neg h, sgnQ_neg g]; rfl
    · rw [g, Rat.mul_zero, sgnQ_zero, Int.mul_zero]
    · have : 0 < -p * q := Rat.mul_pos (neg_pos_of h) g
      rw [Rat.neg_mul] at this
      have h2 := neg_neg_of this
      rw [Rat.neg_neg] at h2
      rw [sgnQ_neg h2, sgnQ_neg h, sgnQ_pos g]; rfl
  · rw [h, Rat.zero_mul, sgnQ_zero, Int.zero_mul]
  · rcases tri q with g | g | g
    · have : 0 < p * -q := Rat.mul_pos h (neg_pos_of g)
      rw [Rat.mul_neg] at this
      have h2 := neg_neg_of this
      rw [Rat.neg_neg] at h2
      rw [sgnQ_neg h2, sgnQ_pos h, sgnQ_neg g]; rfl
    · rw [g, Rat.mul_zero, sgnQ_zero, Int.mul_zero]
    · rw [sgnQ_pos (Rat.mul_pos h g), sgnQ_pos h, sgnQ_pos g]; rfl
theorem sgnQ_eq_zero {q : Rat} : sgnQ q = 0 ↔ q = 0 := by
  rcases tri q with h | h | h
  · rw [sgnQ_neg h]; constructor
    · intro e; exact absurd e (by decide)
    · intro e; rw [e] at h; exact absurd h (by decide)
  · rw [h, sgnQ_zero]; simp
  · rw [sgnQ_pos h]; constructor
    · intro e; exact absurd e (by decide)
    · intro e; rw [e] at h; exact absurd h (by decide)
theorem cmpQ_swap (p q : Rat) : cmpQ p q = - cmpQ q p := by
  unfold cmpQ; rw [← sgnQ_negate, Rat.neg_sub]
theorem cmpQ_eq {p q : Rat} : cmpQ p q = 0 ↔ p = q := by
  unfold cmpQ
  rw [sgnQ_eq_zero]
  constructor
  · intro h; grind
  · intro h; rw [h, Rat.sub_self]
theorem cmpQ_add (p q r : Rat) : cmpQ (p + r) (q + r) = cmpQ p q := by
  unfold cmpQ; congr 1; grind
theorem cmpQ_mul (p q r : Rat) : cmpQ (p * r) (q * r) = cmpQ p q * sgnQ r := by
  unfold cmpQ; rw [← sgnQ_mul]; congr 1; grind
theorem cmpQ_zero (p : Rat) : cmpQ p 0 = sgnQ p := by
  unfold cmpQ; congr 1; grind
theorem cmpQ_lt {p q : Rat} : cmpQ p q < 0 ↔ p < q := by
  unfold cmpQ
  rw [show p < q ↔ p - q < 0 from by grind]
  rcases tri (p - q) with h | h | h
  · rw [sgnQ_neg h]; simp [h]
  · rw [h, sgnQ_zero]; simp
  · rw [sgnQ_pos h]; constructor
    · intro e; exact absurd e (by decide)
    · intro e; grind
theorem cmpQ_trans (p q r : Rat) : cmpQ p q < 0 ∨ cmpQ q r < 0 ∨ 0 ≤ cmpQ p r := by
  rw [cmpQ_lt, cmpQ_lt, ← Int.not_lt, cmpQ_lt]
  grind
/-- Two numbers with a sign, by their cross products. -/
theorem cmpQ_cross (p q : Rat) : (p < q ↔ p.num * q.den < q.num * p.den) := Rat.lt_iff p q
theorem inv_parts {q : Rat} (h : q ≠ 0) : (q⁻¹).num.natAbs = q.den ∧ (q⁻¹).den = q.num.natAbs ∧ ((q⁻¹).num < 0 ↔ q.num < 0) := by
  have hn : q.num ≠ 0 := fun e => h (Rat.num_eq_zero.1 e)
  have hd : 0 < q.den := Nat.pos_of_ne_zero q.den_nz
  rw [Rat.num_inv, Rat.den_inv, if_neg hn]
  refine ⟨?_, rfl, ?_⟩
  · rw [Int.natAbs_mul, Int.natAbs_sign_of_ne_zero hn, Nat.one_mul, Int.natAbs_natCast]
  · rcases Int.lt_or_gt_of_ne hn with h1 | h1
    · rw [Int.sign_eq_neg_one_of_neg h1]; omega
    · rw [Int.sign_eq_one_of_pos h1]; omega
end Mth
end Go.Proofs.YteajpefbmiiioaaGreatDoor
namespace Go.Proofs.YteajpefbmiiioaaGreatDoor
namespace Mth

theorem sg_mul (a b : Bool) (m n : Nat) : sg a m * sg b n = sg (a != b) (m * n) := by
  unfold sg; cases a <;> cases b <;> simp [Int.neg_mul, Int.mul_neg]
theorem sg_scale (a : Bool) (m n : Nat) : sg a (m * n) = sg a m * (n : Int) := by
  unfold sg; cases a <;> simp [Int.neg_mul]
theorem abs_pos_of {q : Rat} (h : q.num < 0) : 0 < q.num.natAbs := by omega
theorem abs_div {z : Int} {a : Nat} (h : a ∣ z.natAbs) : (z / (a : Int)).natAbs = z.natAbs / a := by
  rw [Int.natAbs_ediv_of_dvd (Int.ofNat_dvd_left.2 h), Int.natAbs_natCast]
/-- The parts of a product. -/
theorem mul_parts (p q : Rat) : ∀ ab ba : Nat, ab = Nat.gcd p.num.natAbs q.den → ba = Nat.gcd q.num.natAbs p.den →
    (p * q).num.natAbs = p.num.natAbs / ab * (q.num.natAbs / ba) ∧ (p * q).den = p.den / ba * (q.den / ab) := by
  intro ab ba h1 h2
  obtain ⟨a, b⟩ := knuth_mul p q ab ba h1 h2
  refine ⟨?_, b⟩
  rw [a, Int.natAbs_mul, abs_div (by rw [h1]; exact Nat.gcd_dvd_left _ _), abs_div (by rw [h2]; exact Nat.gcd_dvd_left _ _)]
theorem sgn_neg (r : Rat) : decide (r.num < 0) = decide (sgnQ r = -1) := by
  rw [decide_eq_decide]; unfold sgnQ
  constructor
  · intro h; rw [if_pos h]
  · intro h; split at h
    · assumption
    · split at h <;> exact absurd h (by decide)
theorem sgn_abs (r : Rat) : decide (r.num.natAbs ≠ 0) = decide (sgnQ r ≠ 0) := by
  rw [decide_eq_decide]; unfold sgnQ
  constructor
  · intro h; split
    · decide
    · rw [if_neg (by omega)]; decide
  · intro h e; rw [if_neg (by omega), if_pos (by omega)] at h; exact h rfl
theorem sgn_three (r : Rat) : sgnQ r = -1 ∨ sgnQ r = 0 ∨ sgnQ r = 1 := by
  rcases tri r with h | h | h
  · exact .inl (sgnQ_neg h)
  · rw [h]; exact .inr (.inl sgnQ_zero)
  · exact .inr (.inr (sgnQ_pos h))
theorem mul_neg_parts (p q : Rat) : decide ((p * q).num < 0) = ((decide (p.num < 0) != decide (q.num < 0)) && decide ((p * q).num.natAbs ≠ 0)) := by
  rw [sgn_neg, sgn_abs, sgnQ_mul, sgn_neg p, sgn_neg q]
  rcases sgn_three p with h | h | h <;> rcases sgn_three q with g | g | g <;> rw [h, g] <;> rfl
/-- The parts of a sum. -/
theorem sum_parts (p q : Rat) : ∀ s a b left : Nat, ∀ z : Int, s = Nat.gcd p.den q.den → a = p.den / s → b = q.den / s → z = sg (decide (p.num < 0)) (p.num.natAbs * b) + sg (decide (q.num < 0)) (q.num.natAbs * a) → left = Nat.gcd z.natAbs s →
    (p + q).num.natAbs = z.natAbs / left ∧ (p + q).den = a * (q.den / left) ∧ decide ((p + q).num < 0) = decide (z < 0) := by
  intro s a b left z h1 h2 h3 h4 h5
  have hz : z = p.num * (b : Int) + q.num * (a : Int) := by rw [h4, sg_scale, sg_scale, sg_num, sg_num]
  obtain ⟨e1, e2⟩ := knuth_sum p q s a b z left h1 h2 h3 hz h5
  have hs0 : 0 < s := by rw [h1]; exact Nat.gcd_pos_of_pos_left _ (Nat.pos_of_ne_zero p.den_nz)
  have hl0 : 0 < left := by rw [h5]; exact Nat.gcd_pos_of_pos_right _ hs0
  have hd : left ∣ z.natAbs := by rw [h5]; exact Nat.gcd_dvd_left _ _
  refine ⟨by rw [e1, abs_div hd], e2, ?_⟩
  rw [e1, decide_eq_decide]
  constructor
  · intro h
    refine Int.not_le.1 fun h2 => ?_
    have := Int.ediv_nonneg h2 (Int.natCast_nonneg left)
    omega
  · intro h; exact Int.ediv_neg_of_neg_of_pos h (by omega)
theorem low_parts (b : Bool) (m : Nat) {n : Nat} (hn : n ≠ 0) : (mkRat (sg b m) n).num.natAbs = m / Nat.gcd m n ∧ (mkRat (sg b m) n).den = n / Nat.gcd m n ∧ decide ((mkRat (sg b m) n).num < 0) = (b && decide (m ≠ 0)) := by
  refine ⟨by rw [low_num hn, sg_abs], by rw [low_den hn, sg_abs], ?_⟩
  rw [Bool.eq_iff_iff]
  simp only [decide_eq_true_eq, Bool.and_eq_true]
  rw [low_neg hn, sg_neg]
theorem mk_self (q : Rat) : mkRat (sg (decide (q.num < 0)) q.num.natAbs) q.den = q := by rw [sg_num, Rat.mkRat_self]
theorem add_mk (p q : Rat) : mkRat (sg (decide (p.num < 0)) (p.num.natAbs * q.den) + sg (decide (q.num < 0)) (q.num.natAbs * p.den)) (p.den * q.den) = p + q := by
  rw [sg_scale, sg_scale, sg_num, sg_num, Rat.add_def']
theorem mul_mk (p q : Rat) : mkRat (sg (decide (p.num < 0) != decide (q.num < 0)) (p.num.natAbs * q.num.natAbs)) (p.den * q.den) = p * q := by
  rw [← sg_mul, sg_num, sg_num, Rat.mul_def']
theorem inv_neg {q : Rat} (h : q ≠ 0) : decide ((q⁻¹).num < 0) = decide (q.num < 0) := by rw [decide_eq_decide]; exact (inv_parts h).2.2
theorem quo_mk (p q : Rat) (h : q ≠ 0) : mkRat (sg (decide (p.num < 0) != decide (q.num < 0)) (p.num.natAbs * q.den)) (p.den * q.num.natAbs) = p / q := by
  rw [Rat.div_def, ← mul_mk p q⁻¹, inv_neg h, (inv_parts h).1, (inv_parts h).2.1]
theorem neg_parts (q : Rat) : (-q).num.natAbs = q.num.natAbs ∧ (-q).den = q.den ∧ decide ((-q).num < 0) = (!decide (q.num < 0) && decide (q.num.natAbs ≠ 0)) := by
  refine ⟨by rw [show (-q).num = -q.num from rfl, Int.natAbs_neg], rfl, ?_⟩
  rw [show (-q).num = -q.num from rfl, Bool.eq_iff_iff]
  simp only [decide_eq_true_eq, Bool.and_eq_true, Bool.not_eq_true', decide_eq_false_iff_not]
  omega
theorem num_abs_zero {q : Rat} : q.num.natAbs = 0 ↔ q = 0 := by rw [Int.natAbs_eq_zero, Rat.num_eq_zero]
theorem rat_ext3 {p q : Rat} (h1 : decide (p.num < 0) = decide (q.num < 0)) (h2 : p.num.natAbs = q.num.natAbs) (h3 : p.den = q.den) : p = q := by
  rw [decide_eq_decide] at h1
  refine Rat.ext ?_ h3
  omega
theorem zero_den_one {q : Rat} (h : q.num.natAbs = 0) : q.den = 1 := by rw [num_abs_zero.1 h]; rfl
/-- The comparison of two numbers with one sign. -/
theorem cmpQ_same (p q : Rat) (h : decide (p.num < 0) = decide (q.num < 0)) : cmpQ p q = (if p.num < 0 then -(if p.num.natAbs * q.den < q.num.natAbs * p.den then -1 else if p.num.natAbs * q.den = q.num.natAbs * p.den then 0 else 1) else (if p.num.natAbs * q.den < q.num.natAbs * p.den then -1 else if p.num.natAbs * q.den = q.num.natAbs * p.den then 0 else 1) : Int) := by
  have hlt : ∀ {p q : Rat}, p < q ↔ p.num * (q.den : Int) < q.num * (p.den : Int) := fun {p q} => Rat.lt_iff p q
  have hm : ∀ z : Int, ∀ n : Nat, z < 0 → z * (n : Int) = -((z.natAbs * n : Nat) : Int) := by
    intro z n hz
    rw [Int.natCast_mul, ← Int.neg_mul]; congr 1; omega
  have hm2 : ∀ z : Int, ∀ n : Nat, ¬ z < 0 → z * (n : Int) = ((z.natAbs * n : Nat) : Int) := by
    intro z n hz
    rw [Int.natCast_mul]; congr 1; omega
  have htri : (p < q ∧ cmpQ p q = -1) ∨ (p = q ∧ cmpQ p q = 0) ∨ (q < p ∧ cmpQ p q = 1) := by
    rcases tri (p - q) with g | g | g
    · exact .inl ⟨by grind, sgnQ_neg g⟩
    · exact .inr (.inl ⟨by grind, by unfold cmpQ; rw [g, sgnQ_zero]⟩)
    · exact .inr (.inr ⟨by grind, sgnQ_pos g⟩)
  have h' := decide_eq_decide.1 h
  by_cases hp : p.num < 0
  · have hq := h'.1 hp
    rw [if_pos hp]
    rcases htri with ⟨a, b⟩ | ⟨a, b⟩ | ⟨a, b⟩
    · rw [hlt, hm _ _ hp, hm _ _ hq] at a
      rw [b, if_neg (by omega), if_neg (by omega)]
    · subst a; rw [b]; simp
    · rw [hlt, hm _ _ hp, hm _ _ hq] at a
      rw [b, if_pos (by omega)]; rfl
  · have hq : ¬ q.num < 0 := fun e => hp (h'.2 e)
    rw [if_neg hp]
    rcases htri with ⟨a, b⟩ | ⟨a, b⟩ | ⟨a, b⟩
    · rw [hlt, hm2 _ _ hp, hm2 _ _ hq] at a
      rw [b, if_pos (by omega)]
    · subst a; rw [b]; simp
    · rw [hlt, hm2 _ _ hp, hm2 _ _ hq] at a
      rw [b, if_neg (by omega), if_neg (by omega)]
theorem cmpQ_self (p : Rat) : cmpQ p p = 0 := cmpQ_eq.2 rfl
theorem cmpQ_signs (p q : Rat) (h : sgnQ p ≠ sgnQ q) : cmpQ p q = (if sgnQ p < sgnQ q then -1 else 1) := by
  have key : ∀ {a b : Rat}, a < b → cmpQ a b = -1 := fun {a b} h => sgnQ_neg (by grind)
  have key2 : ∀ {a b : Rat}, b < a → cmpQ a b = 1 := fun {a b} h => sgnQ_pos (by grind)
  rcases tri p with hp | hp | hp <;> rcases tri q with hq | hq | hq
  · rw [sgnQ_neg hp, sgnQ_neg hq] at h; exact absurd rfl h
  · rw [sgnQ_neg hp, hq, sgnQ_zero, key (by grind)]; rfl
  · rw [sgnQ_neg hp, sgnQ_pos hq, key (by grind)]; rfl
  · rw [hp, sgnQ_zero, sgnQ_neg hq, key2 (by grind)]; rfl
  · rw [hp, hq] at h; exact absurd rfl h
  · rw [hp, sgnQ_zero, sgnQ_pos hq, key (by grind)]; rfl
  · rw [sgnQ_pos hp, sgnQ_neg hq, key2 (by grind)]; rfl
  · rw [sgnQ_pos hp, hq, sgnQ_zero, key2 (by grind)]; rfl
  · rw [sgnQ_pos hp, sgnQ_pos hq] at h; exact absurd rfl h
end Mth
end Go.Proofs.YteajpefbmiiioaaGreatDoor
namespace Go.Proofs.YteajpefbmiiioaaGreatDoor
namespace Mth

/-- The number at a place, 0 where there is none. -/
def gt (xs : List Nat) (i : Nat) : Nat := xs.getD i 0
theorem gt_of_lt {xs : List Nat} {i : Nat} (h : i < xs.length) : gt xs i = xs[i] := by simp [gt, List.getD, List.getElem?_eq_getElem h]
theorem gt_of_ge {xs : List Nat} {i : Nat} (h : xs.length ≤ i) : gt xs i = 0 := by simp [gt, List.getD, List.getElem?_eq_none h]
theorem gt_mem {xs : List Nat} {i : Nat} (h : i < xs.length) : gt xs i ∈ xs := by rw [gt_of_lt h]; exact List.getElem_mem h
theorem gt_set {xs : List Nat} {i j v : Nat} (h : i < xs.length) : gt (xs.set i v) j = if i = j then v else gt xs j := by
  by_cases e : i = j
  · subst e; rw [if_pos rfl]; simp [gt, List.getD, h]
  · rw [if_neg e]; simp [gt, List.getD, List.getElem?_set_ne e]
theorem gt_ext {xs ys : List Nat} (hl : xs.length = ys.length) (h : ∀ i, i < xs.length → gt xs i = gt ys i) : xs = ys := by
  apply List.ext_getElem hl
  intro i h1 h2
  have := h i h1
  rwa [gt_of_lt h1, gt_of_lt h2] at this
theorem gt_drop (xs : List Nat) (a i : Nat) : gt (xs.drop a) i = gt xs (a + i) := by simp [gt, List.getD]
theorem gt_take {xs : List Nat} {n i : Nat} (h : i < n) : gt (xs.take n) i = gt xs i := by simp [gt, List.getD, h]
theorem gt_append_left {xs ys : List Nat} {i : Nat} (h : i < xs.length) : gt (xs ++ ys) i = gt xs i := by simp [gt, List.getD, List.getElem?_append_left h]
theorem gt_append_right {xs ys : List Nat} {i : Nat} (h : xs.length ≤ i) : gt (xs ++ ys) i = gt ys (i - xs.length) := by simp [gt, List.getD, List.getElem?_append_right h]

/-- The value of digits to a base, the least significant one first. -/
def val (b : Nat) : List Nat → Nat
  | [] => 0
  | d :: l => d + b * val b l

theorem val_nil (b : Nat) : val b [] = 0 := rfl
theorem val_cons (b d : Nat) (l : List Nat) : val b (d :: l) = d + b * val b l := rfl
theorem val_append (b : Nat) (l r : List Nat) : val b (l ++ r) = val b l + b ^ l.length * val b r := by
  induction l with
  | nil => simp [val]
  | cons d l ih => simp only [List.cons_append, val, ih, List.length_cons, Nat.pow_succ, Nat.mul_add]; rw [Nat.mul_comm (b ^ l.length) b, Nat.mul_assoc, Nat.add_assoc]
theorem val_snoc (b : Nat) (l : List Nat) (d : Nat) : val b (l ++ [d]) = val b l + b ^ l.length * d := by
  rw [val_append]; simp [val]
theorem val_lt (b : Nat) (l : List Nat) (h : ∀ d ∈ l, d < b) : val b l < b ^ l.length := by
  induction l with
  | nil => simp [val]
  | cons d l ih =>
    have h1 := ih (fun x hx => h x (List.mem_cons_of_mem _ hx))
    have h2 := h d List.mem_cons_self
    simp only [val, List.length_cons, Nat.pow_succ]
    have h3 : b * (val b l + 1) ≤ b * b ^ l.length := Nat.mul_le_mul_left _ h1
    rw [Nat.mul_comm (b ^ l.length) b]
    rw [Nat.mul_add] at h3
    omega
theorem val_zeros (b n : Nat) : val b (List.replicate n 0) = 0 := by
  induction n with
  | zero => rfl
  | succ n ih => simp [List.replicate_succ, val, ih]

/-- 2 to the power of 64. -/
def W64 : Nat := 18446744073709551616
theorem W64_pos : 0 < W64 := by decide
theorem W64_eq : W64 = 18446744073709551616 := rfl
/-- All numbers are less than the base. -/
def Dg (b : Nat) (xs : List Nat) : Prop := ∀ i, gt xs i < b
theorem Dg.of_mem {b : Nat} {xs : List Nat} (hb : 0 < b) (h : ∀ d ∈ xs, d < b) : Dg b xs := by
  intro i
  by_cases hi : i < xs.length
  · exact h _ (gt_mem hi)
  · rw [gt_of_ge (by omega)]; exact hb
theorem Dg.mem {b : Nat} {xs : List Nat} (h : Dg b xs) : ∀ d ∈ xs, d < b := by
  intro d hd
  obtain ⟨i, hi, rfl⟩ := List.getElem_of_mem hd
  rw [← gt_of_lt hi]; exact h i
theorem Dg.set {b : Nat} {xs : List Nat} (h : Dg b xs) {i v : Nat} (hv : v < b) : Dg b (xs.set i v) := by
  intro j
  by_cases hi : i < xs.length
  · rw [gt_set hi]; split
    · exact hv
    · exact h j
  · rw [List.set_eq_of_length_le (by omega)]; exact h j
/-- The value of n digits from a place on. -/
def vs (b : Nat) (xs : List Nat) (off : Nat) : Nat → Nat
  | 0 => 0
  | n + 1 => vs b xs off n + b ^ n * gt xs (off + n)
theorem vs_congr {b : Nat} {xs ys : List Nat} {off off' n : Nat} (h : ∀ i, i < n → gt xs (off + i) = gt ys (off' + i)) : vs b xs off n = vs b ys off' n := by
  induction n with
  | zero => rfl
  | succ n ih => simp only [vs]; rw [ih (fun i hi => h i (by omega)), h n (by omega)]
theorem vs_lt {b : Nat} {xs : List Nat} {off n : Nat} (h : Dg b xs) : vs b xs off n < b ^ n := by
  induction n with
  | zero => simp [vs]
  | succ n ih =>
    simp only [vs, Nat.pow_succ]
    have h2 := h (off + n)
    have h3 : b ^ n * (gt xs (off + n) + 1) ≤ b ^ n * b := Nat.mul_le_mul_left _ h2
    rw [Nat.mul_add] at h3
    omega
theorem vs_split (b : Nat) (xs : List Nat) (off m n : Nat) : vs b xs off (m + n) = vs b xs off m + b ^ m * vs b xs (off + m) n := by
  induction n with
  | zero => simp [vs]
  | succ n ih =>
    rw [← Nat.add_assoc]
    simp only [vs]
    rw [ih, Nat.mul_add, Nat.pow_add, Nat.mul_assoc, Nat.add_assoc off m n, Nat.add_assoc]
theorem vs_zero {b : Nat} {xs : List Nat} {off n : Nat} (h : ∀ i, i < n → gt xs (off + i) = 0) : vs b xs off n = 0 := by
  induction n with
  | zero => rfl
  | succ n ih => simp only [vs]; rw [ih (fun i hi => h i (by omega)), h n (by omega)]; simp
theorem vs_take {b : Nat} (xs : List Nat) (n : Nat) (h : n ≤ xs.length) : vs b xs 0 n = val b (xs.take n) := by
  induction n with
  | zero => simp [vs, val]
  | succ n ih =>
    rw [List.take_succ_eq_append_getElem (by omega), val_snoc, List.length_take_of_le (by omega), ← ih (by omega), ← gt_of_lt]
    simp only [vs, Nat.zero_add]
theorem vs_val {b : Nat} (xs : List Nat) : vs b xs 0 xs.length = val b xs := by
  rw [vs_take xs _ (Nat.le_refl _), List.take_length]
/-- The two halves of a sum with a carry. -/
def addLo (x y c : Nat) : Nat := (x + y + c) % W64
def addHi (x y c : Nat) : Nat := (x + y + c) / W64
theorem add_split (x y c : Nat) : addLo x y c + W64 * addHi x y c = x + y + c := Nat.mod_add_div _ _
theorem addLo_lt (x y c : Nat) : addLo x y c < W64 := Nat.mod_lt _ W64_pos
theorem addHi_le {x y c : Nat} (hx : x < W64) (hy : y < W64) (hc : c ≤ 1) : addHi x y c ≤ 1 := by
  unfold addHi; rw [W64_eq] at *; omega
/-- One step of an addition with a carry. -/
theorem add_step {P n V A X Y lo hi c : Nat} (hP : P = W64 ^ n) (h : V + P * c = A) (hs : lo + W64 * hi = X + Y + c) : (V + P * lo) + W64 ^ (n + 1) * hi = A + P * X + P * Y := by
  have e : P * lo + W64 ^ (n + 1) * hi = P * X + P * Y + P * c := by
    rw [Nat.pow_succ, ← hP, Nat.mul_assoc, ← Nat.mul_add, hs, Nat.mul_add, Nat.mul_add]
  omega

/-- The value of bytes, the most significant one first. -/
def num (l : List UInt8) : Nat := l.foldl (fun a d => 256 * a + d.toNat) 0
theorem num_nil : num [] = 0 := rfl
theorem num_snoc (l : List UInt8) (d : UInt8) : num (l ++ [d]) = 256 * num l + d.toNat := by simp [num]
theorem foldl_shift (l : List UInt8) : ∀ a : Nat, l.foldl (fun a d => 256 * a + d.toNat) a = a * 256 ^ l.length + num l := by
  induction l with
  | nil => intro a; simp [num]
  | cons d l ih =>
    intro a
    show List.foldl (fun a d => 256 * a + d.toNat) (256 * a + d.toNat) l = a * 256 ^ (l.length + 1) + List.foldl (fun a d => 256 * a + d.toNat) (256 * 0 + d.toNat) l
    rw [ih, ih, Nat.pow_succ, Nat.add_mul, Nat.mul_zero, Nat.zero_add]
    rw [show 256 * a * 256 ^ l.length = a * (256 ^ l.length * 256) from by rw [Nat.mul_comm 256 a, Nat.mul_assoc, Nat.mul_comm 256]]
    omega
theorem num_cons (d : UInt8) (l : List UInt8) : num (d :: l) = d.toNat * 256 ^ l.length + num l := by
  have h := foldl_shift l d.toNat
  show List.foldl (fun a d => 256 * a + d.toNat) (256 * 0 + d.toNat) l = _
  rw [Nat.mul_zero, Nat.zero_add, h]
theorem num_append (l r : List UInt8) : num (l ++ r) = num l * 256 ^ r.length + num r := by
  simp only [num, List.foldl_append]
  exact foldl_shift r _
theorem num_lt (l : List UInt8) : num l < 256 ^ l.length := by
  induction l with
  | nil => simp [num]
  | cons d l ih =>
    rw [num_cons, List.length_cons, Nat.pow_succ]
    have := d.toNat_lt
    have h3 : (d.toNat + 1) * 256 ^ l.length ≤ 256 * 256 ^ l.length := Nat.mul_le_mul_right _ (by omega)
    rw [Nat.add_mul] at h3
    omega

/-- Bytes without zeros in front. -/
def canon : List UInt8 → List UInt8
  | [] => []
  | d :: l => if d = 0 then canon l else d :: l
def Rt (l : List UInt8) : Prop := l.head? ≠ some 0
theorem rt_canon (l : List UInt8) : Rt (canon l) := by
  induction l with
  | nil => simp [canon, Rt]
  | cons d l ih => unfold canon; split <;> simp_all [Rt]
theorem num_canon (l : List UInt8) : num (canon l) = num l := by
  induction l with
  | nil => rfl
  | cons d l ih =>
    unfold canon; split
    · rename_i h; rw [ih, num_cons, h]; simp
    · rfl
theorem canon_of_rt {l : List UInt8} (h : Rt l) : canon l = l := by
  cases l with
  | nil => rfl
  | cons d l => unfold canon; rw [if_neg]; intro e; subst e; simp [Rt] at h
theorem canon_length_le (l : List UInt8) : (canon l).length ≤ l.length := by
  induction l with
  | nil => simp [canon]
  | cons d l ih => unfold canon; split <;> simp; omega
theorem rt_of_snoc {l : List UInt8} {d : UInt8} (h : Rt (l ++ [d])) : Rt l := by
  cases l with
  | nil => simp [Rt]
  | cons e l => simpa [Rt] using h
theorem eq_nil_of_num {l : List UInt8} (h : Rt l) (h0 : num l = 0) : l = [] := by
  cases l with
  | nil => rfl
  | cons d l =>
    rw [num_cons] at h0
    have : d.toNat * 256 ^ l.length = 0 := by omega
    rcases Nat.mul_eq_zero.1 this with h1 | h1
    · have hd : d = 0 := UInt8.toNat_inj.1 (by simpa using h1)
      subst hd; simp [Rt] at h
    · exact absurd h1 (by have : 0 < 256 ^ l.length := Nat.pow_pos (by decide); omega)

/-- The bytes of a number, none for 0. -/
def enc (n : Nat) : List UInt8 := if _h : n = 0 then [] else enc (n / 256) ++ [UInt8.ofNat (n % 256)]
termination_by n
decreasing_by omega
theorem enc_zero : enc 0 = [] := by unfold enc; simp
theorem enc_pos {n : Nat} (h : n ≠ 0) : enc n = enc (n / 256) ++ [UInt8.ofNat (n % 256)] := by rw [enc]; simp [h]
theorem num_enc (n : Nat) : num (enc n) = n := by
  induction n using Nat.strongRecOn with
  | _ n ih =>
    by_cases h : n = 0
    · subst h; simp [enc_zero, num]
    · rw [enc_pos h, num_snoc, ih _ (by omega)]
      simp
      omega
theorem rt_enc (n : Nat) : Rt (enc n) := by
  induction n using Nat.strongRecOn with
  | _ n ih =>
    by_cases h : n = 0
    · subst h; simp [enc_zero, Rt]
    · rw [enc_pos h]
      by_cases h2 : n / 256 = 0
      · rw [h2, enc_zero]
        have : n % 256 = n := by omega
        rw [this]
        simp only [Rt, List.nil_append, List.head?_cons, ne_eq, Option.some.injEq]
        intro e
        have := congrArg UInt8.toNat e
        simp at this
        omega
      · have := ih (n / 256) (by omega)
        unfold Rt at this ⊢
        have hne : enc (n / 256) ≠ [] := by
          intro e
          have := num_enc (n / 256)
          rw [e] at this
          simp [num] at this
          omega
        rw [List.head?_append]
        cases hh : (enc (n / 256)).head? with
        | none => exact absurd (List.head?_eq_none_iff.1 hh) hne
        | some x => rw [hh] at this; simpa using this
theorem num_inj : ∀ {l r : List UInt8}, Rt l → Rt r → num l = num r → l = r := by
  intro l
  induction hn : l.length generalizing l with
  | zero =>
    intro r _ hr h
    obtain rfl : l = [] := List.eq_nil_of_length_eq_zero hn
    exact (eq_nil_of_num hr (by rw [← h]; rfl)).symm
  | succ n ih =>
    intro r hl hr h
    rcases List.eq_nil_or_concat r with rfl | ⟨r', e, rfl⟩
    · exact eq_nil_of_num hl (by rw [h]; rfl)
    rcases List.eq_nil_or_concat l with rfl | ⟨l', d, rfl⟩
    · simp at hn
    simp only [List.concat_eq_append] at *
    rw [num_snoc, num_snoc] at h
    have hd := d.toNat_lt
    have he := e.toNat_lt
    have h1 : num l' = num r' := by omega
    have h2 : d = e := UInt8.toNat_inj.1 (by omega)
    rw [ih (by simpa using hn) (rt_of_snoc hl) (rt_of_snoc hr) h1, h2]
theorem enc_num {l : List UInt8} (h : Rt l) : enc (num l) = l := num_inj (rt_enc _) h (num_enc _)
theorem enc_num_canon (l : List UInt8) : enc (num l) = canon l := by
  rw [← num_canon]; exact enc_num (rt_canon l)
theorem enc_inj {a b : Nat} (h : enc a = enc b) : a = b := by rw [← num_enc a, ← num_enc b, h]

end Mth
end Go.Proofs.YteajpefbmiiioaaGreatDoor
namespace Go.Proofs.YteajpefbmiiioaaGreatDoor
namespace Mth

/-- The words of a number N, n of them. -/
def wordsN (n N : Nat) : List Nat := (List.range n).map fun j => N / W64 ^ j % W64
theorem length_wordsN (n N : Nat) : (wordsN n N).length = n := by simp [wordsN]
theorem gt_wordsN {n N j : Nat} (h : j < n) : gt (wordsN n N) j = N / W64 ^ j % W64 := by
  rw [gt_of_lt (by rw [length_wordsN]; exact h)]; simp [wordsN]
theorem wordsN_zero (n : Nat) : wordsN n 0 = List.replicate n 0 := by
  apply gt_ext
  · simp [length_wordsN]
  · intro i hi
    rw [length_wordsN] at hi
    rw [gt_wordsN hi, gt_of_lt (by simpa using hi)]; simp
theorem dg_wordsN (n N : Nat) : Dg W64 (wordsN n N) := by
  intro i
  by_cases h : i < n
  · rw [gt_wordsN h]; exact Nat.mod_lt _ W64_pos
  · rw [gt_of_ge (by rw [length_wordsN]; omega)]; exact W64_pos
theorem vs_wordsN {n N m : Nat} (h : m ≤ n) : vs W64 (wordsN n N) 0 m = N % W64 ^ m := by
  induction m with
  | zero => simp [vs, Nat.mod_one]
  | succ m ih =>
    simp only [vs, Nat.zero_add]
    rw [ih (by omega), gt_wordsN (by omega), Nat.pow_succ, Nat.mod_mul]
theorem W64_pow (j : Nat) : W64 ^ j = 256 ^ (8 * j) := by
  rw [Nat.pow_mul]; congr 1
theorem pow_split {a b c : Nat} (h : a + b = c) : 256 ^ c = 256 ^ a * 256 ^ b := by rw [← h, Nat.pow_add]
theorem add_mod_small {x y m : Nat} (h : x % m + y < m) : (x + y) % m = x % m + y := by
  rw [Nat.add_mod, Nat.mod_eq_of_lt (show y < m by omega), Nat.mod_eq_of_lt h]
/-- A multiple of A, cut at A * B, leaves room for what is less than A. -/
theorem mul_mod_room {A B M y : Nat} (hy : y < A) (hB : 0 < B) : (A * M) % (A * B) + y < A * B := by
  rw [Nat.mul_mod_mul_left]
  have h1 : M % B + 1 ≤ B := Nat.mod_lt _ hB
  have h2 : A * (M % B + 1) ≤ A * B := Nat.mul_le_mul_left _ h1
  rw [Nat.mul_add] at h2
  omega
theorem wordsN_word {q r d M : Nat} (hr : r < 8) (hd : d < 256) : (256 ^ (r + 1) * M) % W64 + d * 256 ^ r = (256 ^ (r + 1) * M + d * 256 ^ r) % W64 ∧ (q = q) := by
  refine ⟨?_, rfl⟩
  have hW : W64 = 256 ^ (r + 1) * 256 ^ (7 - r) := by rw [← Nat.pow_add, show r + 1 + (7 - r) = 8 from by omega]; rfl
  have hlt : d * 256 ^ r < 256 ^ (r + 1) := by
    rw [Nat.pow_succ, Nat.mul_comm]
    exact Nat.mul_lt_mul_of_pos_left hd (Nat.pow_pos (by decide))
  rw [hW]
  exact (add_mod_small (mul_mod_room hlt (Nat.pow_pos (by decide)))).symm
theorem wordsN_step {n q r d M N : Nat} (hq : q < n) (hr : r < 8) (hd : d < 256) (hN : N = 256 ^ (8 * q + r + 1) * M) :
    (wordsN n N).set q (gt (wordsN n N) q + d * 256 ^ r) = wordsN n (N + d * 256 ^ (8 * q + r)) := by
  have hlt : d * 256 ^ r < 256 ^ (r + 1) := by
    rw [Nat.pow_succ, Nat.mul_comm]
    exact Nat.mul_lt_mul_of_pos_left hd (Nat.pow_pos (by decide))
  have hP : ∀ k, 0 < 256 ^ k := fun k => Nat.pow_pos (by decide)
  apply gt_ext
  · simp [length_wordsN]
  · intro j hj
    rw [List.length_set, length_wordsN] at hj
    rw [gt_set (by rw [length_wordsN]; exact hq), gt_wordsN (N := N + _) hj]
    by_cases e : q = j
    · subst e
      rw [if_pos rfl, gt_wordsN hq]
      have h1 : N / W64 ^ q = 256 ^ (r + 1) * M := by
        rw [hN, W64_pow, show 8 * q + r + 1 = 8 * q + (r + 1) from by omega, Nat.pow_add, Nat.mul_assoc, Nat.mul_div_cancel_left _ (hP _)]
      have h2 : (N + d * 256 ^ (8 * q + r)) / W64 ^ q = 256 ^ (r + 1) * M + d * 256 ^ r := by
        have : N + d * 256 ^ (8 * q + r) = 256 ^ (8 * q) * (256 ^ (r + 1) * M + d * 256 ^ r) := by
          rw [hN, show 8 * q + r + 1 = 8 * q + (r + 1) from by omega, Nat.pow_add 256 (8 * q) (r + 1), Nat.pow_add 256 (8 * q) r, Nat.mul_add, Nat.mul_assoc, Nat.mul_left_comm d]
        rw [this, W64_pow, Nat.mul_div_cancel_left _ (hP _)]
      rw [h1, h2]
      exact (wordsN_word (q := q) hr hd).1
    · rw [if_neg e, gt_wordsN hj]
      rcases Nat.lt_or_gt_of_ne e with h | h
      · -- a later word
        have hle : 256 ^ (8 * q + r + 1) * 256 ^ (8 * j - (8 * q + r + 1)) = W64 ^ j := by
          rw [W64_pow, ← Nat.pow_add]; congr 1; omega
        have hroom : N % W64 ^ j + d * 256 ^ (8 * q + r) < W64 ^ j := by
          rw [hN, ← hle]
          refine mul_mod_room ?_ (hP _)
          rw [Nat.pow_add 256 (8 * q), Nat.mul_left_comm, show 8 * q + r + 1 = 8 * q + (r + 1) from by omega, Nat.pow_add 256 (8 * q)]
          exact Nat.mul_lt_mul_of_pos_left hlt (hP _)
        congr 1
        have h3 := Nat.mod_add_div N (W64 ^ j)
        have h4 : (N + d * 256 ^ (8 * q + r)) / W64 ^ j = N / W64 ^ j := by
          have e2 : N + d * 256 ^ (8 * q + r) = (N % W64 ^ j + d * 256 ^ (8 * q + r)) + W64 ^ j * (N / W64 ^ j) := by omega
          rw [e2, Nat.add_mul_div_left _ _ (Nat.pow_pos W64_pos), Nat.div_eq_of_lt hroom, Nat.zero_add]
        exact h4.symm
      · -- an earlier word
        obtain ⟨m, hm⟩ : ∃ m, 8 * q + r = (8 * (j + 1)) + m := ⟨8 * q + r - 8 * (j + 1), by omega⟩
        have key : ∀ K, (W64 ^ (j + 1) * K) / W64 ^ j % W64 = 0 := by
          intro K
          rw [Nat.pow_succ, Nat.mul_assoc, Nat.mul_div_cancel_left _ (Nat.pow_pos W64_pos)]
          simp
        have e1 : N = W64 ^ (j + 1) * (256 ^ (m + 1) * M) := by
          rw [hN, W64_pow, ← Nat.mul_assoc, ← Nat.pow_add]; congr 2; omega
        have e2 : N + d * 256 ^ (8 * q + r) = W64 ^ (j + 1) * (256 ^ (m + 1) * M + d * 256 ^ m) := by
          rw [Nat.mul_add, ← e1, hm, Nat.pow_add, W64_pow, Nat.mul_left_comm]
        rw [e2, key, e1, key]
/-- The word that is or-ed with a byte that is not in it yet. -/
theorem or_byte {x r d : Nat} (hd : d < 256) (hx : 256 ^ (r + 1) ∣ x) : x ||| (d * 256 ^ r) = x + d * 256 ^ r := by
  obtain ⟨M, rfl⟩ := hx
  have h : 256 ^ (r + 1) = 2 ^ (8 * (r + 1)) := by rw [Nat.pow_mul]
  have hlt : d * 256 ^ r < 2 ^ (8 * (r + 1)) := by
    rw [← h, Nat.pow_succ, Nat.mul_comm]
    exact Nat.mul_lt_mul_of_pos_left hd (Nat.pow_pos (by decide))
  rw [h, Nat.two_pow_add_eq_or_of_lt hlt]
theorem wordsN_dvd {n q r M N : Nat} (hq : q < n) (hr : r < 8) (hN : N = 256 ^ (8 * q + r + 1) * M) : 256 ^ (r + 1) ∣ gt (wordsN n N) q := by
  have hP : ∀ k, 0 < 256 ^ k := fun k => Nat.pow_pos (by decide)
  rw [gt_wordsN hq]
  have h1 : N / W64 ^ q = 256 ^ (r + 1) * M := by
    rw [hN, W64_pow, show 8 * q + r + 1 = 8 * q + (r + 1) from by omega, Nat.pow_add, Nat.mul_assoc, Nat.mul_div_cancel_left _ (hP _)]
  have hW : W64 = 256 ^ (r + 1) * 256 ^ (7 - r) := by rw [← Nat.pow_add, show r + 1 + (7 - r) = 8 from by omega]; rfl
  rw [h1, hW, Nat.mul_mod_mul_left]
  exact Nat.dvd_mul_right _ _

/-- The first i bytes of L, at their places in a number of L.length bytes. -/
def front (L : List UInt8) (i : Nat) : Nat := num (L.take i) * 256 ^ (L.length - i)
theorem front_zero (L : List UInt8) : front L 0 = 0 := by simp [front, num]
theorem front_all (L : List UInt8) : front L L.length = num L := by simp [front]
theorem front_succ (L : List UInt8) {i : Nat} (h : i < L.length) : front L (i + 1) = front L i + L[i].toNat * 256 ^ (L.length - 1 - i) := by
  unfold front
  rw [List.take_succ_eq_append_getElem h, num_snoc, show L.length - i = (L.length - 1 - i) + 1 from by omega, show L.length - (i + 1) = L.length - 1 - i from by omega, Nat.pow_succ, Nat.add_mul]
  congr 1
  rw [Nat.mul_comm (256 ^ _) 256, ← Nat.mul_assoc, Nat.mul_comm 256]
theorem front_dvd (L : List UInt8) {i : Nat} (h : i < L.length) : front L i = 256 ^ (L.length - 1 - i + 1) * num (L.take i) := by
  unfold front
  rw [show L.length - 1 - i + 1 = L.length - i from by omega, Nat.mul_comm]
/-- One round of wordsOf. -/
theorem words_round (L : List UInt8) {n i q r d : Nat} (hi : i < L.length) (hp : L.length - 1 - i = 8 * q + r) (hr : r < 8) (hq : q < n) (hd : d = L[i].toNat) :
    (wordsN n (front L i)).set q (gt (wordsN n (front L i)) q ||| (d * 256 ^ r)) = wordsN n (front L (i + 1)) := by
  subst hd
  have hd := L[i].toNat_lt
  have hN := front_dvd L hi
  rw [hp] at hN
  rw [or_byte hd (wordsN_dvd hq hr hN), wordsN_step hq hr hd hN, front_succ L hi, hp]
/-- A right number has its greatest word not 0. -/
theorem num_ge {L : List UInt8} (h : Rt L) (hne : L ≠ []) : 256 ^ (L.length - 1) ≤ num L := by
  cases L with
  | nil => exact absurd rfl hne
  | cons d l =>
    have hd : d.toNat ≠ 0 := by
      intro e
      have : d = 0 := UInt8.toNat_inj.1 (by simpa using e)
      subst this; simp [Rt] at h
    rw [num_cons, List.length_cons, Nat.add_sub_cancel]
    have : 1 * 256 ^ l.length ≤ d.toNat * 256 ^ l.length := Nat.mul_le_mul_right _ (by omega)
    omega
/-- The words of a number, trimmed. -/
structure Words (xs : List Nat) (N : Nat) : Prop where
  dg : Dg W64 xs
  val : vs W64 xs 0 xs.length = N
  top : xs.length = 0 ∨ gt xs (xs.length - 1) ≠ 0
theorem words_of {L : List UInt8} (h : Rt L) : Words (wordsN ((L.length + 7) / 8) (num L)) (num L) := by
  have hlt := num_lt L
  have hlen : (wordsN ((L.length + 7) / 8) (num L)).length = (L.length + 7) / 8 := length_wordsN _ _
  refine ⟨dg_wordsN _ _, ?_, ?_⟩
  · rw [hlen, vs_wordsN (Nat.le_refl _)]
    apply Nat.mod_eq_of_lt
    rw [W64_pow]
    exact Nat.lt_of_lt_of_le hlt (Nat.pow_le_pow_right (by decide) (by omega))
  · rw [hlen]
    by_cases hL : L = []
    · left; simp [hL]
    · right
      have hpos : 0 < L.length := List.length_pos_iff.2 hL
      have hge := num_ge h hL
      rw [gt_wordsN (by omega)]
      have h1 : num L / W64 ^ ((L.length + 7) / 8 - 1) < W64 := by
        rw [Nat.div_lt_iff_lt_mul (Nat.pow_pos W64_pos), ← Nat.pow_succ', W64_pow]
        exact Nat.lt_of_lt_of_le hlt (Nat.pow_le_pow_right (by decide) (by omega))
      rw [Nat.mod_eq_of_lt h1]
      have h2 : W64 ^ ((L.length + 7) / 8 - 1) ≤ num L := by
        rw [W64_pow]
        exact Nat.le_trans (Nat.pow_le_pow_right (by decide) (by omega)) hge
      have := Nat.div_pos h2 (Nat.pow_pos W64_pos)
      omega
end Mth
end Go.Proofs.YteajpefbmiiioaaGreatDoor
namespace Go.Proofs.YteajpefbmiiioaaGreatDoor
namespace Mth
open Go.Proofs

theorem bitLen_bounds {x : Nat} (h : x < W64) (h0 : x ≠ 0) : 1 ≤ Lib.bitLen x ∧ Lib.bitLen x ≤ 64 ∧ 2 ^ (Lib.bitLen x - 1) ≤ x ∧ x < 2 ^ Lib.bitLen x := by
  have hx : x < 2 ^ 64 := h
  obtain ⟨h1, h2, h3⟩ := Lib.bitLenAux_bounds 64 x hx h0
  exact ⟨h1, Lib.bitLen_le x 64 (Nat.le_refl _) hx, h2, h3⟩
/-- How many bytes a word has. -/
theorem byteLen {x : Nat} (h : x < W64) (h0 : x ≠ 0) : 1 ≤ (Lib.bitLen x + 7) / 8 ∧ (Lib.bitLen x + 7) / 8 ≤ 8 ∧ 256 ^ ((Lib.bitLen x + 7) / 8 - 1) ≤ x ∧ x < 256 ^ ((Lib.bitLen x + 7) / 8) := by
  obtain ⟨h1, h2, h3, h4⟩ := bitLen_bounds h h0
  refine ⟨by omega, by omega, ?_, ?_⟩
  · rw [show (256 : Nat) = 2 ^ 8 from rfl, ← Nat.pow_mul]
    exact Nat.le_trans (Nat.pow_le_pow_right (by decide) (by omega)) h3
  · rw [show (256 : Nat) = 2 ^ 8 from rfl, ← Nat.pow_mul]
    exact Nat.lt_of_lt_of_le h4 (Nat.pow_le_pow_right (by decide) (by omega))
/-- The bytes of a number N, L of them, the most significant one first. -/
def bytesN (L N : Nat) : List Nat := (List.range L).map fun i => N / 256 ^ (L - 1 - i) % 256
theorem length_bytesN (L N : Nat) : (bytesN L N).length = L := by simp [bytesN]
theorem gt_bytesN {L N i : Nat} (h : i < L) : gt (bytesN L N) i = N / 256 ^ (L - 1 - i) % 256 := by
  rw [gt_of_lt (by rw [length_bytesN]; exact h)]; simp [bytesN]
/-- The first i bytes of them are there. -/
def fillN (L N i : Nat) : List Nat := (List.range L).map fun j => if j < i then N / 256 ^ (L - 1 - j) % 256 else 0
theorem length_fillN (L N i : Nat) : (fillN L N i).length = L := by simp [fillN]
theorem fillN_zero (L N : Nat) : fillN L N 0 = List.replicate L 0 := by
  apply gt_ext
  · simp [fillN]
  · intro i hi
    rw [gt_of_lt hi, gt_of_lt (by simpa [fillN] using hi)]; simp [fillN]
theorem fillN_all (L N : Nat) : fillN L N L = bytesN L N := by
  simp only [fillN, bytesN]
  apply List.map_congr_left
  intro j hj
  rw [if_pos (List.mem_range.1 hj)]
theorem fillN_set {L N i v : Nat} (h : i < L) (hv : v = N / 256 ^ (L - 1 - i) % 256) : (fillN L N i).set i v = fillN L N (i + 1) := by
  subst hv
  apply gt_ext
  · simp [fillN]
  · intro j hj
    simp only [List.length_set, length_fillN] at hj
    rw [gt_set (by rw [length_fillN]; exact h)]
    rw [gt_of_lt (by rw [length_fillN]; exact hj), gt_of_lt (by rw [length_fillN]; exact hj)]
    simp only [fillN, List.getElem_map, List.getElem_range]
    split
    · rename_i e; subst e; rw [if_pos (by omega)]
    · by_cases h2 : j < i
      · rw [if_pos h2, if_pos (by omega)]
      · rw [if_neg h2, if_neg (by omega)]
/-- As bytes. -/
def u8s (xs : List Nat) : List UInt8 := xs.map UInt8.ofNat
theorem bytesN_succ (L N : Nat) : bytesN (L + 1) N = bytesN L (N / 256) ++ [N % 256] := by
  apply gt_ext
  · simp [length_bytesN]
  · intro i hi
    rw [length_bytesN] at hi
    rw [gt_bytesN hi]
    by_cases h : i < L
    · rw [gt_append_left (by rw [length_bytesN]; exact h), gt_bytesN h, Nat.div_div_eq_div_mul, show L + 1 - 1 - i = (L - 1 - i) + 1 from by omega, Nat.pow_succ, Nat.mul_comm]
    · obtain rfl : i = L := by omega
      rw [gt_append_right (by rw [length_bytesN]; omega), length_bytesN, Nat.sub_self]
      simp [gt]
theorem u8s_bytesN {L N : Nat} (h1 : 256 ^ (L - 1) ≤ N ∨ L = 0) (h2 : N < 256 ^ L) : u8s (bytesN L N) = enc N := by
  induction L generalizing N with
  | zero => simp at h2; subst h2; simp [bytesN, u8s, enc_zero]
  | succ L ih =>
    have h3 : 256 ^ L ≤ N := by rcases h1 with h | h; simpa using h; omega
    have hp : 0 < 256 ^ L := Nat.pow_pos (by decide)
    rw [bytesN_succ, enc_pos (by omega)]
    rw [show u8s (bytesN L (N / 256) ++ [N % 256]) = u8s (bytesN L (N / 256)) ++ [UInt8.ofNat (N % 256)] from by simp [u8s]]
    rw [ih ?_ ?_]
    · cases L with
      | zero => right; rfl
      | succ L =>
        left
        rw [Nat.pow_succ] at h3
        simp only [Nat.add_sub_cancel]
        omega
    · rw [Nat.pow_succ] at h2; omega
/-- Byte number p of a number, out of its words. -/
theorem byte_of_word {xs : List Nat} {N q r m off : Nat} (hd : Dg W64 xs) (hN : vs W64 xs off m = N) (hq : q < m) (hr : r < 8) : gt xs (off + q) / 256 ^ r % 256 = N / 256 ^ (8 * q + r) % 256 := by
  obtain ⟨k, rfl⟩ : ∃ k, m = q + 1 + k := ⟨m - (q + 1), by omega⟩
  have hN2 : N = vs W64 xs off q + W64 ^ q * (gt xs (off + q) + W64 * vs W64 xs (off + (q + 1)) k) := by
    rw [← hN, vs_split]
    simp only [vs]
    rw [Nat.mul_add, Nat.pow_succ, Nat.mul_assoc, Nat.add_assoc]
  have h1 : N / W64 ^ q = gt xs (off + q) + W64 * vs W64 xs (off + (q + 1)) k := by
    rw [hN2, Nat.add_mul_div_left _ _ (Nat.pow_pos W64_pos), Nat.div_eq_of_lt (vs_lt hd), Nat.zero_add]
  rw [Nat.pow_add, ← W64_pow, ← Nat.div_div_eq_div_mul, h1]
  have hW : W64 = 256 ^ r * (256 * 256 ^ (7 - r)) := by rw [← Nat.pow_succ', ← Nat.pow_add, show r + (7 - r).succ = 8 from by omega]; rfl
  rw [hW, Nat.mul_assoc, Nat.add_mul_div_left _ _ (Nat.pow_pos (by decide)), Nat.mul_assoc, Nat.add_mul_mod_self_left]
/-- A number whose greatest word is x at place m. -/
theorem top_bounds {xs : List Nat} {m x off : Nat} (hd : Dg W64 xs) (hx : gt xs (off + m) = x) (h0 : x ≠ 0) : 256 ^ (8 * m + (Lib.bitLen x + 7) / 8 - 1) ≤ vs W64 xs off (m + 1) ∧ vs W64 xs off (m + 1) < 256 ^ (8 * m + (Lib.bitLen x + 7) / 8) := by
  obtain ⟨h1, h2, h3, h4⟩ := byteLen (hx ▸ hd (off + m)) h0
  simp only [vs, hx]
  have hlt := vs_lt (off := off) (n := m) hd
  rw [W64_pow] at hlt ⊢
  constructor
  · rw [show 8 * m + (Lib.bitLen x + 7) / 8 - 1 = 8 * m + ((Lib.bitLen x + 7) / 8 - 1) from by omega, Nat.pow_add]
    exact Nat.le_trans (Nat.mul_le_mul_left _ h3) (Nat.le_add_left _ _)
  · rw [Nat.pow_add]
    have h5 : 256 ^ (8 * m) * (x + 1) ≤ 256 ^ (8 * m) * 256 ^ ((Lib.bitLen x + 7) / 8) := Nat.mul_le_mul_left _ h4
    rw [Nat.mul_add] at h5
    omega
end Mth
end Go.Proofs.YteajpefbmiiioaaGreatDoor
namespace Go.Proofs.YteajpefbmiiioaaGreatDoor
namespace Mth

/-- 2 to the power of 32. -/
def H32 : Nat := 4294967296
theorem H32_eq : H32 = 4294967296 := rfl
/-- What a division by Y = N1 * H32 + N0 of U * H32 + u comes to, where U < Y. -/
structure DigIn (Y N1 N0 U u : Nat) : Prop where
  y : Y = N1 * H32 + N0
  n0 : N0 < H32
  lo : 2147483648 ≤ N1
  hi : N1 < H32
  lt : U < Y
  u : u < H32
/-- The estimate q with its rest r. -/
structure DigInv (Y N1 U u q r : Nat) : Prop where
  eq : q * N1 + r = U
  ge : (U * H32 + u) / Y ≤ q
theorem DigIn.q_lt {Y N1 N0 U u : Nat} (h : DigIn Y N1 N0 U u) : (U * H32 + u) / Y < H32 := by
  have hY : 0 < Y := Nat.lt_of_le_of_lt (Nat.zero_le _) h.lt
  rw [Nat.div_lt_iff_lt_mul hY]
  have h1 : H32 * (U + 1) ≤ H32 * Y := Nat.mul_le_mul_left _ h.lt
  have := h.u
  rw [Nat.mul_add] at h1
  rw [Nat.mul_comm U]
  omega
theorem DigIn.init {Y N1 N0 U u : Nat} (h : DigIn Y N1 N0 U u) : DigInv Y N1 U u (U / N1) (U % N1) := by
  have hN : 0 < N1 := by have := h.lo; omega
  have hY : 0 < Y := Nat.lt_of_le_of_lt (Nat.zero_le _) h.lt
  refine ⟨by rw [Nat.mul_comm]; exact Nat.div_add_mod _ _, ?_⟩
  rw [Nat.le_div_iff_mul_le hN]
  have h1 : (U * H32 + u) / Y * Y ≤ U * H32 + u := Nat.div_mul_le_self _ _
  generalize (U * H32 + u) / Y = q at *
  have h2 : q * N1 * H32 ≤ q * Y := by rw [h.y, Nat.mul_add, ← Nat.mul_assoc]; omega
  have h3 : q * N1 * H32 < (U + 1) * H32 := by have := h.u; rw [Nat.add_mul]; omega
  exact Nat.le_of_lt_succ (Nat.lt_of_mul_lt_mul_right h3)
theorem DigIn.init_le {Y N1 N0 U u : Nat} (h : DigIn Y N1 N0 U u) : U / N1 ≤ 4294967297 := by
  have hN : 0 < N1 := by have := h.lo; omega
  apply Nat.le_of_lt_succ
  rw [Nat.div_lt_iff_lt_mul hN]
  have h1 := h.lt
  have h2 := h.y
  have h3 := h.n0
  have h4 := h.lo
  rw [H32_eq] at *
  omega
theorem DigInv.pos {Y N1 N0 U u q r : Nat} (h : DigIn Y N1 N0 U u) (g : DigInv Y N1 U u q r) (hg : H32 ≤ q ∨ H32 * r + u < q * N0) : (U * H32 + u) / Y + 1 ≤ q := by
  have hY : 0 < Y := Nat.lt_of_le_of_lt (Nat.zero_le _) h.lt
  rcases hg with h1 | h1
  · have := h.q_lt; omega
  · apply Nat.succ_le_of_lt
    rw [Nat.div_lt_iff_lt_mul hY, h.y, Nat.mul_add, ← Nat.mul_assoc]
    have h2 : (q * N1 + r) * H32 = U * H32 := by rw [g.eq]
    rw [Nat.add_mul, Nat.mul_comm r] at h2
    omega
theorem DigInv.next {Y N1 N0 U u q r : Nat} (h : DigIn Y N1 N0 U u) (g : DigInv Y N1 U u q r) (hg : H32 ≤ q ∨ H32 * r + u < q * N0) : DigInv Y N1 U u (q - 1) (r + N1) := by
  have h1 := g.pos h hg
  refine ⟨?_, Nat.le_sub_of_add_le h1⟩
  have hq1 : 1 ≤ q := Nat.le_trans (Nat.le_add_left _ _) h1
  obtain ⟨k, rfl⟩ : ∃ k, q = k + 1 := ⟨q - 1, by omega⟩
  have h2 := g.eq
  rw [Nat.add_mul] at h2
  rw [Nat.add_sub_cancel]
  omega
theorem DigInv.done {Y N1 N0 U u q r : Nat} (h : DigIn Y N1 N0 U u) (g : DigInv Y N1 U u q r) (hg : q * N0 ≤ H32 * r + u) : q = (U * H32 + u) / Y := by
  have hY : 0 < Y := Nat.lt_of_le_of_lt (Nat.zero_le _) h.lt
  refine Nat.le_antisymm ?_ g.ge
  rw [Nat.le_div_iff_mul_le hY, h.y, Nat.mul_add, ← Nat.mul_assoc]
  have h2 : (q * N1 + r) * H32 = U * H32 := by rw [g.eq]
  rw [Nat.add_mul, Nat.mul_comm r] at h2
  omega
theorem DigInv.left {Y N1 N0 U u q r : Nat} (h : DigIn Y N1 N0 U u) (g : DigInv Y N1 U u q r) (hq : q ≤ H32) (hr : H32 ≤ r) : q = (U * H32 + u) / Y := by
  refine g.done h ?_
  have h1 : q * N0 ≤ H32 * H32 := Nat.mul_le_mul hq (Nat.le_of_lt h.n0)
  have h2 : H32 * H32 ≤ H32 * r := Nat.mul_le_mul_left _ hr
  omega
/-- The whole of Div64. -/
theorem div_whole {Y U U1 U0 y s hi lo : Nat} (hY : Y = y * 2 ^ s) (hy : 0 < y) (hall : (hi * W64 + lo) * 2 ^ s = (U * H32 + U1) * H32 + U0) :
    (U * H32 + U1) / Y * H32 + ((U * H32 + U1) % Y * H32 + U0) / Y = (hi * W64 + lo) / y ∧ ((U * H32 + U1) % Y * H32 + U0) % Y / 2 ^ s = (hi * W64 + lo) % y := by
  have hp : 0 < 2 ^ s := Nat.pow_pos (by decide)
  have hY0 : 0 < Y := by rw [hY]; exact Nat.mul_pos hy hp
  have h1 := Nat.div_add_mod (U * H32 + U1) Y
  generalize (U * H32 + U1) / Y = q1 at *
  generalize (U * H32 + U1) % Y = r1 at *
  have h2 := Nat.div_add_mod (r1 * H32 + U0) Y
  have h3 := Nat.mod_lt (r1 * H32 + U0) hY0
  generalize (r1 * H32 + U0) / Y = q0 at *
  generalize (r1 * H32 + U0) % Y = r0 at *
  have h4 : (hi * W64 + lo) * 2 ^ s = Y * (q1 * H32 + q0) + r0 := by
    rw [hall, ← h1, Nat.add_mul, Nat.mul_add, Nat.mul_assoc]
    omega
  have h5 : (hi * W64 + lo) * 2 ^ s / Y = q1 * H32 + q0 := by
    rw [h4, Nat.mul_add_div hY0, Nat.div_eq_of_lt h3]; omega
  have h6 : (hi * W64 + lo) * 2 ^ s % Y = r0 := by
    rw [h4, Nat.mul_add_mod, Nat.mod_eq_of_lt h3]
  rw [hY, Nat.mul_div_mul_right _ _ hp] at h5
  rw [hY, Nat.mul_mod_mul_right] at h6
  exact ⟨h5.symm, by rw [← h6, Nat.mul_div_cancel _ hp]⟩
end Mth
end Go.Proofs.YteajpefbmiiioaaGreatDoor
