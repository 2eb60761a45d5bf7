/- Contracts of package nat and of the reference, part 6: MthK, SubM, Est, Shift, Long. -/
import Derived.Test.YtoadjhmehgkeaaaGreatDoorETexts5
import Derived.WalkMore
namespace Go.Proofs.YtoadjhmehgkeaaaGreatDoor
namespace Mth

/-- The first words of the two numbers of which a digit is estimated. -/
structure Est (P U V u u1 u2 v1 v2 : Nat) : Prop where
  hu : ∃ ur, U = ((u * W64 + u1) * W64 + u2) * P + ur ∧ ur < P
  hv : ∃ vr, V = (v1 * W64 + v2) * P + vr ∧ vr < P
  pos : 0 < v1
  lt : U < W64 * V
  lu1 : u1 < W64
  lu2 : u2 < W64
  lv2 : v2 < W64
section
variable {P U V u u1 u2 v1 v2 d r : Nat}
theorem Est.vpos (h : Est P U V u u1 u2 v1 v2) : 0 < V := by
  rcases Nat.eq_zero_or_pos V with e | e
  · have := h.lt; rw [e] at this; omega
  · exact e
theorem Est.v_lt (h : Est P U V u u1 u2 v1 v2) : V < (v1 + 1) * W64 * P := by
  obtain ⟨vr, hv, hr⟩ := h.hv
  have h1 : (v1 * W64 + v2 + 1) * P ≤ ((v1 + 1) * W64) * P := Nat.mul_le_mul_right _ (by rw [Nat.add_mul]; have := h.lv2; omega)
  rw [Nat.add_mul (v1 * W64 + v2) 1] at h1
  omega
theorem Est.u_le (h : Est P U V u u1 u2 v1 v2) : u ≤ v1 := by
  obtain ⟨ur, hu, _⟩ := h.hu
  apply Nat.le_of_lt_succ
  have h1 := h.lt
  have h2 : W64 * V ≤ W64 * ((v1 + 1) * W64 * P) := Nat.mul_le_mul_left _ (Nat.le_of_lt h.v_lt)
  have h3 : u * (W64 * W64 * P) ≤ U := by
    rw [hu, show u * (W64 * W64 * P) = u * W64 * W64 * P from by grind, Nat.add_mul, Nat.add_mul, Nat.add_mul]
    omega
  have h4 : u * (W64 * W64 * P) < (v1 + 1) * (W64 * W64 * P) := by
    rw [show (v1 + 1) * (W64 * W64 * P) = W64 * ((v1 + 1) * W64 * P) from by grind]
    omega
  exact Nat.lt_of_mul_lt_mul_right h4
/-- The estimate d, with what it leaves of the first two words. -/
structure EInv (U V u u1 v1 d r : Nat) : Prop where
  eq : d * v1 + r = u * W64 + u1
  ge : U / V ≤ d
  lt : d < W64
theorem Est.init_lt (h : Est P U V u u1 u2 v1 v2) (hlt : u < v1) : EInv U V u u1 v1 ((u * W64 + u1) / v1) ((u * W64 + u1) % v1) := by
  refine ⟨by rw [Nat.mul_comm]; exact Nat.div_add_mod _ _, ?_, ?_⟩
  · rw [Nat.le_div_iff_mul_le h.pos]
    obtain ⟨ur, hu, hur⟩ := h.hu
    obtain ⟨vr, hv, _⟩ := h.hv
    have h1 : U / V * V ≤ U := Nat.div_mul_le_self _ _
    generalize U / V = q at *
    have h2 : q * v1 * (W64 * P) ≤ q * V := by
      rw [hv, Nat.mul_assoc]
      refine Nat.mul_le_mul_left _ ?_
      rw [Nat.add_mul, Nat.mul_assoc]; omega
    have hP : 0 < P := by omega
    have h3 : U < (u * W64 + u1 + 1) * (W64 * P) := by
      rw [hu]
      have h4 : ((u * W64 + u1) * W64 + u2 + 1) * P ≤ ((u * W64 + u1 + 1) * W64) * P := Nat.mul_le_mul_right _ (by rw [Nat.add_mul (u * W64 + u1) 1]; have := h.lu2; omega)
      rw [Nat.add_mul ((u * W64 + u1) * W64 + u2) 1] at h4
      rw [← Nat.mul_assoc]
      omega
    have h5 : q * v1 * (W64 * P) < (u * W64 + u1 + 1) * (W64 * P) := by omega
    exact Nat.le_of_lt_succ (Nat.lt_of_mul_lt_mul_right h5)
  · rw [Nat.div_lt_iff_lt_mul h.pos]
    have h1 : (u + 1) * W64 ≤ v1 * W64 := Nat.mul_le_mul_right _ hlt
    rw [Nat.add_mul] at h1
    have := h.lu1
    rw [Nat.mul_comm W64]
    omega
theorem Est.init_eq (h : Est P U V u u1 u2 v1 v2) (he : u = v1) : EInv U V u u1 v1 (W64 - 1) (u1 + v1) := by
  refine ⟨?_, ?_, by have := W64_pos; omega⟩
  · subst he
    rw [Nat.sub_mul, Nat.mul_comm u]
    have : u ≤ W64 * u := Nat.le_mul_of_pos_left _ W64_pos
    omega
  · have := (Nat.div_lt_iff_lt_mul h.vpos).2 h.lt
    omega
theorem EInv.next (g : EInv U V u u1 v1 d r) (h : Est P U V u u1 u2 v1 v2) (hg : r * W64 + u2 < d * v2) : 0 < d ∧ EInv U V u u1 v1 (d - 1) (r + v1) := by
  obtain ⟨ur, hu, hur⟩ := h.hu
  obtain ⟨vr, hv, _⟩ := h.hv
  have h0 : (d * v1 + r) * W64 = (u * W64 + u1) * W64 := by rw [g.eq]
  have h1 : (u * W64 + u1) * W64 + u2 + 1 ≤ d * (v1 * W64 + v2) := by
    rw [Nat.mul_add, ← Nat.mul_assoc]
    rw [Nat.add_mul] at h0
    omega
  have h2 : U < d * V := by
    have h3 : ((u * W64 + u1) * W64 + u2 + 1) * P ≤ d * (v1 * W64 + v2) * P := Nat.mul_le_mul_right _ h1
    rw [Nat.add_mul ((u * W64 + u1) * W64 + u2) 1] at h3
    rw [hv, Nat.mul_add, ← Nat.mul_assoc]
    omega
  have h4 := (Nat.div_lt_iff_lt_mul h.vpos).2 h2
  have hd : 0 < d := Nat.lt_of_le_of_lt (Nat.zero_le _) h4
  refine ⟨hd, ?_, Nat.le_sub_one_of_lt h4, by have := g.lt; omega⟩
  obtain ⟨k, rfl⟩ : ∃ k, d = k + 1 := ⟨d - 1, by omega⟩
  have := g.eq
  rw [Nat.add_mul] at this
  rw [Nat.add_sub_cancel]
  omega
theorem EInv.done (g : EInv U V u u1 v1 d r) (h : Est P U V u u1 u2 v1 v2) (hg : d * v2 ≤ r * W64 + u2) : d ≤ U / V + 1 := by
  obtain ⟨ur, hu, hur⟩ := h.hu
  obtain ⟨vr, hv, hvr⟩ := h.hv
  have h0 : (d * v1 + r) * W64 = (u * W64 + u1) * W64 := by rw [g.eq]
  have h1 : d * (v1 * W64 + v2) ≤ (u * W64 + u1) * W64 + u2 := by
    rw [Nat.mul_add, ← Nat.mul_assoc]
    rw [Nat.add_mul] at h0
    omega
  have hq : U < (U / V + 1) * V := by
    have := Nat.lt_succ_self (U / V)
    exact (Nat.div_lt_iff_lt_mul h.vpos).1 this
  generalize U / V = q at *
  rcases Nat.lt_or_ge (q + 1) d with hlt | hge
  · exfalso
    obtain ⟨e, rfl⟩ : ∃ e, d = e + 1 := ⟨d - 1, by omega⟩
    have h2 : (q + 1) * V ≤ e * V := Nat.mul_le_mul_right _ (by omega)
    have h3 : (e + 1) * (v1 * W64 + v2) * P ≤ ((u * W64 + u1) * W64 + u2) * P := Nat.mul_le_mul_right _ h1
    have h4 : e * V ≤ e * ((v1 * W64 + v2 + 1) * P) := Nat.mul_le_mul_left _ (by rw [hv, Nat.add_mul (v1 * W64 + v2) 1]; omega)
    have h5 : (e + 1) * (v1 * W64 + v2) * P < e * (v1 * W64 + v2 + 1) * P := by rw [Nat.mul_assoc e]; omega
    have h6 := Nat.lt_of_mul_lt_mul_right h5
    have h7 := g.lt
    have h8 : 1 * W64 ≤ v1 * W64 := Nat.mul_le_mul_right _ h.pos
    have h9 : v1 * W64 ≤ v1 * W64 + v2 := Nat.le_add_right _ _
    clear h3 h4 h5 h1 h2
    generalize v1 * W64 + v2 = D at *
    rw [Nat.add_mul, Nat.mul_add] at h6
    omega
  · exact hge
theorem EInv.over (g : EInv U V u u1 v1 d r) (h : Est P U V u u1 u2 v1 v2) (hr : W64 ≤ r) : d * v2 ≤ r * W64 + u2 := by
  have h1 : d * v2 ≤ W64 * W64 := Nat.mul_le_mul (Nat.le_of_lt g.lt) (Nat.le_of_lt h.lv2)
  have h2 : W64 * W64 ≤ r * W64 := Nat.mul_le_mul_right _ hr
  omega
end

/-- One digit: what is left after the estimate was subtracted, and put right. -/
theorem step_zero {U V d Z : Nat} (hV : 0 < V) (h1 : U / V ≤ d) (h2 : d ≤ U / V + 1) (h : Z + V * d = U) : d = U / V ∧ Z = U % V := by
  have h3 := Nat.div_add_mod U V
  have h4 := Nat.mod_lt U hV
  generalize U / V = q at *
  generalize U % V = r at *
  rcases Nat.lt_or_ge q d with hlt | hge
  · obtain rfl : d = q + 1 := by omega
    rw [Nat.mul_add] at h
    omega
  · obtain rfl : d = q := by omega
    exact ⟨rfl, by omega⟩
theorem step_one {U V d Z Z' N k : Nat} (hV : 0 < V) (hVN : V ≤ N) (h1 : U / V ≤ d) (h2 : d ≤ U / V + 1) (hZ : Z < N) (hZ' : Z' < N) (h : Z + V * d = U + N) (g : Z' + N * k = Z + V) : 0 < d ∧ d - 1 = U / V ∧ Z' = U % V := by
  have h3 := Nat.div_add_mod U V
  have h4 := Nat.mod_lt U hV
  generalize U / V = q at *
  generalize U % V = r at *
  rcases Nat.lt_or_ge q d with hlt | hge
  · obtain rfl : d = q + 1 := by omega
    rw [Nat.mul_add] at h
    refine ⟨by omega, by omega, ?_⟩
    have e : Z' + N * k = N + r := by omega
    have hk : k = 1 := by
      rcases k with _ | _ | k
      · omega
      · rfl
      · rw [Nat.mul_add, Nat.mul_add] at e; omega
    subst hk
    omega
  · obtain rfl : d = q := by omega
    omega

/-- The loop of divideLong: the places from i on are over. -/
structure LongInv (R0 V : Nat) (zs qs : List Nat) (n m i : Nat) : Prop where
  len : zs.length = m + n
  qlen : qs.length = m
  dg : Dg W64 zs
  qdg : Dg W64 qs
  small : vs W64 zs i n < V
  zero : ∀ j, i + n ≤ j → gt zs j = 0
  val : R0 = W64 ^ i * vs W64 qs i (m - i) * V + vs W64 zs 0 (i + n)
theorem LongInv.u_lt {R0 V n m i : Nat} {zs qs : List Nat} (h : LongInv R0 V zs qs n m (i + 1)) : vs W64 zs i (n + 1) < W64 * V := by
  have h1 := h.small
  have h2 := h.dg i
  rw [show n + 1 = 1 + n from by omega, vs_split]
  simp only [vs, Nat.pow_zero, Nat.pow_one, Nat.one_mul, Nat.add_zero, Nat.zero_add]
  have h3 : W64 * (vs W64 zs (i + 1) n + 1) ≤ W64 * V := Nat.mul_le_mul_left _ h1
  rw [Nat.mul_add] at h3
  omega
theorem LongInv.next {R0 V n m i d : Nat} {zs us qs : List Nat} (h : LongInv R0 V zs qs n m (i + 1)) (hi : i < m) (hVn : V ≤ W64 ^ n) (hV : 0 < V) (hlen : us.length = zs.length) (hout : ∀ j, (j < i ∨ i + (n + 1) ≤ j) → gt us j = gt zs j) (hdu : Dg W64 us)
    (hd : d = vs W64 zs i (n + 1) / V) (hdW : d < W64) (hr : vs W64 us i (n + 1) = vs W64 zs i (n + 1) % V) : LongInv R0 V us (qs.set i d) n m i := by
  have hmod := Nat.mod_lt (vs W64 zs i (n + 1)) hV
  have hdm := Nat.div_add_mod (vs W64 zs i (n + 1)) V
  rw [← hd, ← hr] at hdm
  rw [← hr] at hmod
  have htop : gt us (i + n) = 0 := by
    simp only [vs] at hmod
    rcases Nat.eq_zero_or_pos (gt us (i + n)) with e | e
    · exact e
    · have : W64 ^ n * 1 ≤ W64 ^ n * gt us (i + n) := Nat.mul_le_mul_left _ e
      omega
  have hvs : vs W64 us i n = vs W64 us i (n + 1) := by simp only [vs]; rw [htop]; simp
  have hql : i < qs.length := by rw [h.qlen]; exact hi
  refine ⟨hlen.trans h.len, by rw [List.length_set]; exact h.qlen, hdu, h.qdg.set hdW, by rw [hvs]; exact hmod, fun j hj => ?_, ?_⟩
  · rcases Nat.eq_or_lt_of_le hj with e | e
    · rw [← e]; exact htop
    · rw [hout j (by omega)]; exact h.zero j (by omega)
  · have hv := h.val
    rw [show m - i = 1 + (m - (i + 1)) from by omega, vs_split W64 (qs.set i d)]
    simp only [vs, Nat.pow_zero, Nat.pow_one, Nat.one_mul, Nat.add_zero, Nat.zero_add]
    rw [gt_set hql, if_pos rfl, vs_congr (xs := qs.set i d) (ys := qs) (off' := i + 1) (fun j hj => by rw [gt_set hql, if_neg (by omega)])]
    rw [show i + 1 + n = i + (n + 1) from by omega, vs_split W64 zs, Nat.zero_add, ← hdm] at hv
    rw [vs_split W64 us, Nat.zero_add, hvs, vs_congr (xs := us) (ys := zs) (off := 0) (off' := 0) (n := i) (fun j hj => hout _ (by omega))]
    rw [hv, Nat.pow_succ]
    generalize vs W64 qs (i + 1) (m - (i + 1)) = Q
    generalize vs W64 us i (n + 1) = R
    generalize vs W64 zs 0 i = L
    generalize W64 ^ i = X
    grind
theorem LongInv.done {R0 V n m : Nat} {zs qs : List Nat} (h : LongInv R0 V zs qs n m 0) (hV : 0 < V) : vs W64 qs 0 m = R0 / V ∧ vs W64 zs 0 (m + n) = R0 % V := by
  have hv := h.val
  simp only [Nat.pow_zero, Nat.one_mul, Nat.sub_zero, Nat.zero_add] at hv
  have hz : vs W64 zs 0 (m + n) = vs W64 zs 0 n := by
    rw [show m + n = n + m from by omega, vs_split, Nat.zero_add, vs_zero (n := m) (fun j _ => h.zero _ (by omega))]
    simp
  rw [hz]
  have := Nat.div_mod_unique hV (a := R0) (d := vs W64 qs 0 m) (c := vs W64 zs 0 n)
  have h2 := this.2 ⟨by rw [hv, Nat.mul_comm V, Nat.add_comm], h.small⟩
  exact ⟨h2.1.symm, h2.2.symm⟩

theorem pow_parts {s : Nat} (hs : s ≤ 64) : W64 = 2 ^ (64 - s) * 2 ^ s := by
  rw [← Nat.pow_add, show 64 - s + s = 64 from by omega]; rfl
theorem or_low {a x E : Nat} {s : Nat} (hE : E = 2 ^ s) (ha : a < E) (hx : E ∣ x) : a ||| x = a + x := by
  obtain ⟨M, rfl⟩ := hx
  subst hE
  rw [Nat.or_comm, ← Nat.two_pow_add_eq_or_of_lt ha]; omega
/-- The two halves of a word that is moved. -/
theorem shl_parts {x s : Nat} (hs : s ≤ 64) : x * 2 ^ s % W64 + W64 * (x / 2 ^ (64 - s)) = x * 2 ^ s := by
  have h : x / 2 ^ (64 - s) = x * 2 ^ s / W64 := by rw [pow_parts hs, Nat.mul_div_mul_right _ _ (Nat.pow_pos (by decide))]
  rw [h]; exact Nat.mod_add_div _ _
theorem shl_dvd {x s : Nat} (hs : s ≤ 64) : 2 ^ s ∣ x * 2 ^ s % W64 := by
  rw [Nat.dvd_mod_iff (by rw [pow_parts hs]; exact Nat.dvd_mul_left _ _)]
  exact Nat.dvd_mul_left _ _
theorem room_dvd {a y E F : Nat} (ha : a < E) (hy : y < E * F) (hd : E ∣ y) : a + y < E * F := by
  obtain ⟨k, rfl⟩ := hd
  have hk : k < F := Nat.lt_of_mul_lt_mul_left hy
  have : E * (k + 1) ≤ E * F := Nat.mul_le_mul_left _ hk
  rw [Nat.mul_add] at this
  omega
/-- The loop of shiftedLeft. -/
structure ShlInv (xs zs : List Nat) (o n s i : Nat) : Prop where
  len : zs.length = n + 1
  dg : Dg W64 zs
  zero : ∀ j, i < j → gt zs j = 0
  low : gt zs i < 2 ^ s
  val : vs W64 zs 0 (i + 1) = vs W64 xs o i * 2 ^ s
theorem shl_word {a x s : Nat} (hs : s ≤ 64) (ha : a < 2 ^ s) : a ||| (x * 2 ^ s % W64) = a + x * 2 ^ s % W64 ∧ a + x * 2 ^ s % W64 < W64 := by
  refine ⟨or_low rfl ha (shl_dvd hs), ?_⟩
  have h := pow_parts hs
  rw [Nat.mul_comm] at h
  have h2 : x * 2 ^ s % W64 < 2 ^ s * 2 ^ (64 - s) := by rw [← h]; exact Nat.mod_lt _ W64_pos
  have := room_dvd ha h2 (shl_dvd hs)
  rwa [← h] at this
theorem ShlInv.next {xs zs : List Nat} {o n s i : Nat} (h : ShlInv xs zs o n s i) (hs : s ≤ 63) (hi : i < n) (hx : gt xs (o + i) < W64) :
    ShlInv xs ((zs.set i (gt zs i ||| (gt xs (o + i) * 2 ^ s % W64))).set (i + 1) (gt xs (o + i) / 2 ^ (64 - s))) o n s (i + 1) := by
  obtain ⟨h1, h2⟩ := shl_word (x := gt xs (o + i)) (by omega : s ≤ 64) h.low
  have h3 := shl_parts (x := gt xs (o + i)) (by omega : s ≤ 64)
  have h4 : gt xs (o + i) / 2 ^ (64 - s) < 2 ^ s := by
    rw [Nat.div_lt_iff_lt_mul (Nat.pow_pos (by decide)), Nat.mul_comm, ← pow_parts (by omega)]; exact hx
  have h5 : 2 ^ s ≤ W64 := by rw [pow_parts (by omega : s ≤ 64)]; exact Nat.le_mul_of_pos_left _ (Nat.pow_pos (by decide))
  rw [h1]
  generalize gt xs (o + i) * 2 ^ s % W64 = lo at *
  generalize hhi : gt xs (o + i) / 2 ^ (64 - s) = hi' at *
  have l1 : i < zs.length := by rw [h.len]; omega
  have l2 : i + 1 < (zs.set i (gt zs i + lo)).length := by rw [List.length_set, h.len]; omega
  refine ⟨by simp [h.len], (h.dg.set h2).set (by omega), fun j hj => ?_, by rw [gt_set l2, if_pos rfl]; exact h4, ?_⟩
  · rw [gt_set l2, if_neg (by omega), gt_set l1, if_neg (by omega)]; exact h.zero j (by omega)
  · have hv := h.val
    simp only [vs, Nat.zero_add] at hv ⊢
    rw [gt_set (j := i + 1) l2, if_pos rfl, gt_set (j := i) l2, if_neg (by omega), gt_set (j := i) l1, if_pos rfl]
    rw [vs_congr (xs := (zs.set i (gt zs i + lo)).set (i + 1) hi') (ys := zs) (off := 0) (off' := 0) (n := i) (fun j hj => by rw [gt_set l2, if_neg (by omega), gt_set l1, if_neg (by omega)])]
    rw [Nat.add_mul, ← hv, Nat.mul_assoc, ← h3, Nat.pow_succ]
    grind
/-- The loop of shiftRight. -/
structure ShrInv (X : Nat) (xs zs : List Nat) (s i : Nat) : Prop where
  len : zs.length = xs.length
  dg : Dg W64 zs
  done : ∀ j, j < i → gt zs j = X / 2 ^ s / W64 ^ j % W64
  rest : ∀ j, i ≤ j → gt zs j = gt xs j
theorem shr_word {a x s : Nat} (hs : s ≤ 64) (ha : a < W64) : (a / 2 ^ s) ||| (x * 2 ^ (64 - s) % W64) = a / 2 ^ s + x * 2 ^ (64 - s) % W64 ∧ a / 2 ^ s + x * 2 ^ (64 - s) % W64 < W64 := by
  have h1 : a / 2 ^ s < 2 ^ (64 - s) := by
    rw [Nat.div_lt_iff_lt_mul (Nat.pow_pos (by decide)), ← pow_parts hs]; exact ha
  exact shl_word (by omega) h1
theorem shr_value {X a x t s : Nat} (hs : s ≤ 64) (ha : a < W64) (hX : X = a + W64 * (x + W64 * t)) : X / 2 ^ s % W64 = a / 2 ^ s + x * 2 ^ (64 - s) % W64 := by
  have h1 := (shr_word (x := x) hs ha).2
  have hp : 0 < 2 ^ s := Nat.pow_pos (by decide)
  have e : X = a + 2 ^ s * (2 ^ (64 - s) * (x + W64 * t)) := by
    rw [hX, ← Nat.mul_assoc (2 ^ s), Nat.mul_comm (2 ^ s), ← pow_parts hs]
  rw [e, Nat.add_mul_div_left _ _ hp, Nat.mul_add, ← Nat.mul_assoc, Nat.mul_right_comm, Nat.mul_comm (2 ^ (64 - s) * t), ← Nat.add_assoc, Nat.add_mul_mod_self_left]
  rw [Nat.mul_comm (2 ^ (64 - s)) x, Nat.add_comm, add_mod_small (by omega)]
  omega
theorem vs_at {xs : List Nat} {n i : Nat} (hd : Dg W64 xs) (hi : i < n) : vs W64 xs 0 n / W64 ^ i = gt xs i + W64 * vs W64 xs (i + 1) (n - (i + 1)) := by
  obtain ⟨k, rfl⟩ : ∃ k, n = i + (1 + k) := ⟨n - (i + 1), by omega⟩
  rw [vs_split, Nat.add_mul_div_left _ _ (Nat.pow_pos W64_pos), Nat.div_eq_of_lt (vs_lt hd), vs_split W64 xs (0 + i) 1 k, show i + (1 + k) - (i + 1) = k from by omega]
  simp [vs]
theorem ShrInv.next {X : Nat} {xs zs : List Nat} {s i x : Nat} (h : ShrInv X xs zs s i) (hs : s ≤ 64) (hX : X = vs W64 xs 0 xs.length) (hdx : Dg W64 xs) (hi : i < xs.length) (hx : x = gt xs (i + 1)) :
    gt zs i = gt xs i ∧ ShrInv X xs (zs.set i (gt zs i / 2 ^ s + x * 2 ^ (64 - s) % W64)) s (i + 1) := by
  have e := h.rest i (Nat.le_refl _)
  have l1 : i < zs.length := by rw [h.len]; exact hi
  have hlt := (shr_word (x := x) hs (h.dg i)).2
  refine ⟨e, by rw [List.length_set]; exact h.len, h.dg.set hlt, fun j hj => ?_, fun j hj => by rw [gt_set l1, if_neg (by omega)]; exact h.rest j (by omega)⟩
  rw [gt_set l1]
  split
  · rename_i hij
    subst hij
    have h1 := vs_at hdx hi
    rw [← hX] at h1
    have h2 : vs W64 xs (i + 1) (xs.length - (i + 1)) = x + W64 * vs W64 xs (i + 2) (xs.length - (i + 2)) := by
      rcases Nat.lt_or_ge (i + 1) xs.length with hl | hl
      · rw [show xs.length - (i + 1) = 1 + (xs.length - (i + 2)) from by omega, vs_split]
        simp [vs, hx]
      · rw [show xs.length - (i + 1) = 0 from by omega, show xs.length - (i + 2) = 0 from by omega, hx, gt_of_ge hl]
        simp [vs]
    rw [h2] at h1
    rw [Nat.div_div_eq_div_mul, Nat.mul_comm (2 ^ s), ← Nat.div_div_eq_div_mul, shr_value hs (hdx i) h1, e]
  · exact h.done j (by omega)
theorem ShrInv.all {X : Nat} {xs zs : List Nat} {s : Nat} (h : ShrInv X xs zs s xs.length) (hX : X = vs W64 xs 0 xs.length) (hdx : Dg W64 xs) : vs W64 zs 0 xs.length = X / 2 ^ s := by
  have e : ∀ m, m ≤ xs.length → vs W64 zs 0 m = X / 2 ^ s % W64 ^ m := by
    intro m
    induction m with
    | zero => intro _; simp [vs, Nat.mod_one]
    | succ m ih => intro hm; simp only [vs, Nat.zero_add]; rw [ih (by omega), h.done m (by omega), Nat.pow_succ, Nat.mod_mul]
  rw [e _ (Nat.le_refl _)]
  apply Nat.mod_eq_of_lt
  have h1 : X < W64 ^ xs.length := by rw [hX]; exact vs_lt hdx
  exact Nat.lt_of_le_of_lt (Nat.div_le_self _ _) h1
end Mth
end Go.Proofs.YtoadjhmehgkeaaaGreatDoor
namespace Go.Proofs.YtoadjhmehgkeaaaGreatDoor
open Go.RowKit Mth

theorem sub64_runz (x y : Nat) (w : World) :
    (callFunc 124 #[.int .u64 (x : Int), .int .u64 (y : Int), .int .u64 0]).run Tryz.prog w =
      .ok (.value (.tuple #[.int .u64 ((subLo x y 0 : Nat) : Int), .int .u64 ((subHi x y 0 : Nat) : Int)])) w := sub64_run x y 0 (by omega) w
/-- One step: the new digit and the new borrow. -/
def smLo (x f t c : Nat) : Nat := subLo t (addLo (mulLo x f) c 0) 0
def smHi (x f t c : Nat) : Nat := mulHi x f + addHi (mulLo x f) c 0 + subHi t (addLo (mulLo x f) c 0) 0
theorem sm_split {x f t c : Nat} (ht : t < W64) : smLo x f t c + x * f + c = t + W64 * smHi x f t c := by
  have h1 := mul_split x f
  have h2 := add_split (mulLo x f) c 0
  have h3 := sub_split ht (addLo_lt (mulLo x f) c 0) (Nat.zero_le 1)
  unfold smLo smHi
  rw [Nat.mul_add, Nat.mul_add]
  omega
theorem smLo_lt (x f t c : Nat) : smLo x f t c < W64 := subLo_lt _ _ _
theorem smHi_lt {x f t c : Nat} (hx : x < W64) (hf : f < W64) (ht : t < W64) (hc : c < W64) : smHi x f t c < W64 := by
  have h := sm_split (x := x) (f := f) (c := c) ht
  have h0 := smLo_lt x f t c
  have h1 : x * f ≤ (W64 - 1) * (W64 - 1) := Nat.mul_le_mul (by omega) (by omega)
  have h2 : (W64 - 1) * (W64 - 1) + (W64 - 1) + (W64 - 1) < W64 * W64 := by decide
  refine Nat.lt_of_mul_lt_mul_left (a := W64) ?_
  omega

def SmInv (xs ys zs : List Nat) (off n o2 f i c : Nat) : Prop := Wrote xs zs off n ∧ Dg W64 zs ∧ c < W64 ∧ (∀ j, i ≤ j → gt zs (off + j) = gt xs (off + j)) ∧ vs W64 zs off i + vs W64 ys o2 i * f = vs W64 xs off i + W64 ^ i * c
theorem SmInv.next {xs ys zs : List Nat} {off n o2 f i c : Nat} (h : SmInv xs ys zs off n o2 f i c) (hy : Dg W64 ys) (hf : f < W64) (hi : i < n) (hx : off + n ≤ xs.length) :
    SmInv xs ys (zs.set (off + i) (smLo (gt ys (o2 + i)) f (gt zs (off + i)) c)) off n o2 f (i + 1) (smHi (gt ys (o2 + i)) f (gt zs (off + i)) c) := by
  obtain ⟨h1, h2, h3, h4, h5⟩ := h
  have hl : off + i < zs.length := by rw [h1.len]; omega
  refine ⟨h1.step (by omega) (by omega) (by omega), h2.set (smLo_lt _ _ _ _), smHi_lt (hy _) hf (h2 _) h3, fun j hj => ?_, ?_⟩
  · rw [gt_set hl, if_neg (by omega)]; exact h4 j (by omega)
  · have hs := sm_split (x := gt ys (o2 + i)) (f := f) (c := c) (h2 (off + i))
    simp only [vs]
    rw [gt_set hl, if_pos rfl, vs_congr (ys := zs) (off' := off) (fun j hj => by rw [gt_set hl, if_neg (by omega)])]
    rw [h4 i (Nat.le_refl _)] at hs ⊢
    have e : W64 ^ i * smLo (gt ys (o2 + i)) f (gt xs (off + i)) c + W64 ^ i * gt ys (o2 + i) * f + W64 ^ i * c = W64 ^ i * gt xs (off + i) + W64 ^ (i + 1) * smHi (gt ys (o2 + i)) f (gt xs (off + i)) c := by
      rw [Nat.pow_succ, Nat.mul_assoc, Nat.mul_assoc, ← Nat.mul_add, ← Nat.mul_add, hs, Nat.mul_add]
    rw [Nat.add_mul]
    omega

/-- What subtractMultiple leaves. -/
def SubbedM (xs zs : List Nat) (off n c y : Nat) : Prop := Wrote xs zs off n ∧ Dg W64 zs ∧ c < W64 ∧ vs W64 zs off n + y = vs W64 xs off n + W64 ^ n * c
theorem subtractMultiple_any (b1 o1 n1 c1 b2 o2 n2 c2 f : Nat) (xs ys : List Nat) (w : World) (hb : Blk .u64 96 w b1 xs) (hn : o1 + n1 ≤ xs.length) (hd : Dg W64 xs)
    (hb2 : Blk .u64 96 w b2 ys) (hn2 : o2 + n2 ≤ ys.length) (hd2 : Dg W64 ys) (hne : b2 ≠ b1) (hle : n2 ≤ n1) (hf : f < W64) (hm : n1 ≤ maxLen) :
    Calls Tryz.prog 159 #[.slice (some ⟨b1, o1, none⟩) n1 c1, .slice (some ⟨b2, o2, none⟩) n2 c2, .int .u64 (f : Int)] w fun e w' => ∃ c zs, e = .returned (.int .u64 ((c : Nat) : Int)) ∧ Blk .u64 96 w' b1 zs ∧ w.grownBy w' (some b1) ∧ SubbedM xs zs o1 n2 c (vs W64 ys o2 n2 * f) := by
  unfold maxLen at hm
  have ha := add64_run0
  have hs64 := sub64_runz
  have hy0 : SmInv xs ys xs o1 n2 o2 f 0 0 := ⟨Wrote.refl _ _ _, hd, W64_pos, fun _ _ => rfl, by simp [vs]⟩
  go_enter Tryz.func159, Tryz.ntmps159
  go_wp2
  go_loopw [7, 15] (fun v j wr => ∃ (i t : Nat) (zs : List Nat), i ≤ n2 ∧ j = .int .i64 i ∧ v = .int .u64 t ∧ Blk .u64 96 wr b1 zs ∧ w.grownBy wr (some b1) ∧ SmInv xs ys zs o1 n2 o2 f i t) (fun _ j _ => n2 - (intOf j).toNat)
  case atStart => exact ⟨0, 0, xs, Nat.zero_le _, rfl, rfl, hb, World.grownBy.refl _ _, hy0⟩
  case round =>
    obtain ⟨i, t, zs, hi, rfl, rfl, hbz, hg, hinv⟩ := hrel
    have hlz : zs.length = xs.length := hinv.1.len
    have ht : t < W64 := hinv.2.2.1
    have hb2r := hb2.kept hg (by simpa using hne)
    have hcell2 : i < n2 → wr.cell? ⟨b2, o2 + i, none⟩ = some (.int .u64 ((gt ys (o2 + i) : Nat) : Int)) := fun h => hb2r.cell (by omega)
    have hcell : i < n2 → wr.cell? ⟨b1, o1 + i, none⟩ = some (.int .u64 ((gt zs (o1 + i) : Nat) : Int)) := fun h => hbz.cell (by omega)
    have hfr : wr.frozen? ⟨b1, o1 + i, none⟩ = false := hbz.frozen _
    have hyi := hd2 (o2 + i)
    have hzi := hinv.2.1 (o1 + i)
    by_cases hlt : i < n2
    · have hnx := hinv.next hd2 hf hlt (by omega : o1 + n2 ≤ xs.length)
      have hhi := smHi_lt hyi hf hzi ht
      have HC := Lib.hid (carry_cast hhi)
      go_wp2_with fail
      refine (mul64_run _ _ hyi hf _).mono ?_
      rintro e w' ⟨rfl, rfl⟩
      go_wp2
      go_roundw
      case rel => exact ⟨i + 1, smHi (gt ys (o2 + i)) f (gt zs (o1 + i)) t, _, by omega, by go_num, by rw [HC.out]; rfl, hbz.set _ _, gr_trans hg (gr_set _ _ _ _) (.inr rfl) (.inr (.inl rfl)), hnx⟩
      case measure => simp [intOf]; omega
    · obtain rfl : i = n2 := by omega
      go_wp2
      go_ret
      exact ⟨t, zs, rfl, hbz, hg, hinv.1, hinv.2.1, ht, hinv.2.2.2.2⟩
end Go.Proofs.YtoadjhmehgkeaaaGreatDoor
namespace Go.Proofs.YtoadjhmehgkeaaaGreatDoor
open Go.RowKit Mth

theorem est_of {xs ys : List Nat} {o1 o2 n U V : Nat} (hd1 : Dg W64 xs) (hd2 : Dg W64 ys) (hn : 2 ≤ n) (hU : vs W64 xs o1 (n + 1) = U) (hV : vs W64 ys o2 n = V) (htop : gt ys (o2 + (n - 1)) ≠ 0) (hlt : U < W64 * V) :
    Est (W64 ^ (n - 2)) U V (gt xs (o1 + n)) (gt xs (o1 + (n - 1))) (gt xs (o1 + (n - 2))) (gt ys (o2 + (n - 1))) (gt ys (o2 + (n - 2))) := by
  obtain ⟨k, rfl⟩ : ∃ k, n = k + 2 := ⟨n - 2, by omega⟩
  simp only [vs, show k + 2 - 1 = k + 1 from by omega, show k + 2 - 2 = k from by omega] at *
  refine ⟨⟨vs W64 xs o1 k, ?_, vs_lt hd1⟩, ⟨vs W64 ys o2 k, ?_, vs_lt hd2⟩, by omega, hlt, hd1 _, hd1 _, hd2 _⟩
  · rw [← hU, Nat.pow_succ, Nat.pow_succ]; grind
  · rw [← hV, Nat.pow_succ]; grind

theorem add64_small (x y : Nat) (h : x + y < W64 * 2) : (addLo x y 0) + W64 * (addHi x y 0) = x + y ∧ addHi x y 0 ≤ 1 := by
  refine ⟨by have := add_split x y 0; omega, ?_⟩
  unfold addHi; rw [W64_eq] at *; omega

theorem quiet_add_more {P : Program} {f : FuncId} {args : Array Value} {w : World} {a n : Nat} {v : Value}
    (h : Calls P f args (w.drewN (a + n)) fun e w' => e = .returned v ∧ ∃ m, w' = (w.drewN (a + n)).drewN m) :
    Calls P f args (w.drewN (a + n)) fun e w'' => e = .returned v ∧ ∃ m, w'' = w.drewN (a + m) :=
  h.mono fun _ _ ⟨he, m, hm⟩ => ⟨he, n + m, by rw [hm, World.drewN_drewN, Nat.add_assoc]⟩

set_option maxHeartbeats 2000000 in
theorem estimateDigit_any (b1 o1 n c1 b2 o2 c2 U V : Nat) (xs ys : List Nat) (w : World) (hb1 : Blk .u64 96 w b1 xs) (hn1 : o1 + (n + 1) ≤ xs.length) (hd1 : Dg W64 xs) (hb2 : Blk .u64 96 w b2 ys) (hn2 : o2 + n ≤ ys.length) (hd2 : Dg W64 ys) (hm : n ≤ 1099511627776)
    (hn : 2 ≤ n) (hU : vs W64 xs o1 (n + 1) = U) (hV : vs W64 ys o2 n = V) (htop : gt ys (o2 + (n - 1)) ≠ 0) (hlt : U < W64 * V) :
    Calls Tryz.prog 158 #[.slice (some ⟨b1, o1, none⟩) (n + 1) c1, .slice (some ⟨b2, o2, none⟩) n c2] w fun e w' => ∃ d, e = .returned (.int .u64 ((d : Nat) : Int)) ∧ U / V ≤ d ∧ d ≤ U / V + 1 ∧ d < W64 ∧ Qt w w' := by
  have hest := est_of hd1 hd2 hn hU hV htop hlt
  have hcu : w.cell? ⟨b1, o1 + n, none⟩ = some (.int .u64 ((gt xs (o1 + n) : Nat) : Int)) := hb1.cell (by omega)
  have hcu1 : w.cell? ⟨b1, o1 + (n - 1), none⟩ = some (.int .u64 ((gt xs (o1 + (n - 1)) : Nat) : Int)) := hb1.cell (by omega)
  have hcu2 : w.cell? ⟨b1, o1 + (n - 2), none⟩ = some (.int .u64 ((gt xs (o1 + (n - 2)) : Nat) : Int)) := hb1.cell (by omega)
  have hcv1 : w.cell? ⟨b2, o2 + (n - 1), none⟩ = some (.int .u64 ((gt ys (o2 + (n - 1)) : Nat) : Int)) := hb2.cell (by omega)
  have hcv2 : w.cell? ⟨b2, o2 + (n - 2), none⟩ = some (.int .u64 ((gt ys (o2 + (n - 2)) : Nat) : Int)) := hb2.cell (by omega)
  have hv1 := hd2 (o2 + (n - 1))
  have hv2 := hd2 (o2 + (n - 2))
  have hu1 := hd1 (o1 + (n - 1))
  have hu2 := hd1 (o1 + (n - 2))
  generalize gt xs (o1 + n) = u at *
  generalize gt xs (o1 + (n - 1)) = u1 at *
  generalize gt xs (o1 + (n - 2)) = u2 at *
  generalize gt ys (o2 + (n - 1)) = v1 at *
  generalize gt ys (o2 + (n - 2)) = v2 at *
  have HE := Lib.hid hest
  have hule := hest.u_le
  clear hest hb1 hd1 hb2 hd2 hU hV htop hlt hn1 hn2
  have ha := add64_run0
  go_enter Tryz.func158, Tryz.ntmps158
  go_wp2
  go_step3
  go_wp2
  go_quiet (fail)
  rcases Nat.lt_or_ge u v1 with hlt | hge
  · have hd : decide ((u : Int) < (v1 : Int)) = true := decide_eq_true (by omega)
    have hinit := HE.out.init_lt hlt
    have hv1p := HE.out.pos
    have hrlt := Nat.mod_lt (u * W64 + u1) hv1p
    have hdiv : ∀ w, Calls Tryz.prog 136 #[.int .u64 (u : Int), .int .u64 (u1 : Int), .int .u64 (v1 : Int)] w fun e w' => e = .returned (.tuple #[.int .u64 (((u * W64 + u1) / v1 : Nat) : Int), .int .u64 (((u * W64 + u1) % v1 : Nat) : Int)]) ∧ ∃ n, w' = w.drewN n := fun w => div64_any u u1 v1 w hu1 hlt hv1
    have HD := Lib.hid hdiv
    have HI0 := Lib.hid hinit
    generalize (u * W64 + u1) / v1 = q at *
    generalize (u * W64 + u1) % v1 = r0 at *
    clear hdiv hinit
    go_wp2
    go_quiet ((go_at_call 136; exact quiet_add_more (HD.out _)))
    go_wp2_with fail
    go_step3
    go_wp2_with fail
    go_loopw [8, 9, 10] (fun vd vr vc wr => ∃ (d r c : Nat), vd = .int .u64 d ∧ vr = .int .u64 r ∧ vc = .int .u64 c ∧ r < W64 ∧ c ≤ 1 ∧ Hid (EInv U V u u1 v1 d (r + W64 * c)) ∧ d < W64 ∧ Qt w wr) (fun vd _ _ _ => (intOf vd).toNat)
    case atStart => exact ⟨q, r0, 0, rfl, rfl, rfl, by omega, by omega, by rw [Nat.mul_zero, Nat.add_zero]; exact HI0, HI0.out.lt, (Qt.more ⟨_, rfl⟩ _)⟩
    case round =>
      obtain ⟨d, r, c, rfl, rfl, rfl, hr, hc, HI, hdW, k, rfl⟩ := hrel
      have hcu2' : (w.drewN k).cell? ⟨b1, o1 + (n - 2), none⟩ = some (.int .u64 (u2 : Int)) := hcu2
      rcases Nat.lt_or_ge c 1 with h0 | h1
      · obtain rfl : c = 0 := by omega
        have hgo := HI.out
        rw [Nat.mul_zero, Nat.add_zero] at hgo
        have hsp := mul_split d v2
        have HG := Lib.hid hgo
        clear HI hgo hcu hcu1 hcu2 hcv1 hcv2
        go_wp2_with fail
        refine (mul64_run _ _ hdW hv2 _).mono ?_
        rintro e w' ⟨rfl, rfl⟩
        have hlo := mulLo_lt d v2
        generalize mulHi d v2 = hi at *
        generalize mulLo d v2 = lo at *
        by_cases hle : lo + W64 * hi ≤ r * W64 + u2
        · have hfin := HG.out.done HE.out (by rw [← hsp]; exact hle)
          have HF := Lib.hid (And.intro HG.out.ge hfin)
          have hor : hi < r ∨ (hi = r ∧ lo ≤ u2) := by
            rcases Nat.lt_trichotomy hi r with h | h | h
            · exact .inl h
            · subst h; exact .inr ⟨rfl, by rw [Nat.mul_comm] at hle; omega⟩
            · exfalso
              have : W64 * (r + 1) ≤ W64 * hi := Nat.mul_le_mul_left _ h
              rw [Nat.mul_add, Nat.mul_comm W64 r] at this
              omega
          clear hle hsp hfin
          rcases hor with h | ⟨h, h'⟩
          · have hb1 : decide ((hi : Int) < (r : Int)) = true := decide_eq_true (by omega)
            go_wp2
            rw [Exit.noGoto_ret]
            go_ret
            exact ⟨d, rfl, HF.out.1, HF.out.2, hdW, k, rfl⟩
          · subst h
            go_wp2
            rw [Exit.noGoto_ret]
            go_ret
            exact ⟨d, rfl, HF.out.1, HF.out.2, hdW, k, rfl⟩
        · have hlt2 : r * W64 + u2 < d * v2 := by rw [← hsp]; omega
          obtain ⟨hd0, hnx⟩ := HG.out.next HE.out hlt2
          have hsum := add_split r v1 0
          rw [Nat.add_zero] at hsum
          rw [← hsum] at hnx
          have HN := Lib.hid hnx
          have hhi := addHi_le hr hv1 (Nat.zero_le 1)
          have hlow := addLo_lt r v1 0
          have hwr : IntKind.u64.wrap ((d : Int) - 1) = ((d - 1 : Nat) : Int) := by
            rw [show (d : Int) - 1 = ((d - 1 : Nat) : Int) from by omega]; exact wrap_u64 _ (by omega)
          have hor : r < hi ∨ (hi = r ∧ u2 < lo) := by
            rcases Nat.lt_trichotomy hi r with h | h | h
            · exfalso
              have : W64 * (hi + 1) ≤ W64 * r := Nat.mul_le_mul_left _ h
              rw [Nat.mul_add, Nat.mul_comm W64 r] at this
              omega
            · subst h; exact .inr ⟨rfl, by rw [Nat.mul_comm] at hle; omega⟩
            · exact .inl h
          have hd1 : d - 1 < W64 := by omega
          clear hle hsp hlt2 hnx hsum
          rcases hor with h | ⟨h, h'⟩
          · have hb2 : ¬ hi = r := by omega
            go_wp2
            go_roundw
            case rel => exact ⟨d - 1, _, _, by first | rfl | rw [hwr], rfl, rfl, hlow, hhi, HN, hd1, k, rfl⟩
            case measure => simp [intOf]; omega
          · subst h
            go_wp2
            go_roundw
            case rel => exact ⟨d - 1, _, _, by first | rfl | rw [hwr], rfl, rfl, hlow, hhi, HN, hd1, k, rfl⟩
            case measure => simp [intOf]; omega
      · obtain rfl : c = 1 := by omega
        have hfin := HI.out.done HE.out (HI.out.over HE.out (by omega))
        have HF := Lib.hid (And.intro HI.out.ge hfin)
        clear hfin HI
        go_wp2
        rw [Exit.noGoto_ret]
        go_ret
        exact ⟨d, rfl, HF.out.1, HF.out.2, hdW, k, rfl⟩
  · have hd : decide ((u : Int) < (v1 : Int)) = false := decide_eq_false (by omega)
    have heq : u = v1 := by omega
    have hnlt : ¬ u < v1 := by omega
    have hinit := HE.out.init_eq heq
    have hsum := add_split u1 v1 0
    rw [Nat.add_zero] at hsum
    rw [← hsum] at hinit
    have HI0 := Lib.hid hinit
    have hhi0 := addHi_le hu1 hv1 (Nat.zero_le 1)
    have hlo0 := addLo_lt u1 v1 0
    clear hinit hsum heq
    go_wp2_with fail
    go_step3
    go_wp2_with fail
    go_loopw [8, 9, 10] (fun vd vr vc wr => ∃ (d r c : Nat), vd = .int .u64 d ∧ vr = .int .u64 r ∧ vc = .int .u64 c ∧ r < W64 ∧ c ≤ 1 ∧ Hid (EInv U V u u1 v1 d (r + W64 * c)) ∧ d < W64 ∧ Qt w wr) (fun vd _ _ _ => (intOf vd).toNat)
    case atStart => exact ⟨W64 - 1, _, _, rfl, rfl, rfl, hlo0, hhi0, HI0, by decide, ⟨_, rfl⟩⟩
    case round =>
      obtain ⟨d, r, c, rfl, rfl, rfl, hr, hc, HI, hdW, k, rfl⟩ := hrel
      have hcu2' : (w.drewN k).cell? ⟨b1, o1 + (n - 2), none⟩ = some (.int .u64 (u2 : Int)) := hcu2
      rcases Nat.lt_or_ge c 1 with h0 | h1
      · obtain rfl : c = 0 := by omega
        have hgo := HI.out
        rw [Nat.mul_zero, Nat.add_zero] at hgo
        have hsp := mul_split d v2
        have HG := Lib.hid hgo
        clear HI hgo hcu hcu1 hcu2 hcv1 hcv2
        go_wp2_with fail
        refine (mul64_run _ _ hdW hv2 _).mono ?_
        rintro e w' ⟨rfl, rfl⟩
        have hlo := mulLo_lt d v2
        generalize mulHi d v2 = hi at *
        generalize mulLo d v2 = lo at *
        by_cases hle : lo + W64 * hi ≤ r * W64 + u2
        · have hfin := HG.out.done HE.out (by rw [← hsp]; exact hle)
          have HF := Lib.hid (And.intro HG.out.ge hfin)
          have hor : hi < r ∨ (hi = r ∧ lo ≤ u2) := by
            rcases Nat.lt_trichotomy hi r with h | h | h
            · exact .inl h
            · subst h; exact .inr ⟨rfl, by rw [Nat.mul_comm] at hle; omega⟩
            · exfalso
              have : W64 * (r + 1) ≤ W64 * hi := Nat.mul_le_mul_left _ h
              rw [Nat.mul_add, Nat.mul_comm W64 r] at this
              omega
          clear hle hsp hfin
          rcases hor with h | ⟨h, h'⟩
          · have hb1 : decide ((hi : Int) < (r : Int)) = true := decide_eq_true (by omega)
            go_wp2
            rw [Exit.noGoto_ret]
            go_ret
            exact ⟨d, rfl, HF.out.1, HF.out.2, hdW, k, rfl⟩
          · subst h
            go_wp2
            rw [Exit.noGoto_ret]
            go_ret
            exact ⟨d, rfl, HF.out.1, HF.out.2, hdW, k, rfl⟩
        · have hlt2 : r * W64 + u2 < d * v2 := by rw [← hsp]; omega
          obtain ⟨hd0, hnx⟩ := HG.out.next HE.out hlt2
          have hsum := add_split r v1 0
          rw [Nat.add_zero] at hsum
          rw [← hsum] at hnx
          have HN := Lib.hid hnx
          have hhi := addHi_le hr hv1 (Nat.zero_le 1)
          have hlow := addLo_lt r v1 0
          have hwr : IntKind.u64.wrap ((d : Int) - 1) = ((d - 1 : Nat) : Int) := by
            rw [show (d : Int) - 1 = ((d - 1 : Nat) : Int) from by omega]; exact wrap_u64 _ (by omega)
          have hor : r < hi ∨ (hi = r ∧ u2 < lo) := by
            rcases Nat.lt_trichotomy hi r with h | h | h
            · exfalso
              have : W64 * (hi + 1) ≤ W64 * r := Nat.mul_le_mul_left _ h
              rw [Nat.mul_add, Nat.mul_comm W64 r] at this
              omega
            · subst h; exact .inr ⟨rfl, by rw [Nat.mul_comm] at hle; omega⟩
            · exact .inl h
          have hd1 : d - 1 < W64 := by omega
          clear hle hsp hlt2 hnx hsum
          rcases hor with h | ⟨h, h'⟩
          · have hb2 : ¬ hi = r := by omega
            go_wp2
            go_roundw
            case rel => exact ⟨d - 1, _, _, by first | rfl | rw [hwr], rfl, rfl, hlow, hhi, HN, hd1, k, rfl⟩
            case measure => simp [intOf]; omega
          · subst h
            go_wp2
            go_roundw
            case rel => exact ⟨d - 1, _, _, by first | rfl | rw [hwr], rfl, rfl, hlow, hhi, HN, hd1, k, rfl⟩
            case measure => simp [intOf]; omega
      · obtain rfl : c = 1 := by omega
        have hfin := HI.out.done HE.out (HI.out.over HE.out (by omega))
        have HF := Lib.hid (And.intro HI.out.ge hfin)
        clear hfin HI
        go_wp2
        rw [Exit.noGoto_ret]
        go_ret
        exact ⟨d, rfl, HF.out.1, HF.out.2, hdW, k, rfl⟩
end Go.Proofs.YtoadjhmehgkeaaaGreatDoor
namespace Go.Proofs.YtoadjhmehgkeaaaGreatDoor
open Go.RowKit Mth

theorem shl_cast (x s : Nat) : IntKind.u64.wrap ((x : Int) * (2 : Int) ^ s) = ((x * 2 ^ s % W64 : Nat) : Int) := by
  rw [wrap_mod, W64_eq]
  simp
theorem or_cast {x y : Nat} (hx : x < W64) (hy : y < W64) : bits BinOp.or IntKind.u64 (x : Int) (y : Int) = ((x ||| y : Nat) : Int) :=
  bits_or_u64_nat _ _ (by rw [W64_eq] at hx; exact hx) (by rw [W64_eq] at hy; exact hy)

set_option maxHeartbeats 2000000 in
theorem shiftedLeft_any (b o n c s : Nat) (xs : List Nat) (w : World) (hb : Blk .u64 96 w b xs) (hn : o + n ≤ xs.length) (hd : Dg W64 xs) (hm : n ≤ 1099511627776) (hs : s ≤ 63) :
    Calls Tryz.prog 133 #[.slice (some ⟨b, o, none⟩) n c, .int .i64 (s : Int)] w fun e w' => ∃ g zs, e = .returned (.slice (some ⟨g, 0, none⟩) (n + 1) (n + 1)) ∧ w.heap.size ≤ g ∧ Blk .u64 96 w' g zs ∧ w.grownBy w' none ∧ Dg W64 zs ∧ zs.length = n + 1 ∧ vs W64 zs 0 (n + 1) = vs W64 xs o n * 2 ^ s := by
  obtain ⟨i0, hi, hz0, hz1, hz2⟩ := info_parts infoW
  go_enter Tryz.func133, Tryz.ntmps133
  go_wp2_with (at_make; refine wpList_make_full _ rfl _ _ 81 rfl 0 96 i0 (.int .u64 0) 1 Tryz.underlying81 hi hz0 hz1 .i64 .i64 _ _ (n + 1) rfl rfl ?_ ?_ ?_ ?_ (Nat.zero_le _) ?_)
  case refine_1 => omega
  case refine_2 => omega
  case refine_3 => rw [hz2]; omega
  case refine_4 => unfold maxLen; omega
  intro w1 hown hgr
  have hb0 := blk_made' hown
  have hl0 : (List.replicate (n + 1) 0 : List Nat).length = n + 1 := List.length_replicate
  have hz : ∀ j, gt (List.replicate (n + 1) 0) j = 0 := fun j => by simp [gt, List.getD, List.getElem?_replicate]; split <;> rfl
  have hi0 : ShlInv xs (List.replicate (n + 1) 0) o n s 0 := by
    refine ⟨hl0, fun j => by rw [hz]; exact W64_pos, fun j _ => hz j, by rw [hz]; exact Nat.pow_pos (by decide), ?_⟩
    simp [vs, hz]
  have HI0 := Lib.hid hi0
  generalize (List.replicate (n + 1) 0 : List Nat) = z0 at hb0 HI0
  clear hown hi hz0 hz1 hz2 hl0 hz hi0
  go_wp2
  go_loopw [14] (fun j wr => ∃ (i : Nat) (zs : List Nat), i ≤ n ∧ j = .int .i64 i ∧ Blk .u64 96 wr w.heap.size zs ∧ w.grownBy wr none ∧ Hid (ShlInv xs zs o n s i)) (fun j _ => n - (intOf j).toNat)
  case atStart => exact ⟨0, z0, Nat.zero_le _, rfl, hb0, hgr, HI0⟩
  case round =>
    obtain ⟨i, zs, hile, rfl, hbz, hg, HI⟩ := hrel
    have hbr := hb.kept hg (by simp)
    have hne : b ≠ w.heap.size := by have := hb.lt; omega
    have hlz := HI.out.len
    by_cases hlt : i < n
    · have hcell2 : wr.cell? ⟨b, o + i, none⟩ = some (.int .u64 ((gt xs (o + i) : Nat) : Int)) := hbr.cell (by omega)
      have hcell : wr.cell? ⟨w.heap.size, i, none⟩ = some (.int .u64 ((gt zs i : Nat) : Int)) := hbz.cell (by omega)
      have hfr : wr.frozen? ⟨w.heap.size, i, none⟩ = false := hbz.frozen _
      have hcell3 : wr.cell? ⟨w.heap.size, i + 1, none⟩ = some (.int .u64 ((gt zs (i + 1) : Nat) : Int)) := hbz.cell (by omega)
      have hfr3 : wr.frozen? ⟨w.heap.size, i + 1, none⟩ = false := hbz.frozen _
      have HN := Lib.hid (HI.out.next hs hlt (hd (o + i)))
      clear hb0
      go_wp2
      have hor := shl_word (x := gt xs (o + i)) (by omega : s ≤ 64) HI.out.low
      have hlt2 : gt xs (o + i) * 2 ^ s % W64 < W64 := Nat.mod_lt _ W64_pos
      have HO := Lib.hid (or_cast (HI.out.dg i) hlt2)
      have HS := Lib.hid (shl_cast (gt xs (o + i)) s)
      have HR := Lib.hid (show ((gt xs (o + i) : Nat) : Int) / 2 ^ (64 - s) = ((gt xs (o + i) / 2 ^ (64 - s) : Nat) : Int) from by rw [Int.natCast_ediv, Int.natCast_pow]; rfl)
      clear hor hlt2
      go_region
      go_wp2
      refine ⟨⟨i + 1, _, by omega, by go_num, ?_, ?_, HN⟩, by simp [intOf]; omega⟩
      · rw [HS.out, HO.out, HR.out]
        exact ((hbz.set _ _).set _ _).drew
      · exact gr_then (gr_new (gr_new hg (gr_set _ _ _ _) (Nat.le_refl _)) (gr_set _ _ _ _) (Nat.le_refl _)) (gr_drew _ none)
    · obtain rfl : i = n := by omega
      have hfin := HI.out
      have HV := Lib.hid hfin.val
      have HD := Lib.hid hfin.dg
      clear hfin hb0
      go_wp2
      go_ret
      exact ⟨w.heap.size, zs, rfl, Nat.le_refl _, hbz, hg, HD.out, hlz, HV.out⟩

set_option maxHeartbeats 2000000 in
theorem shiftRight_any (b n c s : Nat) (xs : List Nat) (w : World) (hb : Blk .u64 96 w b xs) (hn : n = xs.length) (hd : Dg W64 xs) (hm : n ≤ 1099511627777) (hs : s ≤ 63) :
    Calls Tryz.prog 135 #[.slice (some ⟨b, 0, none⟩) n c, .int .i64 (s : Int)] w fun e w' => e = .returned (.tuple #[]) ∧ ∃ zs, Blk .u64 96 w' b zs ∧ w.grownBy w' (some b) ∧ zs.length = n ∧ Dg W64 zs ∧ vs W64 zs 0 n = vs W64 xs 0 n / 2 ^ s := by
  obtain ⟨X, hX⟩ : ∃ X, X = vs W64 xs 0 xs.length := ⟨_, rfl⟩
  have hi0 : ShrInv X xs xs s 0 := ⟨rfl, hd, fun j hj => by omega, fun _ _ => rfl⟩
  have HI0 := Lib.hid hi0
  have HX := Lib.hid hX
  have HNL := Lib.hid hn
  clear hi0 hX hn
  go_enter Tryz.func135, Tryz.ntmps135
  go_wp2
  go_loopw [7] (fun j wr => ∃ (i : Nat) (zs : List Nat), i ≤ n ∧ j = .int .i64 i ∧ Blk .u64 96 wr b zs ∧ w.grownBy wr (some b) ∧ Hid (ShrInv X xs zs s i)) (fun j _ => n - (intOf j).toNat)
  case atStart => exact ⟨0, xs, Nat.zero_le _, rfl, hb, World.grownBy.refl _ _, HI0⟩
  case round =>
    obtain ⟨i, zs, hile, rfl, hbz, hg, HI⟩ := hrel
    by_cases hlt : i < n
    · have hlz : zs.length = n := HI.out.len.trans HNL.out.symm
      have hix : i < xs.length := by rw [← HNL.out]; exact hlt
      have hcell : wr.cell? ⟨b, i, none⟩ = some (.int .u64 ((gt zs i : Nat) : Int)) := hbz.cell (by omega)
      have hfr : wr.frozen? ⟨b, i, none⟩ = false := hbz.frozen _
      have HR := Lib.hid (show ((gt zs i : Nat) : Int) / 2 ^ s = ((gt zs i / 2 ^ s : Nat) : Int) from by rw [Int.natCast_ediv, Int.natCast_pow]; rfl)
      by_cases hl2 : i + 1 < n
      · have hcell3 : wr.cell? ⟨b, i + 1, none⟩ = some (.int .u64 ((gt zs (i + 1) : Nat) : Int)) := hbz.cell (by omega)
        have hx : gt zs (i + 1) = gt xs (i + 1) := HI.out.rest _ (by omega)
        have HN := Lib.hid (HI.out.next (by omega) HX.out hd hix hx)
        have HW := Lib.hid (shr_word (x := gt zs (i + 1)) (s := s) (by omega) (HI.out.dg i))
        have hlt2 : gt zs (i + 1) * 2 ^ (64 - s) % W64 < W64 := Nat.mod_lt _ W64_pos
        have hlt3 : gt zs i / 2 ^ s < W64 := Nat.lt_of_le_of_lt (Nat.div_le_self _ _) (HI.out.dg i)
        have HO := Lib.hid (or_cast hlt3 hlt2)
        have HS := Lib.hid (shl_cast (gt zs (i + 1)) (64 - s))
        clear hlt2 hlt3 hx
        go_wp2
        go_region
        go_wp2
        refine ⟨⟨i + 1, _, by omega, by go_num, ?_, gr_trans hg (gr_trans (gr_trans (gr_set _ _ _ _) (gr_set _ _ _ _) (.inr rfl) (.inr (.inl rfl))) (gr_drew _ none) (.inr rfl) (.inl rfl)) (.inr rfl) (.inr (.inl rfl)), HN.out.2⟩, by simp [intOf]; omega⟩
        rw [HR.out, HS.out, HO.out, HW.out.1]
        have h2 := (hbz.set i (gt zs i / 2 ^ s)).set i (gt zs i / 2 ^ s + gt zs (i + 1) * 2 ^ (64 - s) % W64)
        rw [List.set_set] at h2
        exact h2.drew
      · have hx : 0 = gt xs (i + 1) := by rw [gt_of_ge (by rw [← HNL.out]; omega)]
        have HN := Lib.hid (HI.out.next (by omega) HX.out hd hix hx)
        clear hx
        go_wp2
        refine ⟨⟨i + 1, _, by omega, by go_num, ?_, gr_trans hg (gr_set _ _ _ _) (.inr rfl) (.inr (.inl rfl)), HN.out.2⟩, by simp [intOf]; omega⟩
        rw [HR.out, Nat.zero_mul, Nat.zero_mod, Nat.add_zero]
        exact hbz.set _ _
    · obtain rfl : i = n := by omega
      have hv := HI.out
      rw [HNL.out] at hv
      have hv2 := hv.all HX.out hd
      have HV := Lib.hid (And.intro (hv.len.trans HNL.out.symm) (And.intro hv.dg hv2))
      clear hv hv2
      go_wp2
      go_end0
      refine ⟨rfl, zs, hbz, hg, HV.out.1, HV.out.2.1, ?_⟩
      rw [HNL.out, HV.out.2.2, HX.out]
end Go.Proofs.YtoadjhmehgkeaaaGreatDoor
namespace Go.Proofs.YtoadjhmehgkeaaaGreatDoor
open Go.RowKit Mth

/-- What the three steps at one place come to. -/
theorem place_steps {zs us : List Nat} {i n U V d c : Nat} (hU : vs W64 zs i (n + 1) = U) (hV0 : 0 < V) (hVn : V ≤ W64 ^ n) (h1 : U / V ≤ d) (h2 : d ≤ U / V + 1)
    (hlen : i + n < zs.length) (hsub : SubbedM zs us i n c (V * d)) :
    (us.set (i + n) (subLo (gt us (i + n)) c 0)).length = zs.length ∧ Dg W64 (us.set (i + n) (subLo (gt us (i + n)) c 0)) ∧ (∀ j, (j < i ∨ i + (n + 1) ≤ j) → gt (us.set (i + n) (subLo (gt us (i + n)) c 0)) j = gt zs j) ∧
      (subHi (gt us (i + n)) c 0 = 0 → d = U / V ∧ vs W64 (us.set (i + n) (subLo (gt us (i + n)) c 0)) i (n + 1) = U % V) ∧
      (subHi (gt us (i + n)) c 0 = 1 → 0 < d ∧ ∀ ws, AddedW (us.set (i + n) (subLo (gt us (i + n)) c 0)) ws i (n + 1) V → 0 < d ∧ d - 1 = U / V ∧ vs W64 ws i (n + 1) = U % V) := by
  obtain ⟨s1, s2, s3, s4⟩ := hsub
  have hl : i + n < us.length := by rw [s1.len]; exact hlen
  have hp : gt us (i + n) = gt zs (i + n) := s1.out _ (by omega)
  have hsp := sub_split (s2 (i + n)) s3 (Nat.zero_le 1)
  have hdz : Dg W64 (us.set (i + n) (subLo (gt us (i + n)) c 0)) := s2.set (subLo_lt _ _ _)
  have hval : vs W64 (us.set (i + n) (subLo (gt us (i + n)) c 0)) i (n + 1) + V * d = U + W64 ^ (n + 1) * subHi (gt us (i + n)) c 0 := by
    rw [← hU]
    simp only [vs]
    rw [gt_set hl, if_pos rfl, vs_congr (ys := us) (off' := i) (n := n) (fun j hj => by rw [gt_set hl, if_neg (by omega)])]
    rw [← hp]
    generalize gt us (i + n) = p at *
    have e : W64 ^ n * subLo p c 0 + W64 ^ n * c = W64 ^ n * p + W64 ^ (n + 1) * subHi p c 0 := by
      rw [Nat.pow_succ, Nat.mul_assoc, ← Nat.mul_add, ← Nat.mul_add]
      congr 1
    omega
  refine ⟨by rw [List.length_set]; exact s1.len, hdz, fun j hj => ?_, fun h0 => ?_, fun h0 => ⟨?_, fun ws hadd => ?_⟩⟩
  · rw [gt_set hl, if_neg (by omega)]; exact s1.out j (by omega)
  · rw [h0, Nat.mul_zero, Nat.add_zero] at hval
    exact step_zero hV0 h1 h2 hval
  · rw [h0, Nat.mul_one] at hval
    rcases Nat.eq_zero_or_pos d with e | e
    · rw [e, Nat.mul_zero] at hval
      have := vs_lt (off := i) (n := n + 1) hdz
      omega
    · exact e
  · rw [h0, Nat.mul_one] at hval
    obtain ⟨a1, a2, k, a3⟩ := hadd
    have hle : W64 ^ n ≤ W64 ^ (n + 1) := Nat.pow_le_pow_right W64_pos (by omega)
    exact step_one hV0 (Nat.le_trans hVn hle) h1 h2 (vs_lt hdz) (vs_lt a2) hval a3

theorem top_ne {ys : List Nat} {n V : Nat} (hd : Dg W64 ys) (hV : vs W64 ys 0 n = V) (h : W64 ^ (n - 1) ≤ V) (hn : 0 < n) : gt ys (0 + (n - 1)) ≠ 0 := by
  intro e
  obtain ⟨k, rfl⟩ : ∃ k, n = k + 1 := ⟨n - 1, by omega⟩
  rw [Nat.add_sub_cancel] at e h
  simp only [vs] at hV
  rw [e] at hV
  have := vs_lt (off := 0) (n := k) hd
  omega

set_option maxHeartbeats 4000000 in
set_option maxRecDepth 100000 in
theorem divideLong_any (b1 n1 c1 b2 n c2 m V R0 : Nat) (xs ys : List Nat) (w : World) (hb1 : Blk .u64 96 w b1 xs) (hl1 : xs.length = n1) (hd1 : Dg W64 xs) (hc1 : c1 = n1) (hb2 : Blk .u64 96 w b2 ys) (hn2 : n ≤ ys.length) (hd2 : Dg W64 ys) (hm1 : n1 ≤ 1099511627777) (hn40 : n ≤ 1099511627776)
    (hne : b2 ≠ b1) (hn : 2 ≤ n) (hm : n1 = m + n) (hV : vs W64 ys 0 n = V) (htop : W64 ^ (n - 1) ≤ V) (hR : vs W64 xs 0 n1 = R0) (hsm : vs W64 xs m n < V) :
    Calls Tryz.prog 134 #[.slice (some ⟨b1, 0, none⟩) n1 c1, .slice (some ⟨b2, 0, none⟩) n c2] w fun e w' => ∃ g qs zs, e = .returned (.slice (some ⟨g, 0, none⟩) m m) ∧ w.heap.size ≤ g ∧ Blk .u64 96 w' g qs ∧ qs.length = m ∧ Dg W64 qs ∧ vs W64 qs 0 m = R0 / V ∧ Blk .u64 96 w' b1 zs ∧ zs.length = n1 ∧ Dg W64 zs ∧ vs W64 zs 0 n1 = R0 % V ∧ w.grownBy w' (some b1) := by
  subst hc1
  subst hm
  obtain ⟨i0, hi, hz0, hz1, hz2⟩ := info_parts infoW
  have HT := Lib.hid (top_ne hd2 hV htop (by omega))
  have hV0 : 0 < V := Nat.lt_of_lt_of_le (Nat.pow_pos W64_pos) htop
  have hVn : V ≤ W64 ^ n := by rw [← hV]; exact Nat.le_of_lt (vs_lt hd2)
  have HVN := Lib.hid hVn
  have HVV := Lib.hid hV
  have hs64 := sub64_runz
  have hlt1 := hb1.lt
  have hi0 : ∀ qs : List Nat, qs.length = m → Dg W64 qs → LongInv R0 V xs qs n m m := fun qs h1 h2 => ⟨by omega, h1, hd1, h2, hsm, fun j hj => gt_of_ge (by omega), by rw [Nat.sub_self]; simp only [vs, Nat.mul_zero, Nat.zero_mul, Nat.zero_add]; exact hR.symm⟩
  have HI0 := Lib.hid hi0
  clear hi0 hsm hR hV htop hVn
  go_enter Tryz.func134, Tryz.ntmps134
  go_wp2_with (at_make; refine wpList_make_full _ rfl _ _ 81 rfl 0 96 i0 (.int .u64 0) 1 Tryz.underlying81 hi hz0 hz1 .i64 .i64 _ _ m rfl rfl ?_ ?_ ?_ ?_ (Nat.zero_le _) ?_)
  case refine_1 => omega
  case refine_2 => omega
  case refine_3 => rw [hz2]; omega
  case refine_4 => unfold maxLen; omega
  intro w1 hown hgr
  have hb0 := blk_made' hown
  have hl0 : (List.replicate m 0 : List Nat).length = m := List.length_replicate
  have hz : ∀ j, gt (List.replicate m 0) j = 0 := fun j => by simp [gt, List.getD, List.getElem?_replicate]; split <;> rfl
  have HI := Lib.hid (HI0.out _ hl0 (fun j => by rw [hz]; exact W64_pos))
  generalize (List.replicate m 0 : List Nat) = q0 at hb0 HI
  have hb1' := hb1.kept hgr (by simp)
  clear hown hi hz0 hz1 hz2 hl0 hz HI0
  go_wp2
  go_loopw [7] (fun j wr => ∃ (i : Nat) (zs qs : List Nat), i ≤ m ∧ j = .int .i64 ((i : Int) - 1) ∧ Blk .u64 96 wr b1 zs ∧ Blk .u64 96 wr w.heap.size qs ∧ w.grownBy wr (some b1) ∧ Hid (LongInv R0 V zs qs n m i)) (fun j _ => (intOf j + 1).toNat)
  case atStart => exact ⟨m, xs, q0, Nat.le_refl _, rfl, hb1', hb0, gr_then hgr (World.grownBy.refl _ _), HI⟩
  case round =>
    obtain ⟨i, zs, qs, hile, rfl, hbz, hbq, hg, HI⟩ := hrel
    have hb2r := hb2.kept hg (by simpa using hne)
    have hneq : w.heap.size ≠ b1 := by omega
    rcases i with _ | i
    · have HF := Lib.hid (HI.out.done hV0)
      have HL := Lib.hid HI.out
      clear hb0 hb1'
      go_wp2
      go_ret
      refine ⟨w.heap.size, qs, zs, rfl, Nat.le_refl _, hbq, HL.out.qlen, HL.out.qdg, HF.out.1, hbz, HL.out.len, HL.out.dg, HF.out.2, hg⟩
    · rw [show (((i + 1 : Nat) : Int) - 1) = (i : Int) from by omega]
      obtain ⟨U, hU⟩ : ∃ U, vs W64 zs i (n + 1) = U := ⟨_, rfl⟩
      have hUlt := HI.out.u_lt
      rw [hU] at hUlt
      have hlz := HI.out.len
      have hdz := HI.out.dg
      have hlq := HI.out.qlen
      have hcut : ¬ m + n = i := by omega
      have HU := Lib.hid hU
      have HLT := Lib.hid hUlt
      have HLZ := Lib.hid hlz
      clear hb0 hb1' hU hUlt hlz
      go_wp2_with fail
      rw [show i + n + 1 - i = n + 1 from by omega]
      refine (estimateDigit_any b1 i n (m + n - i) b2 0 c2 U V zs ys wr hbz (by rw [HLZ.out]; omega) hdz hb2r (by omega) hd2 (by omega) hn HU.out HVV.out HT.out HLT.out).mono ?_
      rintro e w2 ⟨d, rfl, hq1, hq2, hdW, k, rfl⟩
      have HQ := Lib.hid (And.intro hq1 hq2)
      have hbzk : Blk .u64 96 (wr.drewN k) b1 zs := hbz
      have hbqk : Blk .u64 96 (wr.drewN k) w.heap.size qs := hbq
      have hb2k : Blk .u64 96 (wr.drewN k) b2 ys := hb2r
      have hgk : w.grownBy (wr.drewN k) (some b1) := gr_trans hg (gr_drewN _ _ none) (.inr rfl) (.inl rfl)
      generalize wr.drewN k = wk at *
      clear hq1 hq2
      go_wp2_with fail
      refine (subtractMultiple_any b1 i (n + 1) (m + n - i) b2 0 n c2 d zs ys wk hbzk (by rw [HLZ.out]; omega) hdz hb2k (by omega) hd2 hne (by omega) hdW (by unfold maxLen; omega)).mono ?_
      rintro e w3 ⟨c, us, rfl, hu, hg3, hsub⟩
      rw [HVV.out] at hsub
      have hpl := place_steps HU.out hV0 HVN.out HQ.out.1 HQ.out.2 (by rw [HLZ.out]; omega) hsub
      have hlu : us.length = m + n := hsub.1.len.trans HLZ.out
      have hcp : w3.cell? ⟨b1, i + n, none⟩ = some (.int .u64 ((gt us (i + n) : Nat) : Int)) := hu.cell (by omega)
      have hfp : w3.frozen? ⟨b1, i + n, none⟩ = false := hu.frozen _
      have hsub1 := subHi_le (gt us (i + n)) c 0
      have hus := fun v => hu.set (i + n) v
      have hbq3 : Blk .u64 96 w3 w.heap.size qs := hbqk.kept hg3 (by simpa using hneq)
      have hb23 : Blk .u64 96 w3 b2 ys := hb2k.kept hg3 (by simpa using hne)
      have HLU := Lib.hid hlu
      clear hsub hlu hu
      obtain ⟨lo, hlo⟩ : ∃ lo, lo = subLo (gt us (i + n)) c 0 := ⟨_, rfl⟩
      obtain ⟨hi, hhi⟩ : ∃ hi, hi = subHi (gt us (i + n)) c 0 := ⟨_, rfl⟩
      have hs3 := hs64 (gt us (i + n)) c
      rw [← hlo, ← hhi] at hs3
      rw [← hlo, ← hhi] at hpl
      rw [← hhi] at hsub1
      have HPL := Lib.hid hpl
      have husl := hus lo
      clear hpl hlo hhi hs64 hus
      have hgs : w.grownBy (w3.setCell ⟨b1, i + n, none⟩ (.int .u64 (lo : Int))) (some b1) := gr_trans (gr_trans hgk hg3 (.inr rfl) (.inr (.inl rfl))) (gr_set _ _ _ _) (.inr rfl) (.inr (.inl rfl))
      have hbq4 : Blk .u64 96 (w3.setCell ⟨b1, i + n, none⟩ (.int .u64 (lo : Int))) w.heap.size qs := hbq3.setOther hneq _ _
      have hb24 : Blk .u64 96 (w3.setCell ⟨b1, i + n, none⟩ (.int .u64 (lo : Int))) b2 ys := hb23.setOther hne _ _
      rcases Nat.lt_or_ge 0 hi with h1 | h0
      · obtain rfl : hi = 1 := by omega
        have hstep := HPL.out.2.2.2.2 rfl
        have hd0 := hstep.1
        have HST := Lib.hid hstep.2
        have hwr : IntKind.u64.wrap ((d : Int) - 1) = ((d - 1 : Nat) : Int) := by
          rw [show (d : Int) - 1 = ((d - 1 : Nat) : Int) from by omega]; exact wrap_u64 _ (by omega)
        clear hstep
        go_wp2_with fail
        refine (addTo_any b1 i (n + 1) (m + n - i) b2 0 n c2 (us.set (i + n) lo) ys _ husl (by rw [HPL.out.1, HLZ.out]; omega) HPL.out.2.1 (by omega) (by unfold maxLen; omega) hb24 (by omega) hd2 hne (by omega)).mono ?_
        rintro e w5 ⟨rfl, ws, hws, hg5, hadd⟩
        rw [HVV.out] at hadd
        have hfin := HST.out ws hadd
        have HN := Lib.hid (HI.out.next (d := d - 1) (us := ws) (by omega) HVN.out hV0 (hadd.1.len.trans HPL.out.1) (fun j hj => (hadd.1.out j (by omega)).trans (HPL.out.2.2.1 j hj)) hadd.2.1 (by rw [HU.out]; exact hfin.2.1) (by omega) (by rw [HU.out]; exact hfin.2.2))
        have hbq5 : Blk .u64 96 w5 w.heap.size qs := hbq4.kept hg5 (by simpa using hneq)
        have hcq : w5.cell? ⟨w.heap.size, i, none⟩ = some (.int .u64 ((gt qs i : Nat) : Int)) := hbq5.cell (by omega)
        have hfq : w5.frozen? ⟨w.heap.size, i, none⟩ = false := hbq5.frozen _
        have hgs5 : w.grownBy w5 (some b1) := gr_trans hgs hg5 (.inr rfl) (.inr (.inl rfl))
        clear hfin hadd
        go_wp2
        refine ⟨⟨i, _, _, by omega, rfl, hws.setOther (fun e => hneq e.symm) _ _, by first | exact hbq5.set _ _ | (rw [hwr]; exact hbq5.set _ _), gr_trans hgs5 (gr_set _ _ _ _) (.inr rfl) (.inr (.inr fun k e => by cases e; exact Nat.le_refl _)), HN⟩, by simp [intOf]⟩
      · obtain rfl : hi = 0 := by omega
        have hfin := HPL.out.2.2.2.1 rfl
        have HN := Lib.hid (HI.out.next (by omega) HVN.out hV0 HPL.out.1 HPL.out.2.2.1 HPL.out.2.1 (by rw [HU.out]; exact hfin.1) hdW (by rw [HU.out]; exact hfin.2))
        have hcq : (w3.setCell ⟨b1, i + n, none⟩ (.int .u64 (lo : Int))).cell? ⟨w.heap.size, i, none⟩ = some (.int .u64 ((gt qs i : Nat) : Int)) := hbq4.cell (by omega)
        have hfq : (w3.setCell ⟨b1, i + n, none⟩ (.int .u64 (lo : Int))).frozen? ⟨w.heap.size, i, none⟩ = false := hbq4.frozen _
        clear hfin
        go_wp2
        refine ⟨⟨i, _, _, by omega, rfl, husl.setOther (fun e => hneq e.symm) _ _, hbq4.set _ _, gr_trans hgs (gr_set _ _ _ _) (.inr rfl) (.inr (.inr fun k e => by cases e; exact Nat.le_refl _)), HN⟩, by simp [intOf]⟩
end Go.Proofs.YtoadjhmehgkeaaaGreatDoor
