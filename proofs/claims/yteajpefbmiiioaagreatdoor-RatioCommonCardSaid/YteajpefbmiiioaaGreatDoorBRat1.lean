/- Contracts of the program and of the reference, part 1: MthK, Mem, Str, Trim, Add, AddTo, Arith. -/
import Derived.Test.YteajpefbmiiioaaGreatDoorBRat0
import Derived.WalkKit
import Derived.Laws.CopyOwn
import Derived.Deep.Draws
import Derived.Lib.Hide
import Derived.Test.YteajpefbmiiioaaGreatDoorChecked
import Derived.WalkSpells
import Derived.WalkLawsBesides
import Derived.Lib.IndexBytes
import Derived.Laws.Externs
import Derived.Laws.Bits64b
namespace Go.Proofs.YteajpefbmiiioaaGreatDoor
namespace Mth

/-- The first words of the two numbers of which a digit is estimated. -/
structure Est (P U V u u1 u2 v1 v2 : Nat) : Prop where
  hu : ∃ ur, U = ((u * W64 + u1) * W64 + u2) * P + ur ∧ ur < P
  hv : ∃ vr, V = (v1 * W64 + v2) * P + vr ∧ vr < P
  pos : 0 < v1
  lt : U < W64 * V
  lu1 : u1 < W64
  lu2 : u2 < W64
  lv2 : v2 < W64
section
variable {P U V u u1 u2 v1 v2 d r : Nat}
theorem Est.vpos (h : Est P U V u u1 u2 v1 v2) : 0 < V := by
  rcases Nat.eq_zero_or_pos V with e | e
  · have := h.lt; rw [e] at this; omega
  · exact e
theorem Est.v_lt (h : Est P U V u u1 u2 v1 v2) : V < (v1 + 1) * W64 * P := by
  obtain ⟨vr, hv, hr⟩ := h.hv
  have h1 : (v1 * W64 + v2 + 1) * P ≤ ((v1 + 1) * W64) * P := Nat.mul_le_mul_right _ (by rw [Nat.add_mul]; have := h.lv2; omega)
  rw [Nat.add_mul (v1 * W64 + v2) 1] at h1
  omega
theorem Est.u_le (h : Est P U V u u1 u2 v1 v2) : u ≤ v1 := by
  obtain ⟨ur, hu, _⟩ := h.hu
  apply Nat.le_of_lt_succ
  have h1 := h.lt
  have h2 : W64 * V ≤ W64 * ((v1 + 1) * W64 * P) := Nat.mul_le_mul_left _ (Nat.le_of_lt h.v_lt)
  have h3 : u * (W64 * W64 * P) ≤ U := by
    rw [hu, show u * (W64 * W64 * P) = u * W64 * W64 * P from by grind, Nat.add_mul, Nat.add_mul, Nat.add_mul]
    omega
  have h4 : u * (W64 * W64 * P) < (v1 + 1) * (W64 * W64 * P) := by
    rw [show (v1 + 1) * (W64 * W64 * P) = W64 * ((v1 + 1) * W64 * P) from by grind]
    omega
  exact Nat.lt_of_mul_lt_mul_right h4
/-- The estimate d, with what it leaves of the first two words. -/
structure EInv (U V u u1 v1 d r : Nat) : Prop where
  eq : d * v1 + r = u * W64 + u1
  ge : U / V ≤ d
  lt : d < W64
theorem Est.init_lt (h : Est P U V u u1 u2 v1 v2) (hlt : u < v1) : EInv U V u u1 v1 ((u * W64 + u1) / v1) ((u * W64 + u1) % v1) := by
  refine ⟨by rw [Nat.mul_comm]; exact Nat.div_add_mod _ _, ?_, ?_⟩
  · rw [Nat.le_div_iff_mul_le h.pos]
    obtain ⟨ur, hu, hur⟩ := h.hu
    obtain ⟨vr, hv, _⟩ := h.hv
    have h1 : U / V * V ≤ U := Nat.div_mul_le_self _ _
    generalize U / V = q at *
    have h2 : q * v1 * (W64 * P) ≤ q * V := by
      rw [hv, Nat.mul_assoc]
      refine Nat.mul_le_mul_left _ ?_
      rw [Nat.add_mul, Nat.mul_assoc]; omega
    have hP : 0 < P := by omega
    have h3 : U < (u * W64 + u1 + 1) * (W64 * P) := by
      rw [hu]
      have h4 : ((u * W64 + u1) * W64 + u2 + 1) * P ≤ ((u * W64 + u1 + 1) * W64) * P := Nat.mul_le_mul_right _ (by rw [Nat.add_mul (u * W64 + u1) 1]; have := h.lu2; omega)
      rw [Nat.add_mul ((u * W64 + u1) * W64 + u2) 1] at h4
      rw [← Nat.mul_assoc]
      omega
    have h5 : q * v1 * (W64 * P) < (u * W64 + u1 + 1) * (W64 * P) := by omega
    exact Nat.le_of_lt_succ (Nat.lt_of_mul_lt_mul_right h5)
  · rw [Nat.div_lt_iff_lt_mul h.pos]
    have h1 : (u + 1) * W64 ≤ v1 * W64 := Nat.mul_le_mul_right _ hlt
    rw [Nat.add_mul] at h1
    have := h.lu1
    rw [Nat.mul_comm W64]
    omega
theorem Est.init_eq (h : Est P U V u u1 u2 v1 v2) (he : u = v1) : EInv U V u u1 v1 (W64 - 1) (u1 + v1) := by
  refine ⟨?_, ?_, by have := W64_pos; omega⟩
  · subst he
    rw [Nat.sub_mul, Nat.mul_comm u]
    have : u ≤ W64 * u := Nat.le_mul_of_pos_left _ W64_pos
    omega
  · have := (Nat.div_lt_iff_lt_mul h.vpos).2 h.lt
    omega
theorem EInv.next (g : EInv U V u u1 v1 d r) (h : Est P U V u u1 u2 v1 v2) (hg : r * W64 + u2 < d * v2) : 0 < d ∧ EInv U V u u1 v1 (d - 1) (r + v1) := by
  obtain ⟨ur, hu, hur⟩ := h.hu
  obtain ⟨vr, hv, _⟩ := h.hv
  have h0 : (d * v1 + r) * W64 = (u * W64 + u1) * W64 := by rw [g.eq]
  have h1 : (u * W64 + u1) * W64 + u2 + 1 ≤ d * (v1 * W64 + v2) := by
    rw [Nat.mul_add, ← Nat.mul_assoc]
    rw [Nat.add_mul] at h0
    omega
  have h2 : U < d * V := by
    have h3 : ((u * W64 + u1) * W64 + u2 + 1) * P ≤ d * (v1 * W64 + v2) * P := Nat.mul_le_mul_right _ h1
    rw [Nat.add_mul ((u * W64 + u1) * W64 + u2) 1] at h3
    rw [hv, Nat.mul_add, ← Nat.mul_assoc]
    omega
  have h4 := (Nat.div_lt_iff_lt_mul h.vpos).2 h2
  have hd : 0 < d := Nat.lt_of_le_of_lt (Nat.zero_le _) h4
  refine ⟨hd, ?_, Nat.le_sub_one_of_lt h4, by have := g.lt; omega⟩
  obtain ⟨k, rfl⟩ : ∃ k, d = k + 1 := ⟨d - 1, by omega⟩
  have := g.eq
  rw [Nat.add_mul] at this
  rw [Nat.add_sub_cancel]
  omega
theorem EInv.done (g : EInv U V u u1 v1 d r) (h : Est P U V u u1 u2 v1 v2) (hg : d * v2 ≤ r * W64 + u2) : d ≤ U / V + 1 := by
  obtain ⟨ur, hu, hur⟩ := h.hu
  obtain ⟨vr, hv, hvr⟩ := h.hv
  have h0 : (d * v1 + r) * W64 = (u * W64 + u1) * W64 := by rw [g.eq]
  have h1 : d * (v1 * W64 + v2) ≤ (u * W64 + u1) * W64 + u2 := by
    rw [Nat.mul_add, ← Nat.mul_assoc]
    rw [Nat.add_mul] at h0
    omega
  have hq : U < (U / V + 1) * V := by
    have := Nat.lt_succ_self (U / V)
    exact (Nat.div_lt_iff_lt_mul h.vpos).1 this
  generalize U / V = q at *
  rcases Nat.lt_or_ge (q + 1) d with hlt | hge
  · exfalso
    obtain ⟨e, rfl⟩ : ∃ e, d = e + 1 := ⟨d - 1, by omega⟩
    have h2 : (q + 1) * V ≤ e * V := Nat.mul_le_mul_right _ (by omega)
    have h3 : (e + 1) * (v1 * W64 + v2) * P ≤ ((u * W64 + u1) * W64 + u2) * P := Nat.mul_le_mul_right _ h1
    have h4 : e * V ≤ e * ((v1 * W64 + v2 + 1) * P) := Nat.mul_le_mul_left _ (by rw [hv, Nat.add_mul (v1 * W64 + v2) 1]; omega)
    have h5 : (e + 1) * (v1 * W64 + v2) * P < e * (v1 * W64 + v2 + 1) * P := by rw [Nat.mul_assoc e]; omega
    have h6 := Nat.lt_of_mul_lt_mul_right h5
    have h7 := g.lt
    have h8 : 1 * W64 ≤ v1 * W64 := Nat.mul_le_mul_right _ h.pos
    have h9 : v1 * W64 ≤ v1 * W64 + v2 := Nat.le_add_right _ _
    clear h3 h4 h5 h1 h2
    generalize v1 * W64 + v2 = D at *
    rw [Nat.add_mul, Nat.mul_add] at h6
    omega
  · exact hge
theorem EInv.over (g : EInv U V u u1 v1 d r) (h : Est P U V u u1 u2 v1 v2) (hr : W64 ≤ r) : d * v2 ≤ r * W64 + u2 := by
  have h1 : d * v2 ≤ W64 * W64 := Nat.mul_le_mul (Nat.le_of_lt g.lt) (Nat.le_of_lt h.lv2)
  have h2 : W64 * W64 ≤ r * W64 := Nat.mul_le_mul_right _ hr
  omega
end

/-- One digit: what is left after the estimate was subtracted, and put right. -/
theorem step_zero {U V d Z : Nat} (hV : 0 < V) (h1 : U / V ≤ d) (h2 : d ≤ U / V + 1) (h : Z + V * d = U) : d = U / V ∧ Z = U % V := by
  have h3 := Nat.div_add_mod U V
  have h4 := Nat.mod_lt U hV
  generalize U / V = q at *
  generalize U % V = r at *
  rcases Nat.lt_or_ge q d with hlt | hge
  · obtain rfl : d = q + 1 := by omega
    rw [Nat.mul_add] at h
    omega
  · obtain rfl : d = q := by omega
    exact ⟨rfl, by omega⟩
theorem step_one {U V d Z Z' N k : Nat} (hV : 0 < V) (hVN : V ≤ N) (h1 : U / V ≤ d) (h2 : d ≤ U / V + 1) (hZ : Z < N) (hZ' : Z' < N) (h : Z + V * d = U + N) (g : Z' + N * k = Z + V) : 0 < d ∧ d - 1 = U / V ∧ Z' = U % V := by
  have h3 := Nat.div_add_mod U V
  have h4 := Nat.mod_lt U hV
  generalize U / V = q at *
  generalize U % V = r at *
  rcases Nat.lt_or_ge q d with hlt | hge
  · obtain rfl : d = q + 1 := by omega
    rw [Nat.mul_add] at h
    refine ⟨by omega, by omega, ?_⟩
    have e : Z' + N * k = N + r := by omega
    have hk : k = 1 := by
      rcases k with _ | _ | k
      · omega
      · rfl
      · rw [Nat.mul_add, Nat.mul_add] at e; omega
    subst hk
    omega
  · obtain rfl : d = q := by omega
    omega

/-- The loop of divideLong: the places from i on are over. -/
structure LongInv (R0 V : Nat) (zs qs : List Nat) (n m i : Nat) : Prop where
  len : zs.length = m + n
  qlen : qs.length = m
  dg : Dg W64 zs
  qdg : Dg W64 qs
  small : vs W64 zs i n < V
  zero : ∀ j, i + n ≤ j → gt zs j = 0
  val : R0 = W64 ^ i * vs W64 qs i (m - i) * V + vs W64 zs 0 (i + n)
theorem LongInv.u_lt {R0 V n m i : Nat} {zs qs : List Nat} (h : LongInv R0 V zs qs n m (i + 1)) : vs W64 zs i (n + 1) < W64 * V := by
  have h1 := h.small
  have h2 := h.dg i
  rw [show n + 1 = 1 + n from by omega, vs_split]
  simp only [vs, Nat.pow_zero, Nat.pow_one, Nat.one_mul, Nat.add_zero, Nat.zero_add]
  have h3 : W64 * (vs W64 zs (i + 1) n + 1) ≤ W64 * V := Nat.mul_le_mul_left _ h1
  rw [Nat.mul_add] at h3
  omega
theorem LongInv.next {R0 V n m i d : Nat} {zs us qs : List Nat} (h : LongInv R0 V zs qs n m (i + 1)) (hi : i < m) (hVn : V ≤ W64 ^ n) (hV : 0 < V) (hlen : us.length = zs.length) (hout : ∀ j, (j < i ∨ i + (n + 1) ≤ j) → gt us j = gt zs j) (hdu : Dg W64 us)
    (hd : d = vs W64 zs i (n + 1) / V) (hdW : d < W64) (hr : vs W64 us i (n + 1) = vs W64 zs i (n + 1) % V) : LongInv R0 V us (qs.set i d) n m i := by
  have hmod := Nat.mod_lt (vs W64 zs i (n + 1)) hV
  have hdm := Nat.div_add_mod (vs W64 zs i (n + 1)) V
  rw [← hd, ← hr] at hdm
  rw [← hr] at hmod
  have htop : gt us (i + n) = 0 := by
    simp only [vs] at hmod
    rcases Nat.eq_zero_or_pos (gt us (i + n)) with e | e
    · exact e
    · have : W64 ^ n * 1 ≤ W64 ^ n * gt us (i + n) := Nat.mul_le_mul_left _ e
      omega
  have hvs : vs W64 us i n = vs W64 us i (n + 1) := by simp only [vs]; rw [htop]; simp
  have hql : i < qs.length := by rw [h.qlen]; exact hi
  refine ⟨hlen.trans h.len, by rw [List.length_set]; exact h.qlen, hdu, h.qdg.set hdW, by rw [hvs]; exact hmod, fun j hj => ?_, ?_⟩
  · rcases Nat.eq_or_lt_of_le hj with e | e
    · rw [← e]; exact htop
    · rw [hout j (by omega)]; exact h.zero j (by omega)
  · have hv := h.val
    rw [show m - i = 1 + (m - (i + 1)) from by omega, vs_split W64 (qs.set i d)]
    simp only [vs, Nat.pow_zero, Nat.pow_one, Nat.one_mul, Nat.add_zero, Nat.zero_add]
    rw [gt_set hql, if_pos rfl, vs_congr (xs := qs.set i d) (ys := qs) (off' := i + 1) (fun j hj => by rw [gt_set hql, if_neg (by omega)])]
    rw [show i + 1 + n = i + (n + 1) from by omega, vs_split W64 zs, Nat.zero_add, ← hdm] at hv
    rw [vs_split W64 us, Nat.zero_add, hvs, vs_congr (xs := us) (ys := zs) (off := 0) (off' := 0) (n := i) (fun j hj => hout _ (by omega))]
    rw [hv, Nat.pow_succ]
    generalize vs W64 qs (i + 1) (m - (i + 1)) = Q
    generalize vs W64 us i (n + 1) = R
    generalize vs W64 zs 0 i = L
    generalize W64 ^ i = X
    grind
theorem LongInv.done {R0 V n m : Nat} {zs qs : List Nat} (h : LongInv R0 V zs qs n m 0) (hV : 0 < V) : vs W64 qs 0 m = R0 / V ∧ vs W64 zs 0 (m + n) = R0 % V := by
  have hv := h.val
  simp only [Nat.pow_zero, Nat.one_mul, Nat.sub_zero, Nat.zero_add] at hv
  have hz : vs W64 zs 0 (m + n) = vs W64 zs 0 n := by
    rw [show m + n = n + m from by omega, vs_split, Nat.zero_add, vs_zero (n := m) (fun j _ => h.zero _ (by omega))]
    simp
  rw [hz]
  have := Nat.div_mod_unique hV (a := R0) (d := vs W64 qs 0 m) (c := vs W64 zs 0 n)
  have h2 := this.2 ⟨by rw [hv, Nat.mul_comm V, Nat.add_comm], h.small⟩
  exact ⟨h2.1.symm, h2.2.symm⟩

theorem pow_parts {s : Nat} (hs : s ≤ 64) : W64 = 2 ^ (64 - s) * 2 ^ s := by
  rw [← Nat.pow_add, show 64 - s + s = 64 from by omega]; rfl
theorem or_low {a x E : Nat} {s : Nat} (hE : E = 2 ^ s) (ha : a < E) (hx : E ∣ x) : a ||| x = a + x := by
  obtain ⟨M, rfl⟩ := hx
  subst hE
  rw [Nat.or_comm, ← Nat.two_pow_add_eq_or_of_lt ha]; omega
/-- The two halves of a word that is moved. -/
theorem shl_parts {x s : Nat} (hs : s ≤ 64) : x * 2 ^ s % W64 + W64 * (x / 2 ^ (64 - s)) = x * 2 ^ s := by
  have h : x / 2 ^ (64 - s) = x * 2 ^ s / W64 := by rw [pow_parts hs, Nat.mul_div_mul_right _ _ (Nat.pow_pos (by decide))]
  rw [h]; exact Nat.mod_add_div _ _
theorem shl_dvd {x s : Nat} (hs : s ≤ 64) : 2 ^ s ∣ x * 2 ^ s % W64 := by
  rw [Nat.dvd_mod_iff (by rw [pow_parts hs]; exact Nat.dvd_mul_left _ _)]
  exact Nat.dvd_mul_left _ _
theorem room_dvd {a y E F : Nat} (ha : a < E) (hy : y < E * F) (hd : E ∣ y) : a + y < E * F := by
  obtain ⟨k, rfl⟩ := hd
  have hk : k < F := Nat.lt_of_mul_lt_mul_left hy
  have : E * (k + 1) ≤ E * F := Nat.mul_le_mul_left _ hk
  rw [Nat.mul_add] at this
  omega
/-- The loop of shiftedLeft. -/
structure ShlInv (xs zs : List Nat) (o n s i : Nat) : Prop where
  len : zs.length = n + 1
  dg : Dg W64 zs
  zero : ∀ j, i < j → gt zs j = 0
  low : gt zs i < 2 ^ s
  val : vs W64 zs 0 (i + 1) = vs W64 xs o i * 2 ^ s
theorem shl_word {a x s : Nat} (hs : s ≤ 64) (ha : a < 2 ^ s) : a ||| (x * 2 ^ s % W64) = a + x * 2 ^ s % W64 ∧ a + x * 2 ^ s % W64 < W64 := by
  refine ⟨or_low rfl ha (shl_dvd hs), ?_⟩
  have h := pow_parts hs
  rw [Nat.mul_comm] at h
  have h2 : x * 2 ^ s % W64 < 2 ^ s * 2 ^ (64 - s) := by rw [← h]; exact Nat.mod_lt _ W64_pos
  have := room_dvd ha h2 (shl_dvd hs)
  rwa [← h] at this
theorem ShlInv.next {xs zs : List Nat} {o n s i : Nat} (h : ShlInv xs zs o n s i) (hs : s ≤ 63) (hi : i < n) (hx : gt xs (o + i) < W64) :
    ShlInv xs ((zs.set i (gt zs i ||| (gt xs (o + i) * 2 ^ s % W64))).set (i + 1) (gt xs (o + i) / 2 ^ (64 - s))) o n s (i + 1) := by
  obtain ⟨h1, h2⟩ := shl_word (x := gt xs (o + i)) (by omega : s ≤ 64) h.low
  have h3 := shl_parts (x := gt xs (o + i)) (by omega : s ≤ 64)
  have h4 : gt xs (o + i) / 2 ^ (64 - s) < 2 ^ s := by
    rw [Nat.div_lt_iff_lt_mul (Nat.pow_pos (by decide)), Nat.mul_comm, ← pow_parts (by omega)]; exact hx
  have h5 : 2 ^ s ≤ W64 := by rw [pow_parts (by omega : s ≤ 64)]; exact Nat.le_mul_of_pos_left _ (Nat.pow_pos (by decide))
  rw [h1]
  generalize gt xs (o + i) * 2 ^ s % W64 = lo at *
  generalize hhi : gt xs (o + i) / 2 ^ (64 - s) = hi' at *
  have l1 : i < zs.length := by rw [h.len]; omega
  have l2 : i + 1 < (zs.set i (gt zs i + lo)).length := by rw [List.length_set, h.len]; omega
  refine ⟨by simp [h.len], (h.dg.set h2).set (by omega), fun j hj => ?_, by rw [gt_set l2, if_pos rfl]; exact h4, ?_⟩
  · rw [gt_set l2, if_neg (by omega), gt_set l1, if_neg (by omega)]; exact h.zero j (by omega)
  · have hv := h.val
    simp only [vs, Nat.zero_add] at hv ⊢
    rw [gt_set (j := i + 1) l2, if_pos rfl, gt_set (j := i) l2, if_neg (by omega), gt_set (j := i) l1, if_pos rfl]
    rw [vs_congr (xs := (zs.set i (gt zs i + lo)).set (i + 1) hi') (ys := zs) (off := 0) (off' := 0) (n := i) (fun j hj => by rw [gt_set l2, if_neg (by omega), gt_set l1, if_neg (by omega)])]
    rw [Nat.add_mul, ← hv, Nat.mul_assoc, ← h3, Nat.pow_succ]
    grind
/-- The loop of shiftRight. -/
structure ShrInv (X : Nat) (xs zs : List Nat) (s i : Nat) : Prop where
  len : zs.length = xs.length
  dg : Dg W64 zs
  done : ∀ j, j < i → gt zs j = X / 2 ^ s / W64 ^ j % W64
  rest : ∀ j, i ≤ j → gt zs j = gt xs j
theorem shr_word {a x s : Nat} (hs : s ≤ 64) (ha : a < W64) : (a / 2 ^ s) ||| (x * 2 ^ (64 - s) % W64) = a / 2 ^ s + x * 2 ^ (64 - s) % W64 ∧ a / 2 ^ s + x * 2 ^ (64 - s) % W64 < W64 := by
  have h1 : a / 2 ^ s < 2 ^ (64 - s) := by
    rw [Nat.div_lt_iff_lt_mul (Nat.pow_pos (by decide)), ← pow_parts hs]; exact ha
  exact shl_word (by omega) h1
theorem shr_value {X a x t s : Nat} (hs : s ≤ 64) (ha : a < W64) (hX : X = a + W64 * (x + W64 * t)) : X / 2 ^ s % W64 = a / 2 ^ s + x * 2 ^ (64 - s) % W64 := by
  have h1 := (shr_word (x := x) hs ha).2
  have hp : 0 < 2 ^ s := Nat.pow_pos (by decide)
  have e : X = a + 2 ^ s * (2 ^ (64 - s) * (x + W64 * t)) := by
    rw [hX, ← Nat.mul_assoc (2 ^ s), Nat.mul_comm (2 ^ s), ← pow_parts hs]
  rw [e, Nat.add_mul_div_left _ _ hp, Nat.mul_add, ← Nat.mul_assoc, Nat.mul_right_comm, Nat.mul_comm (2 ^ (64 - s) * t), ← Nat.add_assoc, Nat.add_mul_mod_self_left]
  rw [Nat.mul_comm (2 ^ (64 - s)) x, Nat.add_comm, add_mod_small (by omega)]
  omega
theorem vs_at {xs : List Nat} {n i : Nat} (hd : Dg W64 xs) (hi : i < n) : vs W64 xs 0 n / W64 ^ i = gt xs i + W64 * vs W64 xs (i + 1) (n - (i + 1)) := by
  obtain ⟨k, rfl⟩ : ∃ k, n = i + (1 + k) := ⟨n - (i + 1), by omega⟩
  rw [vs_split, Nat.add_mul_div_left _ _ (Nat.pow_pos W64_pos), Nat.div_eq_of_lt (vs_lt hd), vs_split W64 xs (0 + i) 1 k, show i + (1 + k) - (i + 1) = k from by omega]
  simp [vs]
theorem ShrInv.next {X : Nat} {xs zs : List Nat} {s i x : Nat} (h : ShrInv X xs zs s i) (hs : s ≤ 64) (hX : X = vs W64 xs 0 xs.length) (hdx : Dg W64 xs) (hi : i < xs.length) (hx : x = gt xs (i + 1)) :
    gt zs i = gt xs i ∧ ShrInv X xs (zs.set i (gt zs i / 2 ^ s + x * 2 ^ (64 - s) % W64)) s (i + 1) := by
  have e := h.rest i (Nat.le_refl _)
  have l1 : i < zs.length := by rw [h.len]; exact hi
  have hlt := (shr_word (x := x) hs (h.dg i)).2
  refine ⟨e, by rw [List.length_set]; exact h.len, h.dg.set hlt, fun j hj => ?_, fun j hj => by rw [gt_set l1, if_neg (by omega)]; exact h.rest j (by omega)⟩
  rw [gt_set l1]
  split
  · rename_i hij
    subst hij
    have h1 := vs_at hdx hi
    rw [← hX] at h1
    have h2 : vs W64 xs (i + 1) (xs.length - (i + 1)) = x + W64 * vs W64 xs (i + 2) (xs.length - (i + 2)) := by
      rcases Nat.lt_or_ge (i + 1) xs.length with hl | hl
      · rw [show xs.length - (i + 1) = 1 + (xs.length - (i + 2)) from by omega, vs_split]
        simp [vs, hx]
      · rw [show xs.length - (i + 1) = 0 from by omega, show xs.length - (i + 2) = 0 from by omega, hx, gt_of_ge hl]
        simp [vs]
    rw [h2] at h1
    rw [Nat.div_div_eq_div_mul, Nat.mul_comm (2 ^ s), ← Nat.div_div_eq_div_mul, shr_value hs (hdx i) h1, e]
  · exact h.done j (by omega)
theorem ShrInv.all {X : Nat} {xs zs : List Nat} {s : Nat} (h : ShrInv X xs zs s xs.length) (hX : X = vs W64 xs 0 xs.length) (hdx : Dg W64 xs) : vs W64 zs 0 xs.length = X / 2 ^ s := by
  have e : ∀ m, m ≤ xs.length → vs W64 zs 0 m = X / 2 ^ s % W64 ^ m := by
    intro m
    induction m with
    | zero => intro _; simp [vs, Nat.mod_one]
    | succ m ih => intro hm; simp only [vs, Nat.zero_add]; rw [ih (by omega), h.done m (by omega), Nat.pow_succ, Nat.mod_mul]
  rw [e _ (Nat.le_refl _)]
  apply Nat.mod_eq_of_lt
  have h1 : X < W64 ^ xs.length := by rw [hX]; exact vs_lt hdx
  exact Nat.lt_of_le_of_lt (Nat.div_le_self _ _) h1
end Mth
end Go.Proofs.YteajpefbmiiioaaGreatDoor
namespace Go.Proofs.YteajpefbmiiioaaGreatDoor
open Go.RowKit Mth

/-- The cells of numbers. -/
def cellsOf (k : IntKind) (xs : List Nat) : List Value := xs.map fun n : Nat => Value.int k (n : Int)
theorem length_cellsOf (k : IntKind) (xs : List Nat) : (cellsOf k xs).length = xs.length := by simp [cellsOf]
theorem cellsOf_append (k : IntKind) (xs ys : List Nat) : cellsOf k (xs ++ ys) = cellsOf k xs ++ cellsOf k ys := by simp [cellsOf]
theorem cellsOf_set (k : IntKind) (xs : List Nat) (i v : Nat) : cellsOf k (xs.set i v) = (cellsOf k xs).set i (.int k (v : Int)) := by simp [cellsOf, List.map_set]
theorem cellsOf_get (k : IntKind) (xs : List Nat) (i : Nat) (h : i < xs.length) : (cellsOf k xs)[i]? = some (.int k ((gt xs i : Nat) : Int)) := by
  simp [cellsOf, gt_of_lt h, List.getElem?_eq_getElem h]

/-- Block b holds just the numbers xs, each in a cell of kind k; its element type is e; nothing in it is frozen. -/
def Blk (k : IntKind) (e : TypeId) (w : World) (b : Nat) (xs : List Nat) : Prop := w.heap[b]? = some (.cells (cellsOf k xs).toArray e (0, 0))

section
variable {k : IntKind} {e : TypeId} {w w' : World} {b : Nat} {xs : List Nat}
theorem Blk.lt (h : Blk k e w b xs) : b < w.heap.size := (Array.getElem?_eq_some_iff.1 h).1
theorem Blk.cell (h : Blk k e w b xs) {i : Nat} (hi : i < xs.length) : w.cell? ⟨b, i, none⟩ = some (.int k ((gt xs i : Nat) : Int)) := by
  rw [cell_of_row w b i _ e (0, 0) h, List.getElem?_toArray, cellsOf_get k xs i hi]
theorem Blk.frozen (h : Blk k e w b xs) (i : Nat) : w.frozen? ⟨b, i, none⟩ = false := by
  simp only [World.frozen?]
  rw [show w.heap[b]? = some (.cells (cellsOf k xs).toArray e (0, 0)) from h]
  simp
theorem Blk.kept (h : Blk k e w b xs) {row : Option Nat} (hg : w.grownBy w' row) (hne : some b ≠ row) : Blk k e w' b xs := by
  unfold Blk at h ⊢
  rw [hg.block b (Array.getElem?_eq_some_iff.1 h).1 hne]; exact h
theorem Blk.alloc (h : Blk k e w b xs) (o : Obj) : Blk k e (w.alloc o) b xs := h.kept (World.grownBy_alloc w o none) (by simp)
theorem Blk.drew (h : Blk k e w b xs) : Blk k e w.drew b xs := h
theorem Blk.set (h : Blk k e w b xs) (i v : Nat) : Blk k e (w.setCell ⟨b, i, none⟩ (.int k (v : Int))) b (xs.set i v) := by
  unfold Blk at h ⊢
  rw [setCell_eq_setRow w b i _ e (0, 0) _ h, setRow_heap w b _ _ e (0, 0) h]
  simp [cellsOf_set]
theorem Blk.setOther (h : Blk k e w b xs) {b' : Nat} (hne : b ≠ b') (i : Nat) (v : Value) : Blk k e (w.setCell ⟨b', i, none⟩ v) b xs := by
  unfold Blk at h ⊢
  rw [Below.heap_setCell _ _ _ _ hne]; exact h
end

theorem madeCells_one (k : IntKind) (n : Nat) : (madeCells (Value.int k 0).cells (n * 1)).toList = cellsOf k (List.replicate n 0) := by
  simp only [madeCells, Value.cells, cellsOf, Nat.mul_one]
  apply List.ext_getElem
  · simp
  · intro i h1 h2
    simp [Nat.mod_one]
/-- What 'make' of n numbers leaves. -/
theorem blk_made {k : IntKind} {e : TypeId} {w' : World} {base g n : Nat} (h : w'.ownsRow base e 1 (.slice (some ⟨g, 0, none⟩) n n) n (madeCells (Value.int k 0).cells (n * 1)).toList) : Blk k e w' g (List.replicate n 0) := by
  obtain ⟨_, h2⟩ := h
  rcases h2 with ⟨h2, _⟩ | ⟨g', cap, cur, hv, _, hg, _, _, hsz, htk⟩
  · simp at h2
  · simp only [Value.slice.injEq, Option.some.injEq, Addr.mk.injEq, and_true, true_and] at hv
    obtain ⟨rfl, rfl⟩ := hv
    have hc : cur = (cellsOf k (List.replicate n 0)).toArray := by
      rw [← madeCells_one, ← htk, Nat.mul_one, List.take_of_length_le (by simp [hsz])]
    subst hc
    exact hg
theorem blk_made' {k : IntKind} {e : TypeId} {w' : World} {base g n : Nat} (h : w'.ownsRow base e 1 (.slice (some ⟨g, 0, none⟩) n n) n (madeCells #[Value.int k 0] n).toList) : Blk k e w' g (List.replicate n 0) :=
  blk_made (base := base) (by rw [Nat.mul_one]; exact h)

section
variable {w w1 w2 : World} {row : Option Nat}
theorem gr_trans {a b c : World} {r r1 r2 : Option Nat} (h : a.grownBy b r1) (g : b.grownBy c r2) (h1 : r1 = none ∨ r1 = r) (h2 : r2 = none ∨ r2 = r ∨ ∀ k, r2 = some k → a.heap.size ≤ k) : a.grownBy c r := by
  refine ⟨g.os.trans h.os, g.tape.trans h.tape, g.output.trans h.output, Nat.le_trans h.size g.size, fun k hk hne => ?_⟩
  have hb : b.heap[k]? = a.heap[k]? := h.block k hk (by rcases h1 with rfl | rfl; simp; exact hne)
  have hs := h.size
  refine (g.block k (by omega) ?_).trans hb
  rcases h2 with rfl | rfl | h2
  · simp
  · exact hne
  · intro e; have := h2 k e.symm; omega
theorem gr_set (w : World) (b i : Nat) (v : Value) : w.grownBy (w.setCell ⟨b, i, none⟩ v) (some b) :=
  ⟨rfl, rfl, rfl, by simp [World.setCell], fun k _ hne => Below.heap_setCell _ _ _ _ (by intro e; exact hne (by rw [e]))⟩
theorem gr_new {a b c : World} {g : Nat} (h : a.grownBy b none) (k : b.grownBy c (some g)) (hg : a.heap.size ≤ g) : a.grownBy c none :=
  gr_trans h k (.inl rfl) (.inr (.inr fun j e => by cases e; exact hg))
theorem gr_then {a b c : World} {r : Option Nat} (h : a.grownBy b none) (k : b.grownBy c r) : a.grownBy c r := gr_trans h k (.inl rfl) (.inr (.inl rfl))
theorem gr_alloc (w : World) (o : Obj) (row : Option Nat) : w.grownBy (w.alloc o) row := World.grownBy_alloc w o row
theorem gr_drew (w : World) (row : Option Nat) : w.grownBy w.drew row := ⟨rfl, rfl, rfl, Nat.le_refl _, fun _ _ _ => rfl⟩
theorem gr_drewN (w : World) (n : Nat) (row : Option Nat) : w.grownBy (w.drewN n) row := ⟨rfl, rfl, rfl, Nat.le_refl _, fun _ _ _ => rfl⟩
end
end Go.Proofs.YteajpefbmiiioaaGreatDoor
namespace Go.Proofs.YteajpefbmiiioaaGreatDoor
open Go.RowKit Mth

theorem len_toList (t : ByteArray) : t.data.toList.length = t.size := rfl
def lenOf : Value → Nat | .slice _ n _ => n | _ => 0
def strOf : Value → ByteArray | .string t => t | _ => ByteArray.empty
theorem canon_skip (t : ByteArray) (h : 0 < t.size) (h0 : t[0] = 0) : canon (t.extract 1 t.size).data.toList = canon t.data.toList := by
  have e : t.data.toList = t[0] :: t.data.toList.drop 1 := by
    cases hl : t.data.toList with
    | nil => have : t.data.toList.length = t.size := by simp
             rw [hl] at this; simp at this; omega
    | cons d l =>
      have : t[0] = t.data.toList[0]'(by simp; omega) := rfl
      rw [this]; simp [hl]
  have e2 : (t.extract 1 t.size).data.toList = t.data.toList.drop 1 := by
    exact Lib.extract_to_end t 1
  rw [e2]
  conv => rhs; rw [e]
  rw [h0, canon, if_pos rfl]
theorem canon_stay (t : ByteArray) (h : 0 < t.size) (h0 : t[0] ≠ 0) : canon t.data.toList = t.data.toList := by
  have e : t.data.toList = t[0] :: t.data.toList.drop 1 := by
    cases hl : t.data.toList with
    | nil => have : t.data.toList.length = t.size := by simp
             rw [hl] at this; simp at this; omega
    | cons d l =>
      have : t[0] = t.data.toList[0]'(by simp; omega) := rfl
      rw [this]; simp [hl]
  conv => lhs; rw [e]
  conv => rhs; rw [e]
  rw [canon, if_neg h0]
theorem toArray_eq (t : ByteArray) {l : List UInt8} (h : l = t.data.toList) : (⟨l.toArray⟩ : ByteArray) = t := by
  subst h; simp

theorem withoutZeros_any (s : ByteArray) (w : World) :
    Calls Tryz.prog 79 #[.string s] w fun e w' => e = .returned (.string ⟨(canon s.data.toList).toArray⟩) ∧ w = w' := by
  go_enter Tryz.func79, Tryz.ntmps79
  go_wp2
  go_loop [0] (fun v => ∃ t : ByteArray, t.size ≤ s.size ∧ v = .string t ∧ canon t.data.toList = canon s.data.toList) (fun v => (strOf v).size)
  case atStart => exact ⟨s, Nat.le_refl _, rfl, rfl⟩
  case round =>
    obtain ⟨t, ht, rfl, hc⟩ := hrel
    have HC := Lib.hid hc
    clear hc
    go_wp2
    · have h1 : 0 < t.size := by assumption
      have h2 : ((t[0].toNat : Int) == 0) = true := by assumption
      have h0 : t[0] = 0 := UInt8.toNat_inj.1 (by have := beq_iff_eq.1 h2; simpa using this)
      refine ⟨⟨t.extract 1 t.size, by simp; omega, rfl, by rw [canon_skip t h1 h0]; exact HC.out⟩, ?_⟩
      simp [strOf]; omega
    · have h1 : 0 < t.size := by assumption
      have h2 : ((t[0].toNat : Int) == 0) = false := by assumption
      have h0 : t[0] ≠ 0 := by intro e; rw [e] at h2; simp at h2
      go_ret
      refine ⟨?_, rfl⟩
      rw [toArray_eq t (by rw [← HC.out]; exact canon_stay t h1 h0)]; rfl
    · have h1 : ¬ 0 < t.size := by assumption
      have hz : t.data.toList = [] := List.eq_nil_of_length_eq_zero (by have := len_toList t; omega)
      go_ret
      refine ⟨?_, rfl⟩
      rw [toArray_eq t (by rw [← HC.out, hz]; rfl)]; rfl
end Go.Proofs.YteajpefbmiiioaaGreatDoor
namespace Go.Proofs.YteajpefbmiiioaaGreatDoor
open Go.RowKit Mth

theorem trimmed_any (b off n c : Nat) (xs : List Nat) (w : World) (hb : Blk .u64 96 w b xs) (hn : off + n ≤ xs.length) (hc : n ≤ c) (hm : c ≤ maxLen) :
    Calls Tryz.prog 125 #[.slice (some ⟨b, off, none⟩) n c] w fun e w' => (∃ m, e = .returned (.slice (some ⟨b, off, none⟩) m c) ∧ m ≤ n ∧ (∀ i, m ≤ i → i < n → gt xs (off + i) = 0) ∧ (m = 0 ∨ gt xs (off + (m - 1)) ≠ 0)) ∧ w = w' := by
  unfold maxLen at hm
  go_enter Tryz.func125, Tryz.ntmps125
  go_wp2
  go_loop [0] (fun v => ∃ m : Nat, m ≤ n ∧ v = .slice (some ⟨b, off, none⟩) m c ∧ Hid (∀ i, m ≤ i → i < n → gt xs (off + i) = 0)) (fun v => lenOf v)
  case atStart => exact ⟨n, Nat.le_refl _, rfl, fun i h1 h2 => by omega⟩
  case round =>
    obtain ⟨m, hmn, rfl, hz⟩ := hrel
    have hcell : 0 < m → w.cell? ⟨b, off + (m - 1), none⟩ = some (.int .u64 ((gt xs (off + (m - 1)) : Nat) : Int)) := fun h => hb.cell (by omega)
    go_wp2
    · have h1 : 0 < m := by assumption
      have h2 : ((gt xs (off + (m - 1)) : Int) == 0) = true := by assumption
      have h0 : gt xs (off + (m - 1)) = 0 := by have := beq_iff_eq.1 h2; omega
      refine ⟨⟨m - 1, by omega, rfl, fun i h3 h4 => ?_⟩, by simp only [lenOf]; omega⟩
      by_cases e : i = m - 1
      · rw [e]; exact h0
      · exact hz.out i (by omega) h4
    · have h1 : 0 < m := by assumption
      have h2 : ((gt xs (off + (m - 1)) : Int) == 0) = false := by assumption
      have h0 : gt xs (off + (m - 1)) ≠ 0 := by intro e; rw [e] at h2; simp at h2
      go_ret
      exact ⟨⟨m, rfl, hmn, hz.out, .inr h0⟩, rfl⟩
    · have h1 : ¬ 0 < m := by assumption
      go_ret
      exact ⟨⟨m, rfl, hmn, hz.out, .inl (by omega)⟩, rfl⟩
end Go.Proofs.YteajpefbmiiioaaGreatDoor
namespace Go.Proofs.YteajpefbmiiioaaGreatDoor
open Go.RowKit Mth

theorem add64_run (x y c : Nat) (hc : c ≤ 1) (w : World) :
    (callFunc 151 #[.int .u64 (x : Int), .int .u64 (y : Int), .int .u64 (c : Int)]).run Tryz.prog w =
      .ok (.value (.tuple #[.int .u64 ((addLo x y c : Nat) : Int), .int .u64 ((addHi x y c : Nat) : Int)])) w := by
  rw [run_callFunc_extern Tryz.func151 (by kernel_rfl) (by kernel_rfl) (by kernel_rfl) (e := add64Entry) (by kernel_rfl), run_add64 x y c (by omega) (by omega) (by omega) (by omega)]
  simp only [Result.andThen, addLo, addHi, W64]
  congr 5 <;> omega
theorem add64_run0 (x y : Nat) (w : World) :
    (callFunc 151 #[.int .u64 (x : Int), .int .u64 (y : Int), .int .u64 0]).run Tryz.prog w =
      .ok (.value (.tuple #[.int .u64 ((addLo x y 0 : Nat) : Int), .int .u64 ((addHi x y 0 : Nat) : Int)])) w := add64_run x y 0 (by omega) w

/-- What a slice at (b, off, n) of numbers below the base has become, the rest of its block being as it was. -/
structure Wrote (xs zs : List Nat) (off n : Nat) : Prop where
  len : zs.length = xs.length
  out : ∀ i, (i < off ∨ off + n ≤ i) → gt zs i = gt xs i
theorem Wrote.refl (xs : List Nat) (off n : Nat) : Wrote xs xs off n := ⟨rfl, fun _ _ => rfl⟩
theorem Wrote.step {xs zs : List Nat} {off n : Nat} (h : Wrote xs zs off n) {i v : Nat} (h1 : off ≤ i) (h2 : i < off + n) (h3 : i < xs.length) : Wrote xs (zs.set i v) off n :=
  ⟨by simp [h.len], fun j hj => by rw [gt_set (by rw [h.len]; exact h3), if_neg (by omega)]; exact h.out j hj⟩
theorem Wrote.trans {xs ys zs : List Nat} {off n o1 n1 o2 n2 : Nat} (h : Wrote xs ys o1 n1) (g : Wrote ys zs o2 n2) (h1 : off ≤ o1) (h2 : o1 + n1 ≤ off + n) (h3 : off ≤ o2) (h4 : o2 + n2 ≤ off + n) : Wrote xs zs off n :=
  ⟨g.len.trans h.len, fun i hi => (g.out i (by omega)).trans (h.out i (by omega))⟩

def AddedW (xs zs : List Nat) (off n y : Nat) : Prop := Wrote xs zs off n ∧ Dg W64 zs ∧ ∃ k, vs W64 zs off n + W64 ^ n * k = vs W64 xs off n + y
/-- The loop of addWordTo: i rounds are over, y is still to be added. -/
def AddInv (xs zs : List Nat) (off n i y0 y : Nat) : Prop := Wrote xs zs off n ∧ Dg W64 zs ∧ y < W64 ∧ (∀ j, i ≤ j → gt zs (off + j) = gt xs (off + j)) ∧ vs W64 zs off i + W64 ^ i * y = vs W64 xs off i + y0
theorem AddInv.next {xs zs : List Nat} {off n i y0 y : Nat} (h : AddInv xs zs off n i y0 y) (hi : i < n) (hx : off + n ≤ xs.length) : AddInv xs (zs.set (off + i) (addLo (gt zs (off + i)) y 0)) off n (i + 1) y0 (addHi (gt zs (off + i)) y 0) := by
  obtain ⟨h1, h2, h3, h4, h5⟩ := h
  have hl : off + i < zs.length := by rw [h1.len]; omega
  have hhi := addHi_le (h2 (off + i)) h3 (Nat.zero_le 1)
  have h1W : 1 < W64 := by decide
  refine ⟨h1.step (by omega) (by omega) (by omega), h2.set (addLo_lt _ _ _), by omega, fun j hj => ?_, ?_⟩
  · rw [gt_set hl, if_neg (by omega)]; exact h4 j (by omega)
  · have hs := add_split (gt zs (off + i)) y 0
    simp only [vs]
    rw [gt_set hl, if_pos rfl, vs_congr (ys := zs) (off' := off) (fun j hj => by rw [gt_set hl, if_neg (by omega)])]
    rw [h4 i (Nat.le_refl _)] at hs ⊢
    have e : W64 ^ i * addLo (gt xs (off + i)) y 0 + W64 ^ (i + 1) * addHi (gt xs (off + i)) y 0 = W64 ^ i * gt xs (off + i) + W64 ^ i * y := by
      rw [Nat.pow_succ, Nat.mul_assoc, ← Nat.mul_add, hs, Nat.add_zero, Nat.mul_add]
    omega
theorem AddInv.done {xs zs : List Nat} {off n i y0 y : Nat} (h : AddInv xs zs off n i y0 y) (hi : i ≤ n) (he : i = n ∨ y = 0) : AddedW xs zs off n y0 := by
  obtain ⟨h1, h2, h3, h4, h5⟩ := h
  refine ⟨h1, h2, ?_⟩
  rcases he with rfl | rfl
  · exact ⟨y, h5⟩
  · refine ⟨0, ?_⟩
    obtain ⟨m, rfl⟩ : ∃ m, n = i + m := ⟨n - i, by omega⟩
    rw [vs_split, vs_split, vs_congr (xs := zs) (ys := xs) (off' := off + i) (n := m) (fun j hj => by rw [Nat.add_assoc]; exact h4 (i + j) (by omega))]
    omega

theorem addWordTo_any (b off n c y : Nat) (xs : List Nat) (w : World) (hb : Blk .u64 96 w b xs) (hn : off + n ≤ xs.length) (hd : Dg W64 xs) (hy : y < W64) (hm : n ≤ maxLen) :
    Calls Tryz.prog 156 #[.slice (some ⟨b, off, none⟩) n c, .int .u64 (y : Int)] w fun e w' => e = .returned (.tuple #[]) ∧ ∃ zs, Blk .u64 96 w' b zs ∧ w.grownBy w' (some b) ∧ AddedW xs zs off n y := by
  unfold maxLen at hm
  have ha := add64_run0
  have hy0 : AddInv xs xs off n 0 y y := ⟨Wrote.refl _ _ _, hd, hy, fun _ _ => rfl, by simp [vs]⟩
  go_enter Tryz.func156, Tryz.ntmps156
  go_wp2
  go_loopw [1, 4] (fun v j wr => ∃ (i t : Nat) (zs : List Nat), i ≤ n ∧ j = .int .i64 i ∧ v = .int .u64 t ∧ Blk .u64 96 wr b zs ∧ w.grownBy wr (some b) ∧ AddInv xs zs off n i y t) (fun _ j _ => n - (intOf j).toNat)
  case atStart => exact ⟨0, y, xs, Nat.zero_le _, rfl, rfl, hb, World.grownBy.refl _ _, hy0⟩
  case round =>
    obtain ⟨i, t, zs, hi, rfl, rfl, hbz, hg, hinv⟩ := hrel
    have hlz : zs.length = xs.length := hinv.1.len
    have hcell : i < n → wr.cell? ⟨b, off + i, none⟩ = some (.int .u64 ((gt zs (off + i) : Nat) : Int)) := fun h => hbz.cell (by omega)
    have hfr : wr.frozen? ⟨b, off + i, none⟩ = false := hbz.frozen _
    go_wp2
    · have hlt : i < n := by assumption
      have hnx := hinv.next hlt hn
      go_roundw
      case rel => exact ⟨i + 1, _, _, by omega, by go_num, rfl, hbz.set _ _, gr_trans hg (gr_set _ _ _ _) (.inr rfl) (.inr (.inl rfl)), hnx⟩
      case measure => simp [intOf]; omega
    · have hlt : i < n := by assumption
      have h0 : ¬ 0 < t := by assumption
      go_end0
      exact ⟨rfl, zs, hbz, hg, hinv.done hi (.inr (by omega))⟩
    · have hlt : ¬ i < n := by assumption
      go_end0
      exact ⟨rfl, zs, hbz, hg, hinv.done hi (.inl (by omega))⟩
end Go.Proofs.YteajpefbmiiioaaGreatDoor
namespace Go.Proofs.YteajpefbmiiioaaGreatDoor
open Go.RowKit Mth

def SumInv (xs ys zs : List Nat) (off n o2 i c : Nat) : Prop := Wrote xs zs off n ∧ Dg W64 zs ∧ c ≤ 1 ∧ (∀ j, i ≤ j → gt zs (off + j) = gt xs (off + j)) ∧ vs W64 zs off i + W64 ^ i * c = vs W64 xs off i + vs W64 ys o2 i
theorem SumInv.next {xs ys zs : List Nat} {off n o2 i c : Nat} (h : SumInv xs ys zs off n o2 i c) (hy : Dg W64 ys) (hi : i < n) (hx : off + n ≤ xs.length) : SumInv xs ys (zs.set (off + i) (addLo (gt zs (off + i)) (gt ys (o2 + i)) c)) off n o2 (i + 1) (addHi (gt zs (off + i)) (gt ys (o2 + i)) c) := by
  obtain ⟨h1, h2, h3, h4, h5⟩ := h
  have hl : off + i < zs.length := by rw [h1.len]; omega
  refine ⟨h1.step (by omega) (by omega) (by omega), h2.set (addLo_lt _ _ _), addHi_le (h2 _) (hy _) h3, fun j hj => ?_, ?_⟩
  · rw [gt_set hl, if_neg (by omega)]; exact h4 j (by omega)
  · have hs := add_split (gt zs (off + i)) (gt ys (o2 + i)) c
    simp only [vs]
    rw [gt_set hl, if_pos rfl, vs_congr (ys := zs) (off' := off) (fun j hj => by rw [gt_set hl, if_neg (by omega)])]
    rw [h4 i (Nat.le_refl _)] at hs ⊢
    have e : W64 ^ i * addLo (gt xs (off + i)) (gt ys (o2 + i)) c + W64 ^ (i + 1) * addHi (gt xs (off + i)) (gt ys (o2 + i)) c = W64 ^ i * gt xs (off + i) + W64 ^ i * gt ys (o2 + i) + W64 ^ i * c := by
      rw [Nat.pow_succ, Nat.mul_assoc, ← Nat.mul_add, hs, Nat.mul_add, Nat.mul_add]
    omega
theorem SumInv.done {xs ys zs us : List Nat} {off n o2 m c : Nat} (h : SumInv xs ys zs off n o2 m c) (hm : m ≤ n) (g : AddedW zs us (off + m) (n - m) c) : AddedW xs us off n (vs W64 ys o2 m) := by
  obtain ⟨h1, h2, h3, h4, h5⟩ := h
  obtain ⟨g1, g2, k, g3⟩ := g
  refine ⟨h1.trans g1 (Nat.le_refl _) (Nat.le_refl _) (by omega) (by omega), g2, k, ?_⟩
  obtain ⟨r, rfl⟩ : ∃ r, n = m + r := ⟨n - m, by omega⟩
  rw [Nat.add_sub_cancel_left] at g3
  rw [vs_split, vs_split, vs_congr (xs := us) (ys := zs) (off' := off) (n := m) (fun j hj => g1.out _ (by omega))]
  rw [vs_congr (xs := xs) (ys := zs) (off := off + m) (off' := off + m) (n := r) (fun j hj => by rw [Nat.add_assoc]; exact (h4 (m + j) (by omega)).symm)]
  have e : W64 ^ m * vs W64 us (off + m) r + W64 ^ (m + r) * k = W64 ^ m * vs W64 zs (off + m) r + W64 ^ m * c := by
    rw [Nat.pow_add, Nat.mul_assoc, ← Nat.mul_add, g3, Nat.mul_add]
  omega

theorem AddedW.move0 {xs zs : List Nat} {o o' c : Nat} (h : AddedW xs zs o 0 c) : AddedW xs zs o' 0 c := by
  obtain ⟨h1, h2, k, h3⟩ := h
  exact ⟨⟨h1.len, fun i _ => h1.out i (by omega)⟩, h2, k, by simpa [vs] using h3⟩

theorem addTo_any (b1 o1 n1 c1 b2 o2 n2 c2 : Nat) (xs ys : List Nat) (w : World) (hb : Blk .u64 96 w b1 xs) (hn : o1 + n1 ≤ xs.length) (hd : Dg W64 xs) (hc1 : n1 ≤ c1) (hm : c1 ≤ maxLen)
    (hb2 : Blk .u64 96 w b2 ys) (hn2 : o2 + n2 ≤ ys.length) (hd2 : Dg W64 ys) (hne : b2 ≠ b1) (hle : n2 ≤ n1) :
    Calls Tryz.prog 127 #[.slice (some ⟨b1, o1, none⟩) n1 c1, .slice (some ⟨b2, o2, none⟩) n2 c2] w fun e w' => e = .returned (.tuple #[]) ∧ ∃ zs, Blk .u64 96 w' b1 zs ∧ w.grownBy w' (some b1) ∧ AddedW xs zs o1 n1 (vs W64 ys o2 n2) := by
  unfold maxLen at hm
  have ha := add64_run
  have hy0 : SumInv xs ys xs o1 n1 o2 0 0 := ⟨Wrote.refl _ _ _, hd, by omega, fun _ _ => rfl, by simp [vs]⟩
  go_enter Tryz.func127, Tryz.ntmps127
  go_wp2
  go_loopw [4, 9] (fun v j wr => ∃ (i t : Nat) (zs : List Nat), i ≤ n2 ∧ j = .int .i64 i ∧ v = .int .u64 t ∧ Blk .u64 96 wr b1 zs ∧ w.grownBy wr (some b1) ∧ SumInv xs ys zs o1 n1 o2 i t) (fun _ j _ => n2 - (intOf j).toNat)
  case atStart => exact ⟨0, 0, xs, Nat.zero_le _, rfl, rfl, hb, World.grownBy.refl _ _, hy0⟩
  case round =>
    obtain ⟨i, t, zs, hi, rfl, rfl, hbz, hg, hinv⟩ := hrel
    have hlz : zs.length = xs.length := hinv.1.len
    have ht : t ≤ 1 := hinv.2.2.1
    have hb2r := hb2.kept hg (by simpa using hne)
    have hcell2 : i < n2 → wr.cell? ⟨b2, o2 + i, none⟩ = some (.int .u64 ((gt ys (o2 + i) : Nat) : Int)) := fun h => hb2r.cell (by omega)
    have hcell : i < n2 → wr.cell? ⟨b1, o1 + i, none⟩ = some (.int .u64 ((gt zs (o1 + i) : Nat) : Int)) := fun h => hbz.cell (by omega)
    have hfr : wr.frozen? ⟨b1, o1 + i, none⟩ = false := hbz.frozen _
    by_cases hlt : i < n2
    · have hnx := hinv.next hd2 (by omega : i < n1) hn
      go_wp2
      go_roundw
      case rel => exact ⟨i + 1, _, _, by omega, by go_num, rfl, hbz.set _ _, gr_trans hg (gr_set _ _ _ _) (.inr rfl) (.inr (.inl rfl)), hnx⟩
      case measure => simp [intOf]; omega
    · obtain rfl : i = n2 := by omega
      clear ha
      have htW : t < W64 := Nat.lt_of_le_of_lt ht (by decide)
      by_cases hcc : c1 = i
      · subst hcc
        obtain rfl : n1 = c1 := by omega
        go_wp2_with fail
        refine (addWordTo_any b1 o1 0 0 t zs wr hbz (by omega) hinv.2.1 htW (by unfold maxLen; omega)).mono ?_
        rintro e w' ⟨rfl, us, hu, hg2, hadd⟩
        have hfin := hinv.done (Nat.le_refl _) (by rw [Nat.sub_self]; exact hadd.move0)
        go_wp2
        go_end0
        exact ⟨rfl, us, hu, gr_trans hg hg2 (.inr rfl) (.inr (.inl rfl)), hfin⟩
      · go_wp2_with fail
        refine (addWordTo_any b1 (o1 + i) (n1 - i) (c1 - i) t zs wr hbz (by omega) hinv.2.1 htW (by unfold maxLen; omega)).mono ?_
        rintro e w' ⟨rfl, us, hu, hg2, hadd⟩
        have hfin := hinv.done hle hadd
        go_wp2
        go_end0
        exact ⟨rfl, us, hu, gr_trans hg hg2 (.inr rfl) (.inr (.inl rfl)), hfin⟩
end Go.Proofs.YteajpefbmiiioaaGreatDoor
namespace Go.Proofs.YteajpefbmiiioaaGreatDoor
open Go.RowKit Mth

theorem wrap_u64 (n : Nat) (h : n < W64) : IntKind.u64.wrap (n : Int) = (n : Int) := IntWalk.u64_in _ ⟨by omega, by rw [W64_eq] at h; omega⟩
theorem pow_cast (r : Nat) : (2 : Int) ^ (8 * r) = ((256 ^ r : Nat) : Int) := by
  rw [show (256 : Nat) = 2 ^ 8 from rfl, ← Nat.pow_mul]
  simp
theorem or_word (x d r : Nat) (hx : x < W64) (hd : d < 256) (hr : r < 8) :
    bits BinOp.or IntKind.u64 (x : Int) (IntKind.u64.wrap (IntKind.u64.wrap (d : Int) * (2 : Int) ^ (8 * r))) = ((x ||| d * 256 ^ r : Nat) : Int) := by
  have h1 : d * 256 ^ r < W64 := by
    have h2 : 256 ^ r ≤ 256 ^ 7 := Nat.pow_le_pow_right (by decide) (by omega)
    have h3 : d * 256 ^ r ≤ 255 * 256 ^ 7 := Nat.mul_le_mul (by omega) h2
    rw [W64_eq]; omega
  rw [wrap_u64 d (by rw [W64_eq]; omega), pow_cast, ← Int.natCast_mul, wrap_u64 _ h1]
  exact bits_or_u64_nat _ _ (by rw [W64_eq] at hx; exact hx) (by rw [W64_eq] at h1; exact h1)
theorem byte_word (g r : Nat) : ((g : Int) / (2 : Int) ^ (8 * r) % 256) = ((g / 256 ^ r % 256 : Nat) : Int) := by
  rw [pow_cast]; simp
end Go.Proofs.YteajpefbmiiioaaGreatDoor
