/- The law of rings, at the level of the call. -/
import Derived.Test.YtednijejgadmnaaDoorLits
import Derived.Test.YtednijejgadmnaaDoorMulN
namespace Go.Proofs.YtednijejgadmnaaDoor
open Go.RowKit Mth

def S (n : Nat) : ByteArray := ⟨(enc n).toArray⟩
theorem s_num (n : Nat) : num (S n).data.toList = n := by unfold S; simp [num_enc]
theorem s_zero : S 0 = ⟨#[]⟩ := by unfold S; rw [enc_zero]
theorem enc_len : ∀ (k n : Nat), n < 256 ^ k → (enc n).length ≤ k
  | 0, n, h => by
    have : n = 0 := by simpa using h
    subst this; rw [enc_zero]; simp
  | k + 1, n, h => by
    by_cases h0 : n = 0
    · subst h0; rw [enc_zero]; simp
    · rw [enc_pos h0]
      rw [Nat.pow_succ] at h
      have := enc_len k (n / 256) (by omega)
      simp; omega
theorem s_size {n : Nat} (h : n < 256 ^ 200) : (S n).size ≤ 1000000000000 := by
  have := enc_len 200 n h
  have e : (S n).size = (enc n).length := by unfold S; show (enc n).toArray.size = _; simp
  omega
theorem s_add (s t : ByteArray) (m n : Nat) (w : World) (hm : num s.data.toList = m) (hn : num t.data.toList = n) (h1 : s.size ≤ 1000000000000) (h2 : t.size ≤ 1000000000000) : Gives 21 #[.string s, .string t] w (.string (S (m + n))) := by
  subst hm hn; exact add_any s t w h1 h2
theorem s_mul (s t : ByteArray) (m n : Nat) (w : World) (hm : num s.data.toList = m) (hn : num t.data.toList = n) (h1 : s.size ≤ 1000000000000) (h2 : t.size ≤ 1000000000000) : Gives 10 #[.string s, .string t] w (.string (S (m * n))) := by
  subst hm hn; exact mul_any s t w h1 h2
theorem s_sub (s t : ByteArray) (m n : Nat) (w : World) (hm : num s.data.toList = m) (hn : num t.data.toList = n) (h : n ≤ m) (h1 : s.size ≤ 1000000000000) (h2 : t.size ≤ 1000000000000) : Gives 20 #[.string s, .string t] w (.tuple #[.string (S (m - n)), .bool true]) := by
  subst hm hn; exact sub_yes s t w h h1 h2
theorem s_canon (s : ByteArray) (m : Nat) (w : World) (hm : num s.data.toList = m) (h1 : s.size ≤ 1000000000000) : Gives 22 #[.string s] w (.string (S m)) := by
  subst hm
  refine (canon_any s w h1).mono ?_
  rintro e w' ⟨rfl, rfl⟩
  exact ⟨by unfold S; rw [enc_num_canon], World.grownBy.refl _ _⟩
theorem bnum (a : ByteArray) (h : a.size ≤ 40) : num a.data.toList < 256 ^ 40 := by
  have h1 := num_lt a.data.toList
  rw [len_toList] at h1
  have h2 := Nat.pow_le_pow_right (n := 256) (by decide) h
  omega
theorem sz_add {A B : Nat} (hA : A < 256 ^ 40) (hB : B < 256 ^ 40) : A + B < 256 ^ 200 := by
  have h : 256 ^ 40 + 256 ^ 40 ≤ 256 ^ 200 := by decide
  omega
theorem sz_mul {A B : Nat} (hA : A < 256 ^ 40) (hB : B < 256 ^ 40) : A * B < 256 ^ 200 := by
  have h : 256 ^ 40 * 256 ^ 40 ≤ 256 ^ 200 := by decide
  exact Nat.lt_of_lt_of_le (Nat.mul_lt_mul'' hA hB) h
/-- What concordref01.Made makes of an argument. -/
def MadeAs (w : World) (v : Value) (a : ByteArray) : Prop := ∀ w', w.grownBy w' none → Calls Tryd.prog 9 #[v] w' fun e w'' => e = .returned (.string a) ∧ w' = w''

set_option maxHeartbeats 8000000 in
set_option maxRecDepth 100000 in
theorem ring_true (vx vy vz : Value) (a b c : ByteArray) (w : World) (htab : Tab w) (hx : MadeAs w vx a) (hy : MadeAs w vy b) (hz : MadeAs w vz c) (hsa : a.size ≤ 40) (hsb : b.size ≤ 40) (hsc : c.size ≤ 40) :
    Gives 5 #[vx, vy, vz] w (.bool true) := by
  have ha : a.size ≤ 1000000000000 := by omega
  have hb : b.size ≤ 1000000000000 := by omega
  have hc : c.size ≤ 1000000000000 := by omega
  have pa := bnum a hsa
  have pb := bnum b hsb
  have pc := bnum c hsc
  obtain ⟨A, hA⟩ : ∃ A, A = num a.data.toList := ⟨_, rfl⟩
  obtain ⟨B, hB⟩ : ∃ B, B = num b.data.toList := ⟨_, rfl⟩
  obtain ⟨C, hC⟩ : ∃ C, C = num c.data.toList := ⟨_, rfl⟩
  rw [← hA] at pa
  rw [← hB] at pb
  rw [← hC] at pc
  have PA := Lib.hid pa
  have PB := Lib.hid pb
  have PC := Lib.hid pc
  have HA := Lib.hid hA.symm
  have HB := Lib.hid hB.symm
  have HC := Lib.hid hC.symm
  clear pa pb pc hA hB hC
  have q1 := Lib.hid (sz_add PA.out PB.out)
  have q2 := Lib.hid (sz_add PB.out PC.out)
  have q3 := Lib.hid (sz_mul PA.out PB.out)
  have q4 := Lib.hid (sz_mul PB.out PC.out)
  have q5 := Lib.hid (sz_mul PA.out PC.out)
  go_enter Tryd.func5, Tryd.ntmps5
  go_wp2_with fail
  refine (sanity_true _ htab).mono ?_
  rintro e w0 ⟨rfl, h0⟩
  have hg := h0
  go_wp2_with fail
  refine (hx _ hg).mono ?_
  rintro e w1 ⟨rfl, rfl⟩
  go_wp2_with fail
  refine (hy _ hg).mono ?_
  rintro e w2 ⟨rfl, rfl⟩
  go_wp2_with fail
  refine (hz _ hg).mono ?_
  rintro e w3 ⟨rfl, rfl⟩
  go_wp2_with fail
  refine (s_add a b (A) (B) _ HA.out HB.out ha hb).mono ?_
  rintro e w4 ⟨rfl, h4⟩
  have hg := gr_then hg h4
  clear h4
  go_wp2_with fail
  refine (s_sub (S (A + B)) b (A + B) B _ (s_num _) HB.out (Nat.le_add_left _ _) (s_size q1.out) hb).mono ?_
  rintro e w5 ⟨rfl, h5⟩
  have hg := gr_then hg h5
  clear h5
  rw [show A + B - B = A from by omega]
  go_wp2_with fail
  refine (s_add a b (A) (B) _ HA.out HB.out ha hb).mono ?_
  rintro e w6 ⟨rfl, h6⟩
  have hg := gr_then hg h6
  clear h6
  go_wp2_with fail
  refine (s_add b a (B) (A) _ HB.out HA.out hb ha).mono ?_
  rintro e w7 ⟨rfl, h7⟩
  have hg := gr_then hg h7
  clear h7
  rw [Nat.add_comm B A]
  go_wp2_with fail
  refine (s_mul a b (A) (B) _ HA.out HB.out ha hb).mono ?_
  rintro e w8 ⟨rfl, h8⟩
  have hg := gr_then hg h8
  clear h8
  go_wp2_with fail
  refine (s_mul b a (B) (A) _ HB.out HA.out hb ha).mono ?_
  rintro e w9 ⟨rfl, h9⟩
  have hg := gr_then hg h9
  clear h9
  rw [Nat.mul_comm B A]
  go_wp2_with fail
  refine (s_canon a A _ HA.out ha).mono ?_
  rintro e w10 ⟨rfl, h10⟩
  have hg := gr_then hg h10
  clear h10
  go_wp2_with fail
  refine (s_add a b (A) (B) _ HA.out HB.out ha hb).mono ?_
  rintro e w11 ⟨rfl, h11⟩
  have hg := gr_then hg h11
  clear h11
  go_wp2_with fail
  refine (s_add (S (A + B)) c (A + B) (C) _ (s_num _) HC.out (s_size q1.out) hc).mono ?_
  rintro e w12 ⟨rfl, h12⟩
  have hg := gr_then hg h12
  clear h12
  go_wp2_with fail
  refine (s_add b c (B) (C) _ HB.out HC.out hb hc).mono ?_
  rintro e w13 ⟨rfl, h13⟩
  have hg := gr_then hg h13
  clear h13
  go_wp2_with fail
  refine (s_add a (S (B + C)) (A) (B + C) _ HA.out (s_num _) ha (s_size q2.out)).mono ?_
  rintro e w14 ⟨rfl, h14⟩
  have hg := gr_then hg h14
  clear h14
  rw [show A + (B + C) = A + B + C from by omega]
  go_wp2_with fail
  refine (s_mul a b (A) (B) _ HA.out HB.out ha hb).mono ?_
  rintro e w15 ⟨rfl, h15⟩
  have hg := gr_then hg h15
  clear h15
  go_wp2_with fail
  refine (s_mul (S (A * B)) c (A * B) (C) _ (s_num _) HC.out (s_size q3.out) hc).mono ?_
  rintro e w16 ⟨rfl, h16⟩
  have hg := gr_then hg h16
  clear h16
  go_wp2_with fail
  refine (s_mul b c (B) (C) _ HB.out HC.out hb hc).mono ?_
  rintro e w17 ⟨rfl, h17⟩
  have hg := gr_then hg h17
  clear h17
  go_wp2_with fail
  refine (s_mul a (S (B * C)) (A) (B * C) _ HA.out (s_num _) ha (s_size q4.out)).mono ?_
  rintro e w18 ⟨rfl, h18⟩
  have hg := gr_then hg h18
  clear h18
  rw [show A * (B * C) = A * B * C from (Nat.mul_assoc _ _ _).symm]
  go_wp2_with fail
  refine (s_add b c (B) (C) _ HB.out HC.out hb hc).mono ?_
  rintro e w19 ⟨rfl, h19⟩
  have hg := gr_then hg h19
  clear h19
  go_wp2_with fail
  refine (s_mul a (S (B + C)) (A) (B + C) _ HA.out (s_num _) ha (s_size q2.out)).mono ?_
  rintro e w20 ⟨rfl, h20⟩
  have hg := gr_then hg h20
  clear h20
  go_wp2_with fail
  refine (s_mul a b (A) (B) _ HA.out HB.out ha hb).mono ?_
  rintro e w21 ⟨rfl, h21⟩
  have hg := gr_then hg h21
  clear h21
  go_wp2_with fail
  refine (s_mul a c (A) (C) _ HA.out HC.out ha hc).mono ?_
  rintro e w22 ⟨rfl, h22⟩
  have hg := gr_then hg h22
  clear h22
  go_wp2_with fail
  refine (s_add (S (A * B)) (S (A * C)) (A * B) (A * C) _ (s_num _) (s_num _) (s_size q3.out) (s_size q5.out)).mono ?_
  rintro e w23 ⟨rfl, h23⟩
  have hg := gr_then hg h23
  clear h23
  rw [show A * B + A * C = A * (B + C) from (Nat.mul_add _ _ _).symm]
  go_wp2_with fail
  refine (s_mul a ⟨#[]⟩ A 0 _ HA.out rfl ha (by decide)).mono ?_
  rintro e w24 ⟨rfl, h24⟩
  have hg := gr_then hg h24
  clear h24
  rw [show A * 0 = 0 from rfl]
  rw [show S 0 = ⟨#[]⟩ from s_zero]
  go_wp2_with fail
  refine (s_mul a ⟨#[1]⟩ A 1 _ HA.out (by decide) ha (by decide)).mono ?_
  rintro e w25 ⟨rfl, h25⟩
  have hg := gr_then hg h25
  clear h25
  rw [Nat.mul_one A]
  go_wp2
  go_ret
  exact ⟨rfl, hg⟩
end Go.Proofs.YtednijejgadmnaaDoor
