/- The calls that the sanity check makes, each with its answer. -/
import Derived.Test.YtednijejgadmnaaDoorPowO
import Derived.Test.YtednijejgadmnaaDoorIsText
import Derived.Test.YtednijejgadmnaaDoorText
import Derived.Test.YtednijejgadmnaaDoorGcd
namespace Go.Proofs.YtednijejgadmnaaDoor
open Go.RowKit Mth

abbrev Gives (f : FuncId) (args : Array Value) (w : World) (v : Value) : Prop := Calls Tryd.prog f args w fun e w' => e = .returned v ∧ w.grownBy w' none
theorem lit_of (n : Nat) (bs : List UInt8) (h : n ≤ 9223372036854775807) (hb : enc n = bs) (w : World) : Gives 12 #[.int .i64 (n : Int)] w (.string ⟨bs.toArray⟩) := by
  subst hb; exact of_any n w h
theorem lit_of_neg (w : World) : Gives 12 #[.int .i64 (-1)] w (.string ⟨#[]⟩) := by
  refine (of_neg (-1) w (by decide)).mono ?_
  rintro e w' ⟨h, rfl⟩
  exact ⟨h, World.grownBy.refl _ _⟩
theorem lit_int (w : World) : Gives 13 #[.string ⟨#[0, 1, 0]⟩] w (.tuple #[.int .i64 256, .bool true]) :=
  int_yes ⟨#[0, 1, 0]⟩ w (by decide) (by decide)
theorem lit_sub_no (w : World) : Gives 20 #[.string ⟨#[3]⟩, .string ⟨#[5]⟩] w (.tuple #[.string ⟨#[]⟩, .bool false]) :=
  sub_no ⟨#[3]⟩ ⟨#[5]⟩ w (by decide)
theorem lit_sub_yes (w : World) : Gives 20 #[.string ⟨#[5]⟩, .string ⟨#[3]⟩] w (.tuple #[.string ⟨#[2]⟩, .bool true]) := by
  have h := sub_yes ⟨#[5]⟩ ⟨#[3]⟩ w (by decide) (by decide) (by decide)
  rw [show enc (num (⟨#[5]⟩ : ByteArray).data.toList - num (⟨#[3]⟩ : ByteArray).data.toList) = [2] from by decide +kernel] at h
  exact h
theorem lit_quo (w : World) : Gives 23 #[.string ⟨#[3, 232]⟩, .string ⟨#[7]⟩] w (.tuple #[.string ⟨#[142]⟩, .string ⟨#[6]⟩, .bool true]) := by
  have h := quo_any ⟨#[3, 232]⟩ ⟨#[7]⟩ w (by decide) (by decide) (by decide) (.inr (by decide))
  rw [show enc (num (⟨#[3, 232]⟩ : ByteArray).data.toList / num (⟨#[7]⟩ : ByteArray).data.toList) = [142] from by decide +kernel, show enc (num (⟨#[3, 232]⟩ : ByteArray).data.toList % num (⟨#[7]⟩ : ByteArray).data.toList) = [6] from by decide +kernel] at h
  exact h
theorem lit_gcd (w : World) : Gives 26 #[.string ⟨#[12]⟩, .string ⟨#[18]⟩] w (.string ⟨#[6]⟩) := by
  have h := gcd_word ⟨#[12]⟩ ⟨#[18]⟩ w (by decide) (by decide) (by decide) (by decide)
  rw [show enc (Nat.gcd (num (⟨#[12]⟩ : ByteArray).data.toList) (num (⟨#[18]⟩ : ByteArray).data.toList)) = [6] from by decide +kernel] at h
  exact h
theorem lit_gcd0 (w : World) : Gives 26 #[.string ⟨#[]⟩, .string ⟨#[5]⟩] w (.string ⟨#[5]⟩) := by
  have h := gcd_word ⟨#[]⟩ ⟨#[5]⟩ w (by decide) (by decide) (by decide) (by decide)
  rw [show enc (Nat.gcd (num (⟨#[]⟩ : ByteArray).data.toList) (num (⟨#[5]⟩ : ByteArray).data.toList)) = [5] from by decide +kernel] at h
  exact h
theorem lit_pow (w : World) : Gives 25 #[.string ⟨#[3]⟩, .string ⟨#[200]⟩, .string ⟨#[3, 232]⟩] w (.tuple #[.string ⟨#[1]⟩, .bool true]) := by
  have h := pow_even ⟨#[3]⟩ ⟨#[200]⟩ ⟨#[3, 232]⟩ w (by decide) (by decide) (by decide) (by decide) (by decide) (by decide)
  rw [show enc (accP (num (⟨#[3, 232]⟩ : ByteArray).data.toList) (num (⟨#[3]⟩ : ByteArray).data.toList % num (⟨#[3, 232]⟩ : ByteArray).data.toList) (bitsTop (num (⟨#[200]⟩ : ByteArray).data.toList) (bitsN (num (⟨#[200]⟩ : ByteArray).data.toList)))) = [1] from by decide +kernel] at h
  exact h
theorem lit_pow1 (w : World) : Gives 25 #[.string ⟨#[5]⟩, .string ⟨#[]⟩, .string ⟨#[1]⟩] w (.tuple #[.string ⟨#[]⟩, .bool true]) := by
  have h := pow_odd ⟨#[5]⟩ ⟨#[]⟩ ⟨#[1]⟩ w (by decide) (by decide) (by decide) (by decide) (by decide) (by decide)
  rw [show enc (accP (num (⟨#[1]⟩ : ByteArray).data.toList) (num (⟨#[5]⟩ : ByteArray).data.toList % num (⟨#[1]⟩ : ByteArray).data.toList) (bitsTop (num (⟨#[]⟩ : ByteArray).data.toList) (bitsN (num (⟨#[]⟩ : ByteArray).data.toList)))) = [] from by decide +kernel] at h
  exact h
theorem lit_parse (w : World) : Gives 27 #[.string ⟨#[48, 48, 55]⟩] w (.tuple #[.string ⟨#[]⟩, .bool false]) :=
  parse_no ⟨#[48, 48, 55]⟩ w (by decide) (by decide)
theorem lit_text (w : World) (htab : Tab w) : Gives 28 #[.string ⟨#[1, 0, 0]⟩] w (.string ⟨#[54, 53, 53, 51, 54]⟩) := by
  have h := text_any ⟨#[1, 0, 0]⟩ w (by decide) htab
  rw [show Lib.decDigits (num (⟨#[1, 0, 0]⟩ : ByteArray).data.toList) = [54, 53, 53, 51, 54] from by decide +kernel] at h
  exact h

theorem lit_bits (n : Nat) (bs : List UInt8) (k : Nat) (w : World) (hn : num bs = n := by decide) (hk : bitsN n = k := by decide) (hs : bs.length ≤ 1000000000000 := by decide) : Gives 16 #[.string ⟨bs.toArray⟩] w (.int .i64 (k : Int)) := by
  subst hn hk
  refine (bits_any ⟨bs.toArray⟩ w (by show bs.toArray.size ≤ _; simpa using hs)).mono ?_
  rintro e w' ⟨h, rfl⟩
  exact ⟨by simpa using h, World.grownBy.refl _ _⟩

set_option maxHeartbeats 8000000 in
set_option maxRecDepth 100000 in
theorem sanity_true (w : World) (htab : Tab w) : Gives 8 #[] w (.bool true) := by
  go_enter Tryd.func8, Tryd.ntmps8
  go_wp2_with fail
  refine (lit_int _).mono ?_
  rintro e w0 ⟨rfl, h0⟩
  have hg := h0
  go_wp2_with fail
  refine (lit_of 256 [1, 0] (by decide) (by decide +kernel) _).mono ?_
  rintro e w1 ⟨rfl, h1⟩
  have hg := gr_then hg h1
  clear h1
  go_wp2_with fail
  refine (lit_of_neg _).mono ?_
  rintro e w2 ⟨rfl, h2⟩
  have hg := gr_then hg h2
  clear h2
  go_wp2_with fail
  refine (lit_of 3 [3] (by decide) (by decide +kernel) _).mono ?_
  rintro e w3 ⟨rfl, h3⟩
  have hg := gr_then hg h3
  clear h3
  go_wp2_with fail
  refine (lit_of 5 [5] (by decide) (by decide +kernel) _).mono ?_
  rintro e w4 ⟨rfl, h4⟩
  have hg := gr_then hg h4
  clear h4
  go_wp2_with fail
  refine (lit_sub_no _).mono ?_
  rintro e w5 ⟨rfl, h5⟩
  have hg := gr_then hg h5
  clear h5
  go_wp2_with fail
  refine (lit_of 5 [5] (by decide) (by decide +kernel) _).mono ?_
  rintro e w6 ⟨rfl, h6⟩
  have hg := gr_then hg h6
  clear h6
  go_wp2_with fail
  refine (lit_of 3 [3] (by decide) (by decide +kernel) _).mono ?_
  rintro e w7 ⟨rfl, h7⟩
  have hg := gr_then hg h7
  clear h7
  go_wp2_with fail
  refine (lit_sub_yes _).mono ?_
  rintro e w8 ⟨rfl, h8⟩
  have hg := gr_then hg h8
  clear h8
  go_wp2_with fail
  refine (lit_of 1000 [3, 232] (by decide) (by decide +kernel) _).mono ?_
  rintro e w9 ⟨rfl, h9⟩
  have hg := gr_then hg h9
  clear h9
  go_wp2_with fail
  refine (lit_of 7 [7] (by decide) (by decide +kernel) _).mono ?_
  rintro e w10 ⟨rfl, h10⟩
  have hg := gr_then hg h10
  clear h10
  go_wp2_with fail
  refine (lit_quo _).mono ?_
  rintro e w11 ⟨rfl, h11⟩
  have hg := gr_then hg h11
  clear h11
  go_wp2_with fail
  refine (lit_of 2 [2] (by decide) (by decide +kernel) _).mono ?_
  rintro e w12 ⟨rfl, h12⟩
  have hg := gr_then hg h12
  clear h12
  go_wp2_with fail
  refine (lit_of 142 [142] (by decide) (by decide +kernel) _).mono ?_
  rintro e w13 ⟨rfl, h13⟩
  have hg := gr_then hg h13
  clear h13
  go_wp2_with fail
  refine (lit_of 6 [6] (by decide) (by decide +kernel) _).mono ?_
  rintro e w14 ⟨rfl, h14⟩
  have hg := gr_then hg h14
  clear h14
  go_wp2_with fail
  refine (lit_of 12 [12] (by decide) (by decide +kernel) _).mono ?_
  rintro e w15 ⟨rfl, h15⟩
  have hg := gr_then hg h15
  clear h15
  go_wp2_with fail
  refine (lit_of 18 [18] (by decide) (by decide +kernel) _).mono ?_
  rintro e w16 ⟨rfl, h16⟩
  have hg := gr_then hg h16
  clear h16
  go_wp2_with fail
  refine (lit_gcd _).mono ?_
  rintro e w17 ⟨rfl, h17⟩
  have hg := gr_then hg h17
  clear h17
  go_wp2_with fail
  refine (lit_of 6 [6] (by decide) (by decide +kernel) _).mono ?_
  rintro e w18 ⟨rfl, h18⟩
  have hg := gr_then hg h18
  clear h18
  go_wp2_with fail
  refine (lit_of 5 [5] (by decide) (by decide +kernel) _).mono ?_
  rintro e w19 ⟨rfl, h19⟩
  have hg := gr_then hg h19
  clear h19
  go_wp2_with fail
  refine (lit_gcd0 _).mono ?_
  rintro e w20 ⟨rfl, h20⟩
  have hg := gr_then hg h20
  clear h20
  go_wp2_with fail
  refine (lit_of 5 [5] (by decide) (by decide +kernel) _).mono ?_
  rintro e w21 ⟨rfl, h21⟩
  have hg := gr_then hg h21
  clear h21
  go_wp2_with fail
  refine (lit_of 3 [3] (by decide) (by decide +kernel) _).mono ?_
  rintro e w22 ⟨rfl, h22⟩
  have hg := gr_then hg h22
  clear h22
  go_wp2_with fail
  refine (lit_of 200 [200] (by decide) (by decide +kernel) _).mono ?_
  rintro e w23 ⟨rfl, h23⟩
  have hg := gr_then hg h23
  clear h23
  go_wp2_with fail
  refine (lit_of 1000 [3, 232] (by decide) (by decide +kernel) _).mono ?_
  rintro e w24 ⟨rfl, h24⟩
  have hg := gr_then hg h24
  clear h24
  go_wp2_with fail
  refine (lit_pow _).mono ?_
  rintro e w25 ⟨rfl, h25⟩
  have hg := gr_then hg h25
  clear h25
  go_wp2_with fail
  refine (lit_of 5 [5] (by decide) (by decide +kernel) _).mono ?_
  rintro e w26 ⟨rfl, h26⟩
  have hg := gr_then hg h26
  clear h26
  go_wp2_with fail
  refine (lit_of 1 [1] (by decide) (by decide +kernel) _).mono ?_
  rintro e w27 ⟨rfl, h27⟩
  have hg := gr_then hg h27
  clear h27
  go_wp2_with fail
  refine (lit_pow1 _).mono ?_
  rintro e w28 ⟨rfl, h28⟩
  have hg := gr_then hg h28
  clear h28
  go_wp2_with fail
  refine (lit_parse _).mono ?_
  rintro e w29 ⟨rfl, h29⟩
  have hg := gr_then hg h29
  clear h29
  go_wp2_with fail
  refine (lit_of 255 [255] (by decide) (by decide +kernel) _).mono ?_
  rintro e w30 ⟨rfl, h30⟩
  have hg := gr_then hg h30
  clear h30
  go_wp2_with fail
  refine (lit_bits 255 [255] 8 _).mono ?_
  rintro e w31 ⟨rfl, h31⟩
  have hg := gr_then hg h31
  clear h31
  go_wp2_with fail
  refine (lit_of 256 [1, 0] (by decide) (by decide +kernel) _).mono ?_
  rintro e w32 ⟨rfl, h32⟩
  have hg := gr_then hg h32
  clear h32
  go_wp2_with fail
  refine (lit_bits 256 [1, 0] 9 _).mono ?_
  rintro e w33 ⟨rfl, h33⟩
  have hg := gr_then hg h33
  clear h33
  go_wp2_with fail
  refine (lit_of 1 [1] (by decide) (by decide +kernel) _).mono ?_
  rintro e w34 ⟨rfl, h34⟩
  have hg := gr_then hg h34
  clear h34
  go_wp2_with fail
  refine (lit_text _ (tab_gr htab hg)).mono ?_
  rintro e w35 ⟨rfl, h35⟩
  have hg := gr_then hg h35
  clear h35
  go_wp2
  go_ret
  exact ⟨rfl, hg⟩
end Go.Proofs.YtednijejgadmnaaDoor
