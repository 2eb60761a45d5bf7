/- Contracts of package nat and of the reference, part 10: Lits, MulN, GcdG, Calls, RefA, RefP, MthT. -/
import Derived.Test.YtoadjhmehgkeaaaGreatDoorETexts9
namespace Go.Proofs.YtoadjhmehgkeaaaGreatDoor
open Go.RowKit Mth

abbrev Gives (f : FuncId) (args : Array Value) (w : World) (v : Value) : Prop := Calls Tryz.prog f args w fun e w' => e = .returned v ∧ w.grownBy w' none
theorem lit_of (n : Nat) (bs : List UInt8) (h : n ≤ 9223372036854775807) (hb : enc n = bs) (w : World) : Gives 69 #[.int .i64 (n : Int)] w (.string ⟨bs.toArray⟩) := by
  subst hb; exact of_any n w h
theorem lit_of_neg (w : World) : Gives 69 #[.int .i64 (-1)] w (.string ⟨#[]⟩) := by
  refine (of_neg (-1) w (by decide)).mono ?_
  rintro e w' ⟨h, rfl⟩
  exact ⟨h, World.grownBy.refl _ _⟩
theorem lit_int (w : World) : Gives 68 #[.string ⟨#[0, 1, 0]⟩] w (.tuple #[.int .i64 256, .bool true]) :=
  int_yes ⟨#[0, 1, 0]⟩ w (by decide) (by decide)
theorem lit_sub_no (w : World) : Gives 16 #[.string ⟨#[3]⟩, .string ⟨#[5]⟩] w (.tuple #[.string ⟨#[]⟩, .bool false]) :=
  sub_no ⟨#[3]⟩ ⟨#[5]⟩ w (by decide)
theorem lit_sub_yes (w : World) : Gives 16 #[.string ⟨#[5]⟩, .string ⟨#[3]⟩] w (.tuple #[.string ⟨#[2]⟩, .bool true]) := by
  have h := sub_yes ⟨#[5]⟩ ⟨#[3]⟩ w (by decide) (by decide) (by decide)
  rw [show enc (num (⟨#[5]⟩ : ByteArray).data.toList - num (⟨#[3]⟩ : ByteArray).data.toList) = [2] from by decide +kernel] at h
  exact h
theorem lit_quo (w : World) : Gives 26 #[.string ⟨#[3, 232]⟩, .string ⟨#[7]⟩] w (.tuple #[.string ⟨#[142]⟩, .string ⟨#[6]⟩, .bool true]) := by
  have h := quo_any ⟨#[3, 232]⟩ ⟨#[7]⟩ w (by decide) (by decide) (by decide) (.inr (by decide))
  rw [show enc (num (⟨#[3, 232]⟩ : ByteArray).data.toList / num (⟨#[7]⟩ : ByteArray).data.toList) = [142] from by decide +kernel, show enc (num (⟨#[3, 232]⟩ : ByteArray).data.toList % num (⟨#[7]⟩ : ByteArray).data.toList) = [6] from by decide +kernel] at h
  exact h
theorem lit_gcd (w : World) : Gives 28 #[.string ⟨#[12]⟩, .string ⟨#[18]⟩] w (.string ⟨#[6]⟩) := by
  have h := gcd_word ⟨#[12]⟩ ⟨#[18]⟩ w (by decide) (by decide) (by decide) (by decide)
  rw [show enc (Nat.gcd (num (⟨#[12]⟩ : ByteArray).data.toList) (num (⟨#[18]⟩ : ByteArray).data.toList)) = [6] from by decide +kernel] at h
  exact h
theorem lit_gcd0 (w : World) : Gives 28 #[.string ⟨#[]⟩, .string ⟨#[5]⟩] w (.string ⟨#[5]⟩) := by
  have h := gcd_word ⟨#[]⟩ ⟨#[5]⟩ w (by decide) (by decide) (by decide) (by decide)
  rw [show enc (Nat.gcd (num (⟨#[]⟩ : ByteArray).data.toList) (num (⟨#[5]⟩ : ByteArray).data.toList)) = [5] from by decide +kernel] at h
  exact h
theorem lit_pow (w : World) : Gives 30 #[.string ⟨#[3]⟩, .string ⟨#[200]⟩, .string ⟨#[3, 232]⟩] w (.tuple #[.string ⟨#[1]⟩, .bool true]) := by
  have h := pow_even ⟨#[3]⟩ ⟨#[200]⟩ ⟨#[3, 232]⟩ w (by decide) (by decide) (by decide) (by decide) (by decide)
  rw [show enc (accP (num (⟨#[3, 232]⟩ : ByteArray).data.toList) (num (⟨#[3]⟩ : ByteArray).data.toList % num (⟨#[3, 232]⟩ : ByteArray).data.toList) (bitsTop (num (⟨#[200]⟩ : ByteArray).data.toList) (bitsN (num (⟨#[200]⟩ : ByteArray).data.toList)))) = [1] from by decide +kernel] at h
  exact h
theorem lit_pow1 (w : World) : Gives 30 #[.string ⟨#[5]⟩, .string ⟨#[]⟩, .string ⟨#[1]⟩] w (.tuple #[.string ⟨#[]⟩, .bool true]) := by
  have h := pow_odd ⟨#[5]⟩ ⟨#[]⟩ ⟨#[1]⟩ w (by decide) (by decide) (by decide) (by decide) (by decide)
  rw [show enc (accP (num (⟨#[1]⟩ : ByteArray).data.toList) (num (⟨#[5]⟩ : ByteArray).data.toList % num (⟨#[1]⟩ : ByteArray).data.toList) (bitsTop (num (⟨#[]⟩ : ByteArray).data.toList) (bitsN (num (⟨#[]⟩ : ByteArray).data.toList)))) = [] from by decide +kernel] at h
  exact h
theorem lit_parse (w : World) : Gives 33 #[.string ⟨#[48, 48, 55]⟩] w (.tuple #[.string ⟨#[]⟩, .bool false]) :=
  parse_no ⟨#[48, 48, 55]⟩ w (by decide) (by decide)
theorem lit_text (w : World) (htab : Tab w) : Gives 32 #[.string ⟨#[1, 0, 0]⟩] w (.string ⟨#[54, 53, 53, 51, 54]⟩) := by
  have h := text_any ⟨#[1, 0, 0]⟩ w (by decide) htab
  rw [show Lib.decDigits (num (⟨#[1, 0, 0]⟩ : ByteArray).data.toList) = [54, 53, 53, 51, 54] from by decide +kernel] at h
  exact h

theorem lit_bits (n : Nat) (bs : List UInt8) (k : Nat) (w : World) (hn : num bs = n := by decide) (hk : bitsN n = k := by decide) (hs : bs.length ≤ 1000000000000 := by decide) : Gives 70 #[.string ⟨bs.toArray⟩] w (.int .i64 (k : Int)) := by
  subst hn hk
  refine (bits_any ⟨bs.toArray⟩ w (by show bs.toArray.size ≤ _; simpa using hs)).mono ?_
  rintro e w' ⟨h, rfl⟩
  exact ⟨by simpa using h, World.grownBy.refl _ _⟩

set_option maxHeartbeats 8000000 in
set_option maxRecDepth 100000 in
theorem sanity_true (w : World) (htab : Tab w) : Gives 14 #[] w (.bool true) := by
  go_enter Tryz.func14, Tryz.ntmps14
  go_wp2_with fail
  refine (lit_int _).mono ?_
  rintro e w0 ⟨rfl, h0⟩
  have hg := h0
  go_wp2_with fail
  refine (lit_of 256 [1, 0] (by decide) (by decide +kernel) _).mono ?_
  rintro e w1 ⟨rfl, h1⟩
  have hg := gr_then hg h1
  clear h1
  go_wp2_with fail
  refine (lit_of_neg _).mono ?_
  rintro e w2 ⟨rfl, h2⟩
  have hg := gr_then hg h2
  clear h2
  go_wp2_with fail
  refine (lit_of 3 [3] (by decide) (by decide +kernel) _).mono ?_
  rintro e w3 ⟨rfl, h3⟩
  have hg := gr_then hg h3
  clear h3
  go_wp2_with fail
  refine (lit_of 5 [5] (by decide) (by decide +kernel) _).mono ?_
  rintro e w4 ⟨rfl, h4⟩
  have hg := gr_then hg h4
  clear h4
  go_wp2_with fail
  refine (lit_sub_no _).mono ?_
  rintro e w5 ⟨rfl, h5⟩
  have hg := gr_then hg h5
  clear h5
  go_wp2_with fail
  refine (lit_of 5 [5] (by decide) (by decide +kernel) _).mono ?_
  rintro e w6 ⟨rfl, h6⟩
  have hg := gr_then hg h6
  clear h6
  go_wp2_with fail
  refine (lit_of 3 [3] (by decide) (by decide +kernel) _).mono ?_
  rintro e w7 ⟨rfl, h7⟩
  have hg := gr_then hg h7
  clear h7
  go_wp2_with fail
  refine (lit_sub_yes _).mono ?_
  rintro e w8 ⟨rfl, h8⟩
  have hg := gr_then hg h8
  clear h8
  go_wp2_with fail
  refine (lit_of 1000 [3, 232] (by decide) (by decide +kernel) _).mono ?_
  rintro e w9 ⟨rfl, h9⟩
  have hg := gr_then hg h9
  clear h9
  go_wp2_with fail
  refine (lit_of 7 [7] (by decide) (by decide +kernel) _).mono ?_
  rintro e w10 ⟨rfl, h10⟩
  have hg := gr_then hg h10
  clear h10
  go_wp2_with fail
  refine (lit_quo _).mono ?_
  rintro e w11 ⟨rfl, h11⟩
  have hg := gr_then hg h11
  clear h11
  go_wp2_with fail
  refine (lit_of 2 [2] (by decide) (by decide +kernel) _).mono ?_
  rintro e w12 ⟨rfl, h12⟩
  have hg := gr_then hg h12
  clear h12
  go_wp2_with fail
  refine (lit_of 142 [142] (by decide) (by decide +kernel) _).mono ?_
  rintro e w13 ⟨rfl, h13⟩
  have hg := gr_then hg h13
  clear h13
  go_wp2_with fail
  refine (lit_of 6 [6] (by decide) (by decide +kernel) _).mono ?_
  rintro e w14 ⟨rfl, h14⟩
  have hg := gr_then hg h14
  clear h14
  go_wp2_with fail
  refine (lit_of 12 [12] (by decide) (by decide +kernel) _).mono ?_
  rintro e w15 ⟨rfl, h15⟩
  have hg := gr_then hg h15
  clear h15
  go_wp2_with fail
  refine (lit_of 18 [18] (by decide) (by decide +kernel) _).mono ?_
  rintro e w16 ⟨rfl, h16⟩
  have hg := gr_then hg h16
  clear h16
  go_wp2_with fail
  refine (lit_gcd _).mono ?_
  rintro e w17 ⟨rfl, h17⟩
  have hg := gr_then hg h17
  clear h17
  go_wp2_with fail
  refine (lit_of 6 [6] (by decide) (by decide +kernel) _).mono ?_
  rintro e w18 ⟨rfl, h18⟩
  have hg := gr_then hg h18
  clear h18
  go_wp2_with fail
  refine (lit_of 5 [5] (by decide) (by decide +kernel) _).mono ?_
  rintro e w19 ⟨rfl, h19⟩
  have hg := gr_then hg h19
  clear h19
  go_wp2_with fail
  refine (lit_gcd0 _).mono ?_
  rintro e w20 ⟨rfl, h20⟩
  have hg := gr_then hg h20
  clear h20
  go_wp2_with fail
  refine (lit_of 5 [5] (by decide) (by decide +kernel) _).mono ?_
  rintro e w21 ⟨rfl, h21⟩
  have hg := gr_then hg h21
  clear h21
  go_wp2_with fail
  refine (lit_of 3 [3] (by decide) (by decide +kernel) _).mono ?_
  rintro e w22 ⟨rfl, h22⟩
  have hg := gr_then hg h22
  clear h22
  go_wp2_with fail
  refine (lit_of 200 [200] (by decide) (by decide +kernel) _).mono ?_
  rintro e w23 ⟨rfl, h23⟩
  have hg := gr_then hg h23
  clear h23
  go_wp2_with fail
  refine (lit_of 1000 [3, 232] (by decide) (by decide +kernel) _).mono ?_
  rintro e w24 ⟨rfl, h24⟩
  have hg := gr_then hg h24
  clear h24
  go_wp2_with fail
  refine (lit_pow _).mono ?_
  rintro e w25 ⟨rfl, h25⟩
  have hg := gr_then hg h25
  clear h25
  go_wp2_with fail
  refine (lit_of 5 [5] (by decide) (by decide +kernel) _).mono ?_
  rintro e w26 ⟨rfl, h26⟩
  have hg := gr_then hg h26
  clear h26
  go_wp2_with fail
  refine (lit_of 1 [1] (by decide) (by decide +kernel) _).mono ?_
  rintro e w27 ⟨rfl, h27⟩
  have hg := gr_then hg h27
  clear h27
  go_wp2_with fail
  refine (lit_pow1 _).mono ?_
  rintro e w28 ⟨rfl, h28⟩
  have hg := gr_then hg h28
  clear h28
  go_wp2_with fail
  refine (lit_parse _).mono ?_
  rintro e w29 ⟨rfl, h29⟩
  have hg := gr_then hg h29
  clear h29
  go_wp2_with fail
  refine (lit_of 255 [255] (by decide) (by decide +kernel) _).mono ?_
  rintro e w30 ⟨rfl, h30⟩
  have hg := gr_then hg h30
  clear h30
  go_wp2_with fail
  refine (lit_bits 255 [255] 8 _).mono ?_
  rintro e w31 ⟨rfl, h31⟩
  have hg := gr_then hg h31
  clear h31
  go_wp2_with fail
  refine (lit_of 256 [1, 0] (by decide) (by decide +kernel) _).mono ?_
  rintro e w32 ⟨rfl, h32⟩
  have hg := gr_then hg h32
  clear h32
  go_wp2_with fail
  refine (lit_bits 256 [1, 0] 9 _).mono ?_
  rintro e w33 ⟨rfl, h33⟩
  have hg := gr_then hg h33
  clear h33
  go_wp2_with fail
  refine (lit_of 1 [1] (by decide) (by decide +kernel) _).mono ?_
  rintro e w34 ⟨rfl, h34⟩
  have hg := gr_then hg h34
  clear h34
  go_wp2_with fail
  refine (lit_text _ (tab_gr htab hg)).mono ?_
  rintro e w35 ⟨rfl, h35⟩
  have hg := gr_then hg h35
  clear h35
  go_wp2
  go_ret
  exact ⟨rfl, hg⟩
end Go.Proofs.YtoadjhmehgkeaaaGreatDoor
namespace Go.Proofs.YtoadjhmehgkeaaaGreatDoor
open Go.RowKit Mth

theorem mul_any (s t : ByteArray) (w : World) (hs : s.size ≤ 1000000000000) (ht : t.size ≤ 1000000000000) :
    Calls Tryz.prog 108 #[.string s, .string t] w fun e w' => e = .returned (.string ⟨(enc (num s.data.toList * num t.data.toList)).toArray⟩) ∧ w.grownBy w' none := by
  go_enter Tryz.func108, Tryz.ntmps108
  go_wp2_with fail
  refine (wordsOf_any s w (by omega)).mono ?_
  rintro e w1 ⟨b1, xs, rfl, hlt1, hb1, hg1, hw1, hsz1⟩
  go_wp2_with fail
  refine (wordsOf_any t w1 (by omega)).mono ?_
  rintro e w2 ⟨b2, ys, rfl, hlt2, hb2, hg2, hw2, hsz2⟩
  go_wp2_with fail
  refine (product_any b1 0 xs.length xs.length b2 0 ys.length ys.length xs ys w2 (hb1.kept hg2 (by simp)) (by omega) hw1.dg hb2 (by omega) hw2.dg (by omega) (by omega)).mono ?_
  rintro e w3 ⟨b3, zs, rfl, hlt3, hb3, hg3, hd3, hl3, hv3⟩
  rw [hw1.val, hw2.val] at hv3
  have HV := Lib.hid hv3
  have hls : zs.length ≤ 1099511627776 := by omega
  clear hv3 hl3
  go_wp2_with fail
  refine (natOf_any b3 0 zs.length zs.length zs w3 hb3 (by omega) hd3 (Nat.le_refl _) (by unfold maxLen; omega) hls).mono ?_
  rintro e w4 ⟨rfl, hg4⟩
  go_wp2
  go_ret
  exact ⟨by rw [HV.out]; rfl, gr_then hg1 (gr_then hg2 (gr_then hg3 hg4))⟩
end Go.Proofs.YtoadjhmehgkeaaaGreatDoor
namespace Go.Proofs.YtoadjhmehgkeaaaGreatDoor
open Go.RowKit Mth

/-- The words that a block holds. -/
def natsAt (w : World) (b : Nat) : List Nat := match w.heap[b]? with
  | some (.cells cs _ _) => cs.toList.map fun | .int _ z => z.toNat | _ => 0
  | _ => []
def valAt (w : World) (v : Value) : Nat := match v with
  | .slice (some a) n _ => vs W64 (natsAt w a.block) a.off n
  | _ => 0
theorem NumAt.valAt {w : World} {g off m c N : Nat} {xs : List Nat} (h : NumAt w g off m c xs N) : valAt w (.slice (some ⟨g, off, none⟩) m c) = N := by
  have hb : w.heap[g]? = some (.cells (cellsOf .u64 xs).toArray 96 (0, 0)) := h.blk
  have e : natsAt w g = xs := by
    unfold natsAt
    rw [hb]
    simp only [cellsOf, List.map_map]
    conv => rhs; rw [← List.map_id xs]
    apply List.map_congr_left
    intro a _
    simp
  show vs W64 (natsAt w g) off m = N
  rw [e]; exact h.val

set_option maxHeartbeats 4000000 in
theorem gcd_all (s t : ByteArray) (w : World) (hs : s.size ≤ 1000000000000) (ht : t.size ≤ 1000000000000) :
    Calls Tryz.prog 28 #[.string s, .string t] w fun e w' => e = .returned (.string ⟨(enc (Nat.gcd (num s.data.toList) (num t.data.toList))).toArray⟩) ∧ w.grownBy w' none := by
  obtain ⟨G, hG⟩ : ∃ G, G = Nat.gcd (num s.data.toList) (num t.data.toList) := ⟨_, rfl⟩
  rw [← hG]
  have HG0 := Lib.hid hG
  clear hG
  go_enter Tryz.func28, Tryz.ntmps28
  go_wp2_with fail
  refine (wordsOf_any s w (by omega)).mono ?_
  rintro e w1 ⟨b1, xs, rfl, hlt1, hb1, hg1, hw1, hsz1⟩
  go_wp2_with fail
  refine (wordsOf_any t w1 (by omega)).mono ?_
  rintro e w2 ⟨b2, ys, rfl, hlt2, hb2, hg2, hw2, hsz2⟩
  have hn1 := (NumAt.of_words hb1 hw1 (by omega)).kept hg2 (by simp)
  have hn2 := NumAt.of_words hb2 hw2 (by omega)
  have hne : b1 ≠ b2 := by have := hb1.lt; omega
  have hg12 := gr_then hg1 hg2
  have hle2 : w.heap.size ≤ b2 := by have := hg1.size; omega
  have HN1 := Lib.hid hn1
  have HN2 := Lib.hid hn2
  clear hn1 hn2 hw1 hw2 hsz1 hsz2 hb1 hb2
  go_wp2_with fail
  go_loopw [5, 6] (fun u v wr => ∃ (g1 o1 m1 c1 : Nat) (xs : List Nat) (X g2 o2 m2 c2 : Nat) (ys : List Nat) (Y : Nat), u = .slice (some ⟨g1, o1, none⟩) m1 c1 ∧ v = .slice (some ⟨g2, o2, none⟩) m2 c2 ∧ NumAt wr g1 o1 m1 c1 xs X ∧ NumAt wr g2 o2 m2 c2 ys Y ∧ g1 ≠ g2 ∧ w.heap.size ≤ g1 ∧ w.heap.size ≤ g2 ∧ w.grownBy wr none ∧ Hid (Nat.gcd X Y = G)) (fun _ v wr => valAt wr v)
  case atStart => exact ⟨_, _, _, _, _, _, _, _, _, _, _, _, rfl, rfl, HN1.out, HN2.out, hne, hlt1, hle2, hg12, HG0.out.symm⟩
  case round =>
    obtain ⟨g1, o1, m1, c1, xs, X, g2, o2, m2, c2, ys, Y, rfl, rfl, h1, h2, hne, hlt1, hlt2, hg, HG⟩ := hrel
    clear hg12 hg1 hg2 hle2
    have H1 := Lib.hid h1
    have H2 := Lib.hid h2
    by_cases hm : 1 < m2
    · have hY0 : 0 < Y := h2.pos (by omega)
      have hmod := Nat.mod_lt X hY0
      have hva := h2.valAt
      have HVA := Lib.hid hva
      clear h1 h2 hva
      go_wp2_with fail
      refine (divide_allB _ _ X Y wr ⟨_, _, _, _, _, rfl, H1.out⟩ ⟨_, _, _, _, _, rfl, H2.out⟩ hY0).mono ?_
      rintro e w3 ⟨q, r, rfl, hq, hr, hg3, hwhere⟩
      obtain ⟨g3, o3, m3, c3, zs, rfl, h3⟩ := hr
      have hne3 : g2 ≠ g3 := by
        rcases hwhere with h | ⟨g', o', m', c', h, h'⟩
        · simp only [Value.slice.injEq, Option.some.injEq, Addr.mk.injEq] at h; omega
        · simp only [Value.slice.injEq, Option.some.injEq, Addr.mk.injEq] at h
          have := H2.out.blk.lt
          omega
      have hlt3 : w.heap.size ≤ g3 := by
        rcases hwhere with h | ⟨g', o', m', c', h, h'⟩
        · simp only [Value.slice.injEq, Option.some.injEq, Addr.mk.injEq] at h; omega
        · simp only [Value.slice.injEq, Option.some.injEq, Addr.mk.injEq] at h
          have := hg.size
          omega
      have H3 := Lib.hid h3
      clear hwhere h3 hq
      go_wp2
      refine ⟨⟨g2, o2, m2, c2, ys, Y, g3, o3, m3, c3, zs, X % Y, rfl, rfl, H2.out.kept hg3 (by simp), H3.out, hne3, hlt2, hlt3, gr_then hg hg3, ?_⟩, ?_⟩
      · show _ = _
        rw [← HG.out, Nat.gcd_comm X Y, Nat.gcd_rec Y X, Nat.gcd_comm]
      · rw [H3.out.valAt, HVA.out]; exact hmod
    · rcases Nat.eq_zero_or_pos m2 with h0 | h0
      · subst h0
        have hY : Y = 0 := by have := h2.val; simpa [vs] using this.symm
        have hGX : X = G := by have := HG.out; rw [hY, Nat.gcd_zero_right] at this; exact this
        have HGX := Lib.hid hGX
        clear h1 h2 hY hGX
        go_wp2_with fail
        refine (natOf_num _ _ _ (.inr ⟨_, _, _, _, _, rfl, H1.out⟩)).mono ?_
        rintro e w3 ⟨rfl, hg3⟩
        rw [HGX.out]
        go_wp2
        go_ret
        exact ⟨rfl, gr_then hg hg3⟩
      · obtain rfl : m2 = 1 := by omega
        have hY0 : 0 < Y := h2.pos (by omega)
        have hyv : gt ys o2 = Y := by have := h2.val; simpa [vs] using this
        have hYW : Y < W64 := hyv ▸ h2.dg o2
        have hcell : wr.cell? ⟨g2, o2, none⟩ = some (.int .u64 (Y : Int)) := by rw [h2.blk.cell (by have := h2.fit; omega), hyv]
        have hb1k := h1.blk
        have hf1 := h1.fit
        have hd1 := h1.dg
        have hs1 := h1.small
        clear h1 h2 hyv hm
        go_wp2_with fail
        go_region_with (first
          | (go_at_call 88; refine (divideInPlace_any g1 o1 m1 c1 Y xs _ (by exact hb1k) hf1 hd1 hs1 hY0 hYW).mono ?_; rintro e w3 ⟨r, zs, rfl, hb3, hg3, hdv⟩; have hc3 := hg3.cell (a := ⟨g2, o2, none⟩) hcell (by simp; omega))
          | (go_at_call 87; refine (gcdOfWords_any Y r _ hYW (Nat.lt_trans hdv.2.2.1 hYW)).mono ?_; rintro e w4 ⟨rfl, hq4⟩; have hgW : Nat.gcd Y r < W64 := Nat.lt_of_le_of_lt (Nat.gcd_le_left r hY0) hYW; generalize hGG : Nat.gcd Y r = gg at hgW; have HGG := Lib.hid hGG; clear hGG)
          | (go_at_call 73; refine (natOf_one gg w4 hgW).mono ?_; rintro e w5 ⟨rfl, hg5⟩))
        all_goals
          go_wp2
          go_ret
          refine ⟨?_, ?_⟩
          · have hd4 := hdv.2.2.2
            rw [H1.out.val] at hd4
            have hgcd : gg = G := by
              have hmod : X % Y = r := by rw [hd4, Nat.mul_add_mod, Nat.mod_eq_of_lt hdv.2.2.1]
              have hrec := Nat.gcd_rec Y X
              rw [hmod] at hrec
              rw [← HGG.out, ← HG.out, Nat.gcd_comm X Y, hrec, Nat.gcd_comm]
            rw [← hgcd]; rfl
          · have hq := hq4.gr none
            have hga := gr_then hg (gr_drew _ none)
            exact gr_then (gr_then (gr_new hga hg3 hlt1) hq) hg5
end Go.Proofs.YtoadjhmehgkeaaaGreatDoor
namespace Go.Proofs.YtoadjhmehgkeaaaGreatDoor
open Go.RowKit Mth

def S (n : Nat) : ByteArray := ⟨(enc n).toArray⟩
theorem s_num (n : Nat) : num (S n).data.toList = n := by unfold S; simp [num_enc]
theorem s_zero : S 0 = ⟨#[]⟩ := by unfold S; rw [enc_zero]
theorem enc_len : ∀ (k n : Nat), n < 256 ^ k → (enc n).length ≤ k
  | 0, n, h => by
    have : n = 0 := by simpa using h
    subst this; rw [enc_zero]; simp
  | k + 1, n, h => by
    by_cases h0 : n = 0
    · subst h0; rw [enc_zero]; simp
    · rw [enc_pos h0]
      rw [Nat.pow_succ] at h
      have := enc_len k (n / 256) (by omega)
      simp; omega
theorem s_size {n : Nat} (h : n < 256 ^ 200) : (S n).size ≤ 1000000000000 := by
  have := enc_len 200 n h
  have e : (S n).size = (enc n).length := by unfold S; show (enc n).toArray.size = _; simp
  omega
theorem s_add (s t : ByteArray) (m n : Nat) (w : World) (hm : num s.data.toList = m) (hn : num t.data.toList = n) (h1 : s.size ≤ 1000000000000) (h2 : t.size ≤ 1000000000000) : Gives 18 #[.string s, .string t] w (.string (S (m + n))) := by
  subst hm hn; exact add_any s t w h1 h2
theorem s_mul (s t : ByteArray) (m n : Nat) (w : World) (hm : num s.data.toList = m) (hn : num t.data.toList = n) (h1 : s.size ≤ 1000000000000) (h2 : t.size ≤ 1000000000000) : Gives 108 #[.string s, .string t] w (.string (S (m * n))) := by
  subst hm hn; exact mul_any s t w h1 h2
theorem s_sub (s t : ByteArray) (m n : Nat) (w : World) (hm : num s.data.toList = m) (hn : num t.data.toList = n) (h : n ≤ m) (h1 : s.size ≤ 1000000000000) (h2 : t.size ≤ 1000000000000) : Gives 16 #[.string s, .string t] w (.tuple #[.string (S (m - n)), .bool true]) := by
  subst hm hn; exact sub_yes s t w h h1 h2
theorem s_canon (s : ByteArray) (m : Nat) (w : World) (hm : num s.data.toList = m) (h1 : s.size ≤ 1000000000000) : Gives 35 #[.string s] w (.string (S m)) := by
  subst hm
  refine (canon_any s w h1).mono ?_
  rintro e w' ⟨rfl, rfl⟩
  exact ⟨by unfold S; rw [enc_num_canon], World.grownBy.refl _ _⟩
theorem bnum (a : ByteArray) (h : a.size ≤ 40) : num a.data.toList < 256 ^ 40 := by
  have h1 := num_lt a.data.toList
  rw [len_toList] at h1
  have h2 := Nat.pow_le_pow_right (n := 256) (by decide) h
  omega
theorem sz_add {A B : Nat} (hA : A < 256 ^ 40) (hB : B < 256 ^ 40) : A + B < 256 ^ 200 := by
  have h : 256 ^ 40 + 256 ^ 40 ≤ 256 ^ 200 := by decide
  omega
theorem sz_mul {A B : Nat} (hA : A < 256 ^ 40) (hB : B < 256 ^ 40) : A * B < 256 ^ 200 := by
  have h : 256 ^ 40 * 256 ^ 40 ≤ 256 ^ 200 := by decide
  exact Nat.lt_of_lt_of_le (Nat.mul_lt_mul'' hA hB) h
/-- What concordref01.Made makes of an argument. -/
def MadeAs (w : World) (v : Value) (a : ByteArray) : Prop := ∀ w', w.grownBy w' none → Calls Tryz.prog 15 #[v] w' fun e w'' => e = .returned (.string a) ∧ w' = w''


theorem s_quo (s t : ByteArray) (m n : Nat) (w : World) (hm : num s.data.toList = m) (hn : num t.data.toList = n) (h0 : 0 < n) (h1 : s.size ≤ 1000000000000) (h2 : t.size ≤ 1000000000000) : Gives 26 #[.string s, .string t] w (.tuple #[.string (S (m / n)), .string (S (m % n)), .bool true]) := by
  subst hm hn; exact quo_all s t w h1 h2 h0
theorem s_quo0 (s t : ByteArray) (w : World) (hn : num t.data.toList = 0) (h2 : t.size ≤ 1000000000000) : Gives 26 #[.string s, .string t] w (.tuple #[.string ⟨#[]⟩, .string ⟨#[]⟩, .bool false]) := quo_none s t w h2 hn
theorem s_gcd (s t : ByteArray) (m n : Nat) (w : World) (hm : num s.data.toList = m) (hn : num t.data.toList = n) (h1 : s.size ≤ 1000000000000) (h2 : t.size ≤ 1000000000000) : Gives 28 #[.string s, .string t] w (.string (S (Nat.gcd m n))) := by
  subst hm hn; exact gcd_all s t w h1 h2
theorem s_cmp (s t : ByteArray) (m n : Nat) (w : World) (hm : num s.data.toList = m) (hn : num t.data.toList = n) : Gives 20 #[.string s, .string t] w (.int .i64 (cmpN m n)) := by
  subst hm hn
  refine (cmp_any s t w).mono ?_
  rintro e w' ⟨rfl, rfl⟩
  exact ⟨rfl, World.grownBy.refl _ _⟩
theorem s_bits (s : ByteArray) (m : Nat) (w : World) (hm : num s.data.toList = m) (h1 : s.size ≤ 1000000000000) : Gives 70 #[.string s] w (.int .i64 ((bitsN m : Nat) : Int)) := by
  subst hm
  refine (bits_any s w h1).mono ?_
  rintro e w' ⟨rfl, rfl⟩
  exact ⟨rfl, World.grownBy.refl _ _⟩
theorem s_right (n : Nat) (w : World) : Gives 22 #[.string (S n)] w (.bool true) := by
  refine (right_any (S n) w).mono ?_
  rintro e w' ⟨rfl, rfl⟩
  refine ⟨?_, World.grownBy.refl _ _⟩
  rw [rtB_of_rt]
  unfold S
  simpa using rt_enc n
theorem bitsN_mul {a b : Nat} (ha : 0 < a) (hb : 0 < b) : bitsN a + bitsN b = bitsN (a * b) ∨ bitsN a + bitsN b = bitsN (a * b) + 1 := by
  have key : ∀ {x : Nat}, 0 < x → ∃ k, bitsN x = k + 1 ∧ 2 ^ k ≤ x ∧ x < 2 ^ (k + 1) := by
    intro x hx
    refine ⟨Nat.log2 x, by unfold bitsN; rw [if_neg (by omega)], Nat.log2_self_le (by omega), Nat.lt_log2_self⟩
  obtain ⟨j, j1, j2, j3⟩ := key ha
  obtain ⟨k, k1, k2, k3⟩ := key hb
  have h1 : 2 ^ (j + k) ≤ a * b := by rw [Nat.pow_add]; exact Nat.mul_le_mul j2 k2
  have h2 : a * b < 2 ^ (j + k + 2) := by
    rw [show j + k + 2 = (j + 1) + (k + 1) from by omega, Nat.pow_add]
    exact Nat.mul_lt_mul'' j3 k3
  rcases Nat.lt_or_ge (a * b) (2 ^ (j + k + 1)) with h | h
  · right; rw [bitsN_of h1 h, j1, k1]; omega
  · left; rw [bitsN_of h h2, j1, k1]; omega
end Go.Proofs.YtoadjhmehgkeaaaGreatDoor
namespace Go.Proofs.YtoadjhmehgkeaaaGreatDoor
open Go.RowKit Mth

theorem s_rquo (s t : ByteArray) (m n : Nat) (w : World) (hm : num s.data.toList = m) (hn : num t.data.toList = n) (h0 : 0 < n) (h1 : s.size ≤ 1000000000) (h2 : t.size ≤ 1000000000) : Gives 27 #[.string s, .string t] w (.tuple #[.string (S (m / n)), .string (S (m % n)), .bool true]) := by
  subst hm hn
  by_cases h : num s.data.toList < 256 ^ 7 ∧ num t.data.toList < 256 ^ 7
  · exact rquo_small s t w (by omega) (by omega) h0 h.1 h.2
  · exact rquo_big s t w h1 h2 h0 (by omega)
theorem s_rquo0 (s t : ByteArray) (w : World) (hn : num t.data.toList = 0) (h2 : t.size ≤ 1000000000) : Gives 27 #[.string s, .string t] w (.tuple #[.string ⟨#[]⟩, .string ⟨#[]⟩, .bool false]) := rquo_none s t w (by omega) hn
theorem s_rmul (s t : ByteArray) (m n : Nat) (w : World) (hm : num s.data.toList = m) (hn : num t.data.toList = n) (h1 : s.size ≤ 10000000000) (h2 : t.size ≤ 10000000000) : Gives 24 #[.string s, .string t] w (.string (S (m * n))) := by
  subst hm hn; exact rmul_any s t w h1 h2

set_option maxRecDepth 100000 in
theorem radd_small (s t : ByteArray) (w : World) (hs : s.size ≤ 1000000000000) (ht : t.size ≤ 1000000000000) (h1 : num s.data.toList < 256 ^ 7) (h2 : num t.data.toList < 256 ^ 7) :
    Calls Tryz.prog 19 #[.string s, .string t] w fun e w' => e = .returned (.string ⟨(enc (num s.data.toList + num t.data.toList)).toArray⟩) ∧ w.grownBy w' none := by
  have H1 := Lib.hid h1
  have H2 := Lib.hid h2
  generalize hm : num s.data.toList = m at h1 H1
  generalize hn : num t.data.toList = n at h2 H2
  have HM := Lib.hid hm
  have HN := Lib.hid hn
  obtain ⟨p, hp⟩ : ∃ p, p = m + n := ⟨_, rfl⟩
  have hc : (m : Int) + (n : Int) = (p : Int) := by omega
  have hpb : p ≤ 9223372036854775807 := by omega
  have hmb : m ≤ 72057594037927935 := by omega
  have hnb : n ≤ 72057594037927935 := by omega
  rw [← hp]
  clear h1 h2 hm hn hp
  go_enter Tryz.func19, Tryz.ntmps19
  go_wp2_with fail
  refine (small_yes s 7 (by omega) _ hs (by rw [HM.out]; exact H1.out)).mono ?_
  rintro e w1 ⟨rfl, rfl⟩
  rw [HM.out]
  go_wp2_with fail
  refine (small_yes t 7 (by omega) _ ht (by rw [HN.out]; exact H2.out)).mono ?_
  rintro e w1 ⟨rfl, rfl⟩
  rw [HN.out]
  go_wp2_with fail
  refine (rof_any p _ hpb).mono ?_
  rintro e w1 ⟨rfl, h3⟩
  go_wp2
  go_ret
  exact ⟨rfl, h3⟩

set_option maxHeartbeats 8000000 in
set_option maxRecDepth 100000 in
theorem radd_big (s t : ByteArray) (w : World) (hs : s.size ≤ 1000000000) (ht : t.size ≤ 1000000000) (h : 256 ^ 7 ≤ num s.data.toList ∨ 256 ^ 7 ≤ num t.data.toList) :
    Calls Tryz.prog 19 #[.string s, .string t] w fun e w' => e = .returned (.string ⟨(enc (num s.data.toList + num t.data.toList)).toArray⟩) ∧ w.grownBy w' none := by
  obtain ⟨i0, hi, hz0, hz1, hz2⟩ := info_parts infoI
  have hl1 := dgt_bytes hs
  have hl2 := dgt_bytes ht
  obtain ⟨M, hM⟩ : ∃ M, M = num s.data.toList := ⟨_, rfl⟩
  obtain ⟨N, hN⟩ : ∃ N, N = num t.data.toList := ⟨_, rfl⟩
  have hsm : (∃ x p, Calls Tryz.prog 78 #[.string s, .int .i64 7] w (fun e w' => e = .returned (.tuple #[.int .i64 x, .bool p]) ∧ w = w') ∧ (256 ^ 7 ≤ num s.data.toList → p = false)) := by
    rcases Nat.lt_or_ge (num s.data.toList) (256 ^ 7) with h1 | h1
    · exact ⟨_, _, small_yes s 7 (by omega) w (by omega) h1, fun h2 => by omega⟩
    · exact ⟨_, _, small_no s 7 w (by omega) h1, fun _ => rfl⟩
  have htm : (∃ x p, Calls Tryz.prog 78 #[.string t, .int .i64 7] w (fun e w' => e = .returned (.tuple #[.int .i64 x, .bool p]) ∧ w = w') ∧ (256 ^ 7 ≤ num t.data.toList → p = false)) := by
    rcases Nat.lt_or_ge (num t.data.toList) (256 ^ 7) with h1 | h1
    · exact ⟨_, _, small_yes t 7 (by omega) w (by omega) h1, fun h2 => by omega⟩
    · exact ⟨_, _, small_no t 7 w (by omega) h1, fun _ => rfl⟩
  obtain ⟨x, p, hx, hxp⟩ := hsm
  obtain ⟨y, q, hy, hyq⟩ := htm
  have hpq : p = false ∨ q = false := by
    rcases h with h | h
    · exact .inl (hxp h)
    · exact .inr (hyq h)
  rw [← hM] at hl1 ⊢
  rw [← hN] at hl2 ⊢
  have HM := Lib.hid hM
  have HN := Lib.hid hN
  have HX := Lib.hid hx
  have HY := Lib.hid hy
  clear hM hN h hxp hyq hx hy
  go_enter Tryz.func19, Tryz.ntmps19
  go_wp2_with fail
  refine HX.out.mono ?_
  rintro e w1 ⟨rfl, rfl⟩
  go_wp2_with fail
  refine HY.out.mono ?_
  rintro e w1 ⟨rfl, rfl⟩
  rcases (show (p = false) ∨ (p = true ∧ q = false) by cases p <;> simp_all) with rfl | ⟨rfl, rfl⟩
  all_goals clear hpq
  all_goals
    go_wp2_with fail
    refine (rdig_any s _ (by omega)).mono ?_
    rintro e w1 ⟨v1, rfl, hr1, h1⟩
    have hg := h1
    go_wp2_with fail
    refine (rdig_any t _ (by omega)).mono ?_
    rintro e w2 ⟨v2, rfl, hr2, h2⟩
    have hr1 := hr1.kept h2
    have hg := gr_then hg h2
    clear h1 h2
    rw [← HM.out] at hr1
    rw [← HN.out] at hr2
    obtain ⟨a1, m1, c1, rfl, hs1⟩ := hr1
    obtain ⟨a2, m2, c2, rfl, hs2⟩ := hr2
    rw [← hs1.len] at hl1
    rw [← hs2.len] at hl2
    have HL1 := Lib.hid hs1.len
    have HL2 := Lib.hid hs2.len
    have H1 := Lib.hid hs1
    have H2 := Lib.hid hs2
    have hd1 := dg_dgt M
    have hd2 := dg_dgt N
    have HT0 := Lib.hid (Mth.AddInv.zero (dgt M) (dgt N))
    have HG := Lib.hid hg
    obtain ⟨mx, hx1, hx2, hx3, hx4⟩ : ∃ mx, m1 ≤ mx ∧ m2 ≤ mx ∧ mx ≤ 1000000000 ∧ (mx ≤ m1 ∨ mx ≤ m2) := ⟨max m1 m2, by omega, by omega, by omega, by omega⟩
    have HX4 := Lib.hid hx4
    clear hs1 hs2 hx4
    go_wp2
    go_loopw [11, 12, 13] (fun o cv kv wr => ∃ (k cc : Nat) (l : List Nat), (k ≤ mx ∨ (k = mx + 1 ∧ cc = 0)) ∧ kv = .int .i64 k ∧ cv = .int .i64 cc ∧ Acc .i64 3 w2 wr o l ∧ Hid (Mth.AddInv (dgt M) (dgt N) k l cc)) (fun _ _ kv _ => mx + 1 - (intOf kv).toNat)
    case atStart => exact ⟨0, 0, [], .inl (Nat.zero_le _), rfl, rfl, .nil _ _ _, HT0⟩
    case round =>
      obtain ⟨k, cc, l, hkm, rfl, rfl, hacc, HT⟩ := hrel
      have hcc := HT.out.2.2.1
      have hll : l.length = k := HT.out.1
      have HLL := Lib.hid hll
      clear hll
      by_cases hu : k < m1
      · by_cases hv : k < m2
        · skip
          have hnx := HT.out.next hd1 hd2
          obtain ⟨g1, rfl, hmc1, hmx1, hcell1⟩ := (H1.out.kept hacc.gr).at_ hu
          rw [Nat.zero_add] at hcell1
          have hx := hd1 k
          generalize gt (dgt M) k = X at hcell1 hx hnx
          rw [D24_eq] at hx
          obtain ⟨g2, rfl, hmc2, hmx2, hcell2⟩ := (H2.out.kept hacc.gr).at_ hv
          rw [Nat.zero_add] at hcell2
          have hy := hd2 k
          generalize gt (dgt N) k = Y at hcell2 hy hnx
          rw [D24_eq] at hy
          obtain ⟨lo, hlo⟩ : ∃ lo, lo = (cc + X + Y) % D24 := ⟨_, rfl⟩
          obtain ⟨hi', hhi⟩ : ∃ hi', hi' = (cc + X + Y) / D24 := ⟨_, rfl⟩
          rw [← hlo, ← hhi] at hnx
          have HR := Lib.hid (show (((cc : Int) + (X : Int) + (Y : Int)) % 16777216) = (lo : Int) by rw [hlo, D24_eq]; omega)
          have HQ := Lib.hid (show (((cc : Int) + (X : Int) + (Y : Int)) / 16777216) = (hi' : Int) by rw [hhi, D24_eq]; omega)
          have HK := Lib.hid (show k + 1 ≤ mx ∨ (k + 1 = mx + 1 ∧ hi' = 0) by omega)
          have hkb : k ≤ mx := by omega
          have HNX := Lib.hid hnx
          clear hnx hlo hhi hkm
          go_wp2_with (at_builtin; rw [HR.out]; refine wpList_acc rfl (.tmp 74) (.tmp 77) 86 rfl .i64 3 i0 8 Tryz.underlying86 hi hz0 hz1 hz2 _ l [lo] hacc rfl rfl (by simp) ?_ ?_ ?_)
          case refine_1 => rw [HLL.out]; show k + 1 ≤ maxLen; unfold maxLen; omega
          case refine_2 => rw [HLL.out]; show (k + 1) * 8 ≤ _; omega
          intro v' w' hacc'
          clear hacc hi hz0 hz1 hz2
          go_wp2
          exact ⟨⟨k + 1, hi', l ++ [lo], HK.out, by go_num, by rw [HQ.out], hacc', HNX⟩, by simp [intOf]; omega⟩
        · skip
          have hnx := HT.out.next hd1 hd2
          obtain ⟨g1, rfl, hmc1, hmx1, hcell1⟩ := (H1.out.kept hacc.gr).at_ hu
          rw [Nat.zero_add] at hcell1
          have hx := hd1 k
          generalize gt (dgt M) k = X at hcell1 hx hnx
          rw [D24_eq] at hx
          have hy0 : gt (dgt N) k = 0 := gt_of_ge (by have := HL2.out; omega)
          rw [hy0] at hnx
          simp only [Nat.add_zero] at hnx
          clear hy0
          obtain ⟨lo, hlo⟩ : ∃ lo, lo = (cc + X) % D24 := ⟨_, rfl⟩
          obtain ⟨hi', hhi⟩ : ∃ hi', hi' = (cc + X) / D24 := ⟨_, rfl⟩
          rw [← hlo, ← hhi] at hnx
          have HR := Lib.hid (show (((cc : Int) + (X : Int)) % 16777216) = (lo : Int) by rw [hlo, D24_eq]; omega)
          have HQ := Lib.hid (show (((cc : Int) + (X : Int)) / 16777216) = (hi' : Int) by rw [hhi, D24_eq]; omega)
          have HK := Lib.hid (show k + 1 ≤ mx ∨ (k + 1 = mx + 1 ∧ hi' = 0) by omega)
          have hkb : k ≤ mx := by omega
          have HNX := Lib.hid hnx
          clear hnx hlo hhi hkm
          go_wp2_with (at_builtin; rw [HR.out]; refine wpList_acc rfl (.tmp 74) (.tmp 77) 86 rfl .i64 3 i0 8 Tryz.underlying86 hi hz0 hz1 hz2 _ l [lo] hacc rfl rfl (by simp) ?_ ?_ ?_)
          case refine_1 => rw [HLL.out]; show k + 1 ≤ maxLen; unfold maxLen; omega
          case refine_2 => rw [HLL.out]; show (k + 1) * 8 ≤ _; omega
          intro v' w' hacc'
          clear hacc hi hz0 hz1 hz2
          go_wp2
          exact ⟨⟨k + 1, hi', l ++ [lo], HK.out, by go_num, by rw [HQ.out], hacc', HNX⟩, by simp [intOf]; omega⟩
      · by_cases hv : k < m2
        · skip
          have hnx := HT.out.next hd1 hd2
          have hx0 : gt (dgt M) k = 0 := gt_of_ge (by have := HL1.out; omega)
          rw [hx0] at hnx
          simp only [Nat.add_zero] at hnx
          clear hx0
          obtain ⟨g2, rfl, hmc2, hmx2, hcell2⟩ := (H2.out.kept hacc.gr).at_ hv
          rw [Nat.zero_add] at hcell2
          have hy := hd2 k
          generalize gt (dgt N) k = Y at hcell2 hy hnx
          rw [D24_eq] at hy
          obtain ⟨lo, hlo⟩ : ∃ lo, lo = (cc + Y) % D24 := ⟨_, rfl⟩
          obtain ⟨hi', hhi⟩ : ∃ hi', hi' = (cc + Y) / D24 := ⟨_, rfl⟩
          rw [← hlo, ← hhi] at hnx
          have HR := Lib.hid (show (((cc : Int) + (Y : Int)) % 16777216) = (lo : Int) by rw [hlo, D24_eq]; omega)
          have HQ := Lib.hid (show (((cc : Int) + (Y : Int)) / 16777216) = (hi' : Int) by rw [hhi, D24_eq]; omega)
          have HK := Lib.hid (show k + 1 ≤ mx ∨ (k + 1 = mx + 1 ∧ hi' = 0) by omega)
          have hkb : k ≤ mx := by omega
          have HNX := Lib.hid hnx
          clear hnx hlo hhi hkm
          go_wp2_with (at_builtin; rw [HR.out]; refine wpList_acc rfl (.tmp 74) (.tmp 77) 86 rfl .i64 3 i0 8 Tryz.underlying86 hi hz0 hz1 hz2 _ l [lo] hacc rfl rfl (by simp) ?_ ?_ ?_)
          case refine_1 => rw [HLL.out]; show k + 1 ≤ maxLen; unfold maxLen; omega
          case refine_2 => rw [HLL.out]; show (k + 1) * 8 ≤ _; omega
          intro v' w' hacc'
          clear hacc hi hz0 hz1 hz2
          go_wp2
          exact ⟨⟨k + 1, hi', l ++ [lo], HK.out, by go_num, by rw [HQ.out], hacc', HNX⟩, by simp [intOf]; omega⟩
        · by_cases hc0 : 0 < cc
          · skip
            have hnx := HT.out.next hd1 hd2
            have hx0 : gt (dgt M) k = 0 := gt_of_ge (by have := HL1.out; omega)
            rw [hx0] at hnx
            simp only [Nat.add_zero] at hnx
            clear hx0
            have hy0 : gt (dgt N) k = 0 := gt_of_ge (by have := HL2.out; omega)
            rw [hy0] at hnx
            simp only [Nat.add_zero] at hnx
            clear hy0
            obtain ⟨lo, hlo⟩ : ∃ lo, lo = (cc) % D24 := ⟨_, rfl⟩
            obtain ⟨hi', hhi⟩ : ∃ hi', hi' = (cc) / D24 := ⟨_, rfl⟩
            rw [← hlo, ← hhi] at hnx
            have HR := Lib.hid (show (((cc : Int)) % 16777216) = (lo : Int) by rw [hlo, D24_eq]; omega)
            have HQ := Lib.hid (show (((cc : Int)) / 16777216) = (hi' : Int) by rw [hhi, D24_eq]; omega)
            have HK := Lib.hid (show k + 1 ≤ mx ∨ (k + 1 = mx + 1 ∧ hi' = 0) by right; refine ⟨by have := HX4.out; omega, ?_⟩; rw [hhi, D24_eq]; omega)
            have hkb : k ≤ mx := by omega
            have HNX := Lib.hid hnx
            clear hnx hlo hhi hkm
            go_wp2_with (at_builtin; rw [HR.out]; refine wpList_acc rfl (.tmp 74) (.tmp 77) 86 rfl .i64 3 i0 8 Tryz.underlying86 hi hz0 hz1 hz2 _ l [lo] hacc rfl rfl (by simp) ?_ ?_ ?_)
            case refine_1 => rw [HLL.out]; show k + 1 ≤ maxLen; unfold maxLen; omega
            case refine_2 => rw [HLL.out]; show (k + 1) * 8 ≤ _; omega
            intro v' w' hacc'
            clear hacc hi hz0 hz1 hz2
            go_wp2
            exact ⟨⟨k + 1, hi', l ++ [lo], HK.out, by go_num, by rw [HQ.out], hacc', HNX⟩, by simp [intOf]; omega⟩
          · obtain rfl : cc = 0 := by omega
            have hlast := HT.out.last (by rw [← HL1.out]; omega) (by rw [← HL2.out]; omega)
            obtain ⟨a', m', c', rfl, hls⟩ := hacc.ls
            have HG' := Lib.hid (gr_then HG.out hacc.gr)
            have hm' : m' ≤ 100000000000 := by rw [hls.len, HLL.out]; omega
            have HLS := Lib.hid hls
            have HLAST := Lib.hid hlast
            clear hls hacc hlast hi hz0 hz1 hz2
            go_wp2_with fail
            refine (rnumber_any _ _ _ _ _ HLS.out HLAST.out.1 hm').mono ?_
            rintro e w5 ⟨rfl, h5⟩
            rw [HLAST.out.2]
            go_wp2
            go_ret
            exact ⟨rfl, gr_then HG'.out h5⟩

theorem s_radd (s t : ByteArray) (m n : Nat) (w : World) (hm : num s.data.toList = m) (hn : num t.data.toList = n) (h1 : s.size ≤ 1000000000) (h2 : t.size ≤ 1000000000) : Gives 19 #[.string s, .string t] w (.string (S (m + n))) := by
  subst hm hn
  by_cases h : num s.data.toList < 256 ^ 7 ∧ num t.data.toList < 256 ^ 7
  · exact radd_small s t w (by omega) (by omega) h.1 h.2
  · exact radd_big s t w h1 h2 (by omega)

set_option maxHeartbeats 2000000 in
set_option maxRecDepth 100000 in
theorem s_rcmp (s t : ByteArray) (m n : Nat) (w : World) (hm : num s.data.toList = m) (hn : num t.data.toList = n) (h1 : s.size ≤ 1000000000) (h2 : t.size ≤ 1000000000) : Gives 21 #[.string s, .string t] w (.int .i64 (cmpN m n)) := by
  subst hm hn
  have hn1 : num (bytesOf s).data.toList = num s.data.toList := num_canon _
  have hn2 : num (bytesOf t).data.toList = num t.data.toList := num_canon _
  have hr1 : Rt (bytesOf s).data.toList := rt_canon _
  have hr2 : Rt (bytesOf t).data.toList := rt_canon _
  rw [← hn1, ← hn2]
  generalize h1' : (bytesOf s) = a at hn1 hr1
  generalize h2' : (bytesOf t) = b at hn2 hr2
  have H1 := Lib.hid h1'
  have H2 := Lib.hid h2'
  have hl : (a.size < b.size ∧ cmpN (num a.data.toList) (num b.data.toList) = -1) ∨ (b.size < a.size ∧ cmpN (num a.data.toList) (num b.data.toList) = 1) ∨ (a.size = b.size ∧ num a.data.toList < num b.data.toList) ∨ (a.size = b.size ∧ num a.data.toList = num b.data.toList) ∨ (a.size = b.size ∧ num b.data.toList < num a.data.toList) := by
    rcases Nat.lt_trichotomy a.size b.size with h | h | h
    · have h3 := num_lt_of_len hr2 h
      exact .inl ⟨h, by unfold cmpN; rw [if_pos h3]⟩
    · rcases Nat.lt_trichotomy (num a.data.toList) (num b.data.toList) with h3 | h3 | h3
      · exact .inr (.inr (.inl ⟨h, h3⟩))
      · exact .inr (.inr (.inr (.inl ⟨h, h3⟩)))
      · exact .inr (.inr (.inr (.inr ⟨h, h3⟩)))
    · have h3 := num_lt_of_len hr1 h
      exact .inr (.inl ⟨h, by unfold cmpN; rw [if_neg (by omega), if_pos h3]⟩)
  clear h1' h2' hn1 hn2 hr1 hr2
  go_enter Tryz.func21, Tryz.ntmps21
  go_wp2_with fail
  refine (canon_any s _ (by omega)).mono ?_
  rintro e w' ⟨rfl, rfl⟩
  rw [show (⟨(canon s.data.toList).toArray⟩ : ByteArray) = a from H1.out]
  go_wp2_with fail
  refine (canon_any t _ (by omega)).mono ?_
  rintro e w' ⟨rfl, rfl⟩
  rw [show (⟨(canon t.data.toList).toArray⟩ : ByteArray) = b from H2.out]
  rcases hl with ⟨hl, hc⟩ | ⟨hl, hc⟩ | ⟨hl, hc⟩ | ⟨hl, hc⟩ | ⟨hl, hc⟩
  · have hb : ((a.size : Int) != (b.size : Int)) = true := by rw [bne_iff_ne]; omega
    have HC := Lib.hid hc
    clear hc
    go_wp2
    go_ret
    exact ⟨by rw [HC.out]; rfl, World.grownBy.refl _ _⟩
  · have hb : ((a.size : Int) != (b.size : Int)) = true := by rw [bne_iff_ne]; omega
    have HC := Lib.hid hc
    clear hc
    go_wp2
    go_ret
    exact ⟨by rw [HC.out]; rfl, World.grownBy.refl _ _⟩
  · have hb : ((a.size : Int) != (b.size : Int)) = false := by rw [bne_eq_false_iff_eq, hl]
    have hlt : Op.bytesLess a.toList b.toList = true := by rw [Lib.toList_data, Lib.toList_data, bytesLess_num _ _ (by rw [len_toList, len_toList, hl])]; exact decide_eq_true hc
    have HC := Lib.hid (show cmpN (num a.data.toList) (num b.data.toList) = -1 by unfold cmpN; rw [if_pos hc])
    clear hc hl
    go_wp2
    go_ret
    exact ⟨by rw [HC.out]; rfl, World.grownBy.refl _ _⟩
  · have hb : ((a.size : Int) != (b.size : Int)) = false := by rw [bne_eq_false_iff_eq, hl]
    have hlt : Op.bytesLess a.toList b.toList = false := by rw [Lib.toList_data, Lib.toList_data, bytesLess_num _ _ (by rw [len_toList, len_toList, hl])]; exact decide_eq_false (by omega)
    have hgt : (a.toList == b.toList) = true := by rw [Lib.toList_data, Lib.toList_data, num_inj_len (by rw [len_toList, len_toList, hl]) hc]; simp
    have HC := Lib.hid (show cmpN (num a.data.toList) (num b.data.toList) = 0 by unfold cmpN; rw [if_neg (by omega), if_neg (by omega)])
    clear hc hl
    go_wp2
    go_ret
    exact ⟨by rw [HC.out]; rfl, World.grownBy.refl _ _⟩
  · have hb : ((a.size : Int) != (b.size : Int)) = false := by rw [bne_eq_false_iff_eq, hl]
    have hlt : Op.bytesLess a.toList b.toList = false := by rw [Lib.toList_data, Lib.toList_data, bytesLess_num _ _ (by rw [len_toList, len_toList, hl])]; exact decide_eq_false (by omega)
    have hgt : (a.toList == b.toList) = false := by
      rw [beq_eq_false_iff_ne, Lib.toList_data, Lib.toList_data]
      intro e
      rw [e] at hc
      omega
    have HC := Lib.hid (show cmpN (num a.data.toList) (num b.data.toList) = 1 by unfold cmpN; rw [if_neg (by omega), if_pos hc])
    clear hc hl
    go_wp2
    go_ret
    exact ⟨by rw [HC.out]; rfl, World.grownBy.refl _ _⟩

set_option maxHeartbeats 2000000 in
set_option maxRecDepth 100000 in
theorem s_rsub (s t : ByteArray) (m n : Nat) (w : World) (hm : num s.data.toList = m) (hn : num t.data.toList = n) (h1 : s.size ≤ 1000000000) (h2 : t.size ≤ 1000000000) (hle : n ≤ m) : Gives 17 #[.string s, .string t] w (.tuple #[.string (S (m - n)), .bool true]) := by
  have hl1 := dgt_bytes h1
  rw [hm] at hl1
  have HM := Lib.hid hm
  have HN := Lib.hid hn
  have HLE := Lib.hid hle
  have hz : ¬ cmpN m n < 0 := by unfold cmpN; rw [if_neg (by omega)]; split <;> decide
  generalize hzz : cmpN m n = z at hz
  have HZ := Lib.hid hzz
  clear hm hn hle hzz
  go_enter Tryz.func17, Tryz.ntmps17
  go_wp2_with fail
  refine (s_rcmp s t m n _ HM.out HN.out h1 h2).mono ?_
  rintro e w1 ⟨rfl, hg⟩
  rw [HZ.out]
  go_wp2_with fail
  refine (rdig_any s _ (by omega)).mono ?_
  rintro e w2 ⟨v2, rfl, hr2, h2'⟩
  have hg := gr_then hg h2'
  go_wp2_with fail
  refine (rdig_any t _ (by omega)).mono ?_
  rintro e w3 ⟨v3, rfl, hr3, h3'⟩
  have hr2 := hr2.kept h3'
  have hg := gr_then hg h3'
  clear h2' h3'
  rw [HM.out] at hr2
  rw [HN.out] at hr3
  obtain ⟨a1, m1, c1, rfl, hs1⟩ := hr2
  obtain ⟨a2, m2, c2, rfl, hs2⟩ := hr3
  have H1 := Lib.hid hs1
  have H2 := Lib.hid hs2
  have hmb : m1 ≤ 1000000000 := by rw [hs1.len]; exact hl1
  clear hs1 hs2
  go_wp2_with fail
  refine (rminus_any a1 m1 c1 m a2 m2 c2 n _ H1.out H2.out HLE.out (by omega)).mono ?_
  rintro e w4 ⟨a3, m3, c3, rfl, hs3, _, h4'⟩
  have hg := gr_then hg h4'
  have hmb3 : m3 ≤ 100000000000 := by
    have e1 := dgt_inj_len (Nat.sub_le m n)
    rw [hs3.len]; omega
  have H3 := Lib.hid hs3
  clear hs3 h4'
  go_wp2_with fail
  refine (rnumber_any _ _ _ _ _ H3.out (dg_dgt _) hmb3).mono ?_
  rintro e w5 ⟨rfl, h5⟩
  rw [val_dgt]
  go_wp2
  go_ret2
  exact ⟨rfl, gr_then hg h5⟩
set_option maxRecDepth 100000 in
theorem s_rsub0 (s t : ByteArray) (m n : Nat) (w : World) (hm : num s.data.toList = m) (hn : num t.data.toList = n) (h1 : s.size ≤ 1000000000) (h2 : t.size ≤ 1000000000) (hlt : m < n) : Gives 17 #[.string s, .string t] w (.tuple #[.string ⟨#[]⟩, .bool false]) := by
  have HC := Lib.hid (show cmpN m n = -1 by unfold cmpN; rw [if_pos hlt])
  have HM := Lib.hid hm
  have HN := Lib.hid hn
  clear hm hn hlt
  go_enter Tryz.func17, Tryz.ntmps17
  go_wp2_with fail
  refine (s_rcmp s t m n _ HM.out HN.out h1 h2).mono ?_
  rintro e w1 ⟨rfl, hg⟩
  rw [HC.out]
  go_wp2
  go_ret2
  exact ⟨rfl, hg⟩
end Go.Proofs.YtoadjhmehgkeaaaGreatDoor
namespace Go.Proofs.YtoadjhmehgkeaaaGreatDoor
open Go.RowKit Mth

def numOf : Value → Nat
  | .string s => num s.data.toList
  | _ => 0
theorem numOf_s (n : Nat) : numOf (.string (S n)) = n := s_num n
theorem s_len_pos {n : Nat} (h : 0 < n) : 0 < (S n).size := enc_size_pos h
theorem s_len_zero : (S 0).size = 0 := by rw [s_zero]; rfl
theorem s_size9 {n : Nat} (h : n < 256 ^ 200) : (S n).size ≤ 1000000000 := by
  have := enc_len 200 n h
  have e : (S n).size = (enc n).length := by unfold S; show (enc n).toArray.size = _; simp
  omega

set_option maxHeartbeats 2000000 in
set_option maxRecDepth 100000 in
theorem s_rgcd (s t : ByteArray) (m n : Nat) (w : World) (hm : num s.data.toList = m) (hn : num t.data.toList = n) (h1 : s.size ≤ 1000000000) (h2 : t.size ≤ 1000000000) (hm2 : m < 256 ^ 200) (hn2 : n < 256 ^ 200) : Gives 29 #[.string s, .string t] w (.string (S (Nat.gcd m n))) := by
  have HM := Lib.hid hm
  have HN := Lib.hid hn
  have HM2 := Lib.hid hm2
  have HN2 := Lib.hid hn2
  clear hm hn hm2 hn2
  go_enter Tryz.func29, Tryz.ntmps29
  go_wp2_with fail
  refine (s_canon s m _ HM.out (by omega)).mono ?_
  rintro e w1 ⟨rfl, hg1⟩
  go_wp2_with fail
  refine (s_canon t n _ HN.out (by omega)).mono ?_
  rintro e w2 ⟨rfl, hg2⟩
  have hg := gr_then hg1 hg2
  clear hg1 hg2
  go_wp2
  go_loopw [0, 1] (fun u v wr => ∃ x y : Nat, u = .string (S x) ∧ v = .string (S y) ∧ w.grownBy wr none ∧ Hid (Nat.gcd x y = Nat.gcd m n ∧ x < 256 ^ 200 ∧ y < 256 ^ 200)) (fun _ v _ => numOf v)
  case atStart => exact ⟨m, n, rfl, rfl, hg, Lib.hid ⟨rfl, HM2.out, HN2.out⟩⟩
  case round =>
    obtain ⟨x, y, rfl, rfl, hg, HI⟩ := hrel
    rcases Nat.eq_zero_or_pos y with h0 | h0
    · subst h0
      have hz := s_len_zero
      have HF := Lib.hid (show x = Nat.gcd m n by have := HI.out.1; rwa [Nat.gcd_zero_right] at this)
      go_wp2
      go_ret
      exact ⟨by rw [← HF.out]; rfl, hg⟩
    · have hp := s_len_pos h0
      have H0 := Lib.hid h0
      have HNX := Lib.hid (show Nat.gcd y (x % y) = Nat.gcd m n ∧ y < 256 ^ 200 ∧ x % y < 256 ^ 200 by
        refine ⟨?_, HI.out.2.2, Nat.lt_trans (Nat.mod_lt _ h0) HI.out.2.2⟩
        rw [← HI.out.1, Nat.gcd_comm y, ← Nat.gcd_rec, Nat.gcd_comm])
      clear h0
      go_wp2_with fail
      refine (s_rquo (S x) (S y) x y _ (s_num _) (s_num _) H0.out (s_size9 HI.out.2.1) (s_size9 HI.out.2.2)).mono ?_
      rintro e w3 ⟨rfl, h3⟩
      have hg := gr_then hg h3
      go_wp2
      refine ⟨⟨y, x % y, rfl, rfl, hg, HNX⟩, ?_⟩
      show numOf (.string (S (x % y))) < numOf (.string (S y))
      rw [numOf_s, numOf_s]
      exact Nat.mod_lt _ H0.out

theorem bit01 (d b : Nat) (hd : d < 256) : (bits BinOp.and IntKind.u8 ((d : Int) / (2 : Int) ^ b) 1 == 1) = decide (d / 2 ^ b % 2 = 1) := by
  have hpc : ((2 : Int) ^ b) = ((2 ^ b : Nat) : Int) := by simp
  rw [hpc, ← Int.natCast_ediv]
  have hlt : d / 2 ^ b < 256 := Nat.lt_of_le_of_lt (Nat.div_le_self _ _) hd
  generalize d / 2 ^ b = c at hlt
  have hm1 := bits_mask .u8 8 (by decide) wraps_u8 1 (by decide) (c : Int) (by omega) (by omega)
  rw [show ((2 : Int) ^ 1 - 1) = 1 from by decide] at hm1
  rw [hm1, Bool.eq_iff_iff, decide_eq_true_eq, beq_iff_eq]
  omega
/-- What the powers are after some bytes and bits of the exponent. -/
def powAt (A M E : Nat) : Nat := A ^ E % M
theorem powAt_sq (A M E : Nat) : powAt A M E * powAt A M E % M = powAt A M (2 * E) := by
  unfold powAt; rw [← Nat.mul_mod, ← Nat.pow_add]; congr 2; omega
theorem powAt_mul (A M E : Nat) : powAt A M E * (A % M) % M = powAt A M (E + 1) := by
  unfold powAt; rw [Nat.pow_succ, Nat.mul_mod, Nat.mod_mod, Nat.mod_mod, ← Nat.mul_mod]
theorem sz_sq {x M : Nat} (h : x < M) (hM : M < 256 ^ 90) : x * x < 256 ^ 200 := by
  have h2 : 256 ^ 90 * 256 ^ 90 ≤ 256 ^ 200 := by decide
  exact Nat.lt_of_lt_of_le (Nat.mul_lt_mul'' (Nat.lt_trans h hM) (Nat.lt_trans h hM)) h2
theorem sz_mm {x y M : Nat} (h : x < M) (h' : y < M) (hM : M < 256 ^ 90) : x * y < 256 ^ 200 := by
  have h2 : 256 ^ 90 * 256 ^ 90 ≤ 256 ^ 200 := by decide
  exact Nat.lt_of_lt_of_le (Nat.mul_lt_mul'' (Nat.lt_trans h hM) (Nat.lt_trans h' hM)) h2

set_option maxRecDepth 100000 in
theorem s_rpow0 (s t u : ByteArray) (w : World) (hu : num u.data.toList = 0) (h2 : u.size ≤ 1000000000) : Gives 31 #[.string s, .string t, .string u] w (.tuple #[.string ⟨#[]⟩, .bool false]) := by
  have HU := Lib.hid hu
  clear hu
  go_enter Tryz.func31, Tryz.ntmps31
  go_wp2_with fail
  refine (s_rquo0 s u _ HU.out h2).mono ?_
  rintro e w1 ⟨rfl, hg⟩
  go_wp2
  go_ret2
  exact ⟨rfl, hg⟩

set_option maxHeartbeats 4000000 in
set_option maxRecDepth 100000 in
theorem s_rpow (s t u : ByteArray) (A E M : Nat) (w : World) (hs : num s.data.toList = A) (ht : num t.data.toList = E) (hu : num u.data.toList = M) (h1 : s.size ≤ 1000000000) (h3 : t.size ≤ 1000000000) (h2 : u.size ≤ 1000000000) (h0 : 0 < M) (hM : M < 256 ^ 90) : Gives 31 #[.string s, .string t, .string u] w (.tuple #[.string (S (A ^ E % M)), .bool true]) := by
  have HS := Lib.hid hs
  have HT := Lib.hid ht
  have HU := Lib.hid hu
  have H0 := Lib.hid h0
  have HM := Lib.hid hM
  have HM2 := Lib.hid (Nat.lt_trans hM (Nat.pow_lt_pow_right (by decide) (by decide) : 256 ^ 90 < 256 ^ 200))
  clear hs ht hu h0 hM
  go_enter Tryz.func31, Tryz.ntmps31
  go_wp2_with fail
  refine (s_rquo s u A M _ HS.out HU.out H0.out h1 h2).mono ?_
  rintro e w1 ⟨rfl, hg1⟩
  go_wp2_with fail
  refine (rof_any 1 _ (by omega)).mono ?_
  rintro e w2 ⟨rfl, hg2⟩
  have hg := gr_then hg1 hg2
  clear hg1 hg2
  rw [show (⟨(enc 1).toArray⟩ : ByteArray) = S 1 from rfl]
  go_wp2_with fail
  refine (s_rquo (S 1) u 1 M _ (s_num _) HU.out H0.out (s_size9 (by decide)) h2).mono ?_
  rintro e w3 ⟨rfl, hg3⟩
  have hg := gr_then hg hg3
  clear hg3
  go_wp2
  go_loopw [12, 14] (fun ov kv wr => ∃ k : Nat, k ≤ t.size ∧ kv = .int .i64 k ∧ ov = .string (S (powAt A M (num (t.data.toList.take k)))) ∧ w.grownBy wr none) (fun _ kv _ => t.size - (intOf kv).toNat)
  case atStart => exact ⟨0, Nat.zero_le _, rfl, by unfold powAt; simp [num], hg⟩
  case round =>
    obtain ⟨k, hk, rfl, rfl, hg⟩ := hrel
    by_cases hlt : k < t.size
    · generalize hP : num (t.data.toList.take k) = P
      have HP := Lib.hid hP
      have HNX := Lib.hid (num_take_succ t hlt)
      clear hP
      go_wp2
      go_loopw [12, 15] (fun ov bv wr => ∃ b : Nat, b ≤ 8 ∧ bv = .int .i64 ((b : Int) - 1) ∧ ov = .string (S (powAt A M (P * 2 ^ (8 - b) + t[k].toNat / 2 ^ b))) ∧ w.grownBy wr none) (fun _ bv _ => (intOf bv + 1).toNat)
      case atStart => 
        refine ⟨8, by omega, rfl, ?_, hg⟩
        have hb := t[k].toNat_lt
        rw [Nat.div_eq_of_lt (show t[k].toNat < 2 ^ 8 by simpa using hb)]
        simp
      case round =>
        obtain ⟨b, hb, rfl, rfl, hg⟩ := hrel
        rcases b with _ | b
        · have HF := Lib.hid (show P * 2 ^ (8 - 0) + t[k].toNat / 2 ^ 0 = num (t.data.toList.take (k + 1)) by rw [HNX.out, HP.out, Nat.pow_zero, Nat.div_one]; omega)
          rw [HF.out]
          go_wp2
          exact ⟨⟨k + 1, by omega, by go_num, rfl, hg⟩, by simp [intOf]; omega⟩
        · rw [show ((b + 1 : Nat) : Int) - 1 = (b : Int) from by omega]
          generalize hX : P * 2 ^ (8 - (b + 1)) + t[k].toNat / 2 ^ (b + 1) = X
          have hx := Nat.mod_lt (A ^ X) H0.out
          have HXL := Lib.hid (show powAt A M X < M from hx)
          have hx2 := Nat.mod_lt (A ^ (2 * X)) H0.out
          have HX2 := Lib.hid (show powAt A M (2 * X) < M from hx2)
          have hnext : P * 2 ^ (8 - b) + t[k].toNat / 2 ^ b = 2 * X + t[k].toNat / 2 ^ b % 2 := by
            rw [← hX, show 8 - b = (8 - (b + 1)) + 1 from by omega, Nat.pow_succ, Nat.pow_succ, ← Nat.div_div_eq_div_mul, Nat.mul_add, ← Nat.mul_assoc P]
            omega
          have HN := Lib.hid hnext
          have hb0 : (0 : Int) ≤ (b : Int) := by omega
          clear hX hx hx2 hnext
          go_wp2_with fail
          refine (s_rmul (S (powAt A M X)) (S (powAt A M X)) _ _ _ (s_num _) (s_num _) (by have := s_size9 (Nat.lt_trans HXL.out HM2.out); omega) (by have := s_size9 (Nat.lt_trans HXL.out HM2.out); omega)).mono ?_
          rintro e w5 ⟨rfl, h5⟩
          have hg := gr_then hg h5
          clear h5
          go_wp2_with fail
          refine (s_rquo (S (powAt A M X * powAt A M X)) u _ M _ (s_num _) HU.out H0.out (s_size9 (sz_sq HXL.out HM.out)) h2).mono ?_
          rintro e w6 ⟨rfl, h6⟩
          have hg := gr_then hg h6
          clear h6
          rw [powAt_sq]
          have hd8 := t[k].toNat_lt
          have hbit := bit01 t[k].toNat b hd8
          by_cases hq : t[k].toNat / 2 ^ b % 2 = 1
          · rw [decide_eq_true hq] at hbit
            have HB := Lib.hid (show 2 * X + 1 = P * 2 ^ (8 - b) + t[k].toNat / 2 ^ b by rw [HN.out, hq])
            clear hq hd8
            go_wp2_with fail
            refine (s_rmul (S (powAt A M (2 * X))) (S (A % M)) _ _ _ (s_num _) (s_num _) (by have := s_size9 (Nat.lt_trans HX2.out HM2.out); omega) (by have := s_size9 (Nat.lt_trans (Nat.mod_lt A H0.out) HM2.out); omega)).mono ?_
            rintro e w7 ⟨rfl, h7⟩
            have hg := gr_then hg h7
            clear h7
            go_wp2_with fail
            refine (s_rquo (S (powAt A M (2 * X) * (A % M))) u _ M _ (s_num _) HU.out H0.out (s_size9 (sz_mm HX2.out (Nat.mod_lt A H0.out) HM.out)) h2).mono ?_
            rintro e w8 ⟨rfl, h8⟩
            have hg := gr_then hg h8
            clear h8
            rw [powAt_mul, HB.out]
            go_wp2
            exact ⟨⟨b, by omega, rfl, rfl, hg⟩, by simp [intOf]⟩
          · rw [decide_eq_false hq] at hbit
            have HB := Lib.hid (show 2 * X = P * 2 ^ (8 - b) + t[k].toNat / 2 ^ b by rw [HN.out]; omega)
            clear hq hd8
            rw [HB.out]
            go_wp2
            exact ⟨⟨b, by omega, rfl, rfl, hg⟩, by simp [intOf]⟩
    · obtain rfl : k = t.size := by omega
      have hfin : powAt A M (num (t.data.toList.take t.size)) = A ^ E % M := by
        rw [List.take_of_length_le (by rw [len_toList]; omega), HT.out]; rfl
      have HF := Lib.hid hfin
      clear hfin
      rw [HF.out]
      go_wp2
      go_ret2
      exact ⟨rfl, hg⟩
end Go.Proofs.YtoadjhmehgkeaaaGreatDoor
namespace Go.Proofs.YtoadjhmehgkeaaaGreatDoor
namespace Mth
open Go.Lib

def isDg (c : UInt8) : Bool := decide (48 ≤ c.toNat) && decide (c.toNat ≤ 57)
/-- The number of decimal digits. -/
def dnum (l : List UInt8) : Nat := l.foldl (fun a d => 10 * a + (d.toNat - 48)) 0
theorem dnum_nil : dnum [] = 0 := rfl
theorem dnum_snoc (l : List UInt8) (d : UInt8) : dnum (l ++ [d]) = 10 * dnum l + (d.toNat - 48) := by simp [dnum]
theorem dfoldl (l : List UInt8) : ∀ a : Nat, l.foldl (fun a d => 10 * a + (d.toNat - 48)) a = a * 10 ^ l.length + dnum l := by
  induction l with
  | nil => intro a; simp [dnum]
  | cons d l ih =>
    intro a
    show List.foldl (fun a d => 10 * a + (d.toNat - 48)) (10 * a + (d.toNat - 48)) l = a * 10 ^ (l.length + 1) + List.foldl (fun a d => 10 * a + (d.toNat - 48)) (10 * 0 + (d.toNat - 48)) l
    rw [ih, ih, Nat.pow_succ, Nat.add_mul, Nat.mul_zero, Nat.zero_add]
    rw [show 10 * a * 10 ^ l.length = a * (10 ^ l.length * 10) from by rw [Nat.mul_comm 10 a, Nat.mul_assoc, Nat.mul_comm 10]]
    omega
theorem dnum_append (l r : List UInt8) : dnum (l ++ r) = dnum l * 10 ^ r.length + dnum r := by
  simp only [dnum, List.foldl_append]
  exact dfoldl r _
theorem dnum_lt (l : List UInt8) (h : l.all isDg = true) : dnum l < 10 ^ l.length := by
  induction hn : l.length generalizing l with
  | zero =>
    obtain rfl : l = [] := List.eq_nil_of_length_eq_zero hn
    simp [dnum]
  | succ n ih =>
    rcases List.eq_nil_or_concat l with rfl | ⟨l', d, rfl⟩
    · simp at hn
    · simp only [List.concat_eq_append] at *
      rw [List.all_append, Bool.and_eq_true] at h
      have h1 := ih l' h.1 (by simpa using hn)
      have h2 : d.toNat ≤ 57 := by
        have := h.2
        simp [isDg] at this; exact this.2
      rw [dnum_snoc, Nat.pow_succ]
      omega
theorem dnum_dec (n : Nat) : dnum (decDigits n) = n := by
  induction n using Nat.strongRecOn with
  | _ n ih =>
    rw [decDigits]
    split
    · rename_i h
      simp only [dnum, List.foldl_cons, List.foldl_nil]
      have : (UInt8.ofNat (48 + n)).toNat = 48 + n := by simp; omega
      rw [this]; omega
    · rename_i h
      rw [dnum_snoc, ih _ (by omega)]
      have : (UInt8.ofNat (48 + n % 10)).toNat = 48 + n % 10 := by simp; omega
      rw [this]; omega
theorem dec_all (n : Nat) : (decDigits n).all isDg = true := by
  induction n using Nat.strongRecOn with
  | _ n ih =>
    rw [decDigits]
    split
    · rename_i h
      have : (UInt8.ofNat (48 + n)).toNat = 48 + n := by simp; omega
      simp only [List.all_cons, List.all_nil, Bool.and_true, isDg, this, Bool.and_eq_true, decide_eq_true_eq]; omega
    · rename_i h
      rw [List.all_append, ih _ (by omega)]
      have : (UInt8.ofNat (48 + n % 10)).toNat = 48 + n % 10 := by simp; omega
      simp only [List.all_cons, List.all_nil, Bool.and_true, Bool.true_and, isDg, this, Bool.and_eq_true, decide_eq_true_eq]; omega
theorem dec_head (n : Nat) : (decDigits n = [48] ∧ n = 0) ∨ (decDigits n).head? ≠ some 48 ∧ decDigits n ≠ [] := by
  induction n using Nat.strongRecOn with
  | _ n ih =>
    rw [decDigits]
    split
    · rename_i h
      rcases Nat.eq_zero_or_pos n with h0 | h0
      · left; subst h0; exact ⟨rfl, rfl⟩
      · right
        refine ⟨?_, by simp⟩
        simp only [List.head?_cons, ne_eq, Option.some.injEq]
        intro e
        have := congrArg UInt8.toNat e
        have e2 : (UInt8.ofNat (48 + n)).toNat = 48 + n := by simp; omega
        rw [e2] at this
        have e3 : (48 : UInt8).toNat = 48 := rfl
        omega
    · rename_i h
      right
      rcases ih (n / 10) (by omega) with ⟨_, h2⟩ | ⟨h1, h2⟩
      · omega
      · refine ⟨?_, by simp⟩
        rw [List.head?_append]
        cases hh : (decDigits (n / 10)).head? with
        | none => exact absurd (List.head?_eq_none_iff.1 hh) h2
        | some x => rw [hh] at h1; simpa using h1
theorem dec_pos (n : Nat) : 0 < (decDigits n).length := by
  rcases dec_head n with ⟨h, _⟩ | ⟨_, h⟩
  · rw [h]; decide
  · rcases Nat.eq_zero_or_pos (decDigits n).length with h0 | h0
    · exact absurd (List.eq_nil_of_length_eq_zero h0) h
    · exact h0
theorem dec_le (n k : Nat) (hk : 0 < k) (h : n < 10 ^ k) : (decDigits n).length ≤ k := by
  induction k generalizing n with
  | zero => omega
  | succ k ih =>
    rw [decDigits]
    split
    · simp
    · rename_i h10
      rw [List.length_append, List.length_singleton]
      rcases Nat.eq_zero_or_pos k with h0 | h0
      · subst h0; simp at h; omega
      · have := ih (n / 10) h0 (by rw [Nat.pow_succ] at h; omega)
        omega
end Mth
end Go.Proofs.YtoadjhmehgkeaaaGreatDoor
