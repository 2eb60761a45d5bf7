/- Contracts of the program and of the reference, part 5: Div, Quo, DivG, Even, Bits, Pow. -/
import Derived.Test.YteajpefbmiiioaaGreatDoorBRat4
import Derived.Deep.RegionWith
import Derived.RangeFuncNested
import Derived.RangeFuncBound
import Derived.RangeFuncCalls
import Derived.RangeFuncLeaves
import Derived.Shelf.Abstract
import Derived.Shelf.RegionOpen
import Derived.WalkKit
import Derived.OwnWalkIn
import Derived.TacticsInMore
import Derived.LoopNIn
import Derived.LoopIn
namespace Go.Proofs.YteajpefbmiiioaaGreatDoor
open Go.RowKit Mth

theorem clone_any (b off n c : Nat) (xs : List Nat) (w : World) (hb : Blk .u64 96 w b xs) (hn : off + n ≤ xs.length) (hm : n ≤ 1099511627776) (hn0 : 0 < n) (hd : Dg W64 xs) :
    Calls Tryz.prog 131 #[.slice (some ⟨b, off, none⟩) n c] w fun e w' => ∃ g us, e = .returned (.slice (some ⟨g, 0, none⟩) n us.length) ∧ w.heap.size ≤ g ∧ Blk .u64 96 w' g us ∧ n ≤ us.length ∧ us.length ≤ maxLen ∧ w.grownBy w' none ∧ Dg W64 us ∧ (∀ i, i < n → gt us i = gt xs (off + i)) := by
  obtain ⟨i0, hi, hz0, hz1, hz2⟩ := info_parts infoW
  have hnil := fun (w : World) (a : Addr) (n c : Nat) => Lib.run_eql_slice_nil (P := Tryz.prog) w 81 96 (some a) n c 0 0 Tryz.underlying81
  go_enter Tryz.func131, Tryz.ntmps131
  have hempty : Blk .u64 96 (w.alloc (.cells #[] 96)) w.heap.size [] := by unfold Blk; rw [heap_alloc_new]; simp [cellsOf]
  have hb1 := hb.alloc (.cells #[] 96)
  have hown0 : Own .u64 96 (w.alloc (.cells #[] 96)) (.slice (some ⟨w.heap.size, 0, none⟩) 0 0) 0 [] := .inr ⟨w.heap.size, rfl, hempty, Nat.le_refl _, by decide⟩
  have HO := Lib.hid hown0
  clear hown0 hempty
  go_wp2_with (at_builtin; refine wpList_append_blk rfl (.tmp 5) (.tmp 6) 81 rfl .u64 96 i0 8 Tryz.underlying81 hi hz0 hz1 hz2 _ 0 [] rfl HO.out b off n c xs rfl ?_ hn hn0 ?_ ?_ ?_)
  case refine_1 => intro j hj; exact hb1.cell (by omega)
  case refine_2 => unfold maxLen; omega
  case refine_3 => omega
  intro v' w1 us hown hg happ hblk
  rcases hown with ⟨_, h0, _⟩ | ⟨g, rfl, hbg, h1, h2⟩
  · omega
  have hge : w.heap.size ≤ g := by
    rcases hblk with h | ⟨g', h, h'⟩
    · simp only [Value.ownBlock, Option.some.injEq] at h; omega
    · simp only [Value.ownBlock, Option.some.injEq] at h
      have : (w.alloc (.cells #[] 96)).heap.size = w.heap.size + 1 := by simp
      omega
  have hdu : Dg W64 us := happ.dg W64_pos (fun i => by simp [gt]; exact W64_pos) hd
  have hnew := happ.new
  have HN := Lib.hid hnew
  clear hnew happ hi hz0 hz1 hz2 HO
  go_wp2
  go_ret
  refine ⟨g, us, rfl, hge, hbg, h1, h2, ?_, hdu, fun i hi => by have := HN.out i hi; rw [Nat.zero_add] at this; exact this⟩
  exact gr_new (gr_alloc w _ none) (by simpa [Value.ownBlock] using hg) (Nat.le_refl _)

/-- A slice of trimmed words with the value N. -/
structure NumAt (w : World) (g off m c : Nat) (xs : List Nat) (N : Nat) : Prop where
  blk : Blk .u64 96 w g xs
  fit : off + m ≤ xs.length
  dg : Dg W64 xs
  val : vs W64 xs off m = N
  top : m = 0 ∨ gt xs (off + (m - 1)) ≠ 0
  cap : m ≤ c
  max : c ≤ maxLen
  small : m ≤ 1099511627776
def Num (w : World) (v : Value) (N : Nat) : Prop := ∃ g off m c xs, v = .slice (some ⟨g, off, none⟩) m c ∧ NumAt w g off m c xs N
theorem NumAt.kept {w w' : World} {g off m c N : Nat} {xs : List Nat} (h : NumAt w g off m c xs N) {r : Option Nat} (hg : w.grownBy w' r) (hne : some g ≠ r) : NumAt w' g off m c xs N :=
  ⟨h.blk.kept hg hne, h.fit, h.dg, h.val, h.top, h.cap, h.max, h.small⟩
theorem Num.kept {w w' : World} {v : Value} {N : Nat} (h : Num w v N) (hg : w.grownBy w' none) : Num w' v N := by
  obtain ⟨g, off, m, c, xs, rfl, h⟩ := h
  exact ⟨g, off, m, c, xs, rfl, h.kept hg (by simp)⟩
theorem NumAt.of_words {w : World} {b : Nat} {xs : List Nat} {N : Nat} (hb : Blk .u64 96 w b xs) (hw : Words xs N) (hs : xs.length ≤ 1099511627776) : NumAt w b 0 xs.length xs.length xs N :=
  ⟨hb, by omega, hw.dg, hw.val, by rw [Nat.zero_add]; exact hw.top, Nat.le_refl _, by unfold maxLen; omega, hs⟩
theorem Num.of_words {w : World} {b : Nat} {xs : List Nat} {N : Nat} (hb : Blk .u64 96 w b xs) (hw : Words xs N) (hs : xs.length ≤ 1099511627776) : Num w (.slice (some ⟨b, 0, none⟩) xs.length xs.length) N :=
  ⟨b, 0, _, _, xs, rfl, .of_words hb hw hs⟩

theorem trimmed_num (b off n c : Nat) (xs : List Nat) (w : World) (hb : Blk .u64 96 w b xs) (hn : off + n ≤ xs.length) (hd : Dg W64 xs) (hc : n ≤ c) (hm : c ≤ maxLen) (hs : n ≤ 1099511627776) :
    Calls Tryz.prog 125 #[.slice (some ⟨b, off, none⟩) n c] w fun e w' => (∃ m, e = .returned (.slice (some ⟨b, off, none⟩) m c) ∧ NumAt w b off m c xs (vs W64 xs off n)) ∧ w = w' := by
  refine (trimmed_any b off n c xs w hb hn hc hm).mono ?_
  rintro e w' ⟨⟨m, rfl, hmn, hz, htop⟩, rfl⟩
  refine ⟨⟨m, rfl, hb, by omega, hd, ?_, htop, by omega, hm, by omega⟩, rfl⟩
  obtain ⟨k, rfl⟩ : ∃ k, n = m + k := ⟨n - m, by omega⟩
  rw [vs_split, vs_zero (n := k) (fun i hi => by rw [Nat.add_assoc]; exact hz _ (by omega) (by omega))]; simp

theorem trimmed_nil (w : World) : Calls Tryz.prog 125 #[.slice none 0 0] w fun e w' => e = .returned (.slice none 0 0) ∧ w = w' := by
  go_enter Tryz.func125, Tryz.ntmps125
  go_wp2
  go_loop [0] (fun v => v = .slice none 0 0) (fun _ => 0)
  case atStart => rfl
  case round =>
    subst hrel
    go_wp2
    go_ret
    exact ⟨rfl, rfl⟩
theorem natOf_nil (w : World) : Calls Tryz.prog 73 #[.slice none 0 0] w fun e w' => e = .returned (.string ⟨#[]⟩) ∧ w = w' := by
  go_enter Tryz.func73, Tryz.ntmps73
  go_wp2_with fail
  refine (trimmed_nil _).mono ?_
  rintro e w' ⟨rfl, rfl⟩
  go_wp2
  go_ret
  exact ⟨rfl, rfl⟩
/-- A quotient: a number, or nil for 0. -/
def NumQ (w : World) (v : Value) (N : Nat) : Prop := (v = .slice none 0 0 ∧ N = 0) ∨ Num w v N
theorem natOf_num (v : Value) (N : Nat) (w : World) (h : NumQ w v N) :
    Calls Tryz.prog 73 #[v] w fun e w' => e = .returned (.string ⟨(enc N).toArray⟩) ∧ w.grownBy w' none := by
  rcases h with ⟨rfl, rfl⟩ | ⟨g, off, m, c, xs, rfl, h⟩
  · refine (natOf_nil w).mono ?_
    rintro e w' ⟨rfl, rfl⟩
    exact ⟨by rw [enc_zero], World.grownBy.refl _ _⟩
  · have := natOf_any g off m c xs w h.blk h.fit h.dg h.cap h.max h.small
    rwa [h.val] at this

/-- What divide returns. -/
def DivOut (w w' : World) (e : Ending) (N M : Nat) : Prop := ∃ q r, e = .returned (.tuple #[q, r]) ∧ NumQ w' q (N / M) ∧ Num w' r (N % M) ∧ w.grownBy w' none

theorem divide_less (b1 o1 n1 c1 b2 o2 n2 c2 N M : Nat) (xs ys : List Nat) (w : World) (h1 : NumAt w b1 o1 n1 c1 xs N) (h2 : NumAt w b2 o2 n2 c2 ys M) (hlt : N < M) :
    Calls Tryz.prog 82 #[.slice (some ⟨b1, o1, none⟩) n1 c1, .slice (some ⟨b2, o2, none⟩) n2 c2] w fun e w' => DivOut w w' e N M := by
  have hc : cmpN (vs W64 xs o1 n1) (vs W64 ys o2 n2) = -1 := by rw [h1.val, h2.val]; unfold cmpN; rw [if_pos hlt]
  have HC := Lib.hid hc
  have H1 := Lib.hid h1
  have HLT := Lib.hid hlt
  clear hc hlt
  go_enter Tryz.func82, Tryz.ntmps82
  go_wp2_with fail
  refine (compare_any b1 o1 n1 c1 b2 o2 n2 c2 xs ys w h1.blk h1.fit h2.blk h2.fit h1.dg h2.dg h1.small h1.top h2.top).mono ?_
  rintro e w1 ⟨rfl, hq1⟩
  rw [HC.out]
  go_wp2
  go_ret2
  refine ⟨.slice none 0 0, .slice (some ⟨b1, o1, none⟩) n1 c1, rfl, .inl ⟨rfl, Nat.div_eq_of_lt HLT.out⟩, ⟨b1, o1, n1, c1, xs, rfl, ?_⟩, hq1.gr none⟩
  rw [Nat.mod_eq_of_lt HLT.out]
  exact H1.out.kept (hq1.gr none) (by simp)

/-- What divide returns for a divisor of one word. -/
theorem divide_one (b1 o1 n1 c1 b2 o2 c2 N y : Nat) (xs ys : List Nat) (w : World) (h1 : NumAt w b1 o1 n1 c1 xs N) (h2 : NumAt w b2 o2 1 c2 ys y) (hle : y ≤ N) :
    Calls Tryz.prog 82 #[.slice (some ⟨b1, o1, none⟩) n1 c1, .slice (some ⟨b2, o2, none⟩) 1 c2] w fun e w' => DivOut w w' e N y := by
  have hyv : gt ys o2 = y := by have := h2.val; simpa [vs] using this
  have hy0 : 0 < y := by have := h2.top; simp at this; omega
  have hcmp : cmpN (vs W64 xs o1 n1) (vs W64 ys o2 1) = cmpN N y := by rw [h1.val, h2.val]
  obtain ⟨cc, hcc⟩ : ∃ cc, cmpN N y = cc := ⟨_, rfl⟩
  have hc0 : decide (cc < 0) = false := by rw [decide_eq_false_iff_not, ← hcc]; unfold cmpN; rw [if_neg (by omega)]; split <;> omega
  have hc1 : ¬ cc < 0 := of_decide_eq_false hc0
  have HC := Lib.hid (hcmp.trans hcc)
  have hyW : y < W64 := hyv ▸ h2.dg o2
  have hpos : 0 < n1 := by
    rcases Nat.eq_zero_or_pos n1 with h | h
    · have := h1.val; rw [h] at this; simp [vs] at this; omega
    · exact h
  have hsm := h1.small
  have hcell2 : w.cell? ⟨b2, o2, none⟩ = some (.int .u64 (y : Int)) := by rw [h2.blk.cell (by have := h2.fit; omega), hyv]
  clear hcc hcmp hle hyv
  go_enter Tryz.func82, Tryz.ntmps82
  go_wp2_with fail
  refine (compare_any b1 o1 n1 c1 b2 o2 1 c2 xs ys w h1.blk h1.fit h2.blk h2.fit h1.dg h2.dg h1.small h1.top h2.top).mono ?_
  rintro e w1 ⟨rfl, hq1⟩
  rw [HC.out]
  have hcell2' : w1.cell? ⟨b2, o2, none⟩ = some (.int .u64 (y : Int)) := by obtain ⟨k, rfl⟩ := hq1; exact hcell2
  have hb' := h1.blk.kept (hq1.gr none) (by simp)
  go_wp2_with fail
  refine (clone_any b1 o1 n1 c1 xs w1 hb' h1.fit hsm hpos h1.dg).mono ?_
  rintro e w2 ⟨g, us, rfl, hge, hbg, hlu, hmu, hg2, hdu, heq⟩
  have hval : vs W64 us 0 n1 = N := by rw [← h1.val]; exact vs_congr (fun i hi => by rw [Nat.zero_add]; exact heq i hi)
  have HVAL := Lib.hid hval
  have hcell3 : w2.cell? ⟨b2, o2, none⟩ = some (.int .u64 (y : Int)) := hg2.cell hcell2' (by simp)
  clear heq hval
  go_wp2_with fail
  refine (divideInPlace_any g 0 n1 us.length y us w2 hbg (by omega) hdu hsm hy0 hyW).mono ?_
  rintro e w3 ⟨r, zs, rfl, hbz, hg3, hdv⟩
  obtain ⟨d1, d2, d3, d4⟩ := hdv
  rw [HVAL.out] at d4
  have hlz : zs.length = us.length := d1.len
  have hq : vs W64 zs 0 n1 = N / y := by
    have := Nat.div_mod_unique hy0 (a := N) (d := vs W64 zs 0 n1) (c := r)
    exact (this.2 ⟨by omega, d3⟩).1.symm
  have hr : r = N % y := by
    have := Nat.div_mod_unique hy0 (a := N) (d := vs W64 zs 0 n1) (c := r)
    exact (this.2 ⟨by omega, d3⟩).2.symm
  have HQ := Lib.hid hq
  have HR := Lib.hid hr
  have hfit : 0 + n1 ≤ zs.length := by omega
  have hg3b := hg3
  clear d4 hq hr hlz d1
  go_wp2_with fail
  refine (trimmed_num g 0 n1 us.length zs _ (hbz.alloc _) hfit d2 hlu hmu hsm).mono ?_
  rintro e w4 ⟨⟨m, rfl, hm4⟩, rfl⟩
  go_wp2_with fail
  refine (trimmed_num w3.heap.size 0 1 1 [r] _ (blk_one w3 .u64 96 r) (by simp) (dg_one (by omega)) (Nat.le_refl _) (by decide) (by omega)).mono ?_
  rintro e w5 ⟨⟨m', rfl, hm5⟩, rfl⟩
  rw [HQ.out] at hm4
  rw [vs_one, HR.out] at hm5
  have HM4 := Lib.hid hm4
  have HM5 := Lib.hid hm5
  clear hm4 hm5
  go_wp2
  go_ret2
  refine ⟨.slice (some ⟨g, 0, none⟩) m us.length, .slice (some ⟨w3.heap.size, 0, none⟩) m' 1, rfl, .inr ⟨g, 0, m, us.length, zs, rfl, ?_⟩, ⟨w3.heap.size, 0, m', 1, [r], rfl, ?_⟩, ?_⟩
  · rw [← HR.out] at *; exact HM4.out
  · have := HM5.out
    rw [← HR.out] at this ⊢
    exact this
  · have := (hq1.gr none)
    exact gr_then (gr_new (gr_then this hg2) hg3b (by have := (hq1.gr none).size; omega)) (gr_alloc _ _ _)
end Go.Proofs.YteajpefbmiiioaaGreatDoor
namespace Go.Proofs.YteajpefbmiiioaaGreatDoor
open Go.RowKit Mth

theorem NumAt.len_one {w : World} {g off m c N : Nat} {xs : List Nat} (h : NumAt w g off m c xs N) (h0 : 0 < N) (h1 : N < W64) : m = 1 := by
  have hm0 : m ≠ 0 := by intro e; have := h.val; rw [e] at this; simp [vs] at this; omega
  rcases Nat.lt_or_ge 1 m with h2 | h2
  · obtain ⟨k, rfl⟩ : ∃ k, m = k + 1 := ⟨m - 1, by omega⟩
    have h3 : gt xs (off + k) ≠ 0 := by rcases h.top with h | h; omega; simpa using h
    have h4 := h.val
    simp only [vs] at h4
    have h5 : W64 ^ k * 1 ≤ W64 ^ k * gt xs (off + k) := Nat.mul_le_mul_left _ (by omega)
    have h6 : W64 ^ 1 ≤ W64 ^ k := Nat.pow_le_pow_right W64_pos (by omega)
    rw [Nat.pow_one] at h6
    omega
  · omega
theorem divide_num (v1 v2 : Value) (N M : Nat) (w : World) (h1 : Num w v1 N) (h2 : Num w v2 M) (h0 : 0 < M) (hs : N < M ∨ M < W64) :
    Calls Tryz.prog 82 #[v1, v2] w fun e w' => DivOut w w' e N M := by
  obtain ⟨g1, o1, m1, c1, xs, rfl, h1⟩ := h1
  obtain ⟨g2, o2, m2, c2, ys, rfl, h2⟩ := h2
  rcases Nat.lt_or_ge N M with h | h
  · exact divide_less g1 o1 m1 c1 g2 o2 m2 c2 N M xs ys w h1 h2 h
  · have hM : M < W64 := by omega
    obtain rfl := h2.len_one h0 hM
    exact divide_one g1 o1 m1 c1 g2 o2 c2 N M xs ys w h1 h2 h

theorem quo_any (s t : ByteArray) (w : World) (hs : s.size ≤ 1000000000000) (ht : t.size ≤ 1000000000000) (h0 : 0 < num t.data.toList) (hsm : num s.data.toList < num t.data.toList ∨ num t.data.toList < W64) :
    Calls Tryz.prog 26 #[.string s, .string t] w fun e w' => e = .returned (.tuple #[.string ⟨(enc (num s.data.toList / num t.data.toList)).toArray⟩, .string ⟨(enc (num s.data.toList % num t.data.toList)).toArray⟩, .bool true]) ∧ w.grownBy w' none := by
  have H0 := Lib.hid h0
  have HS := Lib.hid hsm
  clear h0 hsm
  go_enter Tryz.func26, Tryz.ntmps26
  go_wp2_with fail
  refine (wordsOf_any t w (by omega)).mono ?_
  rintro e w1 ⟨b1, ys, rfl, hlt1, hb1, hg1, hw1, hsz1⟩
  have hpos : 0 < ys.length := by
    rcases Nat.eq_zero_or_pos ys.length with h | h
    · have := words_nil hw1 h; have := H0.out; omega
    · exact h
  have hb0 : ((ys.length : Int) == 0) = false := by rw [beq_eq_false_iff_ne]; omega
  go_wp2_with fail
  refine (wordsOf_any s w1 (by omega)).mono ?_
  rintro e w2 ⟨b2, xs, rfl, hlt2, hb2, hg2, hw2, hsz2⟩
  have hn1 := (Num.of_words hb1 hw1 (by omega)).kept hg2
  have hn2 := Num.of_words hb2 hw2 (by omega)
  have HN1 := Lib.hid hn1
  have HN2 := Lib.hid hn2
  clear hn1 hn2
  go_wp2_with fail
  refine (divide_num _ _ _ _ w2 HN2.out HN1.out H0.out HS.out).mono ?_
  rintro e w3 ⟨q, r, rfl, hq, hr, hg3⟩
  have HQ := Lib.hid hq
  have HR := Lib.hid hr
  clear hq hr
  go_wp2_with fail
  refine (natOf_num q _ w3 HQ.out).mono ?_
  rintro e w4 ⟨rfl, hg4⟩
  go_wp2_with fail
  refine (natOf_num r _ w4 (.inr (HR.out.kept hg4))).mono ?_
  rintro e w5 ⟨rfl, hg5⟩
  generalize hsq : (⟨(enc (num s.data.toList / num t.data.toList)).toArray⟩ : ByteArray) = sq
  generalize hsr : (⟨(enc (num s.data.toList % num t.data.toList)).toArray⟩ : ByteArray) = sr
  have HSQ := Lib.hid hsq
  have HSR := Lib.hid hsr
  clear hsq hsr
  go_wp2
  go_ret3
  refine ⟨?_, gr_then hg1 (gr_then hg2 (gr_then hg3 (gr_then hg4 hg5)))⟩
  rw [HSQ.out, HSR.out]; rfl
end Go.Proofs.YteajpefbmiiioaaGreatDoor
namespace Go.Proofs.YteajpefbmiiioaaGreatDoor
open Go.RowKit Mth

theorem trimmed_lt (b n c K : Nat) (xs : List Nat) (w : World) (hb : Blk .u64 96 w b xs) (hn : n ≤ xs.length) (hd : Dg W64 xs) (hc : n ≤ c) (hm : c ≤ maxLen) (hK : vs W64 xs 0 n < W64 ^ K) (hs : K ≤ 1099511627776) :
    Calls Tryz.prog 125 #[.slice (some ⟨b, 0, none⟩) n c] w fun e w' => (∃ m, e = .returned (.slice (some ⟨b, 0, none⟩) m c) ∧ NumAt w b 0 m c xs (vs W64 xs 0 n)) ∧ w = w' := by
  refine (trimmed_any b 0 n c xs w hb (by omega) hc hm).mono ?_
  rintro e w' ⟨⟨m, rfl, hmn, hz, htop⟩, rfl⟩
  have hv : vs W64 xs 0 m = vs W64 xs 0 n := by
    obtain ⟨k, rfl⟩ : ∃ k, n = m + k := ⟨n - m, by omega⟩
    rw [vs_split, vs_zero (n := k) (fun i hi => by rw [Nat.add_assoc]; exact hz _ (by omega) (by omega))]; simp
  have hmK : m ≤ K := by
    rcases Nat.lt_or_ge K m with h1 | h1
    · obtain ⟨j, rfl⟩ : ∃ j, m = j + 1 := ⟨m - 1, by omega⟩
      have h3 : gt xs (0 + j) ≠ 0 := by rcases htop with h | h; omega; simpa using h
      rw [← hv] at hK
      simp only [vs] at hK
      have h5 : W64 ^ j * 1 ≤ W64 ^ j * gt xs (0 + j) := Nat.mul_le_mul_left _ (by omega)
      have h6 : W64 ^ K ≤ W64 ^ j := Nat.pow_le_pow_right W64_pos (by omega)
      omega
    · exact h1
  exact ⟨⟨m, rfl, hb, by omega, hd, hv, htop, by omega, hm, by omega⟩, rfl⟩

/-- What divide returns, and where the rest lies. -/
def DivOutB (v1 : Value) (w w' : World) (e : Ending) (N M : Nat) : Prop := ∃ q r, e = .returned (.tuple #[q, r]) ∧ NumQ w' q (N / M) ∧ Num w' r (N % M) ∧ w.grownBy w' none ∧ (r = v1 ∨ ∃ g o m c, r = .slice (some ⟨g, o, none⟩) m c ∧ w.heap.size ≤ g)
theorem DivOutB.out {v1 : Value} {w w' : World} {e : Ending} {N M : Nat} (h : DivOutB v1 w w' e N M) : DivOut w w' e N M := by
  obtain ⟨q, r, h1, h2, h3, h4, _⟩ := h
  exact ⟨q, r, h1, h2, h3, h4⟩
theorem divide_lessB (b1 o1 n1 c1 b2 o2 n2 c2 N M : Nat) (xs ys : List Nat) (w : World) (h1 : NumAt w b1 o1 n1 c1 xs N) (h2 : NumAt w b2 o2 n2 c2 ys M) (hlt : N < M) :
    Calls Tryz.prog 82 #[.slice (some ⟨b1, o1, none⟩) n1 c1, .slice (some ⟨b2, o2, none⟩) n2 c2] w fun e w' => DivOutB (.slice (some ⟨b1, o1, none⟩) n1 c1) w w' e N M := by
  have hc : cmpN (vs W64 xs o1 n1) (vs W64 ys o2 n2) = -1 := by rw [h1.val, h2.val]; unfold cmpN; rw [if_pos hlt]
  have HC := Lib.hid hc
  have H1 := Lib.hid h1
  have HLT := Lib.hid hlt
  clear hc hlt
  go_enter Tryz.func82, Tryz.ntmps82
  go_wp2_with fail
  refine (compare_any b1 o1 n1 c1 b2 o2 n2 c2 xs ys w h1.blk h1.fit h2.blk h2.fit h1.dg h2.dg h1.small h1.top h2.top).mono ?_
  rintro e w1 ⟨rfl, hq1⟩
  rw [HC.out]
  go_wp2
  go_ret2
  refine ⟨.slice none 0 0, .slice (some ⟨b1, o1, none⟩) n1 c1, rfl, .inl ⟨rfl, Nat.div_eq_of_lt HLT.out⟩, ⟨b1, o1, n1, c1, xs, rfl, ?_⟩, hq1.gr none, .inl rfl⟩
  rw [Nat.mod_eq_of_lt HLT.out]
  exact H1.out.kept (hq1.gr none) (by simp)

theorem divide_oneB (b1 o1 n1 c1 b2 o2 c2 N y : Nat) (xs ys : List Nat) (w : World) (h1 : NumAt w b1 o1 n1 c1 xs N) (h2 : NumAt w b2 o2 1 c2 ys y) (hle : y ≤ N) :
    Calls Tryz.prog 82 #[.slice (some ⟨b1, o1, none⟩) n1 c1, .slice (some ⟨b2, o2, none⟩) 1 c2] w fun e w' => DivOutB (.slice (some ⟨b1, o1, none⟩) n1 c1) w w' e N y := by
  have hyv : gt ys o2 = y := by have := h2.val; simpa [vs] using this
  have hy0 : 0 < y := by have := h2.top; simp at this; omega
  have hcmp : cmpN (vs W64 xs o1 n1) (vs W64 ys o2 1) = cmpN N y := by rw [h1.val, h2.val]
  obtain ⟨cc, hcc⟩ : ∃ cc, cmpN N y = cc := ⟨_, rfl⟩
  have hc0 : decide (cc < 0) = false := by rw [decide_eq_false_iff_not, ← hcc]; unfold cmpN; rw [if_neg (by omega)]; split <;> omega
  have hc1 : ¬ cc < 0 := of_decide_eq_false hc0
  have HC := Lib.hid (hcmp.trans hcc)
  have hyW : y < W64 := hyv ▸ h2.dg o2
  have hpos : 0 < n1 := by
    rcases Nat.eq_zero_or_pos n1 with h | h
    · have := h1.val; rw [h] at this; simp [vs] at this; omega
    · exact h
  have hsm := h1.small
  have hcell2 : w.cell? ⟨b2, o2, none⟩ = some (.int .u64 (y : Int)) := by rw [h2.blk.cell (by have := h2.fit; omega), hyv]
  clear hcc hcmp hle hyv
  go_enter Tryz.func82, Tryz.ntmps82
  go_wp2_with fail
  refine (compare_any b1 o1 n1 c1 b2 o2 1 c2 xs ys w h1.blk h1.fit h2.blk h2.fit h1.dg h2.dg h1.small h1.top h2.top).mono ?_
  rintro e w1 ⟨rfl, hq1⟩
  rw [HC.out]
  have hcell2' : w1.cell? ⟨b2, o2, none⟩ = some (.int .u64 (y : Int)) := by obtain ⟨k, rfl⟩ := hq1; exact hcell2
  have hb' := h1.blk.kept (hq1.gr none) (by simp)
  go_wp2_with fail
  refine (clone_any b1 o1 n1 c1 xs w1 hb' h1.fit hsm hpos h1.dg).mono ?_
  rintro e w2 ⟨g, us, rfl, hge, hbg, hlu, hmu, hg2, hdu, heq⟩
  have hval : vs W64 us 0 n1 = N := by rw [← h1.val]; exact vs_congr (fun i hi => by rw [Nat.zero_add]; exact heq i hi)
  have HVAL := Lib.hid hval
  have hcell3 : w2.cell? ⟨b2, o2, none⟩ = some (.int .u64 (y : Int)) := hg2.cell hcell2' (by simp)
  clear heq hval
  go_wp2_with fail
  refine (divideInPlace_any g 0 n1 us.length y us w2 hbg (by omega) hdu hsm hy0 hyW).mono ?_
  rintro e w3 ⟨r, zs, rfl, hbz, hg3, hdv⟩
  obtain ⟨d1, d2, d3, d4⟩ := hdv
  rw [HVAL.out] at d4
  have hlz : zs.length = us.length := d1.len
  have hq : vs W64 zs 0 n1 = N / y := by
    have := Nat.div_mod_unique hy0 (a := N) (d := vs W64 zs 0 n1) (c := r)
    exact (this.2 ⟨by omega, d3⟩).1.symm
  have hr : r = N % y := by
    have := Nat.div_mod_unique hy0 (a := N) (d := vs W64 zs 0 n1) (c := r)
    exact (this.2 ⟨by omega, d3⟩).2.symm
  have HQ := Lib.hid hq
  have HR := Lib.hid hr
  have hfit : 0 + n1 ≤ zs.length := by omega
  have hg3b := hg3
  clear d4 hq hr hlz d1
  go_wp2_with fail
  refine (trimmed_num g 0 n1 us.length zs _ (hbz.alloc _) hfit d2 hlu hmu hsm).mono ?_
  rintro e w4 ⟨⟨m, rfl, hm4⟩, rfl⟩
  go_wp2_with fail
  refine (trimmed_num w3.heap.size 0 1 1 [r] _ (blk_one w3 .u64 96 r) (by simp) (dg_one (by omega)) (Nat.le_refl _) (by decide) (by omega)).mono ?_
  rintro e w5 ⟨⟨m', rfl, hm5⟩, rfl⟩
  rw [HQ.out] at hm4
  rw [vs_one, HR.out] at hm5
  have HM4 := Lib.hid hm4
  have HM5 := Lib.hid hm5
  clear hm4 hm5
  go_wp2
  go_ret2
  refine ⟨.slice (some ⟨g, 0, none⟩) m us.length, .slice (some ⟨w3.heap.size, 0, none⟩) m' 1, rfl, .inr ⟨g, 0, m, us.length, zs, rfl, ?_⟩, ⟨w3.heap.size, 0, m', 1, [r], rfl, ?_⟩, ?_, .inr ⟨_, _, _, _, rfl, by have := (hq1.gr none).size; have := hg2.size; have := hg3b.size; omega⟩⟩
  · rw [← HR.out] at *; exact HM4.out
  · have := HM5.out
    rw [← HR.out] at this ⊢
    exact this
  · have := (hq1.gr none)
    exact gr_then (gr_new (gr_then this hg2) hg3b (by have := (hq1.gr none).size; omega)) (gr_alloc _ _ _)
/-- What the shifted numbers are. -/
structure ShF (N M s V R0 n1 n2 m : Nat) : Prop where
  v : V = M * 2 ^ s
  r : R0 = N * 2 ^ s
  vlt : V < W64 ^ n2
  vge : W64 ^ (n2 - 1) ≤ V
  m1 : n1 + 1 = m + n2
  small : R0 / W64 ^ m < V
theorem shF {N M s n1 n2 top : Nat} (hN : N < W64 ^ n1) (hM : W64 ^ (n2 - 1) * top ≤ M) (hM2 : M < W64 ^ (n2 - 1) * (top + 1)) (ht : top ≠ 0) (hts : top + 1 ≤ 2 ^ (64 - s)) (hs : s ≤ 63) (hn : 2 ≤ n2) (hle : M ≤ N) :
    ShF N M s (M * 2 ^ s) (N * 2 ^ s) n1 n2 (n1 + 1 - n2) := by
  have hS : 0 < 2 ^ s := Nat.pow_pos (by decide)
  have hge : W64 ^ (n2 - 1) ≤ M := Nat.le_trans (Nat.le_mul_of_pos_right _ (by omega)) hM
  have hn12 : n2 ≤ n1 := by
    have h1 : W64 ^ (n2 - 1) < W64 ^ n1 := by omega
    have h2 := (Nat.pow_lt_pow_iff_right (by decide)).1 h1
    omega
  refine ⟨rfl, rfl, ?_, Nat.le_trans hge (Nat.le_mul_of_pos_right _ hS), by omega, ?_⟩
  · have h1 : W64 ^ (n2 - 1) * (top + 1) * 2 ^ s ≤ W64 ^ (n2 - 1) * 2 ^ (64 - s) * 2 ^ s := Nat.mul_le_mul_right _ (Nat.mul_le_mul_left _ hts)
    have h2 : M * 2 ^ s < W64 ^ (n2 - 1) * (top + 1) * 2 ^ s := Nat.mul_lt_mul_of_pos_right hM2 hS
    have h3 : W64 ^ (n2 - 1) * 2 ^ (64 - s) * 2 ^ s = W64 ^ n2 := by
      rw [Nat.mul_assoc, ← pow_parts (by omega), ← Nat.pow_succ, show (n2 - 1).succ = n2 from by omega]
    rw [h3] at h1
    omega
  · rw [Nat.div_lt_iff_lt_mul (Nat.pow_pos W64_pos)]
    have h1 : W64 ^ n1 = W64 ^ (n2 - 1) * W64 ^ (n1 + 1 - n2) := by rw [← Nat.pow_add]; congr 1; omega
    have h2 : N * 2 ^ s < W64 ^ n1 * 2 ^ s := Nat.mul_lt_mul_of_pos_right hN hS
    have h3 : W64 ^ (n2 - 1) * (W64 ^ (n1 + 1 - n2) * 2 ^ s) ≤ M * (W64 ^ (n1 + 1 - n2) * 2 ^ s) := Nat.mul_le_mul_right _ hge
    rw [h1, Nat.mul_assoc] at h2
    rw [Nat.mul_assoc, Nat.mul_comm (2 ^ s)]
    omega
theorem vs_high {xs : List Nat} {m n L X : Nat} (hd : Dg W64 xs) (h : vs W64 xs 0 L = X) (hL : L = m + n) : vs W64 xs m n = X / W64 ^ m := by
  subst hL
  rw [← h, vs_split, Nat.add_mul_div_left _ _ (Nat.pow_pos W64_pos), Nat.div_eq_of_lt (vs_lt hd), Nat.zero_add, Nat.zero_add]
theorem vs_cut {xs : List Nat} {n X : Nat} (h : vs W64 xs 0 (n + 1) = X) (hX : X < W64 ^ n) : vs W64 xs 0 n = X := by
  simp only [vs] at h
  rcases Nat.eq_zero_or_pos (gt xs (0 + n)) with h0 | h0
  · rw [h0] at h; simpa using h
  · have := Nat.le_mul_of_pos_right (W64 ^ n) h0
    omega
theorem NumAt.top_bounds {w : World} {g off m c N : Nat} {xs : List Nat} (h : NumAt w g off m c xs N) (h0 : 0 < m) : gt xs (off + (m - 1)) ≠ 0 ∧ W64 ^ (m - 1) * gt xs (off + (m - 1)) ≤ N ∧ N < W64 ^ (m - 1) * (gt xs (off + (m - 1)) + 1) := by
  obtain ⟨j, rfl⟩ : ∃ j, m = j + 1 := ⟨m - 1, by omega⟩
  have h3 : gt xs (off + (j + 1 - 1)) ≠ 0 := by rcases h.top with h | h; omega; exact h
  have h4 := h.val
  rw [Nat.add_sub_cancel] at h3 ⊢
  simp only [vs] at h4
  have h5 := vs_lt (off := off) (n := j) h.dg
  refine ⟨h3, by omega, ?_⟩
  rw [Nat.mul_add]
  omega

set_option maxHeartbeats 4000000 in
set_option maxRecDepth 100000 in
theorem divide_many (b1 o1 n1 c1 b2 o2 n2 c2 N M : Nat) (xs ys : List Nat) (w : World) (h1 : NumAt w b1 o1 n1 c1 xs N) (h2 : NumAt w b2 o2 n2 c2 ys M) (hle : M ≤ N) (hn : 2 ≤ n2) :
    Calls Tryz.prog 82 #[.slice (some ⟨b1, o1, none⟩) n1 c1, .slice (some ⟨b2, o2, none⟩) n2 c2] w fun e w' => DivOutB (.slice (some ⟨b1, o1, none⟩) n1 c1) w w' e N M := by
  obtain ⟨t1, t2, t3⟩ := h2.top_bounds (by omega)
  obtain ⟨top, htop⟩ : ∃ top, top = gt ys (o2 + (n2 - 1)) := ⟨_, rfl⟩
  have htW : top < W64 := by rw [htop]; exact h2.dg _
  have hcell2 : w.cell? ⟨b2, o2 + (n2 - 1), none⟩ = some (.int .u64 (top : Int)) := by rw [h2.blk.cell (by have := h2.fit; omega), htop]
  rw [← htop] at t1 t2 t3
  obtain ⟨l1, l2, l3, l4⟩ := bitLen_bounds htW t1
  obtain ⟨s, hs⟩ : ∃ s, Lib.bitLen top = 64 - s ∧ s ≤ 63 := ⟨64 - Lib.bitLen top, by omega, by omega⟩
  have hs63 := hs.2
  have HS := Lib.hid hs.1
  rw [hs.1] at l4
  have hNlt : N < W64 ^ n1 := by rw [← h1.val]; exact vs_lt h1.dg
  have hF := shF hNlt t2 t3 t1 l4 hs63 hn hle
  obtain ⟨V, hV⟩ : ∃ V, V = M * 2 ^ s := ⟨_, rfl⟩
  obtain ⟨R0, hR0⟩ : ∃ R0, R0 = N * 2 ^ s := ⟨_, rfl⟩
  obtain ⟨m, hm⟩ : ∃ m, m = n1 + 1 - n2 := ⟨_, rfl⟩
  rw [← hV, ← hR0, ← hm] at hF
  have HM1 := Lib.hid hF.m1
  have hmle : m ≤ 1099511627776 := by have := hF.m1; have := h1.small; omega
  have hM0 : 0 < M := Nat.lt_of_lt_of_le (Nat.mul_pos (Nat.pow_pos W64_pos) (Nat.pos_of_ne_zero t1)) t2
  have hcmp : cmpN (vs W64 xs o1 n1) (vs W64 ys o2 n2) = cmpN N M := by rw [h1.val, h2.val]
  obtain ⟨cc, hcc⟩ : ∃ cc, cmpN N M = cc := ⟨_, rfl⟩
  have hc0 : decide (cc < 0) = false := by rw [decide_eq_false_iff_not, ← hcc]; unfold cmpN; rw [if_neg (by omega)]; split <;> omega
  have hc1 : ¬ cc < 0 := of_decide_eq_false hc0
  have HC := Lib.hid (hcmp.trans hcc)
  have HF := Lib.hid hF
  have HML := Lib.hid h2.val
  have HNL := Lib.hid h1.val
  have hsm1 := h1.small
  have hsm2 := h2.small
  have hne1 : ¬ n2 = 1 := by omega
  have H1 := Lib.hid h1
  have H2 := Lib.hid h2
  have HM0 := Lib.hid hM0
  have htop0 := Nat.pos_of_ne_zero t1
  clear hcc hcmp hle t1 t2 t3 l1 l2 l3 l4 hs hNlt hF hV hR0 hm htop hM0
  go_enter Tryz.func82, Tryz.ntmps82
  go_wp2_with fail
  refine (compare_any b1 o1 n1 c1 b2 o2 n2 c2 xs ys w h1.blk h1.fit h2.blk h2.fit h1.dg h2.dg h1.small h1.top h2.top).mono ?_
  rintro e w1 ⟨rfl, hq1⟩
  rw [HC.out]
  have hgw1 := hq1.gr none
  have hcell2' : w1.cell? ⟨b2, o2 + (n2 - 1), none⟩ = some (.int .u64 (top : Int)) := hgw1.cell hcell2 (by simp)
  go_wp2_with fail
  refine (Tryz.bits_LeadingZeros64 _ _ (by omega) (by rw [W64_eq] at htW; omega)).mono ?_
  rintro e w2 ⟨rfl, rfl⟩
  rw [show Lib.bitLen ((top : Int).toNat) = 64 - s from HS.out]
  rw [show (64 - ((64 - s : Nat) : Int)) = (s : Int) from by omega]
  go_wp2_with fail
  refine (shiftedLeft_any b2 o2 n2 c2 s ys _ (H2.out.blk.kept hgw1 (by simp)) H2.out.fit H2.out.dg hsm2 hs63).mono ?_
  rintro e w3 ⟨g2, zs2, rfl, hlt2, hz2, hg3, hd2, hlz2, hv2⟩
  rw [HML.out, ← HF.out.v] at hv2
  have HV2 := Lib.hid (vs_cut hv2 HF.out.vlt)
  have HLZ2 := Lib.hid hlz2
  clear hv2 hlz2
  go_wp2_with fail
  refine (shiftedLeft_any b1 o1 n1 c1 s xs _ ((H1.out.blk.kept hgw1 (by simp)).kept hg3 (by simp)) H1.out.fit H1.out.dg hsm1 hs63).mono ?_
  rintro e w4 ⟨g1, zs1, rfl, hlt1, hz1, hg4, hd1, hlz1, hv1⟩
  rw [HNL.out, ← HF.out.r] at hv1
  have hz2' := hz2.kept hg4 (by simp)
  have hne : g2 ≠ g1 := by have := hz2.lt; omega
  have HV1 := Lib.hid hv1
  have HHI := Lib.hid (vs_high hd1 hv1 HM1.out)
  have HLZ1 := Lib.hid hlz1
  clear hv1 hlz1
  have hsz1 := hg3.size
  have hsz0 := hgw1.size
  go_wp2_with fail
  refine (divideLong_any g1 (n1 + 1) (n1 + 1) g2 n2 (n2 + 1) m V R0 zs1 zs2 w4 hz1 HLZ1.out hd1 rfl hz2' (by rw [HLZ2.out]; omega) hd2 (by omega) hsm2 hne hn HM1.out HV2.out HF.out.vge HV1.out (by rw [HHI.out]; exact HF.out.small)).mono ?_
  rintro e w5 ⟨gq, qs, zr, rfl, hltq, hbq, hlq, hdq, hvq, hbr, hlr, hdr, hvr, hg5⟩
  have HQ := Lib.hid (And.intro hlq (And.intro hdq hvq))
  have HR := Lib.hid (And.intro hlr hvr)
  have hltg1 := hz1.lt
  have hgqne : gq ≠ g1 := by omega
  clear hlq hdq hvq hlr hvr
  go_wp2_with fail
  refine (shiftRight_any g1 (n1 + 1) (n1 + 1) s zr w5 hbr HR.out.1.symm hdr (by omega) hs63).mono ?_
  rintro e w6 ⟨rfl, us, hbu, hg6, hlu, hdu, hvu⟩
  have HU := Lib.hid (And.intro hlu hvu)
  have hbq6 := hbq.kept hg6 (by simpa using hgqne)
  have hqv : vs W64 qs 0 m = N / M := by
    rw [HQ.out.2.2, HF.out.r, HF.out.v, Nat.mul_div_mul_right _ _ (Nat.pow_pos (by decide))]
  have hrv : vs W64 us 0 (n1 + 1) = N % M := by
    rw [HU.out.2, HR.out.2, HF.out.r, HF.out.v, Nat.mul_mod_mul_right, Nat.mul_div_cancel _ (Nat.pow_pos (by decide))]
  have HQV := Lib.hid hqv
  have HRV := Lib.hid hrv
  have hrlt : vs W64 us 0 (n1 + 1) < W64 ^ n2 := by
    rw [hrv]
    refine Nat.lt_trans (Nat.mod_lt _ HM0.out) ?_
    rw [← HML.out]; exact vs_lt H2.out.dg
  have HRL := Lib.hid hrlt
  clear hqv hrv hrlt hlu hvu
  go_wp2_with fail
  refine (trimmed_num gq 0 m m qs _ hbq6 (by rw [HQ.out.1]; omega) HQ.out.2.1 (Nat.le_refl _) (by unfold maxLen; omega) (by omega)).mono ?_
  rintro e w7 ⟨⟨m7, rfl, hm7⟩, rfl⟩
  go_wp2_with fail
  refine (trimmed_lt g1 (n1 + 1) (n1 + 1) n2 us _ hbu (by rw [HU.out.1]; omega) hdu (Nat.le_refl _) (by unfold maxLen; omega) HRL.out hsm2).mono ?_
  rintro e w8 ⟨⟨m8, rfl, hm8⟩, rfl⟩
  rw [HQV.out] at hm7
  rw [HRV.out] at hm8
  have H7 := Lib.hid hm7
  have H8 := Lib.hid hm8
  have hgA : w.grownBy w6 none := by
    have hA := gr_then hgw1 (gr_then hg3 hg4)
    exact gr_new (gr_new hA hg5 (by omega)) hg6 (by omega)
  clear hm7 hm8
  go_wp2
  go_ret2
  exact ⟨.slice (some ⟨gq, 0, none⟩) m7 m, .slice (some ⟨g1, 0, none⟩) m8 (n1 + 1), rfl, .inr ⟨gq, 0, m7, m, qs, rfl, H7.out⟩, ⟨g1, 0, m8, n1 + 1, us, rfl, H8.out⟩, hgA, .inr ⟨_, _, _, _, rfl, by omega⟩⟩

theorem divide_allB (v1 v2 : Value) (N M : Nat) (w : World) (h1 : Num w v1 N) (h2 : Num w v2 M) (h0 : 0 < M) :
    Calls Tryz.prog 82 #[v1, v2] w fun e w' => DivOutB v1 w w' e N M := by
  obtain ⟨g1, o1, m1, c1, xs, rfl, h1⟩ := h1
  obtain ⟨g2, o2, m2, c2, ys, rfl, h2⟩ := h2
  rcases Nat.lt_or_ge N M with h | h
  · exact divide_lessB g1 o1 m1 c1 g2 o2 m2 c2 N M xs ys w h1 h2 h
  · rcases Nat.lt_or_ge M W64 with hM | hM
    · obtain rfl := h2.len_one h0 hM
      exact divide_oneB g1 o1 m1 c1 g2 o2 c2 N M xs ys w h1 h2 h
    · have h3 : M < W64 ^ m2 := by rw [← h2.val]; exact vs_lt h2.dg
      have h4 : W64 ^ 1 < W64 ^ m2 := by rw [Nat.pow_one]; omega
      exact divide_many g1 o1 m1 c1 g2 o2 m2 c2 N M xs ys w h1 h2 h ((Nat.pow_lt_pow_iff_right (by decide)).1 h4)
theorem divide_all (v1 v2 : Value) (N M : Nat) (w : World) (h1 : Num w v1 N) (h2 : Num w v2 M) (h0 : 0 < M) :
    Calls Tryz.prog 82 #[v1, v2] w fun e w' => DivOut w w' e N M := (divide_allB v1 v2 N M w h1 h2 h0).mono fun _ _ h => h.out

theorem quo_all (s t : ByteArray) (w : World) (hs : s.size ≤ 1000000000000) (ht : t.size ≤ 1000000000000) (h0 : 0 < num t.data.toList) :
    Calls Tryz.prog 26 #[.string s, .string t] w fun e w' => e = .returned (.tuple #[.string ⟨(enc (num s.data.toList / num t.data.toList)).toArray⟩, .string ⟨(enc (num s.data.toList % num t.data.toList)).toArray⟩, .bool true]) ∧ w.grownBy w' none := by
  have H0 := Lib.hid h0
  clear h0
  go_enter Tryz.func26, Tryz.ntmps26
  go_wp2_with fail
  refine (wordsOf_any t w (by omega)).mono ?_
  rintro e w1 ⟨b1, ys, rfl, hlt1, hb1, hg1, hw1, hsz1⟩
  have hpos : 0 < ys.length := by
    rcases Nat.eq_zero_or_pos ys.length with h | h
    · have := words_nil hw1 h; have := H0.out; omega
    · exact h
  have hb0 : ((ys.length : Int) == 0) = false := by rw [beq_eq_false_iff_ne]; omega
  go_wp2_with fail
  refine (wordsOf_any s w1 (by omega)).mono ?_
  rintro e w2 ⟨b2, xs, rfl, hlt2, hb2, hg2, hw2, hsz2⟩
  have hn1 := (Num.of_words hb1 hw1 (by omega)).kept hg2
  have hn2 := Num.of_words hb2 hw2 (by omega)
  have HN1 := Lib.hid hn1
  have HN2 := Lib.hid hn2
  clear hn1 hn2
  go_wp2_with fail
  refine (divide_all _ _ _ _ w2 HN2.out HN1.out H0.out).mono ?_
  rintro e w3 ⟨q, r, rfl, hq, hr, hg3⟩
  have HQ := Lib.hid hq
  have HR := Lib.hid hr
  clear hq hr
  go_wp2_with fail
  refine (natOf_num q _ w3 HQ.out).mono ?_
  rintro e w4 ⟨rfl, hg4⟩
  go_wp2_with fail
  refine (natOf_num r _ w4 (.inr (HR.out.kept hg4))).mono ?_
  rintro e w5 ⟨rfl, hg5⟩
  generalize hsq : (⟨(enc (num s.data.toList / num t.data.toList)).toArray⟩ : ByteArray) = sq
  generalize hsr : (⟨(enc (num s.data.toList % num t.data.toList)).toArray⟩ : ByteArray) = sr
  have HSQ := Lib.hid hsq
  have HSR := Lib.hid hsr
  clear hsq hsr
  go_wp2
  go_ret3
  refine ⟨?_, gr_then hg1 (gr_then hg2 (gr_then hg3 (gr_then hg4 hg5)))⟩
  rw [HSQ.out, HSR.out]; rfl
theorem quo_none (s t : ByteArray) (w : World) (ht : t.size ≤ 1000000000000) (h0 : num t.data.toList = 0) :
    Calls Tryz.prog 26 #[.string s, .string t] w fun e w' => e = .returned (.tuple #[.string ⟨#[]⟩, .string ⟨#[]⟩, .bool false]) ∧ w.grownBy w' none := by
  have H0 := Lib.hid h0
  clear h0
  go_enter Tryz.func26, Tryz.ntmps26
  go_wp2_with fail
  refine (wordsOf_any t w (by omega)).mono ?_
  rintro e w1 ⟨b1, ys, rfl, hlt1, hb1, hg1, hw1, hsz1⟩
  have hpos : ys.length = 0 := by
    rcases Nat.eq_zero_or_pos ys.length with h | h
    · exact h
    · have := hw1.ge h; have := Nat.pow_pos (n := ys.length - 1) W64_pos; have := H0.out; omega
  rw [hpos]
  clear hpos
  go_wp2
  go_ret3
  exact ⟨rfl, hg1⟩
end Go.Proofs.YteajpefbmiiioaaGreatDoor
namespace Go.Proofs.YteajpefbmiiioaaGreatDoor
open Go.RowKit Mth

theorem len_max {n : Nat} (h : n ≤ 2199023255552) : n ≤ maxLen := by unfold maxLen; omega
theorem NumAt.len_le {w : World} {g off m c N k : Nat} {xs : List Nat} (h : NumAt w g off m c xs N) (hN : N < W64 ^ k) : m ≤ k := by
  rcases Nat.lt_or_ge k m with h1 | h1
  · obtain ⟨j, rfl⟩ : ∃ j, m = j + 1 := ⟨m - 1, by omega⟩
    have h3 : gt xs (off + j) ≠ 0 := by rcases h.top with h | h; omega; simpa using h
    have h4 := h.val
    simp only [vs] at h4
    have h5 : W64 ^ j * 1 ≤ W64 ^ j * gt xs (off + j) := Nat.mul_le_mul_left _ (by omega)
    have h6 : W64 ^ k ≤ W64 ^ j := Nat.pow_le_pow_right W64_pos (by omega)
    omega
  · exact h1

set_option maxHeartbeats 4000000 in
theorem even_times (va vb vm : Value) (A B M Bm : Nat) (w : World) (ha : Num w va A) (hb : Num w vb B) (hm : Num w vm M) (hc : w.cell? ⟨Bm, 0, none⟩ = some vm) (h0 : 0 < M) (K : Nat) (hK : K ≤ 137438953473) (hsz : A < W64 ^ K ∧ B < W64 ^ K) :
    Calls Tryz.prog 142 #[va, vb, .pointer (some ⟨Bm, 0, none⟩)] w fun e w' => ∃ r, e = .returned r ∧ Num w' r (A * B % M) ∧ w.grownBy w' none := by
  obtain ⟨g1, o1, m1, c1, xs, rfl, h1⟩ := ha
  obtain ⟨g2, o2, m2, c2, ys, rfl, h2⟩ := hb
  obtain ⟨g3, o3, m3, c3, us, rfl, h3⟩ := hm
  have H1 := Lib.hid h1
  have H2 := Lib.hid h2
  have H3 := Lib.hid h3
  have hsm : m1 ≤ K ∧ m2 ≤ K := ⟨h1.len_le hsz.1, h2.len_le hsz.2⟩
  have HSM := Lib.hid hsm
  clear h1 h2 h3 hsz hsm
  go_enter Tryz.func142, Tryz.ntmps142
  go_wp2_with fail
  go_region_with (first
    | (go_at_call 143; refine (product_any g1 o1 m1 c1 g2 o2 m2 c2 xs ys _ (by exact H1.out.blk) H1.out.fit H1.out.dg (by exact H2.out.blk) H2.out.fit H2.out.dg H1.out.small H2.out.small).mono ?_; rintro e w3 ⟨b, zs, rfl, hlt, hbz, hg3, hdz, hlz, hvz⟩; have hc3 := hg3.cell (a := ⟨Bm, 0, none⟩) hc (by simp); have HZ := Lib.hid (And.intro hdz (And.intro hlz hvz)); clear hdz hlz hvz)
    | (go_at_call 125; refine (trimmed_num b 0 zs.length zs.length zs w3 hbz (Nat.le_of_eq (Nat.zero_add _)) HZ.out.1 (Nat.le_refl _) (len_max (by have := HZ.out.2.1; have := H1.out.small; have := H2.out.small; omega)) (by have := HZ.out.2.1; have := HSM.out; omega)).mono ?_; rintro e w4 ⟨⟨m4, rfl, hm4⟩, rfl⟩; have HM4 := Lib.hid hm4; clear hm4)
    | (go_at_call 82; refine (divide_all _ _ (A * B) M w3 ⟨b, 0, m4, zs.length, zs, rfl, (by have h := HM4.out; rw [HZ.out.2.2, H1.out.val, H2.out.val] at h; exact h)⟩ ⟨g3, o3, m3, c3, us, rfl, H3.out.kept (gr_then (gr_drew w none) hg3) (by simp)⟩ h0).mono ?_; rintro e w5 ⟨q, r, rfl, hq, hr, hg5⟩; have HQ := Lib.hid hq; have HR := Lib.hid hr; clear hq hr))
  all_goals
    go_wp2
    go_ret
    exact ⟨r, rfl, HR.out, gr_then (gr_then (gr_drew w none) hg3) hg5⟩
end Go.Proofs.YteajpefbmiiioaaGreatDoor
namespace Go.Proofs.YteajpefbmiiioaaGreatDoor
open Go.RowKit Go.Shelf Mth
attribute [local go_sem] Oper.semAt_some

/-- The i-th binary digit from the top. -/
def bitTop (N i : Nat) : Bool := decide (N / 2 ^ (bitsN N - 1 - i) % 2 = 1)
def bitsTop (N i : Nat) : List Bool := (List.range i).map (bitTop N)
theorem bitsTop_succ (N i : Nat) : bitsTop N (i + 1) = bitsTop N i ++ [bitTop N i] := by simp [bitsTop, List.range_succ]
theorem length_bitsTop (N i : Nat) : (bitsTop N i).length = i := by simp [bitsTop]
/-- What a round must keep for the iterator: its box. -/
def KpBox (Be : Nat) (W W' : World) : Prop := ∀ v, W.cell? ⟨Be, 0, none⟩ = some v → W'.cell? ⟨Be, 0, none⟩ = some v

theorem bitsN_le (e : ByteArray) : bitsN (num e.data.toList) ≤ 8 * e.size := by
  have h := num_lt e.data.toList
  rw [len_toList, show (256 : Nat) = 2 ^ 8 from rfl, ← Nat.pow_mul] at h
  unfold bitsN
  split
  · omega
  · rename_i h0
    have := (Nat.log2_lt h0).2 h
    omega

theorem byte_at {L : List UInt8} {q : Nat} (h : q < L.length) : (L[L.length - 1 - q]'(by omega)).toNat = num L / 256 ^ q % 256 := by
  have e : L = L.take (L.length - 1 - q) ++ (L[L.length - 1 - q]'(by omega) :: L.drop (L.length - q)) := by
    conv => lhs; rw [← List.take_append_drop (L.length - 1 - q) L]
    rw [List.drop_eq_getElem_cons (by omega), show L.length - 1 - q + 1 = L.length - q from by omega]
  have hl : (L.drop (L.length - q)).length = q := by rw [List.length_drop]; omega
  have hr := num_lt (L.drop (L.length - q))
  rw [hl] at hr
  have hd := (L[L.length - 1 - q]'(by omega)).toNat_lt
  generalize hx : L[L.length - 1 - q]'(by omega) = d at *
  have hn : num L = (num (L.take (L.length - 1 - q)) * 256 + d.toNat) * 256 ^ q + num (L.drop (L.length - q)) := by
    conv => lhs; rw [e]
    rw [num_append, num_cons, List.length_cons, hl, Nat.pow_succ, Nat.add_mul, Nat.mul_assoc, Nat.mul_comm 256]
    omega
  rw [hn, Nat.mul_comm _ (256 ^ q), Nat.mul_add_div (Nat.pow_pos (by decide)), Nat.div_eq_of_lt hr]
  omega
theorem bit_of_byte (N q r : Nat) (hr : r < 8) : N / 256 ^ q % 256 / 2 ^ r % 2 = N / 2 ^ (8 * q + r) % 2 := by
  have h1 : 256 = 2 ^ r * (2 * 2 ^ (7 - r)) := by rw [← Nat.pow_succ', ← Nat.pow_add, show r + (7 - r).succ = 8 from by omega]
  generalize hX : N / 256 ^ q = X
  rw [show X % 256 = X % (2 ^ r * (2 * 2 ^ (7 - r))) from by rw [← h1], Nat.mod_mul_right_div_self, Nat.mod_mod_of_dvd _ (Nat.dvd_mul_right _ _), ← hX, Nat.pow_add, ← Nat.div_div_eq_div_mul, Nat.pow_mul]
theorem bit_walk {e : ByteArray} {k m : Nat} (h : e.size - 1 - m / 8 < e.size) (hm : k = bitsN (num e.data.toList) ∧ m + 1 ≤ k ∧ k ≤ 8 * e.size) :
    bitTop (num e.data.toList) (k - (m + 1)) = (bits BinOp.and IntKind.u8 ((e[e.size - 1 - m / 8].toNat : Int) / (2 : Int) ^ (m % 8)) 1 == 1) := by
  obtain ⟨hk, h1, h2⟩ := hm
  have hq : m / 8 < e.data.toList.length := by rw [len_toList]; omega
  have hb := byte_at hq
  have hd : e[e.size - 1 - m / 8] = e.data.toList[e.data.toList.length - 1 - m / 8]'(by omega) := rfl
  rw [hd, hb]
  have hpc : ((2 : Int) ^ (m % 8)) = ((2 ^ (m % 8) : Nat) : Int) := by simp
  rw [hpc, ← Int.natCast_ediv]
  have hlt : num e.data.toList / 256 ^ (m / 8) % 256 / 2 ^ (m % 8) < 256 := Nat.lt_of_le_of_lt (Nat.div_le_self _ _) (Nat.mod_lt _ (by decide))
  have hbit := bit_of_byte (num e.data.toList) (m / 8) (m % 8) (Nat.mod_lt _ (by decide))
  rw [show 8 * (m / 8) + m % 8 = m from by omega] at hbit
  unfold bitTop
  rw [← hk, show k - 1 - (k - (m + 1)) = m from by omega, ← hbit]
  generalize num e.data.toList / 256 ^ (m / 8) % 256 / 2 ^ (m % 8) = c at hlt
  have hm1 := bits_mask .u8 8 (by decide) wraps_u8 1 (by decide) (c : Int) (by omega) (by omega)
  rw [show ((2 : Int) ^ 1 - 1) = 1 from by decide] at hm1
  rw [hm1, Bool.eq_iff_iff, decide_eq_true_eq, beq_iff_eq]
  omega

set_option maxRecDepth 100000 in
set_option maxHeartbeats 2000000 in
theorem bits_stops (n : Nat) (Be : Nat) (e : ByteArray) (w : World) (hc : w.cell? ⟨Be, 0, none⟩ = some (.string e)) (hsz : e.size ≤ 1000000000000) :
    SeqStopsK Fence.wide n Tryz.prog 174 #[.pointer (some ⟨Be, 0, none⟩)] (fun x : Bool => #[Value.bool x]) (KpBox Be) (fun xs => xs = bitsTop (num e.data.toList) (bitsN (num e.data.toList))) (fun _ => True) (bitsN (num e.data.toList)) w := fun l J Jx W hb _ _ hY h0 => by
  have hcW : W.cell? ⟨Be, 0, none⟩ = some (.string e) := by
    rw [hb.cell (p := ⟨Be, 0, none⟩) (World.block_lt_of_cell? w _ hc)]; exact hc
  generalize hN : num e.data.toList = N at *
  generalize hK : bitsN N = k at *
  have HN := Lib.hid hN
  have HK := Lib.hid hK
  clear hN hK
  refine callsIn_of_wp Tryz.func174 rfl trivial ?_ rfl
  simp only [Tryz.ntmps174, List.size_toArray, List.length_cons, List.length_nil, Nat.reduceAdd, Nat.reduceSub, Array.replicate_succ, Array.replicate_zero, List.push_toArray, List.append_toArray, List.nil_append, List.cons_append]
  gi_wp2
  refine ⟨trivial, fun h => absurd h (by decide), ?_⟩
  refine (callsIn_wide.2 (bits_any e _ hsz)).mono ?_
  rintro e' w' ⟨rfl, rfl⟩
  rw [HN.out, HK.out]
  have hkb : k ≤ 8 * e.size := by rw [← HK.out, ← HN.out]; exact bitsN_le e
  gi_wp2
  gi_loopw [3] (fun p wr => ∃ m : Nat, m ≤ k ∧ p = .int .i64 ((m : Int) - 1) ∧ J (bitsTop N (k - m)) wr ∧ wr.cell? ⟨Be, 0, none⟩ = some (.string e)) (fun p _ => (intOf p + 1).toNat)
  case atStart => exact ⟨k, Nat.le_refl _, rfl, by rw [Nat.sub_self]; exact h0, hcW⟩
  case round =>
    obtain ⟨m, hm, rfl, hJ, hce⟩ := hrel
    rcases m with _ | m
    · gi_wp2
      go_end0
      refine ⟨⟨_, rfl⟩, .inl ⟨_, rfl, ?_⟩⟩
      rw [Nat.sub_zero] at hJ
      exact hJ
    · rw [show (((m + 1 : Nat) : Int) - 1) = (m : Int) from by omega]
      obtain ⟨fn, tmps, assign, body, hy, hR⟩ := hY (bitsTop N (k - (m + 1))) (bitTop N (k - (m + 1))) wr hJ (by rw [length_bitsTop]; omega)
      have hlt : e.size - 1 - m / 8 < e.size := by omega
      have hbt : bitTop N (k - (m + 1)) = (bits BinOp.and IntKind.u8 ((e[e.size - 1 - m / 8].toNat : Int) / (2 : Int) ^ (m % 8)) 1 == 1) := by
        rw [← HN.out]
        exact bit_walk hlt ⟨by rw [HN.out, HK.out], by omega, hkb⟩
      rw [hbt] at hy
      have HBT := Lib.hid hbt
      clear hbt
      gi_wp2
      refine ⟨fun h => absurd h (by decide), ?_⟩
      refine hR.mono ?_
      rintro e' W3 (⟨rfl, hJ3, hk3⟩ | ⟨rfl, hJx3⟩)
      · have hc3 := hk3 _ hce
        have hJ4 : J (bitsTop N (k - m)) W3 := by
          rw [show k - m = k - (m + 1) + 1 from by omega, bitsTop_succ]; exact hJ3
        clear hJ3 hk3 hce hy
        gi_wp2
        refine ⟨⟨m, by omega, rfl, hJ4, hc3⟩, by simp [intOf]⟩
      · clear hy
        gi_wp2
        refine bodyPost_ret (results_none rfl _ _ _) rfl ?_
        exact ⟨⟨_, rfl⟩, .inr ⟨_, trivial, hJx3⟩⟩
end Go.Proofs.YteajpefbmiiioaaGreatDoor
namespace Go.Proofs.YteajpefbmiiioaaGreatDoor
open Go.RowKit Go.Shelf Mth

theorem bitsFromTop_any (e : ByteArray) (w : World) :
    Calls Tryz.prog 161 #[.string e] w fun x w' => x = .returned (.func (.func 174) #[] #[.pointer (some ⟨w.heap.size, 0, none⟩)]) ∧ w.alloc (.cells #[.string e] 24) = w' := by
  go_enter Tryz.func161, Tryz.ntmps161
  go_wp2
  go_ret
  exact ⟨rfl, rfl⟩

theorem num_own {W W' : World} {v : Value} {N : Nat} {row : Option Nat} (h : Num W v N) (hg : W.grownBy W' row) (hrow : ∀ r, row = some r → ∃ o : Obj, W.heap[r]? = some o ∧ o.isCells = false) : Num W' v N := by
  obtain ⟨g, off, m, c, xs, rfl, h⟩ := h
  refine ⟨g, off, m, c, xs, rfl, h.kept hg ?_⟩
  intro e
  obtain ⟨o, ho, hc⟩ := hrow g e.symm
  have hb := h.blk
  unfold Blk at hb
  rw [hb] at ho
  obtain rfl := Option.some.inj ho
  simp [Obj.isCells] at hc

/-- Squares and products, bit by bit. -/
def accP (M b : Nat) (l : List Bool) : Nat := l.foldl (fun r bit => if bit then r * r % M * b % M else r * r % M) (1 % M)
theorem accP_snoc (M b : Nat) (l : List Bool) (x : Bool) : accP M b (l ++ [x]) = if x then accP M b l * accP M b l % M * b % M else accP M b l * accP M b l % M := by simp [accP]
theorem accP_lt {M : Nat} (h : 0 < M) (b : Nat) (l : List Bool) : accP M b l < M := by
  rcases List.eq_nil_or_concat l with rfl | ⟨l', x, rfl⟩
  · exact Nat.mod_lt _ h
  · rw [List.concat_eq_append, accP_snoc]; split <;> exact Nat.mod_lt _ h

theorem blk_ne {k : IntKind} {e : TypeId} {W : World} {g B : Nat} {xs : List Nat} {p : Option Addr} {n c : Nat} (h : Blk k e W g xs) (hv : W.cell? ⟨B, 0, none⟩ = some (.slice p n c)) : g ≠ B := by
  rintro rfl
  by_cases hl : 0 < xs.length
  · rw [h.cell hl] at hv; simp at hv
  · have : xs = [] := List.eq_nil_of_length_eq_zero (by omega)
    subst this
    rw [cell_of_row W g 0 _ e (0, 0) h] at hv
    simp [cellsOf] at hv
theorem num_set {W : World} {x v : Value} {N K B : Nat} (h : Num W x N) (hx : Num W v K) (hv : W.cell? ⟨B, 0, none⟩ = some v) (r : Value) : Num (W.setCell ⟨B, 0, none⟩ r) x N := by
  obtain ⟨_, _, _, _, _, rfl, _⟩ := hx
  obtain ⟨g, off, m, c, xs, rfl, h⟩ := h
  exact ⟨g, off, m, c, xs, rfl, h.kept (gr_set _ _ _ _) (by have := blk_ne h.blk hv; simpa using this)⟩

theorem below_gr {w w' : World} (h : Below w.heap.size w w') : w.grownBy w' none := ⟨h.os, h.tape, h.output, h.size, fun k hk _ => h.block k hk⟩
theorem cell_top (w : World) (v : Value) (t : TypeId) : (w.alloc (.cells #[v] t)).cell? ⟨w.heap.size, 0, none⟩ = some v := by
  rw [cell_of_row _ _ _ #[v] t (0, 0) (heap_alloc_new w _)]; rfl
theorem frozen_top (w : World) (v : Value) (t : TypeId) : (w.alloc (.cells #[v] t)).frozen? ⟨w.heap.size, 0, none⟩ = false := by
  unfold World.frozen?
  rw [show (w.alloc (.cells #[v] t)).heap[(⟨w.heap.size, 0, none⟩ : Addr).block]? = some (.cells #[v] t (0, 0)) from heap_alloc_new w _]
  rfl
theorem boxes4 (w : World) (v0 v1 v2 v3 : Value) (t0 t1 t2 t3 : TypeId) (W : World) (hW : W = (((w.alloc (.cells #[v0] t0)).alloc (.cells #[v1] t1)).alloc (.cells #[v2] t2)).alloc (.cells #[v3] t3)) :
    W.heap.size = w.heap.size + 4 ∧ W.cell? ⟨w.heap.size, 0, none⟩ = some v0 ∧ W.cell? ⟨w.heap.size + 1, 0, none⟩ = some v1 ∧ W.cell? ⟨w.heap.size + 1 + 1, 0, none⟩ = some v2 ∧ W.cell? ⟨w.heap.size + 1 + 1 + 1, 0, none⟩ = some v3 ∧ W.frozen? ⟨w.heap.size + 1 + 1, 0, none⟩ = false ∧ w.grownBy W none := by
  subst hW
  have g0 := cell_top w v0 t0
  have g1 := cell_top (w.alloc (.cells #[v0] t0)) v1 t1
  have g2 := cell_top ((w.alloc (.cells #[v0] t0)).alloc (.cells #[v1] t1)) v2 t2
  have g3 := cell_top (((w.alloc (.cells #[v0] t0)).alloc (.cells #[v1] t1)).alloc (.cells #[v2] t2)) v3 t3
  simp only [World.size_alloc] at g1 g2 g3
  have f2 := frozen_top ((w.alloc (.cells #[v0] t0)).alloc (.cells #[v1] t1)) v2 t2
  simp only [World.size_alloc] at f2
  refine ⟨by simp, ?_, ?_, ?_, g3, ?_, gr_then (gr_then (gr_then (gr_alloc _ _ none) (gr_alloc _ _ none)) (gr_alloc _ _ none)) (gr_alloc _ _ none)⟩
  · exact (gr_alloc _ _ none).cell ((gr_alloc _ _ none).cell ((gr_alloc _ _ none).cell g0 (by simp)) (by simp)) (by simp)
  · exact (gr_alloc _ _ none).cell ((gr_alloc _ _ none).cell g1 (by simp)) (by simp)
  · exact (gr_alloc _ _ none).cell g2 (by simp)
  · exact (World.frozen?_of_block (Below.heap_alloc _ _ _ (by simp))).trans f2

attribute [local go_sem] Oper.semAt_some
set_option maxRecDepth 100000 in
set_option maxHeartbeats 2000000 in
theorem power_even (vb vo vm : Value) (b M Bm : Nat) (e : ByteArray) (w : World) (hb : Num w vb b) (ho : Num w vo 1) (hm : Num w vm M) (hc : w.cell? ⟨Bm, 0, none⟩ = some vm) (h1 : 1 < M) (K : Nat) (hK : K ≤ 137438953473) (hM : M < W64 ^ K) (hbM : b < M) (hsz : e.size ≤ 1000000000000) :
    Calls Tryz.prog 139 #[vb, vo, .string e, .func (.func 142) #[] #[.pointer (some ⟨Bm, 0, none⟩)]] w fun x w' => ∃ r, x = .returned r ∧ Num w' r (accP M b (bitsTop (num e.data.toList) (bitsN (num e.data.toList)))) ∧ w.grownBy w' none := by
  obtain ⟨g1, o1, m1, c1, xs, rfl, hb⟩ := hb
  obtain ⟨g2, o2, m2, c2, ys, rfl, ho⟩ := ho
  have HB := Lib.hid hb
  have HO := Lib.hid ho
  have HM := Lib.hid hm
  clear hb ho hm
  refine (callsIn_wide (n := 5)).1 ?_
  refine callsIn_of_wp_marks Tryz.func139 rfl trivial ?_ rfl
  simp only [Tryz.ntmps139, List.size_toArray, List.length_cons, List.length_nil, Nat.reduceAdd, Nat.reduceSub, Array.replicate_succ, Array.replicate_zero, List.push_toArray, List.append_toArray, List.nil_append, List.cons_append]
  gi_wp2
  refine ⟨trivial, (callsIn_wide.2 (bitsFromTop_any _ _)).mono ?_⟩
  rintro e' w' ⟨rfl, rfl⟩
  obtain ⟨W0, hW0⟩ : ∃ W0, W0 = (((w.alloc (Obj.cells #[Value.slice (some ⟨g1, o1, none⟩) m1 c1] 81)).alloc (Obj.cells #[Value.func (Fn.func 142) #[] #[Value.pointer (some ⟨Bm, 0, none⟩)]] 89)).alloc (Obj.cells #[Value.slice (some ⟨g2, o2, none⟩) m2 c2] 81)).alloc (Obj.cells #[.string e] 24) := ⟨_, rfl⟩
  obtain ⟨hs0, k0, k1, k2, k3, f2, hg0⟩ := boxes4 w _ _ _ _ _ _ _ _ W0 hW0
  rw [← hW0]
  simp only [World.size_alloc]
  have kc := hg0.cell hc (by simp)
  clear hW0
  gi_wp2
  have hn1 : Num W0 (.slice (some ⟨g1, o1, none⟩) m1 c1) b := ⟨g1, o1, m1, c1, xs, rfl, HB.out.kept hg0 (by simp)⟩
  have hn2 : Num W0 (.slice (some ⟨g2, o2, none⟩) m2 c2) 1 := ⟨g2, o2, m2, c2, ys, rfl, HO.out.kept hg0 (by simp)⟩
  have hnm : Num W0 vm M := HM.out.kept hg0
  have hBm : Bm < w.heap.size := World.block_lt_of_cell? w _ hc
  have hbb : Below w.heap.size w W0 := ⟨hg0.os, hg0.tape, hg0.output, hg0.size, fun k hk => hg0.block k hk (by simp)⟩
  refine wpIn_rangeFunc_ownF rfl (by omega) (gf := 174) (lb := #[.pointer (some ⟨w.heap.size + 1 + 1 + 1, 0, none⟩)]) rfl trivial (enters_of Tryz.func174 (by kernel_rfl) rfl)
    (bits_stops 4 (w.heap.size + 1 + 1 + 1) e W0 k3 hsz) (fun h k v hv => k v (h v hv)) (fun W l o o' _ hl ho _ v hv => ?_) (Below.refl _ _) (fun _ => rfl)
    (fun pre W => (∃ v, W.cell? ⟨w.heap.size + 1 + 1, 0, none⟩ = some v ∧ W.frozen? ⟨w.heap.size + 1 + 1, 0, none⟩ = false ∧ Num W v (accP M b pre) ∧ W.cell? ⟨w.heap.size, 0, none⟩ = some (.slice (some ⟨g1, o1, none⟩) m1 c1) ∧ Num W (.slice (some ⟨g1, o1, none⟩) m1 c1) b ∧ W.cell? ⟨w.heap.size + 1, 0, none⟩ = some (.func (.func 142) #[] #[.pointer (some ⟨Bm, 0, none⟩)]) ∧ W.cell? ⟨Bm, 0, none⟩ = some vm ∧ Num W vm M) ∧ Below w.heap.size w W)
    (fun _ _ _ => False)
    (OwnFrom.and (Own.from (fun s A B row hs hg hr => by obtain ⟨v, q1, q2, q3, q4, q5, q6, q7, q8⟩ := hs; exact ⟨v, cell_kept q1 hg hr, (frozen_kept q1 hg hr).trans q2, num_own q3 hg hr, cell_kept q4 hg hr, num_own q5 hg hr, cell_kept q6 hg hr, cell_kept q7 hg hr, num_own q8 hg hr⟩) _) (ownFrom_below (Nat.le_refl _) (by omega)))
    (fun _ _ _ _ _ hs _ _ => hs)
    ⟨⟨_, k2, f2, (by rw [show accP M b [] = 1 from Nat.mod_eq_of_lt h1]; exact hn2), k0, hn1, k1, kc, hnm⟩, hbb⟩
    (fun x => { tmps := #[.slice (some ⟨g1, o1, none⟩) m1 c1, .slice (some ⟨g2, o2, none⟩) m2 c2, .string e, .func (.func 142) #[] #[.pointer (some ⟨Bm, 0, none⟩)], .pointer (some ⟨w.heap.size, 0, none⟩), undef, undef, .pointer (some ⟨w.heap.size + 1, 0, none⟩), .slice none 0 0, .pointer (some ⟨w.heap.size + 1 + 1, 0, none⟩), .bool x, .slice (some ⟨g2, o2, none⟩) m2 c2, .string e, .func (.func 174) #[] #[.pointer (some ⟨w.heap.size + 1 + 1 + 1, 0, none⟩)], .bool x, undef, undef, undef, undef, undef, undef, undef, undef, undef, undef], defers := [] }) ?assign ?body ?done ?stop
  case assign =>
    intro l x W K hK
    gi_wp2
    exact hK
  case body =>
    rintro l pre x W ⟨⟨v, q1, q2, q3, q4, q5, q6, q7, q8⟩, hB⟩ _
    have hA := accP_lt (by omega : 0 < M) b pre
    have hAW : accP M b pre < W64 ^ K := Nat.lt_trans hA hM
    have hne0 : w.heap.size ≠ w.heap.size + 1 + 1 := by omega
    have hne1 : w.heap.size + 1 ≠ w.heap.size + 1 + 1 := by omega
    have hne3 : w.heap.size + 1 + 1 + 1 ≠ w.heap.size + 1 + 1 := by omega
    have hneB : Bm ≠ w.heap.size + 1 + 1 := by omega
    have HI := Lib.hid (And.intro q3 (And.intro q5 q8))
    have HA := Lib.hid hAW
    clear q3 q5 q8 hA hAW k0 k1 k2 k3 f2 kc hn1 hn2 hnm hbb hg0 hs0
    gi_wp2
    refine ⟨trivial, (CallsIn.inRound l (callsIn_wide.2 (even_times v v vm _ _ M Bm W HI.out.1 HI.out.1 HI.out.2.2 q7 (by omega) K hK ⟨HA.out, HA.out⟩))).mono ?_⟩
    rintro e' W1 ⟨r, rfl, hr, hg1⟩
    obtain ⟨sg, so, sm, sc, ss, rfl, hr⟩ := hr
    have p1 := hg1.cell q1 (by simp)
    have p2 : W1.frozen? ⟨w.heap.size + 1 + 1, 0, none⟩ = false := (World.frozen?_of_block (hg1.block _ (World.block_lt_of_cell? W _ q1) (by simp))).trans q2
    have p4 := hg1.cell q4 (by simp)
    have p6 := hg1.cell q6 (by simp)
    have p7 := hg1.cell q7 (by simp)
    have hv1 := HI.out.1.kept hg1
    have hb1 := HI.out.2.1.kept hg1
    have hm1 := HI.out.2.2.kept hg1
    have hr : Num W1 (.slice (some ⟨sg, so, none⟩) sm sc) _ := ⟨sg, so, sm, sc, ss, rfl, hr⟩
    have HR := Lib.hid (And.intro hr (And.intro hv1 (And.intro hb1 hm1)))
    clear hr hv1 hb1 hm1 q1 q2 q4 q6 q7
    cases x with
    | false =>
      gi_wp2
      refine ⟨(KeepsOthers.of_grownBy hg1 (by simp)).trans (KeepsOthers.setCell _ _ _), fun u hu => (gr_set _ _ _ _).cell (hg1.cell hu (by simp)) (by simp), ⟨_, World.cell?_setCell_same' _ _ _ (by rw [p1]; rfl), by rw [World.frozen?_setCell]; exact p2, ?_, (gr_set _ _ _ _).cell p4 (by simp; omega), num_set HR.out.2.2.1 HR.out.2.1 p1 _, (gr_set _ _ _ _).cell p6 (by simp), (gr_set _ _ _ _).cell p7 (by simp; omega), num_set HR.out.2.2.2 HR.out.2.1 p1 _⟩, (hB.grown hg1 hB.size (by simp)).setCell (p := ⟨w.heap.size + 1 + 1, 0, none⟩) (by simp; omega) _⟩
      rw [accP_snoc, if_neg (by decide)]
      exact num_set HR.out.1 HR.out.2.1 p1 _
    | true =>
      gi_wp2
      have n1 := num_set HR.out.1 HR.out.2.1 p1 (.slice (some ⟨sg, so, none⟩) sm sc)
      have n3 := num_set HR.out.2.2.1 HR.out.2.1 p1 (.slice (some ⟨sg, so, none⟩) sm sc)
      have n4 := num_set HR.out.2.2.2 HR.out.2.1 p1 (.slice (some ⟨sg, so, none⟩) sm sc)
      have s1 : (W1.setCell ⟨w.heap.size + 1 + 1, 0, none⟩ (.slice (some ⟨sg, so, none⟩) sm sc)).cell? ⟨w.heap.size + 1 + 1, 0, none⟩ = some (.slice (some ⟨sg, so, none⟩) sm sc) := World.cell?_setCell_same' _ _ _ (by rw [p1]; rfl)
      have s2 : (W1.setCell ⟨w.heap.size + 1 + 1, 0, none⟩ (.slice (some ⟨sg, so, none⟩) sm sc)).frozen? ⟨w.heap.size + 1 + 1, 0, none⟩ = false := by rw [World.frozen?_setCell]; exact p2
      have s4 := (gr_set W1 (w.heap.size + 1 + 1) 0 (.slice (some ⟨sg, so, none⟩) sm sc)).cell p4 (by simp; omega)
      have s6 := (gr_set W1 (w.heap.size + 1 + 1) 0 (.slice (some ⟨sg, so, none⟩) sm sc)).cell p6 (by simp)
      have s7 := (gr_set W1 (w.heap.size + 1 + 1) 0 (.slice (some ⟨sg, so, none⟩) sm sc)).cell p7 (by simp; omega)
      have sB := (hB.grown hg1 hB.size (by simp)).setCell (p := ⟨w.heap.size + 1 + 1, 0, none⟩) (by simp; omega) (.slice (some ⟨sg, so, none⟩) sm sc)
      have sK : KeepsOthers W (W1.setCell ⟨w.heap.size + 1 + 1, 0, none⟩ (.slice (some ⟨sg, so, none⟩) sm sc)) := (KeepsOthers.of_grownBy hg1 (by simp)).trans (KeepsOthers.setCell _ _ _)
      have sP : KpBox (w.heap.size + 1 + 1 + 1) W (W1.setCell ⟨w.heap.size + 1 + 1, 0, none⟩ (.slice (some ⟨sg, so, none⟩) sm sc)) := fun u hu => (gr_set _ _ _ _).cell (hg1.cell hu (by simp)) (by simp)
      generalize W1.setCell ⟨w.heap.size + 1 + 1, 0, none⟩ (.slice (some ⟨sg, so, none⟩) sm sc) = W2 at *
      have HN := Lib.hid (And.intro n1 (And.intro n3 n4))
      have HSK := Lib.hid (And.intro sK sP)
      clear n1 n3 n4 HR p1 p2 p4 p6 p7 hg1 sK sP
      have hA2 : accP M b pre * accP M b pre % M < W64 ^ K := Nat.lt_trans (Nat.mod_lt _ (by omega)) hM
      refine ⟨trivial, (CallsIn.inRound l (callsIn_wide.2 (even_times _ _ vm _ _ M Bm W2 HN.out.1 HN.out.2.1 HN.out.2.2 s7 (by omega) K hK ⟨hA2, Nat.lt_trans hbM hM⟩))).mono ?_⟩
      rintro e' W3 ⟨r3, rfl, hr3, hg3⟩
      obtain ⟨tg, tof, tm, tc, ts, rfl, hr3⟩ := hr3
      have t1 := hg3.cell s1 (by simp)
      have t2 : W3.frozen? ⟨w.heap.size + 1 + 1, 0, none⟩ = false := (World.frozen?_of_block (hg3.block _ (World.block_lt_of_cell? W2 _ s1) (by simp))).trans s2
      have t4 := hg3.cell s4 (by simp)
      have t6 := hg3.cell s6 (by simp)
      have t7 := hg3.cell s7 (by simp)
      have hr3' : Num W3 (.slice (some ⟨tg, tof, none⟩) tm tc) _ := ⟨tg, tof, tm, tc, ts, rfl, hr3⟩
      have HR3 := Lib.hid (And.intro hr3' (And.intro (HN.out.1.kept hg3) (And.intro (HN.out.2.1.kept hg3) (HN.out.2.2.kept hg3))))
      clear hr3 hr3' s1 s2 s4 s6 s7 hA2
      gi_wp2
      refine ⟨HSK.out.1.trans ((KeepsOthers.of_grownBy hg3 (by simp)).trans (KeepsOthers.setCell _ _ _)), fun u hu => (gr_set _ _ _ _).cell (hg3.cell (HSK.out.2 u hu) (by simp)) (by simp), ⟨_, World.cell?_setCell_same' _ _ _ (by rw [t1]; rfl), by rw [World.frozen?_setCell]; exact t2, ?_, (gr_set _ _ _ _).cell t4 (by simp; omega), num_set HR3.out.2.2.1 HR3.out.2.1 t1 _, (gr_set _ _ _ _).cell t6 (by simp), (gr_set _ _ _ _).cell t7 (by simp; omega), num_set HR3.out.2.2.2 HR3.out.2.1 t1 _⟩, (sB.grown hg3 sB.size (by simp)).setCell (p := ⟨w.heap.size + 1 + 1, 0, none⟩) (by simp; omega) _⟩
      rw [accP_snoc, if_pos rfl]
      exact num_set HR3.out.1 HR3.out.2.1 t1 _
  case done =>
    rintro D ys' W hD rfl ⟨⟨v, q1, q2, q3, q4, q5, q6, q7, q8⟩, hB⟩ hK
    have hBK := hB.trans (belowK_b (w := w) (Nat.le_refl _) W D _ (.deferred none) (by omega) hK rfl rfl)
    have hnv := num_own q3 (grownBy_putObj' W D (.deferred none)) (fun r e => by cases e; exact ⟨_, hK, rfl⟩)
    clear q3 q5 q8
    gi_wp2
    refine ⟨by simp, .inl ⟨_, _, rfl, run_takeDeferred hK, ?_⟩⟩
    exact ⟨_, results_tmp rfl _ _ _, v, rfl, hnv, below_gr hBK⟩
  case stop =>
    rintro D c pre W _ _ h _
    exact h.elim
  exact cell_kept hv (grownBy_putObj' W l o') (fun r e => by cases e; exact ⟨o, hl, ho⟩)
end Go.Proofs.YteajpefbmiiioaaGreatDoor
