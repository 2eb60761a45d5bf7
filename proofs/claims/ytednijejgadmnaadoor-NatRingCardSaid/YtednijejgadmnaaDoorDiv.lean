/- The contract of slices.Clone at words; nat.divide where the divisor is greater or has one word. -/
import Derived.Test.YtednijejgadmnaaDoorDivP
import Derived.Test.YtednijejgadmnaaDoorApp
namespace Go.Proofs.YtednijejgadmnaaDoor
open Go.RowKit Mth

theorem clone_any (b off n c : Nat) (xs : List Nat) (w : World) (hb : Blk .u64 57 w b xs) (hn : off + n ≤ xs.length) (hm : n ≤ 1099511627776) (hn0 : 0 < n) (hd : Dg W64 xs) :
    Calls Tryd.prog 60 #[.slice (some ⟨b, off, none⟩) n c] w fun e w' => ∃ g us, e = .returned (.slice (some ⟨g, 0, none⟩) n us.length) ∧ w.heap.size ≤ g ∧ Blk .u64 57 w' g us ∧ n ≤ us.length ∧ us.length ≤ maxLen ∧ w.grownBy w' none ∧ Dg W64 us ∧ (∀ i, i < n → gt us i = gt xs (off + i)) := by
  obtain ⟨i0, hi, hz0, hz1, hz2⟩ := info_parts infoW
  have hnil := fun (w : World) (a : Addr) (n c : Nat) => Lib.run_eql_slice_nil (P := Tryd.prog) w 51 57 (some a) n c 0 0 Tryd.underlying51
  go_enter Tryd.func60, Tryd.ntmps60
  have hempty : Blk .u64 57 (w.alloc (.cells #[] 57)) w.heap.size [] := by unfold Blk; rw [heap_alloc_new]; simp [cellsOf]
  have hb1 := hb.alloc (.cells #[] 57)
  have hown0 : Own .u64 57 (w.alloc (.cells #[] 57)) (.slice (some ⟨w.heap.size, 0, none⟩) 0 0) 0 [] := .inr ⟨w.heap.size, rfl, hempty, Nat.le_refl _, by decide⟩
  have HO := Lib.hid hown0
  clear hown0 hempty
  go_wp2_with (at_builtin; refine wpList_append_blk rfl (.tmp 5) (.tmp 6) 51 rfl .u64 57 i0 8 Tryd.underlying51 hi hz0 hz1 hz2 _ 0 [] rfl HO.out b off n c xs rfl ?_ hn hn0 ?_ ?_ ?_)
  case refine_1 => intro j hj; exact hb1.cell (by omega)
  case refine_2 => unfold maxLen; omega
  case refine_3 => omega
  intro v' w1 us hown hg happ hblk
  rcases hown with ⟨_, h0, _⟩ | ⟨g, rfl, hbg, h1, h2⟩
  · omega
  have hge : w.heap.size ≤ g := by
    rcases hblk with h | ⟨g', h, h'⟩
    · simp only [Value.ownBlock, Option.some.injEq] at h; omega
    · simp only [Value.ownBlock, Option.some.injEq] at h
      have : (w.alloc (.cells #[] 57)).heap.size = w.heap.size + 1 := by simp
      omega
  have hdu : Dg W64 us := happ.dg W64_pos (fun i => by simp [gt]; exact W64_pos) hd
  have hnew := happ.new
  have HN := Lib.hid hnew
  clear hnew happ hi hz0 hz1 hz2 HO
  go_wp2
  go_ret
  refine ⟨g, us, rfl, hge, hbg, h1, h2, ?_, hdu, fun i hi => by have := HN.out i hi; rw [Nat.zero_add] at this; exact this⟩
  exact gr_new (gr_alloc w _ none) (by simpa [Value.ownBlock] using hg) (Nat.le_refl _)

/-- A slice of trimmed words with the value N. -/
structure NumAt (w : World) (g off m c : Nat) (xs : List Nat) (N : Nat) : Prop where
  blk : Blk .u64 57 w g xs
  fit : off + m ≤ xs.length
  dg : Dg W64 xs
  val : vs W64 xs off m = N
  top : m = 0 ∨ gt xs (off + (m - 1)) ≠ 0
  cap : m ≤ c
  max : c ≤ maxLen
  small : m ≤ 1099511627776
def Num (w : World) (v : Value) (N : Nat) : Prop := ∃ g off m c xs, v = .slice (some ⟨g, off, none⟩) m c ∧ NumAt w g off m c xs N
theorem NumAt.kept {w w' : World} {g off m c N : Nat} {xs : List Nat} (h : NumAt w g off m c xs N) {r : Option Nat} (hg : w.grownBy w' r) (hne : some g ≠ r) : NumAt w' g off m c xs N :=
  ⟨h.blk.kept hg hne, h.fit, h.dg, h.val, h.top, h.cap, h.max, h.small⟩
theorem Num.kept {w w' : World} {v : Value} {N : Nat} (h : Num w v N) (hg : w.grownBy w' none) : Num w' v N := by
  obtain ⟨g, off, m, c, xs, rfl, h⟩ := h
  exact ⟨g, off, m, c, xs, rfl, h.kept hg (by simp)⟩
theorem NumAt.of_words {w : World} {b : Nat} {xs : List Nat} {N : Nat} (hb : Blk .u64 57 w b xs) (hw : Words xs N) (hs : xs.length ≤ 1099511627776) : NumAt w b 0 xs.length xs.length xs N :=
  ⟨hb, by omega, hw.dg, hw.val, by rw [Nat.zero_add]; exact hw.top, Nat.le_refl _, by unfold maxLen; omega, hs⟩
theorem Num.of_words {w : World} {b : Nat} {xs : List Nat} {N : Nat} (hb : Blk .u64 57 w b xs) (hw : Words xs N) (hs : xs.length ≤ 1099511627776) : Num w (.slice (some ⟨b, 0, none⟩) xs.length xs.length) N :=
  ⟨b, 0, _, _, xs, rfl, .of_words hb hw hs⟩

theorem trimmed_num (b off n c : Nat) (xs : List Nat) (w : World) (hb : Blk .u64 57 w b xs) (hn : off + n ≤ xs.length) (hd : Dg W64 xs) (hc : n ≤ c) (hm : c ≤ maxLen) (hs : n ≤ 1099511627776) :
    Calls Tryd.prog 54 #[.slice (some ⟨b, off, none⟩) n c] w fun e w' => (∃ m, e = .returned (.slice (some ⟨b, off, none⟩) m c) ∧ NumAt w b off m c xs (vs W64 xs off n)) ∧ w = w' := by
  refine (trimmed_any b off n c xs w hb hn hc hm).mono ?_
  rintro e w' ⟨⟨m, rfl, hmn, hz, htop⟩, rfl⟩
  refine ⟨⟨m, rfl, hb, by omega, hd, ?_, htop, by omega, hm, by omega⟩, rfl⟩
  obtain ⟨k, rfl⟩ : ∃ k, n = m + k := ⟨n - m, by omega⟩
  rw [vs_split, vs_zero (n := k) (fun i hi => by rw [Nat.add_assoc]; exact hz _ (by omega) (by omega))]; simp

theorem trimmed_nil (w : World) : Calls Tryd.prog 54 #[.slice none 0 0] w fun e w' => e = .returned (.slice none 0 0) ∧ w = w' := by
  go_enter Tryd.func54, Tryd.ntmps54
  go_wp2
  go_loop [0] (fun v => v = .slice none 0 0) (fun _ => 0)
  case atStart => rfl
  case round =>
    subst hrel
    go_wp2
    go_ret
    exact ⟨rfl, rfl⟩
theorem natOf_nil (w : World) : Calls Tryd.prog 29 #[.slice none 0 0] w fun e w' => e = .returned (.string ⟨#[]⟩) ∧ w = w' := by
  go_enter Tryd.func29, Tryd.ntmps29
  go_wp2_with fail
  refine (trimmed_nil _).mono ?_
  rintro e w' ⟨rfl, rfl⟩
  go_wp2
  go_ret
  exact ⟨rfl, rfl⟩
/-- A quotient: a number, or nil for 0. -/
def NumQ (w : World) (v : Value) (N : Nat) : Prop := (v = .slice none 0 0 ∧ N = 0) ∨ Num w v N
theorem natOf_num (v : Value) (N : Nat) (w : World) (h : NumQ w v N) :
    Calls Tryd.prog 29 #[v] w fun e w' => e = .returned (.string ⟨(enc N).toArray⟩) ∧ w.grownBy w' none := by
  rcases h with ⟨rfl, rfl⟩ | ⟨g, off, m, c, xs, rfl, h⟩
  · refine (natOf_nil w).mono ?_
    rintro e w' ⟨rfl, rfl⟩
    exact ⟨by rw [enc_zero], World.grownBy.refl _ _⟩
  · have := natOf_any g off m c xs w h.blk h.fit h.dg h.cap h.max h.small
    rwa [h.val] at this

/-- What divide returns. -/
def DivOut (w w' : World) (e : Ending) (N M : Nat) : Prop := ∃ q r, e = .returned (.tuple #[q, r]) ∧ NumQ w' q (N / M) ∧ Num w' r (N % M) ∧ w.grownBy w' none

theorem divide_less (b1 o1 n1 c1 b2 o2 n2 c2 N M : Nat) (xs ys : List Nat) (w : World) (h1 : NumAt w b1 o1 n1 c1 xs N) (h2 : NumAt w b2 o2 n2 c2 ys M) (hlt : N < M) :
    Calls Tryd.prog 39 #[.slice (some ⟨b1, o1, none⟩) n1 c1, .slice (some ⟨b2, o2, none⟩) n2 c2] w fun e w' => DivOut w w' e N M := by
  have hc : cmpN (vs W64 xs o1 n1) (vs W64 ys o2 n2) = -1 := by rw [h1.val, h2.val]; unfold cmpN; rw [if_pos hlt]
  have HC := Lib.hid hc
  have H1 := Lib.hid h1
  have HLT := Lib.hid hlt
  clear hc hlt
  go_enter Tryd.func39, Tryd.ntmps39
  go_wp2_with fail
  refine (compare_any b1 o1 n1 c1 b2 o2 n2 c2 xs ys w h1.blk h1.fit h2.blk h2.fit h1.dg h2.dg h1.small h1.top h2.top).mono ?_
  rintro e w1 ⟨rfl, hq1⟩
  rw [HC.out]
  go_wp2
  go_ret2
  refine ⟨.slice none 0 0, .slice (some ⟨b1, o1, none⟩) n1 c1, rfl, .inl ⟨rfl, Nat.div_eq_of_lt HLT.out⟩, ⟨b1, o1, n1, c1, xs, rfl, ?_⟩, hq1.gr none⟩
  rw [Nat.mod_eq_of_lt HLT.out]
  exact H1.out.kept (hq1.gr none) (by simp)

/-- What divide returns for a divisor of one word. -/
theorem divide_one (b1 o1 n1 c1 b2 o2 c2 N y : Nat) (xs ys : List Nat) (w : World) (h1 : NumAt w b1 o1 n1 c1 xs N) (h2 : NumAt w b2 o2 1 c2 ys y) (hle : y ≤ N) :
    Calls Tryd.prog 39 #[.slice (some ⟨b1, o1, none⟩) n1 c1, .slice (some ⟨b2, o2, none⟩) 1 c2] w fun e w' => DivOut w w' e N y := by
  have hyv : gt ys o2 = y := by have := h2.val; simpa [vs] using this
  have hy0 : 0 < y := by have := h2.top; simp at this; omega
  have hcmp : cmpN (vs W64 xs o1 n1) (vs W64 ys o2 1) = cmpN N y := by rw [h1.val, h2.val]
  obtain ⟨cc, hcc⟩ : ∃ cc, cmpN N y = cc := ⟨_, rfl⟩
  have hc0 : decide (cc < 0) = false := by rw [decide_eq_false_iff_not, ← hcc]; unfold cmpN; rw [if_neg (by omega)]; split <;> omega
  have hc1 : ¬ cc < 0 := of_decide_eq_false hc0
  have HC := Lib.hid (hcmp.trans hcc)
  have hyW : y < W64 := hyv ▸ h2.dg o2
  have hpos : 0 < n1 := by
    rcases Nat.eq_zero_or_pos n1 with h | h
    · have := h1.val; rw [h] at this; simp [vs] at this; omega
    · exact h
  have hsm := h1.small
  have hcell2 : w.cell? ⟨b2, o2, none⟩ = some (.int .u64 (y : Int)) := by rw [h2.blk.cell (by have := h2.fit; omega), hyv]
  clear hcc hcmp hle hyv
  go_enter Tryd.func39, Tryd.ntmps39
  go_wp2_with fail
  refine (compare_any b1 o1 n1 c1 b2 o2 1 c2 xs ys w h1.blk h1.fit h2.blk h2.fit h1.dg h2.dg h1.small h1.top h2.top).mono ?_
  rintro e w1 ⟨rfl, hq1⟩
  rw [HC.out]
  have hcell2' : w1.cell? ⟨b2, o2, none⟩ = some (.int .u64 (y : Int)) := by obtain ⟨k, rfl⟩ := hq1; exact hcell2
  have hb' := h1.blk.kept (hq1.gr none) (by simp)
  go_wp2_with fail
  refine (clone_any b1 o1 n1 c1 xs w1 hb' h1.fit hsm hpos h1.dg).mono ?_
  rintro e w2 ⟨g, us, rfl, hge, hbg, hlu, hmu, hg2, hdu, heq⟩
  have hval : vs W64 us 0 n1 = N := by rw [← h1.val]; exact vs_congr (fun i hi => by rw [Nat.zero_add]; exact heq i hi)
  have HVAL := Lib.hid hval
  have hcell3 : w2.cell? ⟨b2, o2, none⟩ = some (.int .u64 (y : Int)) := hg2.cell hcell2' (by simp)
  clear heq hval
  go_wp2_with fail
  refine (divideInPlace_any g 0 n1 us.length y us w2 hbg (by omega) hdu hsm hy0 hyW).mono ?_
  rintro e w3 ⟨r, zs, rfl, hbz, hg3, hdv⟩
  obtain ⟨d1, d2, d3, d4⟩ := hdv
  rw [HVAL.out] at d4
  have hlz : zs.length = us.length := d1.len
  have hq : vs W64 zs 0 n1 = N / y := by
    have := Nat.div_mod_unique hy0 (a := N) (d := vs W64 zs 0 n1) (c := r)
    exact (this.2 ⟨by omega, d3⟩).1.symm
  have hr : r = N % y := by
    have := Nat.div_mod_unique hy0 (a := N) (d := vs W64 zs 0 n1) (c := r)
    exact (this.2 ⟨by omega, d3⟩).2.symm
  have HQ := Lib.hid hq
  have HR := Lib.hid hr
  have hfit : 0 + n1 ≤ zs.length := by omega
  have hg3b := hg3
  clear d4 hq hr hlz d1
  go_wp2_with fail
  refine (trimmed_num g 0 n1 us.length zs _ (hbz.alloc _) hfit d2 hlu hmu hsm).mono ?_
  rintro e w4 ⟨⟨m, rfl, hm4⟩, rfl⟩
  go_wp2_with fail
  refine (trimmed_num w3.heap.size 0 1 1 [r] _ (blk_one w3 .u64 57 r) (by simp) (dg_one (by omega)) (Nat.le_refl _) (by decide) (by omega)).mono ?_
  rintro e w5 ⟨⟨m', rfl, hm5⟩, rfl⟩
  rw [HQ.out] at hm4
  rw [vs_one, HR.out] at hm5
  have HM4 := Lib.hid hm4
  have HM5 := Lib.hid hm5
  clear hm4 hm5
  go_wp2
  go_ret2
  refine ⟨.slice (some ⟨g, 0, none⟩) m us.length, .slice (some ⟨w3.heap.size, 0, none⟩) m' 1, rfl, .inr ⟨g, 0, m, us.length, zs, rfl, ?_⟩, ⟨w3.heap.size, 0, m', 1, [r], rfl, ?_⟩, ?_⟩
  · rw [← HR.out] at *; exact HM4.out
  · have := HM5.out
    rw [← HR.out] at this ⊢
    exact this
  · have := (hq1.gr none)
    exact gr_then (gr_new (gr_then this hg2) hg3b (by have := (hq1.gr none).size; omega)) (gr_alloc _ _ _)
end Go.Proofs.YtednijejgadmnaaDoor
