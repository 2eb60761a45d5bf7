/- Contracts of the program and of the reference, part 6: PowE, Fmt, Groups, Build, Dec, Text, IsText, Padded, MontM. -/
import Derived.Test.YteajpefbmiiioaaGreatDoorBRat5
import Derived.Lib.ItoaMem
import Derived.Lib.Walk
import Derived.Lib.Repeat
namespace Go.Proofs.YteajpefbmiiioaaGreatDoor
open Go.RowKit Go.Shelf Mth

theorem num_single (w : World) (n : Nat) (h0 : n ≠ 0) (h : n < W64) : Num (w.alloc (.cells #[.int .u64 (n : Int)] 96)) (.slice (some ⟨w.heap.size, 0, none⟩) 1 1) n :=
  ⟨w.heap.size, 0, 1, 1, [n], rfl, blk_one w .u64 96 n, by simp, dg_one h, vs_one _ _, .inr (by simpa [gt] using h0), Nat.le_refl _, by decide, by omega⟩

theorem powerByEven_any (vb vm : Value) (b M : Nat) (e : ByteArray) (w : World) (hb : Num w vb b) (hm : Num w vm M) (h1 : 1 < M) (K : Nat) (hK : K ≤ 137438953473) (hM : M < W64 ^ K) (hbM : b < M) (hsz : e.size ≤ 1000000000000) :
    Calls Tryz.prog 90 #[vb, .string e, vm] w fun x w' => ∃ r, x = .returned r ∧ Num w' r (accP M b (bitsTop (num e.data.toList) (bitsN (num e.data.toList)))) ∧ w.grownBy w' none := by
  have HB := Lib.hid hb
  have HM := Lib.hid hm
  obtain ⟨g2, o2, m2, c2, ys, rfl, hm⟩ := hm
  clear hb hm
  go_enter Tryz.func90, Tryz.ntmps90
  go_wp2_with fail
  have g2' := gr_then (gr_alloc w (.cells #[Value.slice (some ⟨g2, o2, none⟩) m2 c2] 81) none) (gr_alloc _ (.cells #[Value.int .u64 1] 96) none)
  have hone := num_single (w.alloc (.cells #[Value.slice (some ⟨g2, o2, none⟩) m2 c2] 81)) 1 (by decide) (by decide)
  rw [World.size_alloc] at hone
  have hcm := (gr_alloc (w.alloc (.cells #[Value.slice (some ⟨g2, o2, none⟩) m2 c2] 81)) (.cells #[Value.int .u64 1] 96) none).cell (cell_top w (.slice (some ⟨g2, o2, none⟩) m2 c2) 81) (by simp)
  refine (power_even vb _ _ b M w.heap.size e _ (HB.out.kept g2') hone (HM.out.kept g2') hcm h1 K hK hM hbM hsz).mono ?_
  rintro x w' ⟨r, rfl, hr, hg⟩
  have HR := Lib.hid hr
  clear hr hone hcm
  go_wp2
  go_ret
  exact ⟨r, rfl, HR.out, gr_then g2' hg⟩

theorem words_pos {xs : List Nat} {N : Nat} (h : Words xs N) (h0 : 0 < N) : 0 < xs.length := by
  rcases Nat.eq_zero_or_pos xs.length with h1 | h1
  · have := words_nil h h1; omega
  · exact h1
theorem words_odd {xs : List Nat} {N : Nat} (h : Words xs N) (h0 : 0 < xs.length) : gt xs 0 % 2 = N % 2 := by
  have h1 := h.val
  obtain ⟨k, hk⟩ : ∃ k, xs.length = k + 1 := ⟨xs.length - 1, by omega⟩
  rw [hk, vs_left] at h1
  rw [← h1, W64_eq]
  omega

theorem pow_even (s e t : ByteArray) (w : World) (hs : s.size ≤ 1000000000000) (he : e.size ≤ 1000000000000) (ht : t.size ≤ 1000000000000) (h1 : 1 < num t.data.toList) (hev : num t.data.toList % 2 = 0) :
    Calls Tryz.prog 30 #[.string s, .string e, .string t] w fun x w' => x = .returned (.tuple #[.string ⟨(enc (accP (num t.data.toList) (num s.data.toList % num t.data.toList) (bitsTop (num e.data.toList) (bitsN (num e.data.toList))))).toArray⟩, .bool true]) ∧ w.grownBy w' none := by
  obtain ⟨y, hy⟩ : ∃ y, y = num t.data.toList := ⟨_, rfl⟩
  have HY := Lib.hid hy
  rw [← hy] at h1 hev ⊢
  obtain ⟨acc, hacc⟩ : ∃ acc, acc = (⟨(enc (accP y (num s.data.toList % y) (bitsTop (num e.data.toList) (bitsN (num e.data.toList))))).toArray⟩ : ByteArray) := ⟨_, rfl⟩
  rw [← hacc]
  have HACC := Lib.hid hacc
  clear hy hacc
  go_enter Tryz.func30, Tryz.ntmps30
  go_wp2_with fail
  refine (wordsOf_any t w (by omega)).mono ?_
  rintro x w1 ⟨b1, ys, rfl, hlt1, hb1, hg1, hw1, hsz1⟩
  rw [← HY.out] at hw1
  have hpos : 0 < ys.length := words_pos hw1 (by omega)
  obtain ⟨z, hz⟩ : ∃ z, z = gt ys 0 := ⟨_, rfl⟩
  have hpz : z % 2 = y % 2 := by rw [hz]; exact words_odd hw1 hpos
  have hM : y < W64 ^ ys.length := hw1.lt
  have hK : ys.length ≤ 137438953473 := by omega
  have hn1 := Num.of_words hb1 hw1 (by omega)
  have hcell : w1.cell? ⟨b1, 0, none⟩ = some (.int .u64 (z : Int)) := by rw [hb1.cell hpos, hz]
  have hb0 : ((ys.length : Int) == 0) = false := by rw [beq_eq_false_iff_ne]; omega
  have HN1 := Lib.hid hn1
  have HMY := Lib.hid hM
  clear hn1 hw1 hsz1 hz hM
  go_wp2_with fail
  refine (wordsOf_any s w1 (by omega)).mono ?_
  rintro x w2 ⟨b2, xs, rfl, hlt2, hb2, hg2, hw2, hsz2⟩
  have HN2 := Lib.hid (Num.of_words hb2 hw2 (by omega))
  have hcell2 := hg2.cell hcell (by simp)
  clear hcell
  go_wp2_with fail
  refine (divide_all _ _ _ _ w2 HN2.out (HN1.out.kept hg2) (by omega)).mono ?_
  rintro x w3 ⟨q, r, rfl, hq, hr, hg3⟩
  have HQ := Lib.hid hq
  have HR := Lib.hid hr
  have hcell3 := hg3.cell hcell2 (by simp)
  have hpar : (((z : Int) % 2) == 1) = false := by rw [beq_eq_false_iff_ne]; omega
  clear hq hr hcell2
  go_wp2_with fail
  refine (powerByEven_any _ _ _ y e w3 HR.out ((HN1.out.kept hg2).kept hg3) h1 _ hK HMY.out (Nat.mod_lt _ (by omega)) he).mono ?_
  rintro x w4 ⟨p, rfl, hp, hg4⟩
  have HP := Lib.hid hp
  clear hp
  go_wp2_with fail
  refine (natOf_num p _ w4 (.inr HP.out)).mono ?_
  rintro x w5 ⟨rfl, hg5⟩
  rw [← HACC.out]
  go_wp2
  go_ret2
  exact ⟨rfl, gr_then hg1 (gr_then hg2 (gr_then hg3 (gr_then hg4 hg5)))⟩
end Go.Proofs.YteajpefbmiiioaaGreatDoor
namespace Go.Proofs.YteajpefbmiiioaaGreatDoor
open Go.RowKit Go.Sort Go.Lib

set_option maxHeartbeats 6400000 in
set_option maxRecDepth 100000 in
theorem formatUint_in (u : Nat) (hu64 : u < 18446744073709551616) (w : World)
    (htab : Lib.TabIs Tryz.prog w "internal/strconv.uint64pow10" .u64 Lib.pow10Tab) :
    Calls Tryz.prog 145 #[.int .u64 u, .int .i64 10] w fun e w' => e = .returned (.string ⟨(Lib.decDigits u).toArray⟩) ∧ ∃ k os, w' = grow (w.drewN k) os := by
  by_cases hs : u < 100
  · go_enter Tryz.func145, Tryz.ntmps145
    go_wp2_with fail
    refine (Tryz.internal_strconv_small u hs _).mono ?_
    rintro e w' ⟨rfl, rfl⟩
    go_wp2
    go_ret
    exact ⟨rfl, 0, #[], by simp [World.drewN_zero]⟩
  · have hu1 : 1 ≤ u := by omega
    have hnd20 : Lib.nDigits u ≤ 20 := by have := Lib.numDigits_eq u hu1 hu64; split at this <;> omega
    have hal : Tryz.prog.arrayLen 165 = 24 := by simp [Program.arrayLen, Tryz.underlying165]
    have hsl1 : ∀ W, (Instr.sliceAt 165 (.pointer (some ⟨w.heap.size, 0, none⟩)) none (some (.int .i64 (Lib.nDigits u : Int))) none).run Tryz.prog W = .ok (.slice (some ⟨w.heap.size, 0, none⟩) (Lib.nDigits u) 24) W := fun W => by
      rw [run_sliceAt_array_h W 165 ⟨w.heap.size, 0, none⟩ (by simp [Program.arrayLen, Program.elem, Tryz.underlying165]) .i64 (Lib.nDigits u : Int) (by omega) (by rw [hal]; omega)]
      go_simp
    have hH0 : Holds (fun (b : UInt8) => Value.int .u8 (b.toNat : Int)) (w.alloc (.cells zeros24 165)) w.heap.size 0 (Array.replicate (Lib.nDigits u) (0 : UInt8)) := fun j hj => by
      have hj' : j < Lib.nDigits u := by simpa using hj
      refine ⟨?_, World.frozen?_alloc_new _ _ _ _⟩
      rw [World.cell?_alloc_new, zeros24_at _ (by omega), getElem!_pos _ j hj]
      simp
    have hfmt := Tryz.internal_strconv_formatBase10 w.heap.size 0 24 u (Array.replicate (Lib.nDigits u) 0) (w.alloc (.cells Lib.zeros24 165)) hH0 (by rw [Array.size_replicate]; exact Lib.lt_pow_nDigits u) hu64 (by rw [Array.size_replicate]; omega)
    rw [Array.size_replicate] at hfmt
    have HH0 := Lib.hid hH0
    clear hH0 hal
    go_enter Tryz.func145, Tryz.ntmps145
    go_wp2_with fail
    refine (Tryz.internal_strconv_numDigits u hu1 hu64 _ (Lib.tabIs_alloc htab _)).mono ?_
    rintro e w' ⟨rfl, rfl⟩
    go_wp2_with fail
    refine hfmt.mono ?_
    rintro e w' ⟨rfl, k, v', dk, rfl, hF⟩
    have hcv : (convert 22 9 (.slice (some ⟨w.heap.size, 0, none⟩) (Lib.nDigits u) 24)).run Tryz.prog ((putRow (fun (b : UInt8) => Value.int .u8 (b.toNat : Int)) (w.alloc (.cells Lib.zeros24 165)) w.heap.size 0 dk).drewN k) = .ok (.string ⟨(Lib.decDigits u).toArray⟩) ((putRow (fun (b : UInt8) => Value.int .u8 (b.toNat : Int)) (w.alloc (.cells Lib.zeros24 165)) w.heap.size 0 dk).drewN k) := by
      have h := run_convert_bytes_back (P := Tryz.prog) ((putRow (fun (b : UInt8) => Value.int .u8 (b.toNat : Int)) (w.alloc (.cells Lib.zeros24 165)) w.heap.size 0 dk).drewN k) 22 9 5 ⟨w.heap.size, 0, none⟩ 24 (Lib.decDigits u) Tryz.underlying22 Tryz.underlying5 Tryz.underlying9 (fun j hj => by
        rw [Lib.row_is_numeral hF j hj, Lib.add_plain, World.cell?_drewN]
        exact cell?_putRow (fun (b : UInt8) => Value.int .u8 (b.toNat : Int)) _ w.heap.size 0 _ dk HH0.out (by rw [hF.size, Array.size_replicate]) j (by rw [hF.size]; rw [Lib.decDigits_length] at hj; exact hj))
      rw [Lib.decDigits_length] at h
      exact h
    go_wp2
    go_ret
    obtain ⟨os, eo⟩ : ∃ os, (putRow (fun (b : UInt8) => Value.int .u8 (b.toNat : Int)) (w.alloc (.cells Lib.zeros24 165)) w.heap.size 0 dk).drewN k = grow (w.drewN k) os := by
      rw [alloc_eq_grow]
      obtain ⟨os', _, e⟩ := putRow_grow_new (fun (b : UInt8) => Value.int .u8 (b.toNat : Int)) w #[.cells Lib.zeros24 165] w.heap.size 0 dk (Nat.le_refl _)
      exact ⟨os', by rw [e]; rfl⟩
    exact ⟨rfl, k, os, eo⟩

theorem formatUint_any (u : Nat) (hu64 : u < 18446744073709551616) (w : World)
    (htab : Lib.TabIs Tryz.prog w "internal/strconv.uint64pow10" .u64 Lib.pow10Tab) :
    Calls Tryz.prog 93 #[.int .u64 u, .int .i64 10] w fun e w' => e = .returned (.string ⟨(Lib.decDigits u).toArray⟩) ∧ ∃ k os, w' = grow (w.drewN k) os := by
  go_enter Tryz.func93, Tryz.ntmps93
  go_wp2_with fail
  refine (formatUint_in u hu64 _ htab).mono ?_
  rintro e w' ⟨rfl, k, os, rfl⟩
  go_wp2
  go_ret
  exact ⟨rfl, k, os, rfl⟩
end Go.Proofs.YteajpefbmiiioaaGreatDoor
namespace Go.Proofs.YteajpefbmiiioaaGreatDoor
open Go.RowKit Mth

def B19 : Nat := 10000000000000000000
theorem B19_eq : B19 = 10000000000000000000 := rfl
theorem W64_le_B19 : W64 ≤ B19 ^ 2 := by decide

/-- m groups are taken off N, rest is left. -/
structure Grp (gs : List Nat) (m N rest : Nat) : Prop where
  val : N = vs B19 gs 0 m + B19 ^ m * rest
  dg : ∀ i, i < m → gt gs i < B19
theorem Grp.next {gs us : List Nat} {m N rest r q : Nat} (h : Grp gs m N rest) (ha : Apped gs us [r] m 1 0) (hr : r < B19) (he : rest = B19 * q + r) : Grp us (m + 1) N q := by
  have hm : gt us m = r := by have := ha.new 0 (by omega); simpa [gt] using this
  constructor
  · rw [vs_split, vs_congr (ys := gs) (off' := 0) (fun i hi => by rw [Nat.zero_add]; exact ha.old i hi)]
    rw [show vs B19 us (0 + m) 1 = r from by simp [vs, hm], h.val, he, Nat.pow_succ, Nat.mul_add, Nat.mul_assoc]
    omega
  · intro i hi
    by_cases e : i = m
    · rw [e, hm]; exact hr
    · rw [ha.old i (by omega)]; exact h.dg i (by omega)
theorem Grp.few {gs : List Nat} {m N rest n : Nat} (h : Grp gs m N rest) (hN : N < W64 ^ n) (h0 : 0 < rest) : m < 2 * n := by
  have h1 : B19 ^ m ≤ N := by
    rw [h.val]
    have := Nat.mul_le_mul_left (B19 ^ m) h0
    omega
  have h2 : W64 ^ n ≤ B19 ^ (2 * n) := by rw [Nat.pow_mul]; exact Nat.pow_le_pow_left W64_le_B19 n
  rcases Nat.lt_or_ge m (2 * n) with h3 | h3
  · exact h3
  · have := Nat.pow_le_pow_right (n := B19) (by decide) h3
    omega

/-- What groupsOf leaves. -/
def Groups (w w' : World) (e : Ending) (N k : Nat) : Prop := ∃ v m gs, e = .returned v ∧ Own .u64 96 w' v m gs ∧ (v.ownBlock = none ∨ ∃ g, v.ownBlock = some g ∧ w.heap.size ≤ g) ∧ vs B19 gs 0 m = N ∧ (∀ i, i < m → gt gs i < B19) ∧ (m = 0 ∨ gt gs (m - 1) ≠ 0) ∧ m ≤ k

theorem NumAt.pos {w : World} {g off m c N : Nat} {xs : List Nat} (h : NumAt w g off m c xs N) (h0 : 0 < m) : 0 < N := by
  obtain ⟨k, rfl⟩ : ∃ k, m = k + 1 := ⟨m - 1, by omega⟩
  have ht := h.top
  rw [← h.val, vs_split]
  rcases ht with ht | ht
  · omega
  · rw [show off + (k + 1 - 1) = off + k from by omega] at ht
    have h1 : 0 < W64 ^ k * gt xs (off + k) := Nat.mul_pos (Nat.pow_pos W64_pos) (by omega)
    have h2 : vs W64 xs (off + k) 1 = gt xs (off + k) := by simp [vs]
    rw [h2]; omega

set_option maxHeartbeats 2000000 in
set_option maxRecDepth 100000 in
theorem groupsOf_num (b n c N : Nat) (xs : List Nat) (w : World) (h : NumAt w b 0 n c xs N) :
    Calls Tryz.prog 91 #[.slice (some ⟨b, 0, none⟩) n c] w fun e w' => Groups w w' e N (2 * n) ∧ w.grownBy w' (some b) := by
  have HB := Lib.hid (show N < W64 ^ n from by rw [← h.val]; exact vs_lt h.dg)
  have hlt := h.blk.lt
  have hsm := h.small
  obtain ⟨i0, hi, hz0, hz1, hz2⟩ := info_parts infoW
  go_enter Tryz.func91, Tryz.ntmps91
  go_wp2
  go_loopw [0, 3] (fun v u wr => ∃ (m rest k : Nat) (zs gs : List Nat), v = .slice (some ⟨b, 0, none⟩) k c ∧ lenOf u = m ∧ Own .u64 96 wr u m gs ∧ (u.ownBlock = none ∨ ∃ g, u.ownBlock = some g ∧ w.heap.size ≤ g) ∧ NumAt wr b 0 k c zs rest ∧ w.grownBy wr (some b) ∧ Hid (Grp gs m N rest) ∧ (rest = 0 → m = 0 ∨ gt gs (m - 1) ≠ 0) ∧ m ≤ 2 * n) (fun _ u _ => 2 * n - lenOf u)
  case atStart => exact ⟨0, N, n, xs, [], rfl, rfl, .nil _ _ _, .inl rfl, h, World.grownBy.refl _ _, ⟨by simp [vs], fun i hi => by omega⟩, fun _ => .inl rfl, Nat.zero_le _⟩
  case round =>
    obtain ⟨m, rest, k, zs, gs, rfl, hlm, hown, hblk, hnum, hg, HG, htop, hm2⟩ := hrel
    by_cases hk : 0 < k
    · have hrest := hnum.pos hk
      have hfew := HG.out.few HB.out hrest
      have hval := hnum.val
      have HV := Lib.hid hval
      have hdec : decide ((k : Int) > 0) = true := by simpa using hk
      clear htop hval
      have hnb : u3.ownBlock = none ∨ u3.ownBlock ≠ some b := by
        rcases hblk with h | ⟨g, h, h'⟩
        · exact .inl h
        · exact .inr (by rw [h]; intro e; cases e; omega)
      go_wp2_with fail
      refine (divideInPlace_any b 0 k c B19 zs wr hnum.blk hnum.fit hnum.dg hnum.small (by decide) (by decide)).mono ?_
      rintro e w1 ⟨r, zs1, rfl, hb1, hg1, hdv⟩
      have hown1 := hown.kept hg1 hnb
      have hown2 := hown1.kept (gr_alloc w1 (.cells #[.int .u64 (r : Int)] 96) none) (Decidable.em _)
      have hbr : Blk .u64 96 (w1.alloc (.cells #[.int .u64 (r : Int)] 96)) w1.heap.size [r] := by unfold Blk; rw [heap_alloc_new]; simp [cellsOf]
      have HO := Lib.hid hown2
      have HD := Lib.hid hdv
      have HU := Lib.hid (show m ≤ 2199023255552 from by omega)
      have hfew := Lib.hid hfew
      clear hown hown1 hown2 hdv
      go_wp2_with (at_builtin; refine wpList_append_blk rfl (.tmp 7) (.tmp 10) 81 rfl .u64 96 i0 8 Tryz.underlying81 hi hz0 hz1 hz2 _ m gs rfl HO.out w1.heap.size 0 1 1 [r] rfl ?_ (by simp) (by omega) ?_ ?_ ?_)
      case refine_1 => intro j hj; exact hbr.cell (by simpa using hj)
      case refine_2 => have := HU.out; unfold maxLen; omega
      case refine_3 => have := HU.out; omega
      intro v' w2 us hownv hg2 happ hblkv
      rcases hownv with ⟨_, h0, _⟩ | ⟨g, rfl, hbg, h1, h2⟩
      · omega
      have hge : w.heap.size ≤ g := by
        rcases hblkv with h | ⟨g', h, h'⟩
        · rcases hblk with h'' | ⟨g'', h'', h'⟩
          · rw [h''] at h; simp [Value.ownBlock] at h
          · rw [h''] at h; simp only [Value.ownBlock, Option.some.injEq] at h; omega
        · simp only [Value.ownBlock, Option.some.injEq] at h
          have h3 : (w1.alloc (.cells #[.int .u64 (r : Int)] 96)).heap.size = w1.heap.size + 1 := by simp
          have := hg.size; have := hg1.size
          omega
      have hgb : w.grownBy w2 (some b) := by
        refine gr_trans (gr_trans hg hg1 (.inr rfl) (.inr (.inl rfl))) (gr_then (gr_alloc w1 (.cells #[.int .u64 (r : Int)] 96) none) hg2) (.inr rfl) (.inr (.inr fun j e => ?_))
        rcases hblk with h' | ⟨g', h', h''⟩
        · rw [h'] at e; cases e
        · rw [h'] at e; cases e; exact h''
      have hb2 : Blk .u64 96 w2 b zs1 := by
        refine (hb1.alloc _).kept hg2 ?_
        rcases hnb with h | h
        · rw [h]; simp
        · exact fun e => h e.symm
      obtain ⟨q, hq⟩ : ∃ q, q = vs W64 zs1 0 k := ⟨_, rfl⟩
      have hrq : rest = B19 * q + r := by rw [hq, ← HV.out]; exact HD.out.2.2.2
      have HN := Lib.hid (HG.out.next happ HD.out.2.2.1 hrq)
      have HR := Lib.hid (show q = 0 → gt us m ≠ 0 from fun e => by
        have := happ.new 0 (by omega)
        rw [Nat.add_zero] at this
        rw [this]
        rw [e] at hrq
        simp [gt]
        omega)
      have hl1 : zs1.length = zs.length := HD.out.1.len
      have htr := trimmed_num b 0 k c zs1 w2 hb2 (by rw [hl1]; exact hnum.fit) HD.out.2.1 hnum.cap hnum.max hnum.small
      rw [← hq] at htr
      clear hi hz0 hz1 hz2 HO hb1 hb2 hq hrq hl1 happ hblkv hblk
      go_wp2_with fail
      refine htr.mono ?_
      rintro e w3 ⟨⟨k', rfl, hk'⟩, rfl⟩
      go_wp2
      refine ⟨⟨m + 1, q, k', zs1, us, rfl, rfl, .inr ⟨g, rfl, hbg, h1, h2⟩, .inr ⟨g, rfl, hge⟩, hk', hgb, HN, fun e => .inr (HR.out e), by have := hfew.out; omega⟩, ?_⟩
      have := hfew.out
      show 2 * n - (m + 1) < 2 * n - lenOf u3
      rw [hlm]; omega
    · have hk0 : k = 0 := by omega
      subst hk0
      have hrest : rest = 0 := by rw [← hnum.val]; simp [vs]
      subst hrest
      have hv := HG.out.val
      have hdec : decide (((0 : Nat) : Int) > 0) = false := by decide
      have HV := Lib.hid hv
      clear hv
      go_wp2
      go_ret
      exact ⟨⟨u3, m, gs, rfl, hown, hblk, by rw [HV.out]; simp, HG.out.dg, htop trivial, hm2⟩, hg⟩
end Go.Proofs.YteajpefbmiiioaaGreatDoor
namespace Go.Proofs.YteajpefbmiiioaaGreatDoor
open Go.RowKit Go.Sort Go.Lib

abbrev Bld (B b : Nat) (l : List UInt8) (w : World) : Prop := Lib.IsBuilder 103 5 B b (Lib.byteCells l) w
theorem writeString_any (B b : Nat) (l : List UInt8) (s : ByteArray) (w : World) (h : Bld B b l w) (hlen : l.length + s.size ≤ 140737488355328) (hBw : B ≤ w.heap.size) :
    Calls Tryz.prog 92 #[.pointer (some ⟨b, 0, none⟩), .string s] w fun e w' => e = .returned (.tuple #[.int .i64 s.size, .nilIface]) ∧ Bld B b (l ++ s.data.toList) w' ∧ Below B w w' := by
  refine (Any.Builder_WriteString (P := Tryz.prog) (ρ := Tryz.lays105_ren) { Tryz.lays105 with } Tryz.Builder_Extra_105 B b (Lib.byteCells l) s w h (by rw [Lib.byteCells_length]; exact hlen) hBw).mono ?_
  rintro e w' ⟨rfl, h1, h2⟩
  refine ⟨rfl, .inr ?_, h2⟩
  rw [Lib.byteCells_append, ← Lib.strCells_eq]
  exact h1
theorem bld_kept {B b : Nat} {l : List UInt8} {w w' : World} (h : Bld B b l w) (hg : w.grownBy w' none) : Bld B b l w' := by
  have key : ∀ p, Lib.BuilderAt 103 5 B b p (Lib.byteCells l) w → Lib.BuilderAt 103 5 B b p (Lib.byteCells l) w' := by
    intro p k
    have hlt := k.lt
    obtain ⟨hB, v, hb, hown, hne⟩ := k
    refine ⟨hB, v, (hg.block b hlt (by simp)).trans hb, hown.kept hg ?_, hne⟩
    cases v.ownBlock <;> simp
  exact h.imp (key _) (key _)
theorem below_blk {B : Nat} {w w' : World} (h : Below B w w') (_hB : B ≤ w.heap.size) {b : Nat} {k : IntKind} {e : TypeId} {xs : List Nat} (hb : Blk k e w b xs) (hlt : b < B) : Blk k e w' b xs := by
  unfold Blk at hb ⊢
  rw [h.block b hlt]; exact hb
theorem gr_grow (w : World) (k : Nat) (os : Array Obj) (r : Option Nat) : w.grownBy (grow (w.drewN k) os) r :=
  ⟨rfl, rfl, rfl, by simp, fun j hj _ => by rw [heap_grow_old _ _ (by simpa using hj)]; rfl⟩
/-- A world below which all stays as it was, from a world's own heap on: it has only grown. -/
theorem gr_below {w w' : World} (h : Below w.heap.size w w') (r : Option Nat) : w.grownBy w' r := ⟨h.os, h.tape, h.output, h.size, fun k hk _ => h.block k hk⟩
end Go.Proofs.YteajpefbmiiioaaGreatDoor
namespace Go.Proofs.YteajpefbmiiioaaGreatDoor
open Mth Go.Lib

/-- The last k decimal digits. -/
def pad : Nat → Nat → List UInt8
  | 0, _ => []
  | k + 1, r => pad k (r / 10) ++ [UInt8.ofNat (48 + r % 10)]
theorem decDigits_pad {q : Nat} (hq : 1 ≤ q) : ∀ (k r : Nat), r < 10 ^ k → decDigits (r + 10 ^ k * q) = decDigits q ++ pad k r
  | 0, r, h => by
    have : r = 0 := by simpa using h
    subst this; simp [pad]
  | k + 1, r, h => by
    have hp : 1 ≤ 10 ^ k := Nat.one_le_pow _ _ (by decide)
    rw [Nat.pow_succ] at h ⊢
    have hmul : 10 ^ k * 10 * q = 10 * (10 ^ k * q) := by rw [Nat.mul_comm (10 ^ k) 10, Nat.mul_assoc]
    have hk : 1 ≤ 10 ^ k * q := Nat.mul_pos hp hq
    rw [decDigits, dif_neg (by omega), hmul]
    rw [show (r + 10 * (10 ^ k * q)) / 10 = r / 10 + 10 ^ k * q from by omega, show (r + 10 * (10 ^ k * q)) % 10 = r % 10 from by omega]
    rw [decDigits_pad hq k (r / 10) (by omega), pad, List.append_assoc]
theorem pad_zero : ∀ k, pad k 0 = List.replicate k 48
  | 0 => rfl
  | k + 1 => by rw [pad, Nat.zero_div, pad_zero k, List.replicate_succ']; rfl
theorem pad_dec : ∀ (k r : Nat), 1 ≤ k → r < 10 ^ k → pad k r = List.replicate (k - nDigits r) 48 ++ decDigits r
  | 0, r, h1, h => by omega
  | k + 1, r, h1, h => by
    by_cases hr : r < 10
    · rw [pad, show r / 10 = 0 from by omega, pad_zero, decDigits_one hr, nDigits_small hr, show r % 10 = r from by omega]; rfl
    · have hk : 1 ≤ k := by
        rcases k with _ | k
        · simp at h; omega
        · omega
      rw [Nat.pow_succ] at h
      have hu : decDigits r = decDigits (r / 10) ++ [UInt8.ofNat (48 + r % 10)] := by rw [decDigits, dif_neg hr]
      rw [pad, pad_dec k (r / 10) hk (by omega), nDigits_big hr, hu, show k + 1 - (nDigits (r / 10) + 1) = k - nDigits (r / 10) from by omega, List.append_assoc]
theorem nDigits_le_of_lt : ∀ (k r : Nat), 1 ≤ k → r < 10 ^ k → nDigits r ≤ k
  | 0, r, h1, h => by omega
  | k + 1, r, h1, h => by
    by_cases hr : r < 10
    · rw [nDigits_small hr]; omega
    · have hk : 1 ≤ k := by
        rcases k with _ | k
        · simp at h; omega
        · omega
      rw [Nat.pow_succ] at h
      rw [nDigits_big hr]
      have := nDigits_le_of_lt k (r / 10) hk (by omega)
      omega
/-- The text of the d + 1 highest of m groups. -/
def tx (gs : List Nat) (m : Nat) : Nat → List UInt8
  | 0 => decDigits (gt gs (m - 1))
  | d + 1 => tx gs m d ++ (List.replicate (19 - nDigits (gt gs (m - 2 - d))) 48 ++ decDigits (gt gs (m - 2 - d)))
theorem tx_eq (gs : List Nat) (m : Nat) (hd : ∀ i, i < m → gt gs i < B19) (ht : gt gs (m - 1) ≠ 0) (hm : 0 < m) : ∀ d, d < m → tx gs m d = decDigits (vs B19 gs (m - 1 - d) (d + 1)) ∧ 0 < vs B19 gs (m - 1 - d) (d + 1)
  | 0, h => by
    have : vs B19 gs (m - 1 - 0) (0 + 1) = gt gs (m - 1) := by simp [vs]
    rw [this]
    exact ⟨rfl, by omega⟩
  | d + 1, h => by
    obtain ⟨h1, h2⟩ := tx_eq gs m hd ht hm d (by omega)
    have hi := hd (m - 2 - d) (by omega)
    have hv := vs_left B19 gs (m - 2 - d) (d + 1)
    rw [show m - 2 - d + 1 = m - 1 - d from by omega] at hv
    rw [tx, h1, show m - 1 - (d + 1) = m - 2 - d from by omega, hv]
    rw [show B19 = 10 ^ 19 from by decide] at *
    rw [decDigits_pad h2 19 _ hi, pad_dec 19 _ (by decide) hi]
    refine ⟨rfl, ?_⟩
    have := Nat.mul_pos (show 0 < 10 ^ 19 from by decide) h2
    omega
theorem tx_all {gs : List Nat} {m : Nat} (hd : ∀ i, i < m → gt gs i < B19) (ht : gt gs (m - 1) ≠ 0) (hm : 0 < m) : tx gs m (m - 1) = decDigits (vs B19 gs 0 m) := by
  have := (tx_eq gs m hd ht hm (m - 1) (by omega)).1
  rw [show m - 1 - (m - 1) = 0 from by omega, show m - 1 + 1 = m from by omega] at this
  exact this
theorem tx_length {gs : List Nat} {m : Nat} (hd : ∀ i, i < m → gt gs i < B19) : ∀ d, d < m → (tx gs m d).length ≤ 19 * (d + 1)
  | 0, h => by
    rw [tx, decDigits_length]
    have := nDigits_le_of_lt 19 _ (by decide) (by rw [← show B19 = 10 ^ 19 from by decide]; exact hd (m - 1) (by omega))
    omega
  | d + 1, h => by
    have h1 := tx_length hd d (by omega)
    have := nDigits_le_of_lt 19 _ (by decide) (by rw [← show B19 = 10 ^ 19 from by decide]; exact hd (m - 2 - d) (by omega))
    simp only [tx, List.length_append, List.length_replicate, decDigits_length]
    omega
end Go.Proofs.YteajpefbmiiioaaGreatDoor
namespace Go.Proofs.YteajpefbmiiioaaGreatDoor
open Go.RowKit Mth Go.Lib

theorem tab_gr {w w' : World} {name : String} {k : IntKind} {zs : List Int} (h : TabIs Tryz.prog w name k zs) (hg : w.grownBy w' none) : TabIs Tryz.prog w' name k zs := by
  unfold TabIs World.var? at *
  cases hq : Tryz.prog.globalNamed name with
  | none => simp [hq] at h
  | some g =>
    simp only [hq, Option.bind_some] at h ⊢
    have hlt : g < w.heap.size := by
      rcases Nat.lt_or_ge g w.heap.size with h' | h'
      · exact h'
      · rw [Array.getElem?_eq_none h'] at h; simp at h
    rw [hg.block g hlt (by simp)]
    exact h

theorem gr_low {B : Nat} {w w' : World} (h : w.grownBy w' none) (hB : B ≤ w.heap.size) : Below B w w' := ⟨h.os, h.tape, h.output, h.size, fun k hk => h.block k (by omega) (by simp)⟩
abbrev Tab (w : World) : Prop := Lib.TabIs Tryz.prog w "internal/strconv.uint64pow10" .u64 Lib.pow10Tab

set_option maxHeartbeats 4000000 in
set_option maxRecDepth 100000 in
theorem text_any (s : ByteArray) (w : World) (hs : s.size ≤ 1000000000000) (htab : Tab w) :
    Calls Tryz.prog 32 #[.string s] w fun e w' => e = .returned (.string ⟨(decDigits (num s.data.toList)).toArray⟩) ∧ w.grownBy w' none := by
  obtain ⟨N, hN⟩ : ∃ N, N = num s.data.toList := ⟨_, rfl⟩
  rw [← hN]
  have HN := Lib.hid hN
  clear hN
  go_enter Tryz.func32, Tryz.ntmps32
  go_wp2_with fail
  refine (wordsOf_any s w (by omega)).mono ?_
  rintro x w1 ⟨b1, ys, rfl, hlt1, hb1, hg1, hw1, hsz1⟩
  rw [← HN.out] at hw1
  have hat := NumAt.of_words hb1 hw1 (by omega)
  have HSZ := Lib.hid hsz1
  clear hb1 hw1 hsz1
  go_wp2_with fail
  refine (groupsOf_num b1 _ _ N ys w1 hat).mono ?_
  rintro x w2 ⟨⟨v, m, gs, rfl, hown, hblk, hval, hdg, htop, hm2⟩, hg2⟩
  have hgr2 : w.grownBy w2 none := gr_new hg1 hg2 hlt1
  have hm3 : m ≤ 274877906946 := by have := HSZ.out; omega
  have HV := Lib.hid hval
  have HD := Lib.hid hdg
  have HM := Lib.hid hm2
  have HT := Lib.hid htop
  have htab2 := tab_gr htab hgr2
  clear hat hval hdg hm2 htop htab
  rcases m with _ | m
  · have hN0 : N = 0 := by rw [← HV.out]; simp [vs]
    have hlen : ∃ x c, v = .slice x 0 c := by
      rcases hown with ⟨rfl, _⟩ | ⟨g, rfl, _⟩
      · exact ⟨_, _, rfl⟩
      · exact ⟨_, _, rfl⟩
    obtain ⟨x, c, rfl⟩ := hlen
    clear hown hblk
    subst hN0
    go_wp2
    go_ret
    exact ⟨by rw [decDigits_one (by omega)]; rfl, hgr2⟩
  · rcases hown with ⟨_, h0, _⟩ | ⟨g, rfl, hbg, h1, h2⟩
    · omega
    have hglt : g < w2.heap.size := hbg.lt
    have HBG := Lib.hid hbg
    have hb3 := hbg.alloc (.cells #[.pointer none, .slice none 0 0] 103)
    have hcell : (w2.alloc (.cells #[.pointer none, .slice none 0 0] 103)).cell? ⟨g, m, none⟩ = some (.int .u64 ((gt gs m : Nat) : Int)) := hb3.cell (by omega)
    have hdec : (((m + 1 : Nat) : Int) == 0) = false := by rw [beq_eq_false_iff_ne]; omega
    have hbld0 : Bld w2.heap.size w2.heap.size [] (w2.alloc (.cells #[.pointer none, .slice none 0 0] 103)) := Lib.fresh_isBuilder _ _ _
    have hbel0 : Below w2.heap.size w2 (w2.alloc (.cells #[.pointer none, .slice none 0 0] 103)) := (Below.refl _ _).alloc (Nat.le_refl _) _
    have HB0 := Lib.hid hbld0
    have HL0 := Lib.hid hbel0
    clear hbld0 hbel0 hb3 hbg hblk
    go_wp2_with fail
    have hlast : gt gs m < B19 := HD.out m (by omega)
    refine (formatUint_any (gt gs m) (by rw [B19_eq] at hlast; omega) _ (tab_gr htab2 (gr_alloc _ _ _))).mono ?_
    rintro x w3 ⟨rfl, k3, os3, rfl⟩
    have hg3 := gr_grow (w2.alloc (.cells #[.pointer none, .slice none 0 0] 103)) k3 os3 none
    have HB3 := Lib.hid (bld_kept HB0.out hg3)
    have HL3 := Lib.hid (HL0.out.trans (gr_low (B := w2.heap.size) hg3 (by simp)))
    clear HB0 HL0 hg3 hcell
    generalize hw3 : Go.Sort.grow ((w2.alloc (.cells #[.pointer none, .slice none 0 0] 103)).drewN k3) os3 = w3 at *
    clear hw3
    have hln : (decDigits (gt gs m)).length ≤ 19 := by
      rw [decDigits_length]; exact nDigits_le_of_lt 19 _ (by decide) (by rw [← show B19 = 10 ^ 19 from by decide]; exact hlast)
    have HLN := Lib.hid hln
    clear hln hlast
    go_wp2_with fail
    refine (writeString_any w2.heap.size w2.heap.size [] ⟨(decDigits (gt gs m)).toArray⟩ w3 HB3.out (by have := HLN.out; simp [ByteArray.size]; omega) HL3.out.size).mono ?_
    rintro x w4 ⟨rfl, hb4, hl4⟩
    have HB4 := Lib.hid (show Bld w2.heap.size w2.heap.size (tx gs (m + 1) 0) w4 from hb4)
    have HL4 := Lib.hid (HL3.out.trans hl4)
    clear hb4 hl4 HB3 HL3 HLN
    go_wp2
    go_loopw [6] (fun i wr => ∃ d, d < m + 1 ∧ i = .int .i64 ((m : Int) - 1 - d) ∧ Hid (Bld w2.heap.size w2.heap.size (tx gs (m + 1) d) wr) ∧ Hid (Below w2.heap.size w2 wr)) (fun i _ => (RowKit.intOf i + 1).toNat)
    case atStart => exact ⟨0, by omega, by simp, HB4, HL4⟩
    case round =>
      obtain ⟨d, hd, rfl, HB, HL⟩ := hrel
      by_cases hdm : d = m
      · subst hdm
        rw [show (d : Int) - 1 - d = -1 from by omega]
        go_wp2_with fail
        refine (Tryz.Builder_String_any w2.heap.size w2.heap.size (tx gs (d + 1) d) wr HB.out HL.out.size).mono ?_
        rintro x w5 ⟨rfl, hl5⟩
        have htx := tx_all (m := d + 1) HD.out (by have := HT.out; omega) (by omega)
        rw [HV.out, show d + 1 - 1 = d from rfl] at htx
        rw [htx]
        have hfin : w.grownBy w5 none := gr_then hgr2 (gr_below (HL.out.trans hl5) none)
        clear htx hl5
        go_wp2
        go_ret
        exact ⟨rfl, hfin⟩
      · obtain ⟨j, hj⟩ : ∃ j, m = j + 1 + d := ⟨m - 1 - d, by omega⟩
        rw [show (m : Int) - 1 - d = (j : Int) from by omega]
        have HJ := Lib.hid hj
        have hjm : j ≤ m := by omega
        have hjl : (j : Int) < (m : Int) + 1 := by omega
        have hbw := below_blk HL.out (Nat.le_refl _) HBG.out hglt
        have hcell : wr.cell? ⟨g, j, none⟩ = some (.int .u64 ((gt gs j : Nat) : Int)) := hbw.cell (by omega)
        have htabr := tab_gr htab2 (gr_below HL.out none)
        have hlast : gt gs j < B19 := HD.out j (by omega)
        have HTX := Lib.hid (show tx gs (m + 1) (d + 1) = tx gs (m + 1) d ++ (List.replicate (19 - nDigits (gt gs j)) 48 ++ decDigits (gt gs j)) from by
          rw [tx, show m + 1 - 2 - d = j from by omega])
        have HLEN := Lib.hid (show (tx gs (m + 1) d).length ≤ 5300000000000 from by
          have := tx_length HD.out d hd
          omega)
        clear hbw hj hdm
        go_wp2_with fail
        refine (formatUint_any (gt gs j) (by rw [B19_eq] at hlast; omega) _ htabr).mono ?_
        rintro x w5 ⟨rfl, k3, os3, rfl⟩
        have hg5 := gr_grow wr k3 os3 none
        have HB5 := Lib.hid (bld_kept HB.out hg5)
        have HL5 := Lib.hid (HL.out.trans (gr_low (B := w2.heap.size) hg5 HL.out.size))
        clear hg5 hcell
        generalize hw5 : Go.Sort.grow (wr.drewN k3) os3 = w5 at *
        clear hw5
        obtain ⟨t, ht⟩ : ∃ t : ByteArray, t = ⟨(decDigits (gt gs j)).toArray⟩ := ⟨_, rfl⟩
        have htl : t.data.toList = decDigits (gt gs j) := by rw [ht]
        have hts : t.size = nDigits (gt gs j) := by rw [← decDigits_length, ← htl]; rfl
        obtain ⟨c, hc⟩ : ∃ c, c + t.size = 19 := ⟨19 - t.size, by
          have := nDigits_le_of_lt 19 (gt gs j) (by decide) (by rw [← show B19 = 10 ^ 19 from by decide]; exact hlast)
          omega⟩
        have hci : ∀ z : Int, z = t.size → (19 : Int) - z = c := fun z hz => by omega
        rw [← ht]
        have HTL := Lib.hid htl
        have HTS := Lib.hid hts
        have htsz : t.size ≤ 19 := by omega
        have hc19 : c ≤ 19 := by omega
        have HC := Lib.hid hc
        clear ht htl hts hc
        go_wp2_with fail
        refine (Tryz.strings_Repeat ⟨#[48]⟩ c w5 (by omega) (by show 1 * c ≤ _; omega)).mono ?_
        rintro x w6 ⟨rfl, hl6⟩
        have HB6 := Lib.hid (bld_kept HB5.out (gr_below hl6 none))
        have HL6 := Lib.hid (HL5.out.trans (hl6.mono HL5.out.size))
        have hz : Lib.repeatL [48] c = List.replicate c 48 := by
          have := Lib.repeatL_replicate 48 1 c
          rwa [Nat.mul_one] at this
        rw [show (⟨#[48]⟩ : ByteArray).data.toList = [48] from rfl, hz]
        clear hl6 HB5 HL5
        go_wp2_with fail
        refine (writeString_any w2.heap.size w2.heap.size _ ⟨(List.replicate c 48).toArray⟩ w6 HB6.out (by have := HLEN.out; simp [ByteArray.size]; omega) HL6.out.size).mono ?_
        rintro x w7 ⟨rfl, hb7, hl7⟩
        have HB7 := Lib.hid hb7
        have HL7 := Lib.hid (HL6.out.trans hl7)
        clear hb7 hl7 HB6 HL6
        go_wp2_with fail
        refine (writeString_any w2.heap.size w2.heap.size _ t w7 HB7.out (by have := HLEN.out; simp; omega) HL7.out.size).mono ?_
        rintro x w8 ⟨rfl, hb8, hl8⟩
        have HB8 := Lib.hid (show Bld w2.heap.size w2.heap.size (tx gs (m + 1) (d + 1)) w8 from by
          rw [HTX.out, ← HTL.out]
          rw [show 19 - nDigits (gt gs j) = c from by have := HC.out; have := HTS.out; omega, ← List.append_assoc]
          exact hb8)
        have HL8 := Lib.hid (HL7.out.trans hl8)
        clear hb8 hl8 HB7 HL7
        go_wp2
        have := HJ.out
        refine ⟨⟨d + 1, by omega, by congr 1; omega, HB8, HL8⟩, ?_⟩
        show ((j : Int) - 1 + 1).toNat < ((j : Int) + 1).toNat
        omega
end Go.Proofs.YteajpefbmiiioaaGreatDoor
namespace Go.Proofs.YteajpefbmiiioaaGreatDoor
open Go.RowKit Mth Go.Lib

def isDig (c : UInt8) : Bool := decide (48 ≤ c.toNat) && decide (c.toNat ≤ 57)
def isTxt (l : List UInt8) : Bool := l.all isDig && (l == [48] || (!l.isEmpty && !(l.head? == some 48)))

theorem isTxt_bad {s : ByteArray} {i : Nat} (hi : i < s.size) (h : isDig s[i] = false) : isTxt s.data.toList = false := by
  have : s.data.toList.all isDig = false := by
    rw [Bool.eq_false_iff]
    intro ha
    rw [List.all_eq_true] at ha
    have hm : s[i] ∈ s.data.toList := by
      have : s[i] = s.data.toList[i]'(by simpa using hi) := rfl
      rw [this]; exact List.getElem_mem _
    rw [ha _ hm] at h
    cases h
  simp [isTxt, this]
theorem isTxt_good {s : ByteArray} (h : ∀ j (h : j < s.size), j < s.size → isDig s[j] = true) : isTxt s.data.toList = (s.data.toList == [48] || (!s.data.toList.isEmpty && !(s.data.toList.head? == some 48))) := by
  have : s.data.toList.all isDig = true := by
    rw [List.all_eq_true]
    intro x hx
    obtain ⟨j, hj, rfl⟩ := List.getElem_of_mem hx
    have hj' : j < s.size := by simpa using hj
    exact h j hj' hj'
  simp only [isTxt, this, Bool.true_and]

set_option maxHeartbeats 2000000 in
theorem isText_any (s : ByteArray) (w : World) (hs : s.size ≤ 9000000000000000000) :
    Calls Tryz.prog 96 #[.string s] w fun e w' => e = .returned (.bool (isTxt s.data.toList)) ∧ w.grownBy w' none := by
  go_enter Tryz.func96, Tryz.ntmps96
  go_wp2
  go_loopw [6] (fun v wr => ∃ i : Nat, i ≤ s.size ∧ v = .int .i64 i ∧ w.grownBy wr none ∧ Hid (∀ j (h : j < s.size), j < i → isDig s[j] = true)) (fun v _ => s.size - (RowKit.intOf v).toNat)
  case atStart => exact ⟨0, by omega, rfl, World.grownBy.refl _ _, fun j h1 h2 => by omega⟩
  case round =>
    obtain ⟨i, hi, rfl, hg, HA⟩ := hrel
    by_cases hlt : i < s.size
    · by_cases hd : isDig s[i] = true
      · have h1 : (48 : Int) ≤ (s[i].toNat : Int) := by simp only [isDig, Bool.and_eq_true, decide_eq_true_eq] at hd; omega
        have h2 : (s[i].toNat : Int) ≤ 57 := by simp only [isDig, Bool.and_eq_true, decide_eq_true_eq] at hd; omega
        have HD := Lib.hid hd
        clear hd
        go_wp2
        refine ⟨⟨i + 1, by omega, by simp, hg, fun j h1 h2 => ?_⟩, ?_⟩
        · by_cases e : j = i
          · subst e; exact HD.out
          · exact HA.out j h1 (by omega)
        · show s.size - ((i : Int) + 1).toNat < s.size - (i : Int).toNat
          omega
      · have HF := Lib.hid (isTxt_bad hlt (by simpa using hd))
        by_cases h1 : (s[i].toNat : Int) < 48
        · clear hd
          go_wp2
          go_ret
          exact ⟨by rw [HF.out]; rfl, hg⟩
        · have h2 : (57 : Int) < (s[i].toNat : Int) := by simp only [isDig, Bool.and_eq_true, decide_eq_true_eq] at hd; omega
          have h1 : (48 : Int) ≤ (s[i].toNat : Int) := by omega
          clear hd
          go_wp2
          go_ret
          exact ⟨by rw [HF.out]; rfl, hg⟩
    · have hie : i = s.size := by omega
      subst hie
      have HG := Lib.hid (isTxt_good HA.out)
      by_cases h0 : s = ⟨#[48]⟩
      · subst h0
        go_wp2
        go_ret
        exact ⟨rfl, hg⟩
      · by_cases he : s = ⟨#[]⟩
        · subst he
          go_wp2
          go_ret
          exact ⟨rfl, hg⟩
        · have hsz : 0 < s.size := by
            rcases Nat.eq_zero_or_pos s.size with h | h
            · exact absurd (by have : s.data = #[] := Array.eq_empty_of_size_eq_zero h
                               cases s; simp_all) he
            · exact h
          have hl1 : ¬ s.toList = [48] := fun e => h0 (by rw [ByteArray.toList_eq] at e; exact (toArray_eq s e.symm).symm)
          have hl2 : ¬ s.toList = [] := fun e => he (by rw [ByteArray.toList_eq] at e; exact (toArray_eq s e.symm).symm)
          go_wp2
          go_ret
          refine ⟨?_, hg⟩
          rw [HG.out, ByteArray.toList_eq]
          have hh : s.data.toList.head? = some s[0] := by
            rw [List.head?_eq_getElem?, List.getElem?_eq_getElem (by simpa using hsz)]; rfl
          rw [hh]
          have hb : ((s[0].toNat : Int) != 48) = !(some s[0] == some (48 : UInt8)) := by
            by_cases e : s[0] = 48
            · rw [e]; rfl
            · have : ¬ (s[0].toNat : Int) = 48 := fun h => e (by
                have h2 : s[0].toNat = 48 := by omega
                exact UInt8.toNat_inj.1 (by rw [h2]; rfl))
              rw [bne, beq_eq_false_iff_ne.2 this, beq_eq_false_iff_ne.2 (by simpa using e)]
          rw [← hb]; rfl

theorem parse_no (s : ByteArray) (w : World) (hs : s.size ≤ 9000000000000000000) (h : isTxt s.data.toList = false) :
    Calls Tryz.prog 33 #[.string s] w fun e w' => e = .returned (.tuple #[.string ⟨#[]⟩, .bool false]) ∧ w.grownBy w' none := by
  go_enter Tryz.func33, Tryz.ntmps33
  go_wp2_with fail
  refine (isText_any s w hs).mono ?_
  rintro e w1 ⟨rfl, hg⟩
  rw [h]
  go_wp2
  go_ret2
  exact ⟨rfl, hg⟩
end Go.Proofs.YteajpefbmiiioaaGreatDoor
namespace Go.Proofs.YteajpefbmiiioaaGreatDoor
open Go.RowKit Mth

def mval (v : Value) (inv : Nat) : Value := .agg #[v, .int .u64 (inv : Int)]
theorem gt_rep0 (n i : Nat) : gt (List.replicate n 0) i = 0 := by
  simp [gt, List.getD, List.getElem?_replicate]; split <;> rfl
/-- A slice of n words, just its block, with the value V. -/
structure Row (w : World) (g n V : Nat) (us : List Nat) : Prop where
  blk : Blk .u64 96 w g us
  len : us.length = n
  dg : Dg W64 us
  val : vs W64 us 0 n = V
theorem Row.kept {w w' : World} {g n V : Nat} {us : List Nat} (h : Row w g n V us) {r : Option Nat} (hg : w.grownBy w' r) (hne : some g ≠ r) : Row w' g n V us := ⟨h.blk.kept hg hne, h.len, h.dg, h.val⟩

set_option maxRecDepth 100000 in
theorem padded_any (am : Option Addr) (nm cm inv : Nat) (b o n c : Nat) (xs : List Nat) (w : World) (hb : Blk .u64 96 w b xs) (hn : o + n ≤ xs.length) (hd : Dg W64 xs) (hle : n ≤ nm) (hm : nm ≤ 1099511627776) :
    Calls Tryz.prog 160 #[mval (.slice am nm cm) inv, .slice (some ⟨b, o, none⟩) n c] w fun e w' => ∃ g us, e = .returned (.slice (some ⟨g, 0, none⟩) nm nm) ∧ w.heap.size ≤ g ∧ Row w' g nm (vs W64 xs o n) us ∧ w.grownBy w' none := by
  obtain ⟨i0, hi, hz0, hz1, hz2⟩ := info_parts infoW
  unfold mval
  go_enter Tryz.func160, Tryz.ntmps160
  go_wp2_with (at_make; refine wpList_make_full _ rfl _ _ 81 rfl 0 96 i0 (.int .u64 0) 1 Tryz.underlying81 hi hz0 hz1 .i64 .i64 _ _ nm rfl rfl ?_ ?_ ?_ ?_ (Nat.zero_le _) ?_)
  case refine_1 => omega
  case refine_2 => omega
  case refine_3 => rw [hz2]; omega
  case refine_4 => unfold maxLen; omega
  intro w1 hown hgr
  have hb0 := blk_made' hown
  have hg1 := gr_then (gr_alloc w (.cells #[.slice am nm cm, .int .u64 (inv : Int)] 140) none) hgr
  have hb1 := hb.kept hg1 (by simp)
  have hl0 : (List.replicate nm 0 : List Nat).length = nm := List.length_replicate
  have HZ := Lib.hid (gt_rep0 nm)
  generalize (List.replicate nm 0 : List Nat) = z0 at hb0 hl0 HZ
  clear hown hi hz0 hz1 hz2 hgr
  have hmin : Nat.min n nm = n := Nat.min_eq_left hle
  go_wp2_with (with_reducible refine wpList_copy_blk rfl (.tmp 10) (.tmp 11) 81 81 rfl 96 Tryz.underlying81 (by kernel_rfl) .u64 96 (w.heap.size + 1) 0 nm nm b o n c z0 xs rfl rfl hb0 hb1 hn ?_ ?_)
  · omega
  intro w2 hb2 hg2
  have hl2 : (copied z0 xs 0 o n).length = nm := by rw [length_copied (by omega) (by omega), hl0]
  have hgt := gt_copied (zs := z0) (xs := xs) (off := 0) (o1 := o) (m := n) (by omega) (by omega)
  generalize copied z0 xs 0 o n = us at hb2 hl2 hgt
  have hrow : Row w2 (w.heap.size + 1) nm (vs W64 xs o n) us := by
    refine ⟨hb2, hl2, fun i => ?_, ?_⟩
    · rw [hgt]; split
      · exact hd _
      · rw [HZ.out]; exact W64_pos
    · obtain ⟨k, rfl⟩ : ∃ k, nm = n + k := ⟨nm - n, by omega⟩
      rw [vs_split, vs_congr (ys := xs) (off' := o) (n := n) (fun i hi => by rw [hgt, if_pos (by omega)]; congr 1; omega), vs_zero (n := k) (fun i hi => by rw [hgt, if_neg (by omega), HZ.out])]
      simp
  have HR := Lib.hid hrow
  have hgf : w.grownBy w2 none := gr_new hg1 hg2 (by omega)
  clear hb2 hl2 hgt hrow hb0 hl0
  go_wp2
  go_ret
  exact ⟨_, us, rfl, by omega, HR.out, hgf⟩
end Go.Proofs.YteajpefbmiiioaaGreatDoor
namespace Go.Proofs.YteajpefbmiiioaaGreatDoor
open Go.RowKit Mth

theorem vs_three (xs : List Nat) (i n r : Nat) : vs W64 xs 0 (i + n + r) = vs W64 xs 0 i + W64 ^ i * (vs W64 xs i n + W64 ^ n * vs W64 xs (i + n) r) := by
  rw [vs_split, vs_split, Nat.zero_add, Nat.zero_add, Nat.pow_add, Nat.mul_add, Nat.mul_assoc]
  omega
/-- Words added at place i, the carry behind them. -/
theorem add_at {zs us vs' : List Nat} {i n r c y L : Nat} (hL : L = i + n + r) (h1 : AddedM zs us i n c y) (h2 : AddedW us vs' (i + n) r c) (hb : vs W64 zs 0 L + W64 ^ i * y < W64 ^ L) :
    Dg W64 vs' ∧ vs'.length = zs.length ∧ (∀ j, j < i → gt vs' j = gt zs j) ∧ vs W64 vs' 0 L = vs W64 zs 0 L + W64 ^ i * y := by
  obtain ⟨a1, a2, a3, a4⟩ := h1
  obtain ⟨b1, b2, k, b3⟩ := h2
  have hlow : ∀ j, j < i → gt vs' j = gt zs j := fun j hj => (b1.out j (by omega)).trans (a1.out j (by omega))
  refine ⟨b2, b1.len.trans a1.len, hlow, ?_⟩
  subst hL
  rw [vs_three] at hb ⊢
  rw [vs_three zs]
  have e1 : vs W64 vs' 0 i = vs W64 zs 0 i := vs_congr (fun j hj => by rw [Nat.zero_add]; exact hlow j hj)
  have e2 : vs W64 vs' i n = vs W64 us i n := vs_congr (fun j hj => b1.out _ (by omega))
  have e3 : vs W64 us (i + n) r = vs W64 zs (i + n) r := vs_congr (fun j hj => a1.out _ (by omega))
  rw [e1, e2]
  rw [e3] at b3
  generalize vs W64 zs 0 i = l at *
  generalize vs W64 us i n = p at *
  generalize vs W64 zs i n = q at *
  generalize vs W64 zs (i + n) r = s at *
  generalize vs W64 vs' (i + n) r = t at *
  rw [Nat.pow_add, Nat.pow_add] at hb
  generalize W64 ^ i = X at *
  generalize W64 ^ n = Y at *
  generalize W64 ^ r = Z at *
  have hX : X * (p + Y * t) + X * (Y * (Z * k)) = X * (q + Y * s) + X * y := by
    rw [← Nat.mul_add, ← Nat.mul_add]
    congr 1
    rw [Nat.add_assoc, ← Nat.mul_add, b3, Nat.mul_add]
    omega
  have hk : k = 0 := by
    rcases Nat.eq_zero_or_pos k with h | h
    · exact h
    · have h3 : X * (Y * Z) ≤ X * (Y * (Z * k)) := Nat.mul_le_mul_left _ (Nat.mul_le_mul_left _ (Nat.le_mul_of_pos_right _ h))
      rw [Nat.mul_assoc] at hb
      omega
  subst hk
  simp at hX
  omega

/-- The loop of the product: i rounds are over. -/
structure MontInv (A M : Nat) (ys zs : List Nat) (n o2 i : Nat) : Prop where
  len : zs.length = 2 * n + 1
  dg : Dg W64 zs
  low : ∀ j, j < i → gt zs j = 0
  val : ∃ Q, Q < W64 ^ i ∧ vs W64 zs 0 (2 * n + 1) = A * vs W64 ys o2 i + M * Q

theorem mont_bound {A M n i Q V y : Nat} (hA : A < M) (hM : M < W64 ^ n) (hi : i < n) (hQ : Q < W64 ^ i) (hV : V < W64 ^ i) (hy : y < W64) : A * V + M * Q + W64 ^ i * (A * y) < W64 ^ (2 * n + 1) ∧ A * V + M * Q + W64 ^ i * (A * y) + W64 ^ i * (M * (W64 - 1)) < W64 ^ (2 * n + 1) := by
  have h1 : A * V ≤ M * W64 ^ i := Nat.mul_le_mul (by omega) (by omega)
  have h2 : M * Q ≤ M * W64 ^ i := Nat.mul_le_mul_left _ (by omega)
  have h3 : W64 ^ i * (A * y) ≤ W64 ^ i * (M * (W64 - 1)) := Nat.mul_le_mul_left _ (Nat.mul_le_mul (by omega) (by omega))
  have h4 : W64 ^ i * (M * (W64 - 1)) = M * W64 ^ i * (W64 - 1) := by rw [← Nat.mul_assoc, Nat.mul_comm (W64 ^ i)]
  have h5 : M * W64 ^ i * (2 * W64) ≤ W64 ^ n * W64 ^ (n - 1) * (2 * W64) := Nat.mul_le_mul_right _ (Nat.mul_le_mul (by omega) (Nat.pow_le_pow_right W64_pos (by omega)))
  have h6 : W64 ^ n * W64 ^ (n - 1) * (2 * W64) ≤ W64 ^ (2 * n + 1) := by
    rw [show 2 * n + 1 = n + (n - 1) + 2 from by omega, Nat.pow_add, Nat.pow_add]
    exact Nat.mul_le_mul_left _ (by decide)
  have h7 : M * W64 ^ i * (2 * W64) = 2 * (M * W64 ^ i * (W64 - 1)) + 2 * (M * W64 ^ i) := by
    rw [show 2 * W64 = 2 * (W64 - 1) + 2 from by decide, Nat.mul_add]
    rw [Nat.mul_left_comm, Nat.mul_comm _ 2]
  have h8 : 0 < M * W64 ^ i := Nat.mul_pos (by omega) (Nat.pow_pos W64_pos)
  have h9 : A * V < M * W64 ^ i := by
    have : A * V ≤ A * W64 ^ i := Nat.mul_le_mul_left _ (by omega)
    have : A * W64 ^ i < M * W64 ^ i := Nat.mul_lt_mul_of_pos_right hA (Nat.pow_pos W64_pos)
    omega
  constructor
  · omega
  · omega

/-- One round: a's multiple, then the modulus's. -/
theorem MontInv.next {A M n i o2 y q inv : Nat} {ys zs us us' vs' ws : List Nat} {c c' : Nat} (h : MontInv A M ys zs n o2 i) (hA : A < M) (hM : M < W64 ^ n) (hi : i < n) (hdy : Dg W64 ys) (hy : y = gt ys (o2 + i))
    (hinv : (M * inv + 1) % W64 = 0)
    (h1 : AddedM zs us i n c (A * y)) (h2 : AddedW us us' (i + n) (n + 1 - i) c)
    (hq : q = gt us' i * inv % W64)
    (h3 : AddedM us' vs' i n c' (M * q)) (h4 : AddedW vs' ws (i + n) (n + 1 - i) c') : MontInv A M ys ws n o2 (i + 1) := by
  obtain ⟨Q, hQ, hval⟩ := h.val
  have hV : vs W64 ys o2 i < W64 ^ i := vs_lt hdy
  have hyW : y < W64 := by rw [hy]; exact hdy _
  have hqW : q < W64 := by rw [hq]; exact Nat.mod_lt _ W64_pos
  have hL : 2 * n + 1 = i + n + (n + 1 - i) := by omega
  obtain ⟨b1, b2⟩ := mont_bound hA hM hi hQ hV hyW
  have s1 := add_at hL h1 h2 (by rw [hval]; exact b1)
  obtain ⟨d1, l1, w1, v1⟩ := s1
  have hle : W64 ^ i * (M * q) ≤ W64 ^ i * (M * (W64 - 1)) := Nat.mul_le_mul_left _ (Nat.mul_le_mul_left _ (by omega))
  obtain ⟨d2, l2, w2, v2⟩ := add_at hL h3 h4 (by rw [v1, hval]; omega)
  have htot : vs W64 ws 0 (2 * n + 1) = A * vs W64 ys o2 (i + 1) + M * (Q + W64 ^ i * q) := by
    rw [v2, v1, hval]
    have : vs W64 ys o2 (i + 1) = vs W64 ys o2 i + W64 ^ i * y := by simp only [vs]; rw [hy]
    rw [this, Nat.mul_add, Nat.mul_add, Nat.mul_left_comm A, Nat.mul_left_comm M]
    omega
  refine ⟨by rw [l2, l1, h.len], d2, ?_, Q + W64 ^ i * q, ?_, htot⟩
  · intro j hj
    by_cases e : j = i
    · subst e
      have hlow : vs W64 us' 0 j = 0 := vs_zero (fun k hk => by rw [Nat.zero_add, w1 k hk]; exact h.low k hk)
      have hloww : vs W64 ws 0 j = 0 := vs_zero (fun k hk => by rw [Nat.zero_add, w2 k hk, w1 k hk]; exact h.low k hk)
      have e1 : 2 * n + 1 = j + 1 + (2 * n - j) := by omega
      rw [e1, vs_split W64 ws, vs_split W64 us'] at v2
      simp only [vs] at v2
      rw [hlow, hloww] at v2
      simp only [Nat.zero_add] at v2
      rw [Nat.pow_succ] at v2
      have hX : 0 < W64 ^ j := Nat.pow_pos W64_pos
      have v3 : gt ws j + W64 * vs W64 ws (j + 1) (2 * n - j) = gt us' j + W64 * vs W64 us' (j + 1) (2 * n - j) + M * q := by
        refine Nat.eq_of_mul_eq_mul_left hX ?_
        rw [Nat.mul_add, Nat.mul_add, Nat.mul_add, ← Nat.mul_assoc, ← Nat.mul_assoc]
        exact v2
      have v4 : gt ws j % W64 = (gt us' j + M * q) % W64 := by
        have := congrArg (· % W64) v3
        simp only [Nat.add_mul_mod_self_left] at this
        rw [this, Nat.add_right_comm, Nat.add_mul_mod_self_left]
      rw [Nat.mod_eq_of_lt (d2 j)] at v4
      rw [v4, hq]
      have : (gt us' j + M * (gt us' j * inv % W64)) % W64 = (gt us' j * (M * inv + 1)) % W64 := by
        rw [Nat.add_mod, Nat.mul_mod M, Nat.mod_mod, ← Nat.mul_mod, ← Nat.add_mod]
        congr 1
        rw [Nat.mul_add, Nat.mul_one, Nat.mul_left_comm]
        omega
      rw [this, Nat.mul_mod, hinv]; simp
    · rw [w2 j (by omega), w1 j (by omega)]; exact h.low j (by omega)
  · rw [Nat.pow_succ]
    have : W64 ^ i * q ≤ W64 ^ i * (W64 - 1) := Nat.mul_le_mul_left _ (by omega)
    have h5 : W64 ^ i * W64 = W64 ^ i * (W64 - 1) + W64 ^ i := by
      rw [← Nat.mul_succ]; congr 1
    omega
/-- What is left in the end, ahead of the last subtraction. -/
theorem MontInv.done {A M n o2 : Nat} {ys zs : List Nat} (h : MontInv A M ys zs n o2 n) (hA : A < M) (hdy : Dg W64 ys) : vs W64 zs n (n + 1) < 2 * M ∧ ∃ Q, vs W64 zs n (n + 1) * W64 ^ n = A * vs W64 ys o2 n + M * Q := by
  obtain ⟨Q, hQ, hval⟩ := h.val
  have hV : vs W64 ys o2 n < W64 ^ n := vs_lt hdy
  rw [show 2 * n + 1 = n + (n + 1) from by omega, vs_split, vs_zero (n := n) (fun k hk => by rw [Nat.zero_add]; exact h.low k hk), Nat.zero_add, Nat.zero_add] at hval
  refine ⟨?_, Q, by rw [Nat.mul_comm]; exact hval⟩
  have h1 : A * vs W64 ys o2 n ≤ M * W64 ^ n := Nat.mul_le_mul (by omega) (by omega)
  have h2 : M * Q < M * W64 ^ n := Nat.mul_lt_mul_of_pos_left hQ (by omega)
  refine Nat.lt_of_mul_lt_mul_left (a := W64 ^ n) ?_
  rw [hval, Nat.mul_comm (W64 ^ n), Nat.mul_assoc]
  omega
end Go.Proofs.YteajpefbmiiioaaGreatDoor
