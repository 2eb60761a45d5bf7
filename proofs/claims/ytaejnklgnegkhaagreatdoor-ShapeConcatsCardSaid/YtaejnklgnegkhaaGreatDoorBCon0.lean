/- The law of the claim at the level of the call, and its row: Stb, Std, Sta, Stc, Ste, Stf, RowE, ConcL, ConcLRow. -/
import Derived.Test.YtaejnklgnegkhaaGreatDoorBBase
import Derived.BigQuiet
import Derived.Deep.RegionHeld3
import Derived.Deep.CutRange
namespace Go.Proofs.YtaejnklgnegkhaaGreatDoor
open Pt

namespace Sh
/-- The character that fills: the least one of a class of the shape. -/
def flD (z : Int) : Nat → UInt8
  | 0 => 32
  | j + 1 => if bit z (clsD (126 - j)) = true then UInt8.ofNat (126 - j) else flD z j
theorem fl_yes {z : Int} {j : Nat} (h : bit z (clsD (126 - j)) = true) : flD z (j + 1) = UInt8.ofNat (126 - j) := if_pos h
theorem fl_no {z : Int} {j : Nat} (h : bit z (clsD (126 - j)) = false) : flD z (j + 1) = flD z j := if_neg (by rw [h]; simp)
/-- A begin, and as many filling characters as are wanted. -/
def midD (a : S5) (i : Nat) : List UInt8 := a.b.data.toList ++ List.replicate i (flD a.c 95)
theorem mid_len (a : S5) (i : Nat) : (midD a i).length = a.b.size + i := by unfold midD; rw [List.length_append, List.length_replicate]; rfl
theorem mid_next (a : S5) (i : Nat) : midD a i ++ [flD a.c 95] = midD a (i + 1) := by
  unfold midD
  rw [List.append_assoc, List.replicate_succ']
/-- The text of a length. -/
def someD (a : S5) (n : Nat) : Option (List UInt8) :=
  if n < a.b.size ∨ n < a.e.size then none
  else if (midD a (n - a.b.size - a.e.size)).drop (n - a.e.size) = a.e.data.toList.take (a.b.size + (n - a.b.size - a.e.size) + a.e.size - n) then some (midD a (n - a.b.size - a.e.size) ++ a.e.data.toList.drop (a.b.size + (n - a.b.size - a.e.size) + a.e.size - n)) else none
theorem some_len {a : S5} {n : Nat} {s : List UInt8} (h : someD a n = some s) : s.length = n := by
  unfold someD at h
  split at h
  · cases h
  · split at h
    · cases h
      have e : a.e.data.toList.length = a.e.size := rfl
      rw [List.length_append, mid_len, List.length_drop, e]
      omega
    · cases h
theorem and_bit {z : Int} {k : Nat} (hk : k < 63) : bits .and .i64 z ((2 ^ k : Nat) : Int) = 0 ↔ bit z k = false := by
  constructor
  · intro h
    have h2 := bit_and z ((2 ^ k : Nat) : Int) k
    rw [h, zero_bit, two_bit hk] at h2
    simpa using h2.symm
  · intro h
    have hz : bt (bits .and .i64 z ((2 ^ k : Nat) : Int)) = 0#64 := by
      apply BitVec.eq_of_getLsbD_eq
      intro i _
      rw [BitVec.getLsbD_zero]
      have h2 := bit_and z ((2 ^ k : Nat) : Int) i
      unfold bit at h2
      rw [h2]
      by_cases hik : i = k
      · subst hik
        unfold bit at h
        rw [h]; rfl
      · have h3 := two_bit (i := i) hk
        unfold bit at h3
        rw [h3]
        simp [hik]
    rw [bt_and] at hz
    show IntKind.i64.wrap ((bt z &&& bt ((2 ^ k : Nat) : Int)).toNat : Int) = 0
    rw [hz]; rfl
end Sh
end Go.Proofs.YtaejnklgnegkhaaGreatDoor
namespace Go.Proofs.YtaejnklgnegkhaaGreatDoor
open Pt

namespace Sh
theorem wrap_bt {x : Int} (h : I64 x) : IntKind.i64.wrap ((bt x).toNat : Int) = x := by
  unfold bt
  rw [BitVec.toNat_ofInt, IntKind.wrap_i64]
  obtain ⟨h1, h2⟩ := h
  have e : (2 : Int) ^ 64 = 18446744073709551616 := by decide
  omega
theorem and_self {x y : Int} (h : I64 x) : bits .and .i64 x y = x ↔ Sub x y := by
  constructor
  · intro he i hi
    have h2 := bit_and x y i
    rw [he, hi] at h2
    simpa using h2.symm
  · intro hs
    have hz : bt x &&& bt y = bt x := by
      apply BitVec.eq_of_getLsbD_eq
      intro i _
      rw [BitVec.getLsbD_and]
      have h2 := hs i
      unfold bit at h2
      cases hx : (bt x).getLsbD i
      · rfl
      · rw [h2 hx]; rfl
    show IntKind.i64.wrap ((bt x &&& bt y).toNat : Int) = x
    rw [hz]
    exact wrap_bt h
theorem pre_eq {s b : ByteArray} (_ : b.size ≤ s.size) : (s.extract 0 b.size).toList = b.toList ↔ b.data.toList <+: s.data.toList := by
  have e1 : (s.extract 0 b.size).data.toList = s.data.toList.take b.size := by
    rw [ByteArray.data_extract]
    simp [List.extract]
  have e2 : b.data.toList.length = b.size := rfl
  rw [ByteArray.toList_eq, ByteArray.toList_eq, e1]
  constructor
  · intro h
    rw [← h]
    exact List.take_prefix _ _
  · rintro ⟨r, hr⟩
    rw [← hr, ← e2, List.take_left]
theorem suf_eq {s e : ByteArray} (_ : e.size ≤ s.size) : (s.extract (s.size - e.size) s.size).toList = e.toList ↔ e.data.toList <:+ s.data.toList := by
  have e1 : (s.extract (s.size - e.size) s.size).data.toList = s.data.toList.drop (s.size - e.size) := by
    rw [ByteArray.data_extract]
    simp only [Array.toList_extract, List.extract]
    exact List.take_of_length_le (by rw [List.length_drop]; show s.data.size - _ ≤ _; exact Nat.le_refl _)
  have e2 : e.data.toList.length = e.size := rfl
  have e3 : s.data.toList.length = s.size := rfl
  rw [ByteArray.toList_eq, ByteArray.toList_eq, e1]
  constructor
  · intro h
    rw [← h]
    exact List.drop_suffix _ _
  · rintro ⟨r, hr⟩
    have hl := congrArg List.length hr
    rw [List.length_append, e2, e3] at hl
    rw [← hr, show s.size - e.size = r.length from by omega, List.drop_left]
end Sh
end Go.Proofs.YtaejnklgnegkhaaGreatDoor
namespace Go.Proofs.YtaejnklgnegkhaaGreatDoor
open Go.RowKit Pt Sh

/-- The least length of a shape, as the reference reckons it. -/
def leastD (a : S5) : Int := max (max 0 a.l) (max (a.b.size : Int) (a.e.size : Int))
set_option maxRecDepth 100000 in
theorem rleast_any (a : S5) (w : World) (hb : a.b.size ≤ 1000000) (he : a.e.size ≤ 1000000) : Calls Tryz.prog 38 #[vS a] w fun e w' => e = .returned (.int .i64 (leastD a)) ∧ w.grownBy w' none := by
  have HD := Lib.hid (show leastD a = max (max 0 a.l) (max (a.b.size : Int) (a.e.size : Int)) from rfl)
  obtain ⟨l, m, c, b, e⟩ := a
  simp only at hb he HD
  obtain ⟨x, hx⟩ : ∃ x : Int, max 0 l = x := ⟨_, rfl⟩
  obtain ⟨y, hy⟩ : ∃ y : Int, max (b.size : Int) (e.size : Int) = y := ⟨_, rfl⟩
  obtain ⟨z, hz⟩ : ∃ z : Int, max x y = z := ⟨_, rfl⟩
  have HR := Lib.hid (show leastD ⟨l, m, c, b, e⟩ = z from by rw [HD.out, hx, hy, hz])
  go_enter Tryz.func38, Tryz.ntmps38
  go_wp2
  all_goals
    go_ret
    first
    | exact ⟨by rw [HR.out, ← hz]; rfl, gr_alloc _ _ _⟩
    | exact ⟨by rw [HR.out]; first | rfl | (congr 2; omega), gr_alloc _ _ _⟩
set_option maxRecDepth 100000 in
theorem rmost_any (a : S5) (w : World) : Calls Tryz.prog 39 #[vS a] w fun e w' => e = .returned (.int .i64 (min a.m 200)) ∧ w.grownBy w' none := by
  obtain ⟨l, m, c, b, e⟩ := a
  obtain ⟨x, hx⟩ : ∃ x : Int, min m 200 = x := ⟨_, rfl⟩
  simp only
  rw [hx]
  go_enter Tryz.func39, Tryz.ntmps39
  go_wp2
  go_ret
  exact ⟨rfl, gr_alloc _ _ _⟩
end Go.Proofs.YtaejnklgnegkhaaGreatDoor
namespace Go.Proofs.YtaejnklgnegkhaaGreatDoor
open Go.RowKit Pt Sh

abbrev vSome (o : Option (List UInt8)) : Value := .tuple #[.string (BA (o.getD [])), .bool o.isSome]
theorem form_one (w : World) (c : Nat) (hc : c ≤ 255) : Sem.run Tryz.prog (convert 70 9 (.slice (some ⟨w.heap.size, 0, none⟩) 1 1)) (w.alloc (.cells #[.int .u8 (c : Int)] 5)) = .ok (.string ⟨#[UInt8.ofNat c]⟩) (w.alloc (.cells #[.int .u8 (c : Int)] 5)) :=
  (form_byte w c hc).str
theorem ba_cat2 (x y : List UInt8) : BA x ++ BA y = BA (x ++ y) := by
  apply ByteArray.ext
  simp
set_option maxRecDepth 100000 in
set_option maxHeartbeats 4000000 in
theorem rsome_any (a : S5) (n : Nat) (w : World) (hn : n ≤ 100000) (hb : a.b.size ≤ 1000000) (he : a.e.size ≤ 1000000) : Calls Tryz.prog 41 #[vS a, .int .i64 (n : Int)] w fun e w' => e = .returned (vSome (someD a n)) ∧ w.grownBy w' none := by
  have HNO := Lib.hid (fun (h : n < a.b.size ∨ n < a.e.size) => show someD a n = none from if_pos h)
  have HYES := Lib.hid (fun (h : ¬ (n < a.b.size ∨ n < a.e.size)) => show someD a n = _ from if_neg h)
  obtain ⟨f, hf⟩ : ∃ f, flD a.c 95 = f := ⟨_, rfl⟩
  have HF := Lib.hid hf
  have HM := Lib.hid (fun i => mid_len a i)
  have HX := Lib.hid (fun i => mid_next a i)
  have HM0 := Lib.hid (show midD a 0 = a.b.data.toList from by unfold midD; simp)
  generalize hmid : midD a = M at *
  clear hmid
  obtain ⟨l, m, c, b, e⟩ := a
  simp only at hb he HNO HYES HM HM0
  have RB := Row.new w [.int .i64 l, .int .i64 m, .int .i64 c, .string b, .string e] 24
  simp only [List.toArray] at RB
  have HRB := Lib.hid RB
  have G0 := Lib.hid (gr_alloc w (.cells #[.int .i64 l, .int .i64 m, .int .i64 c, .string b, .string e] 24) none)
  clear RB
  by_cases h1 : n < b.size
  · have h1i : (n : Int) < (b.size : Int) := by omega
    rw [HNO.out (.inl h1)]
    go_enter Tryz.func41, Tryz.ntmps41
    go_wp2
    go_ret2
    exact ⟨rfl, G0.out⟩
  by_cases h2 : n < e.size
  · have h1i : decide ((n : Int) < (b.size : Int)) = false := decide_eq_false (by omega)
    have h1n : decide (n < b.size) = false := decide_eq_false h1
    have h2i : (n : Int) < (e.size : Int) := by omega
    rw [HNO.out (.inr h2)]
    clear h1
    go_enter Tryz.func41, Tryz.ntmps41
    go_wp2
    go_ret2
    exact ⟨rfl, G0.out⟩
  have h1i : decide ((n : Int) < (b.size : Int)) = false := decide_eq_false (by omega)
  have h1n : decide (n < b.size) = false := decide_eq_false h1
  have h2i : decide ((n : Int) < (e.size : Int)) = false := decide_eq_false (by omega)
  have h2n : decide (n < e.size) = false := decide_eq_false h2
  have HY := Lib.hid (HYES.out (by omega))
  have HBN := Lib.hid (And.intro (Nat.le_of_not_lt h1) (Nat.le_of_not_lt h2))
  clear h1 h2 HNO HYES hf
  go_enter Tryz.func41, Tryz.ntmps41
  go_wp2_with fail
  clear h1i h1n h2i h2n
  go_loopw [6, 7] (fun s t wr => ∃ j : Nat, j ≤ 95 ∧ t = .int .i64 (126 - (j : Int)) ∧ s = .string (BA [flD c j]) ∧ Hid (Row wr w.heap.size (five ⟨l, m, c, b, e⟩) 24) ∧ Hid (w.grownBy wr none)) (fun _ t _ => (intOf t + 1).toNat)
  case atStart => exact ⟨0, by omega, by simp, rfl, HRB, G0⟩
  case round =>
    obtain ⟨j, hj, rfl, rfl, HR, GR⟩ := hrel
    by_cases hlt : j < 95
    · have hlti : (32 : Int) ≤ 126 - (j : Int) := by omega
      obtain ⟨d, hd⟩ : ∃ d, 126 - j = d := ⟨_, rfl⟩
      have hdi : 126 - (j : Int) = (d : Int) := by omega
      have hd8 : d ≤ 126 := by omega
      have hdw : IntKind.u8.wrap (d : Int) = (d : Int) := IntWalk.u8_in _ (by omega)
      obtain ⟨k, hk⟩ : ∃ k, clsD d = k := ⟨_, rfl⟩
      have hk6 : k ≤ 6 := by rw [← hk]; exact (clsD_le _).1
      have HC := Lib.hid (fun w => (hk ▸ rclass_any d w (by omega)).mono fun _ w' h => And.intro h.1 (show w' = w from h.2.symm))
      obtain ⟨p, hp⟩ : ∃ p : Int, ((2 ^ k : Nat) : Int) = p := ⟨_, rfl⟩
      have HW : IntKind.i64.wrap (2 ^ k) = p := by
        rw [← hp]
        rcases (show k = 0 ∨ k = 1 ∨ k = 2 ∨ k = 3 ∨ k = 4 ∨ k = 5 ∨ k = 6 by omega) with rfl | rfl | rfl | rfl | rfl | rfl | rfl <;> decide
      obtain ⟨q, hq⟩ : ∃ q : Int, bits .and .i64 c p = q := ⟨_, rfl⟩
      have HAB := Lib.hid (show q = 0 ↔ bit c k = false from by rw [← hq, ← hp]; exact and_bit (z := c) (show k < 63 by omega))
      have HFY := Lib.hid (fun (h : bit c k = true) => fl_yes (z := c) (j := j) (by rw [hd, hk]; exact h))
      have HFN := Lib.hid (fun (h : bit c k = false) => fl_no (z := c) (j := j) (by rw [hd, hk]; exact h))
      have c2 := HR.out.cell 2 _ rfl
      rw [hdi]
      have HDD := Lib.hid hd
      clear hd hk hp
      by_cases h0 : q = 0
      · have h0b : (q == 0) = true := by rw [h0]; rfl
        have h0n : (q != 0) = false := by rw [bne, h0b]; rfl
        have HN := Lib.hid (HFN.out (HAB.out.1 h0))
        clear h0
        go_wp2_with fail
        go_quiet ((go_at_call 72; with_reducible exact Calls.quiet_of_same (HC.out _)))
        have HR9 := Lib.hid (show Row (wr.drewN nq) w.heap.size (five ⟨l, m, c, b, e⟩) 24 from HR.out)
        go_wp2
        exact ⟨⟨j + 1, by omega, congrArg (Value.int .i64) (by omega), by rw [HN.out], HR9, Lib.hid (gr_dn GR.out)⟩, by simp only [intOf]; omega⟩
      · have h0b : (q == 0) = false := by rw [beq_eq_false_iff_ne]; exact h0
        have h0n : (q != 0) = true := by rw [bne, h0b]; rfl
        have HN := Lib.hid (HFY.out (by cases hbb : bit c k; exact absurd (HAB.out.2 hbb) h0; rfl))
        clear h0
        go_wp2_with fail
        go_quiet ((go_at_call 72; with_reducible exact Calls.quiet_of_same (HC.out _)))
        have hcv : Sem.run Tryz.prog (convert 70 9 (.slice (some ⟨wr.heap.size, 0, none⟩) 1 1)) ((wr.drewN nq).alloc (.cells #[.int .u8 (d : Int)] 5)) = .ok (.string ⟨#[UInt8.ofNat d]⟩) ((wr.drewN nq).alloc (.cells #[.int .u8 (d : Int)] 5)) := form_one (wr.drewN nq) d (by omega)
        have HR9 := Lib.hid (show Row ((wr.drewN nq).alloc (.cells #[.int .u8 (d : Int)] 5)) w.heap.size (five ⟨l, m, c, b, e⟩) 24 from Row.al (w := wr.drewN nq) HR.out)
        go_wp2
        exact ⟨⟨j + 1, by omega, congrArg (Value.int .i64) (by omega), by rw [HN.out, HDD.out], HR9, Lib.hid (gr_then (gr_dn GR.out) (gr_alloc _ _ _))⟩, by simp only [intOf]; omega⟩
    · obtain rfl : j = 95 := by omega
      have hlti : ¬ (32 : Int) ≤ 126 - ((95 : Nat) : Int) := by omega
      have hjj : 126 - ((95 : Nat) : Int) = 31 := by omega
      have h31 : ¬ (32 : Int) ≤ 31 := by omega
      rw [hjj, HF.out]
      have c3 := HR.out.cell 3 _ rfl
      have c4 := HR.out.cell 4 _ rfl
      clear hlti hjj
      obtain ⟨i0, hi0⟩ : ∃ i0, n - b.size - e.size = i0 := ⟨_, rfl⟩
      rw [hi0] at HY
      have hbn : b.size + i0 ≤ n ∧ (b.size + i0 + e.size = n ∨ (i0 = 0 ∧ n ≤ b.size + e.size)) := by have := HBN.out; omega
      have HB0 := Lib.hid (show BA (M 0) = b from by rw [HM0.out])
      go_wp2_with fail
      go_loopw [8] (fun v wr2 => ∃ (i : Nat) (S : ByteArray), i ≤ i0 ∧ v = .string S ∧ S.size = b.size + i ∧ Hid (S = BA (M i)) ∧ Hid (Row wr2 w.heap.size (five ⟨l, m, c, b, e⟩) 24) ∧ Hid (w.grownBy wr2 none)) (fun v _ => n - (match v with | .string t => t.size | _ => 0))
      case atStart => exact ⟨0, b, by omega, rfl, rfl, Lib.hid HB0.out.symm, HR, GR⟩
      case round =>
        obtain ⟨i, S, hi, rfl, hsz, HS, HR2, GR2⟩ := hrel
        have c4 := HR2.out.cell 4 _ rfl
        by_cases hlt : i < i0
        · have hlti : (S.size : Int) + (e.size : Int) < (n : Int) := by omega
          have hb1 : ¬ (9223372036854775807 : Int) < (S.size : Int) + 1 := by omega
          have hb2 : ¬ 9223372036854775807 < S.size + 1 := by omega
          have hs2 : (S ++ BA [f]).size = b.size + (i + 1) := by rw [ByteArray.size_append]; show S.size + 1 = _; omega
          have hs3 : (S ++ BA [f]).size = S.size + 1 := by rw [ByteArray.size_append]; rfl
          have hsn : S.size < n := by omega
          have HS2 := Lib.hid (show S ++ BA [f] = BA (M (i + 1)) from by
            rw [HS.out, ba_cat2, ← HX.out i, HF.out])
          have HSZ := Lib.hid (And.intro hs2 (And.intro hs3 hsn))
          clear hs2 hs3 hsn
          go_wp2
          exact ⟨⟨i + 1, _, by omega, rfl, HSZ.out.1, HS2, HR2, GR2⟩, by have h1 := HSZ.out.2.1; have h2 := HSZ.out.2.2; show n - (S ++ BA [f]).size < n - S.size; omega⟩
        · obtain rfl : i = i0 := by omega
          have hlti : ¬ (S.size : Int) + (e.size : Int) < (n : Int) := by omega
          obtain ⟨k, hk⟩ : ∃ k, S.size + e.size - n = k := ⟨_, rfl⟩
          obtain ⟨d, hd⟩ : ∃ d, n - e.size = d := ⟨_, rfl⟩
          have hen := HBN.out.2
          have hki : (S.size : Int) + (e.size : Int) - (n : Int) = (k : Int) := by omega
          have hdi : (S.size : Int) - (k : Int) = (d : Int) := by omega
          have hdw : IntKind.i64.wrap ((S.size : Int) - (k : Int)) = (d : Int) := (IntWalk.i64_in _ (by omega)).trans hdi
          have hkS : (k : Int) ≤ (S.size : Int) := by omega
          have hdS : (d : Int) ≤ (S.size : Int) := by omega
          have hdn : d ≤ S.size := by omega
          have hke : (k : Int) ≤ (e.size : Int) := by omega
          have hkn : k ≤ e.size := by omega
          have hd0 : (0 : Int) ≤ (d : Int) := by omega
          have hk0 : (0 : Int) ≤ (k : Int) := by omega
          have e1 : (S.extract d S.size).toList = (M i).drop d := by
            rw [ByteArray.toList_eq, ext_drop, HS.out]
          have e2 : (e.extract 0 k).toList = e.data.toList.take k := by
            rw [ByteArray.toList_eq, ByteArray.data_extract]; simp [List.extract]
          have e3 : S ++ e.extract k e.size = BA (M i ++ e.data.toList.drop k) := by
            rw [HS.out, show e.extract k e.size = BA (e.data.toList.drop k) from by
              apply ByteArray.ext; apply Array.toList_inj.1; exact ext_drop e k]
            exact ba_cat2 _ _
          rw [show b.size + i + e.size - n = k from by omega, hd, ← e1, ← e2] at HY
          have HE3 := Lib.hid e3
          have hb1 : ¬ (9223372036854775807 : Int) < (S.size : Int) + ((e.extract k e.size).size : Int) := by rw [ByteArray.size_extract]; omega
          have hb2 : ¬ 9223372036854775807 < S.size + (e.extract k e.size).size := by rw [ByteArray.size_extract]; omega
          have hb3 : ¬ 9223372036854775807 < S.size + (e.size - k) := by omega
          have hb4 : ¬ (9223372036854775807 : Int) < (S.size : Int) + ((e.size : Int) - (k : Int)) := by omega
          clear e1 e2 e3 hk hd hbn hi hsz hen HS
          by_cases hq : (S.extract d S.size).toList = (e.extract 0 k).toList
          · have hqb : ((S.extract d S.size).toList == (e.extract 0 k).toList) = true := by rw [beq_iff_eq]; exact hq
            have hqn : ((S.extract d S.size).toList != (e.extract 0 k).toList) = false := by rw [bne, hqb]; rfl
            have HRES := Lib.hid (HY.out.trans (if_pos hq))
            clear hq HY
            go_wp2_with fail
            go_quiet (fail)
            have c4b := (show Row (wr.drewN nq) w.heap.size (five ⟨l, m, c, b, e⟩) 24 from HR2.out).cell 4 _ rfl
            go_wp2
            go_ret2
            exact ⟨by rw [HRES.out, HE3.out]; rfl, gr_dn GR2.out⟩
          · have hqb : ((S.extract d S.size).toList == (e.extract 0 k).toList) = false := by rw [beq_eq_false_iff_ne]; exact hq
            have hqn : ((S.extract d S.size).toList != (e.extract 0 k).toList) = true := by rw [bne, hqb]; rfl
            have HRES := Lib.hid (HY.out.trans (if_neg hq))
            clear hq HY
            go_wp2_with fail
            go_quiet (fail)
            go_wp2
            go_ret2
            exact ⟨by rw [HRES.out]; rfl, gr_dn GR2.out⟩
end Go.Proofs.YtaejnklgnegkhaaGreatDoor
namespace Go.Proofs.YtaejnklgnegkhaaGreatDoor
open Go.RowKit Pt Sh

set_option maxRecDepth 100000 in
set_option maxHeartbeats 4000000 in
theorem rcontains_any (a : S5) (s : ByteArray) (w : World) (hs : s.size ≤ 1000000000000) (hbz : a.b.size ≤ 1000000000000) (hez : a.e.size ≤ 1000000000000) :
    Calls Tryz.prog 14 #[vS a, .string s] w (BoolIs (inD a s.data.toList) w) := by
  have HT := Lib.hid (fun w => rtext_any s w hs)
  have HC := Lib.hid (fun w => (rbits_any s w hs).mono fun _ w' h => And.intro h.1 (show w' = w from h.2.symm))
  have hcb := cb_i64 s.data.toList
  obtain ⟨l, m, c, b, e⟩ := a
  simp only at hbz hez
  have HI := Lib.hid (show inD ⟨l, m, c, b, e⟩ s.data.toList ↔ (isTextD s.data.toList = true ∧ l ≤ (s.size : Int) ∧ (s.size : Int) ≤ m ∧ Sub (cbI s.data.toList) c ∧ b.data.toList <+: s.data.toList ∧ e.data.toList <:+ s.data.toList) from Iff.rfl)
  have HSUB := Lib.hid (show bits .and .i64 (cbI s.data.toList) c = cbI s.data.toList ↔ Sub (cbI s.data.toList) c from and_self hcb)
  have HPB := Lib.hid (fun (h : b.size ≤ s.size) => pre_eq (s := s) h)
  have HUE := Lib.hid (fun (h : e.size ≤ s.size) => suf_eq (s := s) h)
  have HPL := Lib.hid (show b.data.toList <+: s.data.toList → b.size ≤ s.size from fun h => h.length_le)
  have HUL := Lib.hid (show e.data.toList <:+ s.data.toList → e.size ≤ s.size from fun h => h.length_le)
  clear hcb
  generalize isTextD s.data.toList = tx at *
  generalize cbI s.data.toList = cb at *
  obtain ⟨z, hz⟩ : ∃ z, bits .and .i64 cb c = z := ⟨_, rfl⟩
  have HZ := Lib.hid hz
  clear hbz hez
  cases tx
  · clear hz
    go_enter Tryz.func14, Tryz.ntmps14
    go_wp2_with fail
    refine (HT.out _).mono ?_
    rintro e1 w1 ⟨rfl, rfl⟩
    go_wp2
    go_ret
    exact BoolIs.no rfl (fun h => absurd (HI.out.1 h).1 (by simp)) (gr_alloc _ _ _)
  by_cases h1 : (s.size : Int) < l
  · have h1d : decide ((s.size : Int) < l) = true := decide_eq_true h1
    have H1 := Lib.hid h1
    clear hz
    go_enter Tryz.func14, Tryz.ntmps14
    go_wp2_with fail
    refine (HT.out _).mono ?_
    rintro e1 w1 ⟨rfl, rfl⟩
    go_wp2
    go_ret
    exact BoolIs.no rfl (fun h => by have h1 := (HI.out.1 h).2.1; have h2 := H1.out; omega) (gr_alloc _ _ _)
  have h1d : decide ((s.size : Int) < l) = false := decide_eq_false h1
  have H1 := Lib.hid h1
  clear h1
  by_cases h2 : m < (s.size : Int)
  · have h2d : decide (m < (s.size : Int)) = true := decide_eq_true h2
    have H2 := Lib.hid h2
    clear hz
    go_enter Tryz.func14, Tryz.ntmps14
    go_wp2_with fail
    refine (HT.out _).mono ?_
    rintro e1 w1 ⟨rfl, rfl⟩
    go_wp2
    go_ret
    exact BoolIs.no rfl (fun h => by have h1 := (HI.out.1 h).2.2.1; have h2 := H2.out; omega) (gr_alloc _ _ _)
  have h2d : decide (m < (s.size : Int)) = false := decide_eq_false h2
  have H2 := Lib.hid h2
  clear h2
  by_cases h3 : (s.size : Int) < (b.size : Int)
  · have h3d : decide ((s.size : Int) < (b.size : Int)) = true := decide_eq_true h3
    have H3 := Lib.hid h3
    clear hz
    go_enter Tryz.func14, Tryz.ntmps14
    go_wp2_with fail
    refine (HT.out _).mono ?_
    rintro e1 w1 ⟨rfl, rfl⟩
    go_wp2
    go_ret
    exact BoolIs.no rfl (fun h => by have h1 := HPL.out (HI.out.1 h).2.2.2.2.1; have h2 := H3.out; omega) (gr_alloc _ _ _)
  have h3d : decide ((s.size : Int) < (b.size : Int)) = false := decide_eq_false h3
  have h3n : decide (s.size < b.size) = false := decide_eq_false (by omega)
  have H3 := Lib.hid h3
  clear h3
  by_cases h4 : (s.size : Int) < (e.size : Int)
  · have h4d : decide ((s.size : Int) < (e.size : Int)) = true := decide_eq_true h4
    have H4 := Lib.hid h4
    clear hz
    go_enter Tryz.func14, Tryz.ntmps14
    go_wp2_with fail
    refine (HT.out _).mono ?_
    rintro e1 w1 ⟨rfl, rfl⟩
    go_wp2
    go_ret
    exact BoolIs.no rfl (fun h => by have h1 := HUL.out (HI.out.1 h).2.2.2.2.2; have h2 := H4.out; omega) (gr_alloc _ _ _)
  have h4d : decide ((s.size : Int) < (e.size : Int)) = false := decide_eq_false h4
  have h4n : decide (s.size < e.size) = false := decide_eq_false (by omega)
  have H4 := Lib.hid h4
  clear h4
  have hbs : b.size ≤ s.size := by have := H3.out; omega
  have hes : e.size ≤ s.size := by have := H4.out; omega
  have hbi : (b.size : Int) ≤ (s.size : Int) := by omega
  have hei : (e.size : Int) ≤ (s.size : Int) := by omega
  obtain ⟨d, hd⟩ : ∃ d, s.size - e.size = d := ⟨_, rfl⟩
  have hpb := HPB.out hbs
  have hue := HUE.out hes
  rw [hd] at hue
  have hdi : (s.size : Int) - (e.size : Int) = (d : Int) := by omega
  have hdw : IntKind.i64.wrap ((s.size : Int) - (e.size : Int)) = (d : Int) := IntWalk.i64_in _ (by omega) |>.trans (by omega)
  have hd0 : (0 : Int) ≤ (d : Int) := by omega
  have hds : (d : Int) ≤ (s.size : Int) := by omega
  have hdn : d ≤ s.size := by omega
  have HPE := Lib.hid hpb
  have HUU := Lib.hid hue
  clear hd hpb hue
  by_cases h5 : z = cb
  rotate_left
  · have h5b : (z == cb) = false := by rw [beq_eq_false_iff_ne]; exact h5
    have H5 := Lib.hid h5
    clear h5
    go_enter Tryz.func14, Tryz.ntmps14
    go_wp2_with fail
    refine (HT.out _).mono ?_
    rintro e1 w1 ⟨rfl, rfl⟩
    go_wp2_with fail
    go_quiet (first | (go_at_call 49; with_reducible exact Calls.quiet_of_same (HC.out _)))
    go_wp2
    go_ret
    exact BoolIs.no rfl (fun h => H5.out (HZ.out.symm.trans (HSUB.out.2 (HI.out.1 h).2.2.2.1))) (gr_dn (gr_alloc _ _ _))
  have H5 := Lib.hid (HSUB.out.1 (HZ.out.trans h5))
  subst h5
  by_cases h6 : (s.extract 0 b.size).toList = b.toList
  rotate_left
  · have h6b : ((s.extract 0 b.size).toList == b.toList) = false := by rw [beq_eq_false_iff_ne]; exact h6
    have H6 := Lib.hid h6
    clear h6
    go_enter Tryz.func14, Tryz.ntmps14
    go_wp2_with fail
    refine (HT.out _).mono ?_
    rintro e1 w1 ⟨rfl, rfl⟩
    go_wp2_with fail
    go_quiet (first | (go_at_call 49; with_reducible exact Calls.quiet_of_same (HC.out _)))
    go_wp2
    go_ret
    exact BoolIs.no rfl (fun h => H6.out (HPE.out.2 (HI.out.1 h).2.2.2.2.1)) (gr_dn (gr_alloc _ _ _))
  have h6b : ((s.extract 0 b.size).toList == b.toList) = true := by rw [beq_iff_eq]; exact h6
  have H6 := Lib.hid (HPE.out.1 h6)
  clear h6
  by_cases h7 : (s.extract d s.size).toList = e.toList
  rotate_left
  · have h7b : ((s.extract d s.size).toList == e.toList) = false := by rw [beq_eq_false_iff_ne]; exact h7
    have H7 := Lib.hid h7
    clear h7
    go_enter Tryz.func14, Tryz.ntmps14
    go_wp2_with fail
    refine (HT.out _).mono ?_
    rintro e1 w1 ⟨rfl, rfl⟩
    go_wp2_with fail
    go_quiet (first | (go_at_call 49; with_reducible exact Calls.quiet_of_same (HC.out _)))
    go_wp2
    go_ret
    exact BoolIs.no rfl (fun h => H7.out (HUU.out.2 (HI.out.1 h).2.2.2.2.2)) (gr_dn (gr_alloc _ _ _))
  have h7b : ((s.extract d s.size).toList == e.toList) = true := by rw [beq_iff_eq]; exact h7
  have H7 := Lib.hid (HUU.out.1 h7)
  clear h7
  go_enter Tryz.func14, Tryz.ntmps14
  go_wp2_with fail
  refine (HT.out _).mono ?_
  rintro e1 w1 ⟨rfl, rfl⟩
  go_wp2_with fail
  go_quiet (first | (go_at_call 49; with_reducible exact Calls.quiet_of_same (HC.out _)))
  go_wp2
  go_ret
  exact BoolIs.yes rfl (HI.out.2 ⟨by first | rfl | trivial, by have := H1.out; omega, by have := H2.out; omega, H5.out, H6.out, H7.out⟩) (gr_dn (gr_alloc _ _ _))
end Go.Proofs.YtaejnklgnegkhaaGreatDoor
namespace Go.Proofs.YtaejnklgnegkhaaGreatDoor
open Go.RowKit Pt Sh

/-- A call that gives some text, of which something holds if the call says so. -/
def SampleQ (I : List UInt8 → Prop) (w : World) (e : Ending) (w' : World) : Prop := ∃ (s : ByteArray) (ok : Bool), s.size ≤ 212 ∧ (ok = true → I s.data.toList) ∧ e = .returned (.tuple #[.string s, .bool ok]) ∧ w.grownBy w' none
set_option maxRecDepth 100000 in
set_option maxHeartbeats 4000000 in
theorem rsample8_any (a : S5) (n : Int) (w : World) (ha : GoodS a) (hn : I64 n) : Calls Tryz.prog 10 #[vS a, .int .i64 n] w (SampleQ (inD a) w) := by
  have HL := Lib.hid (fun w => rleast_any a w (Nat.le_trans ha.b (by decide)) (Nat.le_trans ha.e (by decide)))
  have HM := Lib.hid (fun w => rmost_any a w)
  have HS := Lib.hid (fun (k : Nat) (h : k ≤ 100000) w => rsome_any a k w h (Nat.le_trans ha.b (by decide)) (Nat.le_trans ha.e (by decide)))
  have HC := Lib.hid (fun (s : ByteArray) (h : s.size ≤ 1000) w => rcontains_any a s w (by omega) (Nat.le_trans ha.b (by decide)) (Nat.le_trans ha.e (by decide)))
  have hL0 : 0 ≤ leastD a := by unfold leastD; omega
  have HIN := Lib.hid (show ∀ s : ByteArray, inD a s.data.toList → inD a s.data.toList from fun _ h => h)
  have HSL := Lib.hid (fun (k : Nat) (t : List UInt8) (h : someD a k = some t) => some_len h)
  obtain ⟨M, hM⟩ : ∃ M : Int, min a.m 200 = M := ⟨_, rfl⟩
  have hM2 : M ≤ 200 := by omega
  rw [hM] at HM
  clear hM
  generalize leastD a = L at *
  generalize hI : inD a = I at *
  generalize hsm : someD a = S at *
  obtain ⟨l, m, c, b, e⟩ := a
  have RB := Row.new w [.int .i64 l, .int .i64 m, .int .i64 c, .string b, .string e] 24
  simp only [List.toArray] at RB
  have HRB := Lib.hid RB
  have G0 := Lib.hid (gr_alloc w (.cells #[.int .i64 l, .int .i64 m, .int .i64 c, .string b, .string e] 24) none)
  clear hI hsm ha RB
  go_enter Tryz.func10, Tryz.ntmps10
  go_wp2_with fail
  refine (HL.out _).mono ?_
  rintro e1 w1 ⟨rfl, g1⟩
  have HR1 := Lib.hid (HRB.out.kept g1)
  have G1 := Lib.hid (gr_then G0.out g1)
  have c0 := HR1.out.cell 0 _ rfl
  have c1 := HR1.out.cell 1 _ rfl
  have c2 := HR1.out.cell 2 _ rfl
  have c3 := HR1.out.cell 3 _ rfl
  have c4 := HR1.out.cell 4 _ rfl
  clear g1 G0 HRB
  go_wp2_with fail
  refine (HM.out _).mono ?_
  rintro e1 w2 ⟨rfl, g2⟩
  have HR2 := Lib.hid (HR1.out.kept g2)
  have G2 := Lib.hid (gr_then G1.out g2)
  clear g2 G1 HR1 c0 c1 c2 c3 c4
  by_cases hLM : M < L
  · have hLd : decide (M < L) = true := decide_eq_true hLM
    go_wp2
    go_ret2
    exact ⟨⟨#[]⟩, false, Nat.zero_le _, fun h => (by cases h), rfl, G2.out⟩
  have hLd : decide (M < L) = false := decide_eq_false hLM
  have hLe : L ≤ M := by omega
  obtain ⟨k, hk⟩ : ∃ k : Int, min (M - L) 12 = k := ⟨_, rfl⟩
  have hk0 : 0 ≤ k ∧ k ≤ 12 := by omega
  have HMO := Lib.hid (fun w => rmod_any n (k + 1) w (by omega) (by omega) hn.1 hn.2)
  have hr := mod_le (z := n) (show (0 : Int) < k + 1 by omega)
  generalize n % (k + 1) = r at *
  obtain ⟨N, hN⟩ : ∃ N : Nat, L + r = (N : Int) := ⟨(L + r).toNat, by omega⟩
  have hN2 : N ≤ 212 := by omega
  have HN2 := Lib.hid hN2
  have c0 := HR2.out.cell 0 _ rfl
  have c1 := HR2.out.cell 1 _ rfl
  have c2 := HR2.out.cell 2 _ rfl
  have c3 := HR2.out.cell 3 _ rfl
  have c4 := HR2.out.cell 4 _ rfl
  have HSN := Lib.hid (fun w => HS.out N (by omega) w)
  have HSLN := Lib.hid (fun t h => HSL.out N t h)
  clear hLM HL HM HS HSL hn
  go_wp2_with fail
  refine (HMO.out _).mono ?_
  rintro e3 w3 ⟨rfl, rfl⟩
  go_wp2_with fail
  refine (HSN.out _).mono ?_
  rintro e4 w4 ⟨rfl, g4⟩
  have HR4 := Lib.hid (HR2.out.kept g4)
  have G4 := Lib.hid (gr_then G2.out g4)
  have d0 := HR4.out.cell 0 _ rfl
  have d1 := HR4.out.cell 1 _ rfl
  have d2 := HR4.out.cell 2 _ rfl
  have d3 := HR4.out.cell 3 _ rfl
  have d4 := HR4.out.cell 4 _ rfl
  clear g4 G2 HR2 c0 c1 c2 c3 c4
  generalize S N = o at *
  cases o with
  | none =>
    simp only [vSome, Option.getD_none, Option.isSome_none]
    go_wp2
    go_ret2
    exact ⟨⟨#[]⟩, false, Nat.zero_le _, fun h => (by cases h), rfl, G4.out⟩
  | some t =>
    have htl : t.length = N := HSLN.out t rfl
    have htz : (BA t).size ≤ 212 := by show t.length ≤ 212; omega
    have HK := Lib.hid (fun w => HC.out (BA t) (by omega) w)
    obtain ⟨x, hx⟩ : ∃ x, BA t = x := ⟨_, rfl⟩
    rw [hx] at htz HK
    have HTZ := Lib.hid htz
    simp only [vSome, Option.getD_some, Option.isSome_some]
    rw [hx]
    clear htl htz hx
    go_wp2_with fail
    refine (HK.out _).mono ?_
    rintro e5 w5 ⟨q, rfl, hq, g5⟩
    have HQ := Lib.hid hq.1
    have G5 := Lib.hid (gr_then G4.out g5)
    clear hq g5 d0 d1 d2 d3 d4
    go_wp2
    go_ret2
    exact ⟨x, q, HTZ.out, HQ.out, rfl, G5.out⟩
end Go.Proofs.YtaejnklgnegkhaaGreatDoor
namespace Go.Proofs.YtaejnklgnegkhaaGreatDoor
open Go.ChangeShapes Go.WideShapes Go.ChangeAt Go.RowKit Pt

set_option maxRecDepth 100000 in
theorem a2i_arg {H : Type} {enc : TypeId × Value → H} {W : World} {base : Nat} {v : Value} {d : DataW H} {p : List MemPlace} (hok : Value.okWide Tryz.prog W .any base 37 v) (h : DataW.Trod enc Tryz.prog W 0 (fun _ => true) true 37 v d p) : ∃ n0 n1 : Int, v = .agg #[.int .i64 n0, .int .i64 n1] ∧ I64 n0 ∧ I64 n1 := by
  have hc : Tryz.prog.cellsOf 37 = 2 := by kernel_rfl
  have hc1 : Tryz.prog.cellsOf 3 = 1 := by kernel_rfl
  simp only [Value.okWide, Tryz.underlying37] at hok
  obtain ⟨cs, rfl, hsz, _⟩ := hok
  obtain ⟨fuel, hf⟩ := h
  rw [hc] at hsz
  obtain ⟨x0, x1, rfl⟩ : ∃ x0 x1, cs = #[x0, x1] := by
    rcases cs with ⟨l⟩
    match l, hsz with
    | [x0, x1], _ => exact ⟨x0, x1, rfl⟩
  obtain ⟨xs, m, _, _, _, hlen, hf2⟩ := DataW.trod_array Tryz.underlying37 hf
  have h0 := hf2 0 (by decide)
  have h1 := hf2 1 (by decide)
  rw [hc1] at h0 h1
  match xs, hlen with
  | [y0, y1], _ =>
    obtain ⟨u0, e0, _, i0⟩ := DataW.trod_int Tryz.underlying3 (x := y0) (by simpa using h0)
    obtain ⟨u1, e1, _, i1⟩ := DataW.trod_int Tryz.underlying3 (x := y1) (by simpa using h1)
    simp [Value.cells] at e0 e1
    exact ⟨u0, u1, by rw [e0, e1], wf_i64 i0, wf_i64 i1⟩
set_option maxRecDepth 100000 in
theorem a2u8_arg {H : Type} {enc : TypeId × Value → H} {W : World} {base : Nat} {v : Value} {d : DataW H} {p : List MemPlace} (hok : Value.okWide Tryz.prog W .any base 43 v) (h : DataW.Trod enc Tryz.prog W 0 (fun _ => true) true 43 v d p) : ∃ n0 n1 : Nat, v = .agg #[.int .u8 (n0 : Int), .int .u8 (n1 : Int)] ∧ n0 ≤ 255 ∧ n1 ≤ 255 := by
  have hc : Tryz.prog.cellsOf 43 = 2 := by kernel_rfl
  have hc1 : Tryz.prog.cellsOf 5 = 1 := by kernel_rfl
  simp only [Value.okWide, Tryz.underlying43] at hok
  obtain ⟨cs, rfl, hsz, _⟩ := hok
  obtain ⟨fuel, hf⟩ := h
  rw [hc] at hsz
  obtain ⟨x0, x1, rfl⟩ : ∃ x0 x1, cs = #[x0, x1] := by
    rcases cs with ⟨l⟩
    match l, hsz with
    | [x0, x1], _ => exact ⟨x0, x1, rfl⟩
  obtain ⟨xs, m, _, _, _, hlen, hf2⟩ := DataW.trod_array Tryz.underlying43 hf
  have h0 := hf2 0 (by decide)
  have h1 := hf2 1 (by decide)
  rw [hc1] at h0 h1
  match xs, hlen with
  | [y0, y1], _ =>
    obtain ⟨u0, e0, _, i0⟩ := DataW.trod_int Tryz.underlying5 (x := y0) (by simpa using h0)
    obtain ⟨u1, e1, _, i1⟩ := DataW.trod_int Tryz.underlying5 (x := y1) (by simpa using h1)
    simp [Value.cells] at e0 e1
    obtain ⟨m0, rfl, hm0⟩ := wf_u8 i0
    obtain ⟨m1, rfl, hm1⟩ := wf_u8 i1
    exact ⟨m0, m1, by rw [e0, e1], hm0, hm1⟩
end Go.Proofs.YtaejnklgnegkhaaGreatDoor
namespace Go.Proofs.YtaejnklgnegkhaaGreatDoor
open Go.RowKit Pt Sh

theorem conc_sm (a b : S5) : (concD a b).b.size ≤ 1000000 ∧ (concD a b).e.size ≤ 1000000 := by
  have := conc_small a b
  exact ⟨by omega, by omega⟩
set_option maxRecDepth 100000 in
set_option maxHeartbeats 16000000 in
theorem concats_true (va vb : Value) (a : S5) (s : ByteArray) (n0 n1 : Int) (w : World) (ht : TabP w) (hc : CaseA w va vb a s) (hn0 : I64 n0) (hn1 : I64 n1) : Calls Tryz.prog 5 #[vCase va vb a s, .agg #[.int .i64 n0, .int .i64 n1]] w fun e w' => e = .returned (.bool true) ∧ w.grownBy w' none := by
  have HS := Lib.hid (fun (w0 : World) (g : w.grownBy w0 none) => sanity8_any w0 (tabis_grown ht g))
  have HSH := Lib.hid (fun (w0 : World) (g : w.grownBy w0 none) => shapes_any va vb a s w0 ⟨hc.1.kept g, hc.2.1.kept g, hc.2.2⟩)
  obtain ⟨l, m, c, b, e⟩ := a
  have RC := (Row.new w [va, vb, .int .i64 l, .int .i64 m, .int .i64 c, .string b, .string e, .string s] 26).al (o := .cells #[.int .i64 n0, .int .i64 n1] 37)
  have RN := Row.new (w.alloc (.cells #[va, vb, .int .i64 l, .int .i64 m, .int .i64 c, .string b, .string e, .string s] 26)) [.int .i64 n0, .int .i64 n1] 37
  rw [World.size_alloc] at RN
  simp only [List.toArray] at RC RN
  have HRC := Lib.hid RC
  have HRN := Lib.hid RN
  have G0 := Lib.hid (gr_then (gr_alloc w (.cells #[va, vb, .int .i64 l, .int .i64 m, .int .i64 c, .string b, .string e, .string s] 26) none) (gr_alloc _ (.cells #[.int .i64 n0, .int .i64 n1] 37) none))
  have HNN := Lib.hid (And.intro hn0 hn1)
  clear ht hc RC RN hn0 hn1
  go_enter Tryz.func5, Tryz.ntmps5
  go_wp2_with fail
  refine (HS.out _ G0.out).mono ?_
  rintro e1 w1 ⟨rfl, g1⟩
  have RC1 := HRC.out.kept g1
  have HRN1 := Lib.hid (HRN.out.kept g1)
  have c0 := RC1.cell 0 _ rfl
  have c1 := RC1.cell 1 _ rfl
  have c2 := RC1.cell 2 _ rfl
  have c3 := RC1.cell 3 _ rfl
  have c4 := RC1.cell 4 _ rfl
  have c5 := RC1.cell 5 _ rfl
  have c6 := RC1.cell 6 _ rfl
  have c7 := RC1.cell 7 _ rfl
  have G1 := Lib.hid (gr_then G0.out g1)
  clear g1 G0 HRC HRN RC1 HS
  go_wp2_with fail
  refine (HSH.out _ G1.out).mono ?_
  rintro e2 w2 ⟨a0, a1, a2, a3, h0, h1, h2, h3, rfl, g2⟩
  have G2 := Lib.hid (gr_then G1.out g2)
  have HG := Lib.hid (fun i => pick_good h0 h1 h2 h3 i)
  obtain ⟨L, hL⟩ : ∃ L, w2.heap.size = L := ⟨_, rfl⟩
  have RA := Row.new w2 [.int .i64 0, .int .i64 0, .int .i64 0, .string ⟨#[]⟩, .string ⟨#[]⟩, .int .i64 0, .int .i64 0, .int .i64 0, .string ⟨#[]⟩, .string ⟨#[]⟩, .int .i64 0, .int .i64 0, .int .i64 0, .string ⟨#[]⟩, .string ⟨#[]⟩, .int .i64 0, .int .i64 0, .int .i64 0, .string ⟨#[]⟩, .string ⟨#[]⟩] 28
  simp only [List.toArray, hL] at RA
  obtain ⟨wa, hwa⟩ : ∃ wa, w2.alloc (.cells #[.int .i64 0, .int .i64 0, .int .i64 0, .string ⟨#[]⟩, .string ⟨#[]⟩, .int .i64 0, .int .i64 0, .int .i64 0, .string ⟨#[]⟩, .string ⟨#[]⟩, .int .i64 0, .int .i64 0, .int .i64 0, .string ⟨#[]⟩, .string ⟨#[]⟩, .int .i64 0, .int .i64 0, .int .i64 0, .string ⟨#[]⟩, .string ⟨#[]⟩] 28) = wa := ⟨_, rfl⟩
  rw [hwa] at RA
  have HWA := Lib.hid hwa
  have HRA := Lib.hid RA
  have GA := Lib.hid (show w.grownBy wa none from by rw [← hwa]; exact gr_then G2.out (gr_alloc _ _ _))
  have hLw : w.heap.size + 1 < L := by rw [← hL]; exact (HRN1.out.kept g2).lt
  have HRNA := Lib.hid (show Row wa (w.heap.size + 1) [.int .i64 n0, .int .i64 n1] 37 from by rw [← hwa]; exact (HRN1.out.kept g2).al)
  have HLL := Lib.hid hL
  clear h0 h1 h2 h3 g2 G1 G2 RA HSH c0 c1 c2 c3 c4 c5 c6 c7 hL hwa HRN1
  go_wp2_with ((refine wpList_store_row rfl 28 (.tmp 6) (.tmp 16) rfl w2.heap.size rfl (four a0 a1 a2 a3) rfl 28 [.int .i64 0, .int .i64 0, .int .i64 0, .string ⟨#[]⟩, .string ⟨#[]⟩, .int .i64 0, .int .i64 0, .int .i64 0, .string ⟨#[]⟩, .string ⟨#[]⟩, .int .i64 0, .int .i64 0, .int .i64 0, .string ⟨#[]⟩, .string ⟨#[]⟩, .int .i64 0, .int .i64 0, .int .i64 0, .string ⟨#[]⟩, .string ⟨#[]⟩] ?hstore (by kernel_rfl) rfl (by rfl) ?_))
  case hstore =>
    rw [HWA.out, HLL.out]
    exact HRA.out
  rw [HWA.out, HLL.out]
  have RL := HRA.out.put (cs' := four a0 a1 a2 a3)
  have GL := gr_put (cs' := (four a0 a1 a2 a3).toArray) GA.out (show w.heap.size ≤ L by omega)
  have RN := HRNA.out.oput (cs' := (four a0 a1 a2 a3).toArray) (show w.heap.size + 1 ≠ L by omega)
  obtain ⟨w3, hw3⟩ : ∃ w3, wa.setRow L (four a0 a1 a2 a3).toArray = w3 := ⟨_, rfl⟩
  rw [hw3] at RL GL RN ⊢
  have HRL := Lib.hid RL
  have HRN3 := Lib.hid RN
  have G3 := Lib.hid GL
  clear RL GL RN hw3 GA HRA HWA HLL HRNA
  go_loopw [7] (fun i wr => ∃ I : Nat, i = .int .i64 (I : Int) ∧ I ≤ 3 ∧ Hid (Row wr L (four a0 a1 a2 a3) 28) ∧ Hid (Row wr (w.heap.size + 1) [.int .i64 n0, .int .i64 n1] 37) ∧ Hid (w.grownBy wr none)) (fun i _ => 3 - (intOf i).toNat)
  case atStart => exact ⟨0, rfl, by omega, HRL, HRN3, G3⟩
  case round =>
    obtain ⟨I, rfl, hI, HR0, HN0, GR0⟩ := hrel
    by_cases hI3 : I < 3
    rotate_left
    · have hIi : ¬ (I : Int) < 3 := by omega
      go_wp2
      go_ret
      exact ⟨rfl, GR0.out⟩
    have hIi : (I : Int) < 3 := by omega
    obtain ⟨wo, hwo⟩ : ∃ wo, wr = wo := ⟨_, rfl⟩
    rw [hwo] at HR0 HN0 GR0 ⊢
    clear hwo
    go_wp2_with fail
    go_loopw [8] (fun k wr => ∃ K : Nat, k = .int .i64 (K : Int) ∧ K ≤ 3 ∧ Hid (Row wr L (four a0 a1 a2 a3) 28) ∧ Hid (Row wr (w.heap.size + 1) [.int .i64 n0, .int .i64 n1] 37) ∧ Hid (w.grownBy wr none)) (fun k _ => 3 - (intOf k).toNat)
    case atStart => exact ⟨0, rfl, by omega, HR0, HN0, GR0⟩
    case round =>
      obtain ⟨K, rfl, hK, HR, HN, GR⟩ := hrel
      by_cases hK3 : K < 3
      rotate_left
      · have hKi : ¬ (K : Int) < 3 := by omega
        go_wp2
        exact ⟨⟨I + 1, by simp, by omega, HR, HN, GR⟩, by simp only [intOf]; omega⟩
      have hKi : (K : Int) < 3 := by omega
      have hI0 : (0 : Int) ≤ (I : Int) := by omega
      have hI4 : (I : Int) < 4 := by omega
      have hK0 : (0 : Int) ≤ (K : Int) := by omega
      have hK4 : (K : Int) < 4 := by omega
      have gx := HG.out I
      have gy := HG.out K
      have HAX := Lib.hid (fun (w0 : World) (g : wr.grownBy w0 none) => at4 (HR.out.kept g) (show I < 4 by omega))
      have HAY := Lib.hid (fun (w0 : World) (g : wr.grownBy w0 none) => at4 (HR.out.kept g) (show K < 4 by omega))
      generalize pick4 a0 a1 a2 a3 I = x at *
      generalize pick4 a0 a1 a2 a3 K = y at *
      have KSX := Lib.hid (fun w0 => rsample8_any x n0 w0 gx HNN.out.1)
      have KSY := Lib.hid (fun w0 => rsample8_any y n1 w0 gy HNN.out.2)
      have KCO := Lib.hid (fun w0 => conc_any x y w0 (Nat.le_trans gx.b (by decide)) (Nat.le_trans gx.e (by decide)) (Nat.le_trans gy.b (by decide)) (Nat.le_trans gy.e (by decide)))
      have cs := conc_sm x y
      have KCT := Lib.hid (fun (u : ByteArray) (h : u.size ≤ 1000) w0 => contains_any (concD x y) u w0 (by omega))
      have KEX := Lib.hid (fun w0 => empty_any x w0 (Nat.le_trans gx.b (by decide)) (Nat.le_trans gx.e (by decide)))
      have KEY := Lib.hid (fun w0 => empty_any y w0 (Nat.le_trans gy.b (by decide)) (Nat.le_trans gy.e (by decide)))
      have KEC := Lib.hid (fun w0 => empty_any (concD x y) w0 cs.1 cs.2)
      have HIC := Lib.hid (fun (p q : List UInt8) (h1 : inD x p) (h2 : inD y q) (h3 : p.length + q.length ≤ 200) => in_conc h1 h2 h3)
      have HEC := Lib.hid (fun (h : emptyD x ∨ emptyD y) => conc_empty h)
      clear cs gx gy
      generalize hcn : concD x y = cn at *
      clear hcn
      obtain ⟨xl, xm, xc, xb, xe⟩ := x
      obtain ⟨yl, ym, yc, yb, ye⟩ := y
      obtain ⟨cl, cm, cc, cb, ce⟩ := cn
      unfold At4 at HAX HAY
      simp only at HAX HAY
      have HK1 := Lib.hid (show ∀ w', wr.grownBy w' none → (w'.cell? ⟨L, I * 5, none⟩ = some (.int .i64 xl) ∧ w'.cell? ⟨L, I * 5 + 1, none⟩ = some (.int .i64 xm) ∧ w'.cell? ⟨L, I * 5 + 2, none⟩ = some (.int .i64 xc) ∧ w'.cell? ⟨L, I * 5 + 3, none⟩ = some (.string xb) ∧ w'.cell? ⟨L, I * 5 + 4, none⟩ = some (.string xe) ∧ w'.cell? ⟨w.heap.size + 1, 0, none⟩ = some (.int .i64 n0)) from fun w' h => ⟨(HAX.out w' h).1, (HAX.out w' h).2.1, (HAX.out w' h).2.2.1, (HAX.out w' h).2.2.2.1, (HAX.out w' h).2.2.2.2, (HN.out.kept h).cell 0 _ rfl⟩)
      go_wp2_with fail
      refine wp_region_held_drew (S := (fun w' => w'.cell? ⟨L, I * 5, none⟩ = some (.int .i64 xl) ∧ w'.cell? ⟨L, I * 5 + 1, none⟩ = some (.int .i64 xm) ∧ w'.cell? ⟨L, I * 5 + 2, none⟩ = some (.int .i64 xc) ∧ w'.cell? ⟨L, I * 5 + 3, none⟩ = some (.string xb) ∧ w'.cell? ⟨L, I * 5 + 4, none⟩ = some (.string xe) ∧ w'.cell? ⟨w.heap.size + 1, 0, none⟩ = some (.int .i64 n0))) (by kernel_rfl) ?_ (fun hHeld => ?_)
      · refine HK1.out _ ?_; (repeat (first | (with_reducible refine gr_dr ?_) | (with_reducible refine gr_then ?_ q1) | (with_reducible exact gr_rfl _)))
      refine wpAnyH_take (i := 0) (oi := _) (v := ?v1) rfl (by kernel_rfl) (by kernel_rfl) (by kernel_rfl) (fun _ _ _ h => h) (Or.inl ⟨by rfl, ?hy1⟩) (by assumption) ?rest1
      case hy1 => ((intro w hSw; (try dsimp only at hSw); go_simp); try (with_reducible rfl))
      ((try dsimp only [List.getElem_toArray, List.getElem_cons_succ, List.getElem_cons_zero]); try simp only [Act.put, List.setIfInBounds_toArray, List.set_cons_zero, List.set_cons_succ])
      refine wpAnyH_take (i := 1) (oi := _) (v := ?v2) rfl (by kernel_rfl) (by kernel_rfl) (by kernel_rfl) (fun _ _ _ h => h) (Or.inl ⟨by rfl, ?hy2⟩) (by assumption) ?rest2
      case hy2 => ((intro w hSw; (try dsimp only at hSw); go_simp); try (with_reducible rfl))
      ((try dsimp only [List.getElem_toArray, List.getElem_cons_succ, List.getElem_cons_zero]); try simp only [Act.put, List.setIfInBounds_toArray, List.set_cons_zero, List.set_cons_succ])
      refine wpAnyH_take (i := 2) (oi := _) (v := ?v3) rfl (by kernel_rfl) (by kernel_rfl) (by kernel_rfl) (fun _ _ _ h => h) (Or.inl ⟨by rfl, ?hy3⟩) (by assumption) ?rest3
      case hy3 => ((intro w hSw; (try dsimp only at hSw); go_simp); try (with_reducible rfl))
      ((try dsimp only [List.getElem_toArray, List.getElem_cons_succ, List.getElem_cons_zero]); try simp only [Act.put, List.setIfInBounds_toArray, List.set_cons_zero, List.set_cons_succ])
      refine wpAnyH_take (i := 3) (oi := _) (v := ?v4) rfl (by kernel_rfl) (by kernel_rfl) (by kernel_rfl) (fun _ _ _ h => h) (Or.inl ⟨by rfl, ?hy4⟩) (by assumption) ?rest4
      case hy4 => ((intro w hSw; (try dsimp only at hSw); go_simp); try (with_reducible rfl))
      ((try dsimp only [List.getElem_toArray, List.getElem_cons_succ, List.getElem_cons_zero]); try simp only [Act.put, List.setIfInBounds_toArray, List.set_cons_zero, List.set_cons_succ])
      refine wpAnyH_take (i := 4) (oi := _) (v := ?v5) rfl (by kernel_rfl) (by kernel_rfl) (by kernel_rfl) (fun _ _ _ h => h) (Or.inl ⟨by rfl, ?hy5⟩) (by assumption) ?rest5
      case hy5 => ((intro w hSw; (try dsimp only at hSw); go_simp); try (with_reducible rfl))
      ((try dsimp only [List.getElem_toArray, List.getElem_cons_succ, List.getElem_cons_zero]); try simp only [Act.put, List.setIfInBounds_toArray, List.set_cons_zero, List.set_cons_succ])
      refine wpAnyH_ready (rs := [5]) (by kernel_rfl) (by simp) ?_
      refine AllReadyH.cons (o := _) rfl (fun K hK => ?_) AllReadyH.nil
      go_simp
      go_at_call 10; (with_reducible refine (KSX.out _).mono ?_); rintro e1 u1 ⟨sx, ox, hsx, hix, rfl, q1⟩
      refine hK.out _ _ ?_ (fun hHeld => ?_)
      · (try dsimp only); refine HK1.out _ ?_; (repeat (first | (with_reducible refine gr_dr ?_) | (with_reducible refine gr_then ?_ q1) | (with_reducible exact gr_rfl _)))
      clear hK K
      ((try dsimp only [List.getElem_toArray, List.getElem_cons_succ, List.getElem_cons_zero]); try simp only [Act.put, List.setIfInBounds_toArray, List.set_cons_zero, List.set_cons_succ])
      refine wpAnyH_take (i := 6) (oi := _) (v := ?v6) rfl (by kernel_rfl) (by kernel_rfl) (by kernel_rfl) (fun _ _ _ h => h) (Or.inl ⟨by rfl, ?hy6⟩) (by assumption) ?rest6
      case hy6 => ((intro w hSw; (try dsimp only at hSw); go_simp); try (with_reducible rfl))
      ((try dsimp only [List.getElem_toArray, List.getElem_cons_succ, List.getElem_cons_zero]); try simp only [Act.put, List.setIfInBounds_toArray, List.set_cons_zero, List.set_cons_succ])
      refine wpAnyH_take (i := 7) (oi := _) (v := ?v7) rfl (by kernel_rfl) (by kernel_rfl) (by kernel_rfl) (fun _ _ _ h => h) (Or.inl ⟨by rfl, ?hy7⟩) (by assumption) ?rest7
      case hy7 => ((intro w hSw; (try dsimp only at hSw); go_simp); try (with_reducible rfl))
      ((try dsimp only [List.getElem_toArray, List.getElem_cons_succ, List.getElem_cons_zero]); try simp only [Act.put, List.setIfInBounds_toArray, List.set_cons_zero, List.set_cons_succ])
      refine wpAnyH_take (i := 8) (oi := _) (v := ?v8) rfl (by kernel_rfl) (by kernel_rfl) (by kernel_rfl) (fun _ _ _ h => h) (Or.inl ⟨by rfl, ?hy8⟩) (by assumption) ?rest8
      case hy8 => ((intro w hSw; (try dsimp only at hSw); go_simp); try (with_reducible rfl))
      ((try dsimp only [List.getElem_toArray, List.getElem_cons_succ, List.getElem_cons_zero]); try simp only [Act.put, List.setIfInBounds_toArray, List.set_cons_zero, List.set_cons_succ])
      refine wpAnyH_take (i := 9) (oi := _) (v := ?v9) rfl (by kernel_rfl) (by kernel_rfl) (by kernel_rfl) (fun _ _ _ h => h) (Or.inl ⟨by rfl, ?hy9⟩) (by assumption) ?rest9
      case hy9 => ((intro w hSw; (try dsimp only at hSw); go_simp); try (with_reducible rfl))
      ((try dsimp only [List.getElem_toArray, List.getElem_cons_succ, List.getElem_cons_zero]); try simp only [Act.put, List.setIfInBounds_toArray, List.set_cons_zero, List.set_cons_succ])
      refine wpAnyH_take (i := 10) (oi := _) (v := ?v10) rfl (by kernel_rfl) (by kernel_rfl) (by kernel_rfl) (fun _ _ _ h => h) (Or.inl ⟨by rfl, ?hy10⟩) (by assumption) ?rest10
      case hy10 => ((intro w hSw; (try dsimp only at hSw); go_simp); try (with_reducible rfl))
      ((try dsimp only [List.getElem_toArray, List.getElem_cons_succ, List.getElem_cons_zero]); try simp only [Act.put, List.setIfInBounds_toArray, List.set_cons_zero, List.set_cons_succ])
      refine wpAnyH_done (by kernel_rfl) ?_ _
      have GU1 := Lib.hid (gr_then (gr_dr (gr_rfl wr)) q1)
      have HSX := Lib.hid (And.intro hsx hix)
      clear hsx hix q1 HK1
      have HK2 := Lib.hid (show ∀ w', u1.grownBy w' none → (w'.cell? ⟨L, K * 5, none⟩ = some (.int .i64 yl) ∧ w'.cell? ⟨L, K * 5 + 1, none⟩ = some (.int .i64 ym) ∧ w'.cell? ⟨L, K * 5 + 2, none⟩ = some (.int .i64 yc) ∧ w'.cell? ⟨L, K * 5 + 3, none⟩ = some (.string yb) ∧ w'.cell? ⟨L, K * 5 + 4, none⟩ = some (.string ye) ∧ w'.cell? ⟨w.heap.size + 1, 1, none⟩ = some (.int .i64 n1)) from fun w' h => ⟨(HAY.out w' (gr_then GU1.out h)).1, (HAY.out w' (gr_then GU1.out h)).2.1, (HAY.out w' (gr_then GU1.out h)).2.2.1, (HAY.out w' (gr_then GU1.out h)).2.2.2.1, (HAY.out w' (gr_then GU1.out h)).2.2.2.2, (HN.out.kept (gr_then GU1.out h)).cell 1 _ rfl⟩)
      go_wp2_with fail
      refine wp_region_held_drew (S := (fun w' => w'.cell? ⟨L, K * 5, none⟩ = some (.int .i64 yl) ∧ w'.cell? ⟨L, K * 5 + 1, none⟩ = some (.int .i64 ym) ∧ w'.cell? ⟨L, K * 5 + 2, none⟩ = some (.int .i64 yc) ∧ w'.cell? ⟨L, K * 5 + 3, none⟩ = some (.string yb) ∧ w'.cell? ⟨L, K * 5 + 4, none⟩ = some (.string ye) ∧ w'.cell? ⟨w.heap.size + 1, 1, none⟩ = some (.int .i64 n1))) (by kernel_rfl) ?_ (fun hHeld => ?_)
      · refine HK2.out _ ?_; (repeat (first | (with_reducible refine gr_dr ?_) | (with_reducible refine gr_then ?_ q2) | (with_reducible exact gr_rfl _)))
      refine wpAnyH_take (i := 0) (oi := _) (v := ?v11) rfl (by kernel_rfl) (by kernel_rfl) (by kernel_rfl) (fun _ _ _ h => h) (Or.inl ⟨by rfl, ?hy11⟩) (by assumption) ?rest11
      case hy11 => ((intro w hSw; (try dsimp only at hSw); go_simp); try (with_reducible rfl))
      ((try dsimp only [List.getElem_toArray, List.getElem_cons_succ, List.getElem_cons_zero]); try simp only [Act.put, List.setIfInBounds_toArray, List.set_cons_zero, List.set_cons_succ])
      refine wpAnyH_take (i := 1) (oi := _) (v := ?v12) rfl (by kernel_rfl) (by kernel_rfl) (by kernel_rfl) (fun _ _ _ h => h) (Or.inl ⟨by rfl, ?hy12⟩) (by assumption) ?rest12
      case hy12 => ((intro w hSw; (try dsimp only at hSw); go_simp); try (with_reducible rfl))
      ((try dsimp only [List.getElem_toArray, List.getElem_cons_succ, List.getElem_cons_zero]); try simp only [Act.put, List.setIfInBounds_toArray, List.set_cons_zero, List.set_cons_succ])
      refine wpAnyH_take (i := 2) (oi := _) (v := ?v13) rfl (by kernel_rfl) (by kernel_rfl) (by kernel_rfl) (fun _ _ _ h => h) (Or.inl ⟨by rfl, ?hy13⟩) (by assumption) ?rest13
      case hy13 => ((intro w hSw; (try dsimp only at hSw); go_simp); try (with_reducible rfl))
      ((try dsimp only [List.getElem_toArray, List.getElem_cons_succ, List.getElem_cons_zero]); try simp only [Act.put, List.setIfInBounds_toArray, List.set_cons_zero, List.set_cons_succ])
      refine wpAnyH_take (i := 3) (oi := _) (v := ?v14) rfl (by kernel_rfl) (by kernel_rfl) (by kernel_rfl) (fun _ _ _ h => h) (Or.inl ⟨by rfl, ?hy14⟩) (by assumption) ?rest14
      case hy14 => ((intro w hSw; (try dsimp only at hSw); go_simp); try (with_reducible rfl))
      ((try dsimp only [List.getElem_toArray, List.getElem_cons_succ, List.getElem_cons_zero]); try simp only [Act.put, List.setIfInBounds_toArray, List.set_cons_zero, List.set_cons_succ])
      refine wpAnyH_take (i := 4) (oi := _) (v := ?v15) rfl (by kernel_rfl) (by kernel_rfl) (by kernel_rfl) (fun _ _ _ h => h) (Or.inl ⟨by rfl, ?hy15⟩) (by assumption) ?rest15
      case hy15 => ((intro w hSw; (try dsimp only at hSw); go_simp); try (with_reducible rfl))
      ((try dsimp only [List.getElem_toArray, List.getElem_cons_succ, List.getElem_cons_zero]); try simp only [Act.put, List.setIfInBounds_toArray, List.set_cons_zero, List.set_cons_succ])
      refine wpAnyH_ready (rs := [5]) (by kernel_rfl) (by simp) ?_
      refine AllReadyH.cons (o := _) rfl (fun K hK => ?_) AllReadyH.nil
      go_simp
      go_at_call 10; (with_reducible refine (KSY.out _).mono ?_); rintro e2 u2 ⟨sy, oy, hsy, hiy, rfl, q2⟩
      refine hK.out _ _ ?_ (fun hHeld => ?_)
      · (try dsimp only); refine HK2.out _ ?_; (repeat (first | (with_reducible refine gr_dr ?_) | (with_reducible refine gr_then ?_ q2) | (with_reducible exact gr_rfl _)))
      clear hK K
      ((try dsimp only [List.getElem_toArray, List.getElem_cons_succ, List.getElem_cons_zero]); try simp only [Act.put, List.setIfInBounds_toArray, List.set_cons_zero, List.set_cons_succ])
      refine wpAnyH_take (i := 6) (oi := _) (v := ?v16) rfl (by kernel_rfl) (by kernel_rfl) (by kernel_rfl) (fun _ _ _ h => h) (Or.inl ⟨by rfl, ?hy16⟩) (by assumption) ?rest16
      case hy16 => ((intro w hSw; (try dsimp only at hSw); go_simp); try (with_reducible rfl))
      ((try dsimp only [List.getElem_toArray, List.getElem_cons_succ, List.getElem_cons_zero]); try simp only [Act.put, List.setIfInBounds_toArray, List.set_cons_zero, List.set_cons_succ])
      refine wpAnyH_take (i := 7) (oi := _) (v := ?v17) rfl (by kernel_rfl) (by kernel_rfl) (by kernel_rfl) (fun _ _ _ h => h) (Or.inl ⟨by rfl, ?hy17⟩) (by assumption) ?rest17
      case hy17 => ((intro w hSw; (try dsimp only at hSw); go_simp); try (with_reducible rfl))
      ((try dsimp only [List.getElem_toArray, List.getElem_cons_succ, List.getElem_cons_zero]); try simp only [Act.put, List.setIfInBounds_toArray, List.set_cons_zero, List.set_cons_succ])
      refine wpAnyH_take (i := 8) (oi := _) (v := ?v18) rfl (by kernel_rfl) (by kernel_rfl) (by kernel_rfl) (fun _ _ _ h => h) (Or.inl ⟨by rfl, ?hy18⟩) (by assumption) ?rest18
      case hy18 => ((intro w hSw; (try dsimp only at hSw); go_simp); try (with_reducible rfl))
      ((try dsimp only [List.getElem_toArray, List.getElem_cons_succ, List.getElem_cons_zero]); try simp only [Act.put, List.setIfInBounds_toArray, List.set_cons_zero, List.set_cons_succ])
      refine wpAnyH_take (i := 9) (oi := _) (v := ?v19) rfl (by kernel_rfl) (by kernel_rfl) (by kernel_rfl) (fun _ _ _ h => h) (Or.inl ⟨by rfl, ?hy19⟩) (by assumption) ?rest19
      case hy19 => ((intro w hSw; (try dsimp only at hSw); go_simp); try (with_reducible rfl))
      ((try dsimp only [List.getElem_toArray, List.getElem_cons_succ, List.getElem_cons_zero]); try simp only [Act.put, List.setIfInBounds_toArray, List.set_cons_zero, List.set_cons_succ])
      refine wpAnyH_take (i := 10) (oi := _) (v := ?v20) rfl (by kernel_rfl) (by kernel_rfl) (by kernel_rfl) (fun _ _ _ h => h) (Or.inl ⟨by rfl, ?hy20⟩) (by assumption) ?rest20
      case hy20 => ((intro w hSw; (try dsimp only at hSw); go_simp); try (with_reducible rfl))
      ((try dsimp only [List.getElem_toArray, List.getElem_cons_succ, List.getElem_cons_zero]); try simp only [Act.put, List.setIfInBounds_toArray, List.set_cons_zero, List.set_cons_succ])
      refine wpAnyH_done (by kernel_rfl) ?_ _
      have GU2 := Lib.hid (gr_then GU1.out (gr_then (gr_dr (gr_rfl u1)) q2))
      have HSY := Lib.hid (And.intro hsy hiy)
      clear hsy hiy q2 HK2
      go_upto_region 11 with (fail)
      go_cut [13] from 43 to 84 (fun p wx => ∃ X, p = .pointer (some ⟨X, 0, none⟩) ∧ Row wx X (five ⟨cl, cm, cc, cb, ce⟩) 24 ∧ wr.grownBy wx none)
      case first =>
        have HK3 := Lib.hid (show ∀ w', u2.grownBy w' none → (w'.cell? ⟨L, I * 5, none⟩ = some (.int .i64 xl) ∧ w'.cell? ⟨L, I * 5 + 1, none⟩ = some (.int .i64 xm) ∧ w'.cell? ⟨L, I * 5 + 2, none⟩ = some (.int .i64 xc) ∧ w'.cell? ⟨L, I * 5 + 3, none⟩ = some (.string xb) ∧ w'.cell? ⟨L, I * 5 + 4, none⟩ = some (.string xe) ∧ w'.cell? ⟨L, K * 5, none⟩ = some (.int .i64 yl) ∧ w'.cell? ⟨L, K * 5 + 1, none⟩ = some (.int .i64 ym) ∧ w'.cell? ⟨L, K * 5 + 2, none⟩ = some (.int .i64 yc) ∧ w'.cell? ⟨L, K * 5 + 3, none⟩ = some (.string yb) ∧ w'.cell? ⟨L, K * 5 + 4, none⟩ = some (.string ye)) from fun w' h => ⟨(HAX.out w' (gr_then GU2.out h)).1, (HAX.out w' (gr_then GU2.out h)).2.1, (HAX.out w' (gr_then GU2.out h)).2.2.1, (HAX.out w' (gr_then GU2.out h)).2.2.2.1, (HAX.out w' (gr_then GU2.out h)).2.2.2.2, (HAY.out w' (gr_then GU2.out h)).1, (HAY.out w' (gr_then GU2.out h)).2.1, (HAY.out w' (gr_then GU2.out h)).2.2.1, (HAY.out w' (gr_then GU2.out h)).2.2.2.1, (HAY.out w' (gr_then GU2.out h)).2.2.2.2⟩)
        go_region_held3 (fun w' => w'.cell? ⟨L, I * 5, none⟩ = some (.int .i64 xl) ∧ w'.cell? ⟨L, I * 5 + 1, none⟩ = some (.int .i64 xm) ∧ w'.cell? ⟨L, I * 5 + 2, none⟩ = some (.int .i64 xc) ∧ w'.cell? ⟨L, I * 5 + 3, none⟩ = some (.string xb) ∧ w'.cell? ⟨L, I * 5 + 4, none⟩ = some (.string xe) ∧ w'.cell? ⟨L, K * 5, none⟩ = some (.int .i64 yl) ∧ w'.cell? ⟨L, K * 5 + 1, none⟩ = some (.int .i64 ym) ∧ w'.cell? ⟨L, K * 5 + 2, none⟩ = some (.int .i64 yc) ∧ w'.cell? ⟨L, K * 5 + 3, none⟩ = some (.string yb) ∧ w'.cell? ⟨L, K * 5 + 4, none⟩ = some (.string ye)) ((refine HK3.out _ ?_; (repeat (first | (with_reducible refine gr_five ?_ (by first | omega | (simp; done) | (simp; omega))) | (with_reducible refine gr_al ?_) | (with_reducible refine gr_dr ?_) | (with_reducible refine gr_then ?_ ga) | (with_reducible exact gr_rfl _)))))
          (first | (go_at_call 23; (with_reducible refine (KCO.out _).mono ?_); rintro e wa ⟨rfl, ga⟩; obtain ⟨hcA, hfA⟩ := gcell ga; have tA := ga.size; (try simp at tA); have sA : u2.heap.size ≤ wa.heap.size := (by omega); (try have eA1 : u2.heap.size < wa.heap.size := (by omega))))
        all_goals
          go_wp2_with fail
          go_meet
          clear hcA hfA
          refine ⟨_, rfl, ?_, gr_then GU2.out ?_⟩
          · (repeat (first | ((with_reducible refine Row.at5 ?_); first | rfl | (simp; done) | omega) | (with_reducible refine Row.five (a0 := .int .i64 0) (a1 := .int .i64 0) (a2 := .int .i64 0) (a3 := .string ⟨#[]⟩) (a4 := .string ⟨#[]⟩) ?_) | (with_reducible refine Row.kept ?_ ga) | (with_reducible refine Row.al ?_) | (with_reducible refine Row.dr ?_)))
          · (repeat (first | (with_reducible refine gr_five ?_ (by first | omega | (simp; done) | (simp; omega))) | (with_reducible refine gr_al ?_) | (with_reducible refine gr_dr ?_) | (with_reducible refine gr_then ?_ ga) | (with_reducible exact gr_rfl _)))
      case rest =>
        obtain ⟨X, rfl, RX, GX⟩ := hcut
        obtain ⟨w5, hw5⟩ : ∃ w5, wc = w5 := ⟨_, rfl⟩
        rw [hw5] at RX GX ⊢
        have HX5 := Lib.hid RX
        have HG5 := Lib.hid GX
        clear hw5 RX GX
        go_upto_region 12 with (fail)
        go_cut [69] from 50 to 84 (fun p wx => p = .bool false ∧ Row wx X (five ⟨cl, cm, cc, cb, ce⟩) 24 ∧ wr.grownBy wx none)
        case first =>
          cases ox
          · go_wp2_with fail
            go_meet
            exact ⟨rfl, HX5.out, HG5.out⟩
          cases oy
          · go_wp2_with fail
            go_meet
            exact ⟨rfl, HX5.out, HG5.out⟩
          by_cases hlen : sx.size + sy.size ≤ 200
          · have hli : (sx.size : Int) + (sy.size : Int) ≤ 200 := by omega
            have hb1 : ¬ (9223372036854775807 : Int) < (sx.size : Int) + (sy.size : Int) := by omega
            have hb2 : ¬ 9223372036854775807 < sx.size + sy.size := by omega
            have hz : (sx ++ sy).size ≤ 1000 := by rw [ByteArray.size_append]; omega
            have KT := Lib.hid (KCT.out (sx ++ sy) hz w5)
            have HTR := Lib.hid (show inD ⟨cl, cm, cc, cb, ce⟩ (sx ++ sy).data.toList from by
              have h := HIC.out _ _ (HSX.out.2 rfl) (HSY.out.2 rfl) (show sx.size + sy.size ≤ 200 from hlen)
              have e : (sx ++ sy).data.toList = sx.data.toList ++ sy.data.toList := by simp
              rw [e]; exact h)
            have d0 := HX5.out.cell 0 _ rfl
            have d1 := HX5.out.cell 1 _ rfl
            have d2 := HX5.out.cell 2 _ rfl
            have d3 := HX5.out.cell 3 _ rfl
            have d4 := HX5.out.cell 4 _ rfl
            clear hz hlen
            go_wp2_with fail
            refine KT.out.mono ?_
            rintro e1 w6 ⟨q, rfl, hq, g6⟩
            have hqt : q = true := hq.2 HTR.out
            subst hqt
            have HX6 := Lib.hid (HX5.out.kept g6)
            have HG6 := Lib.hid (gr_then HG5.out g6)
            clear hq g6 d0 d1 d2 d3 d4
            go_wp2_with fail
            go_meet
            exact ⟨rfl, HX6.out, HG6.out⟩
          · have hli : ¬ (sx.size : Int) + (sy.size : Int) ≤ 200 := by omega
            have hlb : (sx.size : Int) ≤ 212 ∧ (sy.size : Int) ≤ 212 := by have h1 := HSX.out.1; have h2 := HSY.out.1; omega
            clear hlen
            go_wp2_with fail
            go_meet
            exact ⟨rfl, HX5.out, HG5.out⟩
        case rest =>
          obtain ⟨rfl, RX, GX⟩ := hcut
          obtain ⟨w7, hw7⟩ : ∃ w7, wc = w7 := ⟨_, rfl⟩
          rw [hw7] at RX GX ⊢
          have HX7 := Lib.hid RX
          have HG7 := Lib.hid GX
          obtain ⟨j0, j1, j2, j3, j4⟩ := HAX.out w7 GX
          clear hw7 RX GX HX5 HG5
          go_wp2_with fail
          refine (KEX.out _).mono ?_
          rintro e1 w8 ⟨r1, rfl, hr1, g8⟩
          have HR1 := Lib.hid hr1.1
          have HX8 := Lib.hid (HX7.out.kept g8)
          have HG8 := Lib.hid (gr_then HG7.out g8)
          clear hr1 g8 j0 j1 j2 j3 j4 HX7 HG7
          have HEND := Lib.hid (fun (w9 : World) (g : wr.grownBy w9 none) => And.intro (HR.out.kept g) (And.intro (HN.out.kept g) (gr_then GR.out g)))
          cases r1
          · obtain ⟨j0, j1, j2, j3, j4⟩ := HAY.out w8 HG8.out
            go_wp2_with fail
            refine (KEY.out _).mono ?_
            rintro e1 w9 ⟨r2, rfl, hr2, g9⟩
            have HR2 := Lib.hid hr2.1
            have HX9 := Lib.hid (HX8.out.kept g9)
            have HG9 := Lib.hid (gr_then HG8.out g9)
            clear hr2 g9 j0 j1 j2 j3 j4
            cases r2
            · have hE := HEND.out w9 HG9.out
              have HE := Lib.hid hE
              clear hE
              go_wp2
              exact ⟨⟨K + 1, by simp, by omega, Lib.hid HE.out.1, Lib.hid HE.out.2.1, Lib.hid HE.out.2.2⟩, by simp only [intOf]; omega⟩
            · have HEM := Lib.hid (HEC.out (.inr (HR2.out rfl)))
              have d0 := HX9.out.cell 0 _ rfl
              have d1 := HX9.out.cell 1 _ rfl
              have d2 := HX9.out.cell 2 _ rfl
              have d3 := HX9.out.cell 3 _ rfl
              have d4 := HX9.out.cell 4 _ rfl
              go_wp2_with fail
              refine (KEC.out _).mono ?_
              rintro e1 wq ⟨r3, rfl, hr3, gq⟩
              have h3t : r3 = true := hr3.2 HEM.out
              subst h3t
              have HE := Lib.hid (HEND.out wq (gr_then HG9.out gq))
              clear hr3 gq d0 d1 d2 d3 d4
              go_wp2
              exact ⟨⟨K + 1, by simp, by omega, Lib.hid HE.out.1, Lib.hid HE.out.2.1, Lib.hid HE.out.2.2⟩, by simp only [intOf]; omega⟩
          · have HEM := Lib.hid (HEC.out (.inl (HR1.out rfl)))
            have d0 := HX8.out.cell 0 _ rfl
            have d1 := HX8.out.cell 1 _ rfl
            have d2 := HX8.out.cell 2 _ rfl
            have d3 := HX8.out.cell 3 _ rfl
            have d4 := HX8.out.cell 4 _ rfl
            go_wp2_with fail
            refine (KEC.out _).mono ?_
            rintro e1 wq ⟨r3, rfl, hr3, gq⟩
            have h3t : r3 = true := hr3.2 HEM.out
            subst h3t
            have HE := Lib.hid (HEND.out wq (gr_then HG8.out gq))
            clear hr3 gq d0 d1 d2 d3 d4
            go_wp2
            exact ⟨⟨K + 1, by simp, by omega, Lib.hid HE.out.1, Lib.hid HE.out.2.1, Lib.hid HE.out.2.2⟩, by simp only [intOf]; omega⟩
end Go.Proofs.YtaejnklgnegkhaaGreatDoor
namespace Go.Proofs.YtaejnklgnegkhaaGreatDoor
open Go.ChangeShapes Go.WideShapes Go.ChangeAt Go.RowKit Pt Sh

set_option maxRecDepth 1000000 in
set_option maxHeartbeats 4000000 in
theorem concats_lifted (os : Os) (started : os.Started) (H : Type) (enc : TypeId × Value → H) :
    ReturnsInHanded {} Tryz.checked os 5 .any (fun w args => (Rows.shapeConcatsSpec.pre enc Tryz.prog Tryz.f5 Rows.shapeConcatsRow.domain false w args ∧ laidMet Tryz.prog Rows.shapeConcatsRow.laid w) ∧ sizedMet enc Tryz.prog Tryz.f5 (OpenSpec.ofChange Rows.shapeConcatsSpec) false w args)
      (Rows.shapeConcatsSpec.post enc Tryz.prog Tryz.f5 false true false false) := by
  refine returnsInHanded_of_change_and (C := Tryz.checked) (X := fun w _ => laidMet Tryz.prog Rows.shapeConcatsRow.laid w) (fun _ _ _ hh h => h.of_heap hh) own0 started (by kernel_rfl) Tryz.func5
    (ChangeSpec.witness_at (enc := enc) (C := Tryz.checked) (os := os) (X := fun w _ => laidMet Tryz.prog Rows.shapeConcatsRow.laid w) false (laidWorld os) #[.agg #[.slice none 0 0, .slice none 0 0, .int .i64 0, .int .i64 0, .int .i64 0, .string ⟨#[]⟩, .string ⟨#[]⟩, .string ⟨#[]⟩], .agg #[.int .i64 0, .int .i64 0]] 8 rfl (by kernel_rfl) (by kernel_rfl) (by kernel_rfl) (by kernel_rfl) (by kernel_rfl) (laid_at os _)) ?_
  intro W base args ds gs before hval0 hW hcnd0 _ hL _
  have hval : ∀ (j : Nat) t v, Tryz.f5.params[j]? = some t → args[j]? = some v → Value.okWide Tryz.prog W .any base t v := hval0
  have hW' := hW
  obtain ⟨p, q, hA0, hV, rfl, hfz, hnd⟩ := hW
  have hA : DataW.TrodAll enc Tryz.prog W 0 (fun _ => true) true Tryz.f5.params.toList args.toList ds p := hA0
  rw [Tryz.params5] at hA hval
  obtain ⟨v0, v1, d0, d1, p0, p1, rfl, rfl, rfl, h0, h1⟩ := trodAll_two hA
  obtain ⟨rfl, rfl⟩ := trodVars_none hV
  clear hA0 hval0 hA
  simp only [List.append_nil] at hW'
  have k0 := hval 0 26 v0 rfl rfl
  have k1 := hval 1 37 v1 rfl rfl
  obtain ⟨va0, vb0, ra0, sa0, rfl, w0⟩ := case_arg k0 h0
  obtain ⟨na1, nb1, rfl, w1, x1⟩ := a2i_arg k1 h1
  refine (concats_true va0 vb0 ra0 sa0 na1 nb1 W (tab_of hL) w0 w1 x1).mono fun e W' ⟨he, hg⟩ => ?_
  subst he
  have hb : Below W.heap.size W W' := gr_low hg
  have hlt : ∀ x ∈ p0 ++ p1, x.block < W.heap.size := fun x hx => by simpa using hW'.lt x hx
  have hl0 : ∀ x ∈ p0, x.block < W.heap.size := fun x hx => hlt x (by simp [hx])
  have hl1 : ∀ x ∈ p1, x.block < W.heap.size := fun x hx => hlt x (by simp [hx])
  refine ⟨_, rfl, _, _, _, [], p0 ++ p1, [], hW', ?_, ?_, rfl, hb.frame _, fun h => by cases h⟩
  · exact trodAll_mk1 (shut_bool Tryz.underlying4 true)
  · have h3 := trodAll_mk2 (Below.trod laidOut0 (by kernel_rfl) (of_decide_eq_true (by kernel_rfl)) h0 hb hl0) (Below.trod laidOut0 (by kernel_rfl) (of_decide_eq_true (by kernel_rfl)) h1 hb hl1)
    exact h3

theorem concats_row : Rows.ShapeConcatsSaid :=
  OpenClaim.holds_of_wide 5 Tryz.f5 rfl rfl rfl rfl rfl rfl rfl ⟨rfl, rfl, rfl, rfl, rfl⟩ rfl rfl rfl rfl rfl (by kernel_rfl) Tryz.func5 (by kernel_rfl)
    (of_decide_eq_true (by kernel_rfl)) (by unfold Func.isWrapper; first | (rw [if_pos (by decide +kernel)]; kernel_rfl) | (rw [if_neg (by decide +kernel)]; exact ⟨rfl, rfl⟩))
    (fun os started H enc _ => concats_lifted os started H enc)
end Go.Proofs.YtaejnklgnegkhaaGreatDoor
