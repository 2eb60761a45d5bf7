/- The law of the claim at the level of the call, and its row: Stb, Std, Sta, Stc, Ste, Stf, RowE, Stt, Stx, SetL, SetLRow. -/
import Derived.Test.YtaejnklgnegkhaaGreatDoorBSw0
import Derived.BigQuiet
import Derived.Maps.AppendAt
import Derived.Deep.CutRange
import Derived.Deep.RegionHeld3
namespace Go.Proofs.YtaejnklgnegkhaaGreatDoor
open Pt

namespace Sh
/-- The character that fills: the least one of a class of the shape. -/
def flD (z : Int) : Nat → UInt8
  | 0 => 32
  | j + 1 => if bit z (clsD (126 - j)) = true then UInt8.ofNat (126 - j) else flD z j
theorem fl_yes {z : Int} {j : Nat} (h : bit z (clsD (126 - j)) = true) : flD z (j + 1) = UInt8.ofNat (126 - j) := if_pos h
theorem fl_no {z : Int} {j : Nat} (h : bit z (clsD (126 - j)) = false) : flD z (j + 1) = flD z j := if_neg (by rw [h]; simp)
/-- A begin, and as many filling characters as are wanted. -/
def midD (a : S5) (i : Nat) : List UInt8 := a.b.data.toList ++ List.replicate i (flD a.c 95)
theorem mid_len (a : S5) (i : Nat) : (midD a i).length = a.b.size + i := by unfold midD; rw [List.length_append, List.length_replicate]; rfl
theorem mid_next (a : S5) (i : Nat) : midD a i ++ [flD a.c 95] = midD a (i + 1) := by
  unfold midD
  rw [List.append_assoc, List.replicate_succ']
/-- The text of a length. -/
def someD (a : S5) (n : Nat) : Option (List UInt8) :=
  if n < a.b.size ∨ n < a.e.size then none
  else if (midD a (n - a.b.size - a.e.size)).drop (n - a.e.size) = a.e.data.toList.take (a.b.size + (n - a.b.size - a.e.size) + a.e.size - n) then some (midD a (n - a.b.size - a.e.size) ++ a.e.data.toList.drop (a.b.size + (n - a.b.size - a.e.size) + a.e.size - n)) else none
theorem some_len {a : S5} {n : Nat} {s : List UInt8} (h : someD a n = some s) : s.length = n := by
  unfold someD at h
  split at h
  · cases h
  · split at h
    · cases h
      have e : a.e.data.toList.length = a.e.size := rfl
      rw [List.length_append, mid_len, List.length_drop, e]
      omega
    · cases h
theorem and_bit {z : Int} {k : Nat} (hk : k < 63) : bits .and .i64 z ((2 ^ k : Nat) : Int) = 0 ↔ bit z k = false := by
  constructor
  · intro h
    have h2 := bit_and z ((2 ^ k : Nat) : Int) k
    rw [h, zero_bit, two_bit hk] at h2
    simpa using h2.symm
  · intro h
    have hz : bt (bits .and .i64 z ((2 ^ k : Nat) : Int)) = 0#64 := by
      apply BitVec.eq_of_getLsbD_eq
      intro i _
      rw [BitVec.getLsbD_zero]
      have h2 := bit_and z ((2 ^ k : Nat) : Int) i
      unfold bit at h2
      rw [h2]
      by_cases hik : i = k
      · subst hik
        unfold bit at h
        rw [h]; rfl
      · have h3 := two_bit (i := i) hk
        unfold bit at h3
        rw [h3]
        simp [hik]
    rw [bt_and] at hz
    show IntKind.i64.wrap ((bt z &&& bt ((2 ^ k : Nat) : Int)).toNat : Int) = 0
    rw [hz]; rfl
end Sh
end Go.Proofs.YtaejnklgnegkhaaGreatDoor
namespace Go.Proofs.YtaejnklgnegkhaaGreatDoor
open Pt

namespace Sh
theorem wrap_bt {x : Int} (h : I64 x) : IntKind.i64.wrap ((bt x).toNat : Int) = x := by
  unfold bt
  rw [BitVec.toNat_ofInt, IntKind.wrap_i64]
  obtain ⟨h1, h2⟩ := h
  have e : (2 : Int) ^ 64 = 18446744073709551616 := by decide
  omega
theorem and_self {x y : Int} (h : I64 x) : bits .and .i64 x y = x ↔ Sub x y := by
  constructor
  · intro he i hi
    have h2 := bit_and x y i
    rw [he, hi] at h2
    simpa using h2.symm
  · intro hs
    have hz : bt x &&& bt y = bt x := by
      apply BitVec.eq_of_getLsbD_eq
      intro i _
      rw [BitVec.getLsbD_and]
      have h2 := hs i
      unfold bit at h2
      cases hx : (bt x).getLsbD i
      · rfl
      · rw [h2 hx]; rfl
    show IntKind.i64.wrap ((bt x &&& bt y).toNat : Int) = x
    rw [hz]
    exact wrap_bt h
theorem pre_eq {s b : ByteArray} (_ : b.size ≤ s.size) : (s.extract 0 b.size).toList = b.toList ↔ b.data.toList <+: s.data.toList := by
  have e1 : (s.extract 0 b.size).data.toList = s.data.toList.take b.size := by
    rw [ByteArray.data_extract]
    simp [List.extract]
  have e2 : b.data.toList.length = b.size := rfl
  rw [ByteArray.toList_eq, ByteArray.toList_eq, e1]
  constructor
  · intro h
    rw [← h]
    exact List.take_prefix _ _
  · rintro ⟨r, hr⟩
    rw [← hr, ← e2, List.take_left]
theorem suf_eq {s e : ByteArray} (_ : e.size ≤ s.size) : (s.extract (s.size - e.size) s.size).toList = e.toList ↔ e.data.toList <:+ s.data.toList := by
  have e1 : (s.extract (s.size - e.size) s.size).data.toList = s.data.toList.drop (s.size - e.size) := by
    rw [ByteArray.data_extract]
    simp only [Array.toList_extract, List.extract]
    exact List.take_of_length_le (by rw [List.length_drop]; show s.data.size - _ ≤ _; exact Nat.le_refl _)
  have e2 : e.data.toList.length = e.size := rfl
  have e3 : s.data.toList.length = s.size := rfl
  rw [ByteArray.toList_eq, ByteArray.toList_eq, e1]
  constructor
  · intro h
    rw [← h]
    exact List.drop_suffix _ _
  · rintro ⟨r, hr⟩
    have hl := congrArg List.length hr
    rw [List.length_append, e2, e3] at hl
    rw [← hr, show s.size - e.size = r.length from by omega, List.drop_left]
end Sh
end Go.Proofs.YtaejnklgnegkhaaGreatDoor
namespace Go.Proofs.YtaejnklgnegkhaaGreatDoor
open Go.RowKit Pt Sh

/-- The least length of a shape, as the reference reckons it. -/
def leastD (a : S5) : Int := max (max 0 a.l) (max (a.b.size : Int) (a.e.size : Int))
set_option maxRecDepth 100000 in
theorem rleast_any (a : S5) (w : World) (hb : a.b.size ≤ 1000000) (he : a.e.size ≤ 1000000) : Calls Tryz.prog 38 #[vS a] w fun e w' => e = .returned (.int .i64 (leastD a)) ∧ w.grownBy w' none := by
  have HD := Lib.hid (show leastD a = max (max 0 a.l) (max (a.b.size : Int) (a.e.size : Int)) from rfl)
  obtain ⟨l, m, c, b, e⟩ := a
  simp only at hb he HD
  obtain ⟨x, hx⟩ : ∃ x : Int, max 0 l = x := ⟨_, rfl⟩
  obtain ⟨y, hy⟩ : ∃ y : Int, max (b.size : Int) (e.size : Int) = y := ⟨_, rfl⟩
  obtain ⟨z, hz⟩ : ∃ z : Int, max x y = z := ⟨_, rfl⟩
  have HR := Lib.hid (show leastD ⟨l, m, c, b, e⟩ = z from by rw [HD.out, hx, hy, hz])
  go_enter Tryz.func38, Tryz.ntmps38
  go_wp2
  all_goals
    go_ret
    first
    | exact ⟨by rw [HR.out, ← hz]; rfl, gr_alloc _ _ _⟩
    | exact ⟨by rw [HR.out]; first | rfl | (congr 2; omega), gr_alloc _ _ _⟩
set_option maxRecDepth 100000 in
theorem rmost_any (a : S5) (w : World) : Calls Tryz.prog 39 #[vS a] w fun e w' => e = .returned (.int .i64 (min a.m 200)) ∧ w.grownBy w' none := by
  obtain ⟨l, m, c, b, e⟩ := a
  obtain ⟨x, hx⟩ : ∃ x : Int, min m 200 = x := ⟨_, rfl⟩
  simp only
  rw [hx]
  go_enter Tryz.func39, Tryz.ntmps39
  go_wp2
  go_ret
  exact ⟨rfl, gr_alloc _ _ _⟩
end Go.Proofs.YtaejnklgnegkhaaGreatDoor
namespace Go.Proofs.YtaejnklgnegkhaaGreatDoor
open Go.RowKit Pt Sh

abbrev vSome (o : Option (List UInt8)) : Value := .tuple #[.string (BA (o.getD [])), .bool o.isSome]
theorem form_one (w : World) (c : Nat) (hc : c ≤ 255) : Sem.run Tryz.prog (convert 70 9 (.slice (some ⟨w.heap.size, 0, none⟩) 1 1)) (w.alloc (.cells #[.int .u8 (c : Int)] 5)) = .ok (.string ⟨#[UInt8.ofNat c]⟩) (w.alloc (.cells #[.int .u8 (c : Int)] 5)) :=
  (form_byte w c hc).str
theorem ba_cat2 (x y : List UInt8) : BA x ++ BA y = BA (x ++ y) := by
  apply ByteArray.ext
  simp
set_option maxRecDepth 100000 in
set_option maxHeartbeats 4000000 in
theorem rsome_any (a : S5) (n : Nat) (w : World) (hn : n ≤ 100000) (hb : a.b.size ≤ 1000000) (he : a.e.size ≤ 1000000) : Calls Tryz.prog 41 #[vS a, .int .i64 (n : Int)] w fun e w' => e = .returned (vSome (someD a n)) ∧ w.grownBy w' none := by
  have HNO := Lib.hid (fun (h : n < a.b.size ∨ n < a.e.size) => show someD a n = none from if_pos h)
  have HYES := Lib.hid (fun (h : ¬ (n < a.b.size ∨ n < a.e.size)) => show someD a n = _ from if_neg h)
  obtain ⟨f, hf⟩ : ∃ f, flD a.c 95 = f := ⟨_, rfl⟩
  have HF := Lib.hid hf
  have HM := Lib.hid (fun i => mid_len a i)
  have HX := Lib.hid (fun i => mid_next a i)
  have HM0 := Lib.hid (show midD a 0 = a.b.data.toList from by unfold midD; simp)
  generalize hmid : midD a = M at *
  clear hmid
  obtain ⟨l, m, c, b, e⟩ := a
  simp only at hb he HNO HYES HM HM0
  have RB := Row.new w [.int .i64 l, .int .i64 m, .int .i64 c, .string b, .string e] 24
  simp only [List.toArray] at RB
  have HRB := Lib.hid RB
  have G0 := Lib.hid (gr_alloc w (.cells #[.int .i64 l, .int .i64 m, .int .i64 c, .string b, .string e] 24) none)
  clear RB
  by_cases h1 : n < b.size
  · have h1i : (n : Int) < (b.size : Int) := by omega
    rw [HNO.out (.inl h1)]
    go_enter Tryz.func41, Tryz.ntmps41
    go_wp2
    go_ret2
    exact ⟨rfl, G0.out⟩
  by_cases h2 : n < e.size
  · have h1i : decide ((n : Int) < (b.size : Int)) = false := decide_eq_false (by omega)
    have h1n : decide (n < b.size) = false := decide_eq_false h1
    have h2i : (n : Int) < (e.size : Int) := by omega
    rw [HNO.out (.inr h2)]
    clear h1
    go_enter Tryz.func41, Tryz.ntmps41
    go_wp2
    go_ret2
    exact ⟨rfl, G0.out⟩
  have h1i : decide ((n : Int) < (b.size : Int)) = false := decide_eq_false (by omega)
  have h1n : decide (n < b.size) = false := decide_eq_false h1
  have h2i : decide ((n : Int) < (e.size : Int)) = false := decide_eq_false (by omega)
  have h2n : decide (n < e.size) = false := decide_eq_false h2
  have HY := Lib.hid (HYES.out (by omega))
  have HBN := Lib.hid (And.intro (Nat.le_of_not_lt h1) (Nat.le_of_not_lt h2))
  clear h1 h2 HNO HYES hf
  go_enter Tryz.func41, Tryz.ntmps41
  go_wp2_with fail
  clear h1i h1n h2i h2n
  go_loopw [6, 7] (fun s t wr => ∃ j : Nat, j ≤ 95 ∧ t = .int .i64 (126 - (j : Int)) ∧ s = .string (BA [flD c j]) ∧ Hid (Row wr w.heap.size (five ⟨l, m, c, b, e⟩) 24) ∧ Hid (w.grownBy wr none)) (fun _ t _ => (intOf t + 1).toNat)
  case atStart => exact ⟨0, by omega, by simp, rfl, HRB, G0⟩
  case round =>
    obtain ⟨j, hj, rfl, rfl, HR, GR⟩ := hrel
    by_cases hlt : j < 95
    · have hlti : (32 : Int) ≤ 126 - (j : Int) := by omega
      obtain ⟨d, hd⟩ : ∃ d, 126 - j = d := ⟨_, rfl⟩
      have hdi : 126 - (j : Int) = (d : Int) := by omega
      have hd8 : d ≤ 126 := by omega
      have hdw : IntKind.u8.wrap (d : Int) = (d : Int) := IntWalk.u8_in _ (by omega)
      obtain ⟨k, hk⟩ : ∃ k, clsD d = k := ⟨_, rfl⟩
      have hk6 : k ≤ 6 := by rw [← hk]; exact (clsD_le _).1
      have HC := Lib.hid (fun w => (hk ▸ rclass_any d w (by omega)).mono fun _ w' h => And.intro h.1 (show w' = w from h.2.symm))
      obtain ⟨p, hp⟩ : ∃ p : Int, ((2 ^ k : Nat) : Int) = p := ⟨_, rfl⟩
      have HW : IntKind.i64.wrap (2 ^ k) = p := by
        rw [← hp]
        rcases (show k = 0 ∨ k = 1 ∨ k = 2 ∨ k = 3 ∨ k = 4 ∨ k = 5 ∨ k = 6 by omega) with rfl | rfl | rfl | rfl | rfl | rfl | rfl <;> decide
      obtain ⟨q, hq⟩ : ∃ q : Int, bits .and .i64 c p = q := ⟨_, rfl⟩
      have HAB := Lib.hid (show q = 0 ↔ bit c k = false from by rw [← hq, ← hp]; exact and_bit (z := c) (show k < 63 by omega))
      have HFY := Lib.hid (fun (h : bit c k = true) => fl_yes (z := c) (j := j) (by rw [hd, hk]; exact h))
      have HFN := Lib.hid (fun (h : bit c k = false) => fl_no (z := c) (j := j) (by rw [hd, hk]; exact h))
      have c2 := HR.out.cell 2 _ rfl
      rw [hdi]
      have HDD := Lib.hid hd
      clear hd hk hp
      by_cases h0 : q = 0
      · have h0b : (q == 0) = true := by rw [h0]; rfl
        have h0n : (q != 0) = false := by rw [bne, h0b]; rfl
        have HN := Lib.hid (HFN.out (HAB.out.1 h0))
        clear h0
        go_wp2_with fail
        go_quiet ((go_at_call 72; with_reducible exact Calls.quiet_of_same (HC.out _)))
        have HR9 := Lib.hid (show Row (wr.drewN nq) w.heap.size (five ⟨l, m, c, b, e⟩) 24 from HR.out)
        go_wp2
        exact ⟨⟨j + 1, by omega, congrArg (Value.int .i64) (by omega), by rw [HN.out], HR9, Lib.hid (gr_dn GR.out)⟩, by simp only [intOf]; omega⟩
      · have h0b : (q == 0) = false := by rw [beq_eq_false_iff_ne]; exact h0
        have h0n : (q != 0) = true := by rw [bne, h0b]; rfl
        have HN := Lib.hid (HFY.out (by cases hbb : bit c k; exact absurd (HAB.out.2 hbb) h0; rfl))
        clear h0
        go_wp2_with fail
        go_quiet ((go_at_call 72; with_reducible exact Calls.quiet_of_same (HC.out _)))
        have hcv : Sem.run Tryz.prog (convert 70 9 (.slice (some ⟨wr.heap.size, 0, none⟩) 1 1)) ((wr.drewN nq).alloc (.cells #[.int .u8 (d : Int)] 5)) = .ok (.string ⟨#[UInt8.ofNat d]⟩) ((wr.drewN nq).alloc (.cells #[.int .u8 (d : Int)] 5)) := form_one (wr.drewN nq) d (by omega)
        have HR9 := Lib.hid (show Row ((wr.drewN nq).alloc (.cells #[.int .u8 (d : Int)] 5)) w.heap.size (five ⟨l, m, c, b, e⟩) 24 from Row.al (w := wr.drewN nq) HR.out)
        go_wp2
        exact ⟨⟨j + 1, by omega, congrArg (Value.int .i64) (by omega), by rw [HN.out, HDD.out], HR9, Lib.hid (gr_then (gr_dn GR.out) (gr_alloc _ _ _))⟩, by simp only [intOf]; omega⟩
    · obtain rfl : j = 95 := by omega
      have hlti : ¬ (32 : Int) ≤ 126 - ((95 : Nat) : Int) := by omega
      have hjj : 126 - ((95 : Nat) : Int) = 31 := by omega
      have h31 : ¬ (32 : Int) ≤ 31 := by omega
      rw [hjj, HF.out]
      have c3 := HR.out.cell 3 _ rfl
      have c4 := HR.out.cell 4 _ rfl
      clear hlti hjj
      obtain ⟨i0, hi0⟩ : ∃ i0, n - b.size - e.size = i0 := ⟨_, rfl⟩
      rw [hi0] at HY
      have hbn : b.size + i0 ≤ n ∧ (b.size + i0 + e.size = n ∨ (i0 = 0 ∧ n ≤ b.size + e.size)) := by have := HBN.out; omega
      have HB0 := Lib.hid (show BA (M 0) = b from by rw [HM0.out])
      go_wp2_with fail
      go_loopw [8] (fun v wr2 => ∃ (i : Nat) (S : ByteArray), i ≤ i0 ∧ v = .string S ∧ S.size = b.size + i ∧ Hid (S = BA (M i)) ∧ Hid (Row wr2 w.heap.size (five ⟨l, m, c, b, e⟩) 24) ∧ Hid (w.grownBy wr2 none)) (fun v _ => n - (match v with | .string t => t.size | _ => 0))
      case atStart => exact ⟨0, b, by omega, rfl, rfl, Lib.hid HB0.out.symm, HR, GR⟩
      case round =>
        obtain ⟨i, S, hi, rfl, hsz, HS, HR2, GR2⟩ := hrel
        have c4 := HR2.out.cell 4 _ rfl
        by_cases hlt : i < i0
        · have hlti : (S.size : Int) + (e.size : Int) < (n : Int) := by omega
          have hb1 : ¬ (9223372036854775807 : Int) < (S.size : Int) + 1 := by omega
          have hb2 : ¬ 9223372036854775807 < S.size + 1 := by omega
          have hs2 : (S ++ BA [f]).size = b.size + (i + 1) := by rw [ByteArray.size_append]; show S.size + 1 = _; omega
          have hs3 : (S ++ BA [f]).size = S.size + 1 := by rw [ByteArray.size_append]; rfl
          have hsn : S.size < n := by omega
          have HS2 := Lib.hid (show S ++ BA [f] = BA (M (i + 1)) from by
            rw [HS.out, ba_cat2, ← HX.out i, HF.out])
          have HSZ := Lib.hid (And.intro hs2 (And.intro hs3 hsn))
          clear hs2 hs3 hsn
          go_wp2
          exact ⟨⟨i + 1, _, by omega, rfl, HSZ.out.1, HS2, HR2, GR2⟩, by have h1 := HSZ.out.2.1; have h2 := HSZ.out.2.2; show n - (S ++ BA [f]).size < n - S.size; omega⟩
        · obtain rfl : i = i0 := by omega
          have hlti : ¬ (S.size : Int) + (e.size : Int) < (n : Int) := by omega
          obtain ⟨k, hk⟩ : ∃ k, S.size + e.size - n = k := ⟨_, rfl⟩
          obtain ⟨d, hd⟩ : ∃ d, n - e.size = d := ⟨_, rfl⟩
          have hen := HBN.out.2
          have hki : (S.size : Int) + (e.size : Int) - (n : Int) = (k : Int) := by omega
          have hdi : (S.size : Int) - (k : Int) = (d : Int) := by omega
          have hdw : IntKind.i64.wrap ((S.size : Int) - (k : Int)) = (d : Int) := (IntWalk.i64_in _ (by omega)).trans hdi
          have hkS : (k : Int) ≤ (S.size : Int) := by omega
          have hdS : (d : Int) ≤ (S.size : Int) := by omega
          have hdn : d ≤ S.size := by omega
          have hke : (k : Int) ≤ (e.size : Int) := by omega
          have hkn : k ≤ e.size := by omega
          have hd0 : (0 : Int) ≤ (d : Int) := by omega
          have hk0 : (0 : Int) ≤ (k : Int) := by omega
          have e1 : (S.extract d S.size).toList = (M i).drop d := by
            rw [ByteArray.toList_eq, ext_drop, HS.out]
          have e2 : (e.extract 0 k).toList = e.data.toList.take k := by
            rw [ByteArray.toList_eq, ByteArray.data_extract]; simp [List.extract]
          have e3 : S ++ e.extract k e.size = BA (M i ++ e.data.toList.drop k) := by
            rw [HS.out, show e.extract k e.size = BA (e.data.toList.drop k) from by
              apply ByteArray.ext; apply Array.toList_inj.1; exact ext_drop e k]
            exact ba_cat2 _ _
          rw [show b.size + i + e.size - n = k from by omega, hd, ← e1, ← e2] at HY
          have HE3 := Lib.hid e3
          have hb1 : ¬ (9223372036854775807 : Int) < (S.size : Int) + ((e.extract k e.size).size : Int) := by rw [ByteArray.size_extract]; omega
          have hb2 : ¬ 9223372036854775807 < S.size + (e.extract k e.size).size := by rw [ByteArray.size_extract]; omega
          have hb3 : ¬ 9223372036854775807 < S.size + (e.size - k) := by omega
          have hb4 : ¬ (9223372036854775807 : Int) < (S.size : Int) + ((e.size : Int) - (k : Int)) := by omega
          clear e1 e2 e3 hk hd hbn hi hsz hen HS
          by_cases hq : (S.extract d S.size).toList = (e.extract 0 k).toList
          · have hqb : ((S.extract d S.size).toList == (e.extract 0 k).toList) = true := by rw [beq_iff_eq]; exact hq
            have hqn : ((S.extract d S.size).toList != (e.extract 0 k).toList) = false := by rw [bne, hqb]; rfl
            have HRES := Lib.hid (HY.out.trans (if_pos hq))
            clear hq HY
            go_wp2_with fail
            go_quiet (fail)
            have c4b := (show Row (wr.drewN nq) w.heap.size (five ⟨l, m, c, b, e⟩) 24 from HR2.out).cell 4 _ rfl
            go_wp2
            go_ret2
            exact ⟨by rw [HRES.out, HE3.out]; rfl, gr_dn GR2.out⟩
          · have hqb : ((S.extract d S.size).toList == (e.extract 0 k).toList) = false := by rw [beq_eq_false_iff_ne]; exact hq
            have hqn : ((S.extract d S.size).toList != (e.extract 0 k).toList) = true := by rw [bne, hqb]; rfl
            have HRES := Lib.hid (HY.out.trans (if_neg hq))
            clear hq HY
            go_wp2_with fail
            go_quiet (fail)
            go_wp2
            go_ret2
            exact ⟨by rw [HRES.out]; rfl, gr_dn GR2.out⟩
end Go.Proofs.YtaejnklgnegkhaaGreatDoor
namespace Go.Proofs.YtaejnklgnegkhaaGreatDoor
open Go.RowKit Pt Sh

set_option maxRecDepth 100000 in
set_option maxHeartbeats 4000000 in
theorem rcontains_any (a : S5) (s : ByteArray) (w : World) (hs : s.size ≤ 1000000000000) (hbz : a.b.size ≤ 1000000000000) (hez : a.e.size ≤ 1000000000000) :
    Calls Tryz.prog 14 #[vS a, .string s] w (BoolIs (inD a s.data.toList) w) := by
  have HT := Lib.hid (fun w => rtext_any s w hs)
  have HC := Lib.hid (fun w => (rbits_any s w hs).mono fun _ w' h => And.intro h.1 (show w' = w from h.2.symm))
  have hcb := cb_i64 s.data.toList
  obtain ⟨l, m, c, b, e⟩ := a
  simp only at hbz hez
  have HI := Lib.hid (show inD ⟨l, m, c, b, e⟩ s.data.toList ↔ (isTextD s.data.toList = true ∧ l ≤ (s.size : Int) ∧ (s.size : Int) ≤ m ∧ Sub (cbI s.data.toList) c ∧ b.data.toList <+: s.data.toList ∧ e.data.toList <:+ s.data.toList) from Iff.rfl)
  have HSUB := Lib.hid (show bits .and .i64 (cbI s.data.toList) c = cbI s.data.toList ↔ Sub (cbI s.data.toList) c from and_self hcb)
  have HPB := Lib.hid (fun (h : b.size ≤ s.size) => pre_eq (s := s) h)
  have HUE := Lib.hid (fun (h : e.size ≤ s.size) => suf_eq (s := s) h)
  have HPL := Lib.hid (show b.data.toList <+: s.data.toList → b.size ≤ s.size from fun h => h.length_le)
  have HUL := Lib.hid (show e.data.toList <:+ s.data.toList → e.size ≤ s.size from fun h => h.length_le)
  clear hcb
  generalize isTextD s.data.toList = tx at *
  generalize cbI s.data.toList = cb at *
  obtain ⟨z, hz⟩ : ∃ z, bits .and .i64 cb c = z := ⟨_, rfl⟩
  have HZ := Lib.hid hz
  clear hbz hez
  cases tx
  · clear hz
    go_enter Tryz.func14, Tryz.ntmps14
    go_wp2_with fail
    refine (HT.out _).mono ?_
    rintro e1 w1 ⟨rfl, rfl⟩
    go_wp2
    go_ret
    exact BoolIs.no rfl (fun h => absurd (HI.out.1 h).1 (by simp)) (gr_alloc _ _ _)
  by_cases h1 : (s.size : Int) < l
  · have h1d : decide ((s.size : Int) < l) = true := decide_eq_true h1
    have H1 := Lib.hid h1
    clear hz
    go_enter Tryz.func14, Tryz.ntmps14
    go_wp2_with fail
    refine (HT.out _).mono ?_
    rintro e1 w1 ⟨rfl, rfl⟩
    go_wp2
    go_ret
    exact BoolIs.no rfl (fun h => by have h1 := (HI.out.1 h).2.1; have h2 := H1.out; omega) (gr_alloc _ _ _)
  have h1d : decide ((s.size : Int) < l) = false := decide_eq_false h1
  have H1 := Lib.hid h1
  clear h1
  by_cases h2 : m < (s.size : Int)
  · have h2d : decide (m < (s.size : Int)) = true := decide_eq_true h2
    have H2 := Lib.hid h2
    clear hz
    go_enter Tryz.func14, Tryz.ntmps14
    go_wp2_with fail
    refine (HT.out _).mono ?_
    rintro e1 w1 ⟨rfl, rfl⟩
    go_wp2
    go_ret
    exact BoolIs.no rfl (fun h => by have h1 := (HI.out.1 h).2.2.1; have h2 := H2.out; omega) (gr_alloc _ _ _)
  have h2d : decide (m < (s.size : Int)) = false := decide_eq_false h2
  have H2 := Lib.hid h2
  clear h2
  by_cases h3 : (s.size : Int) < (b.size : Int)
  · have h3d : decide ((s.size : Int) < (b.size : Int)) = true := decide_eq_true h3
    have H3 := Lib.hid h3
    clear hz
    go_enter Tryz.func14, Tryz.ntmps14
    go_wp2_with fail
    refine (HT.out _).mono ?_
    rintro e1 w1 ⟨rfl, rfl⟩
    go_wp2
    go_ret
    exact BoolIs.no rfl (fun h => by have h1 := HPL.out (HI.out.1 h).2.2.2.2.1; have h2 := H3.out; omega) (gr_alloc _ _ _)
  have h3d : decide ((s.size : Int) < (b.size : Int)) = false := decide_eq_false h3
  have h3n : decide (s.size < b.size) = false := decide_eq_false (by omega)
  have H3 := Lib.hid h3
  clear h3
  by_cases h4 : (s.size : Int) < (e.size : Int)
  · have h4d : decide ((s.size : Int) < (e.size : Int)) = true := decide_eq_true h4
    have H4 := Lib.hid h4
    clear hz
    go_enter Tryz.func14, Tryz.ntmps14
    go_wp2_with fail
    refine (HT.out _).mono ?_
    rintro e1 w1 ⟨rfl, rfl⟩
    go_wp2
    go_ret
    exact BoolIs.no rfl (fun h => by have h1 := HUL.out (HI.out.1 h).2.2.2.2.2; have h2 := H4.out; omega) (gr_alloc _ _ _)
  have h4d : decide ((s.size : Int) < (e.size : Int)) = false := decide_eq_false h4
  have h4n : decide (s.size < e.size) = false := decide_eq_false (by omega)
  have H4 := Lib.hid h4
  clear h4
  have hbs : b.size ≤ s.size := by have := H3.out; omega
  have hes : e.size ≤ s.size := by have := H4.out; omega
  have hbi : (b.size : Int) ≤ (s.size : Int) := by omega
  have hei : (e.size : Int) ≤ (s.size : Int) := by omega
  obtain ⟨d, hd⟩ : ∃ d, s.size - e.size = d := ⟨_, rfl⟩
  have hpb := HPB.out hbs
  have hue := HUE.out hes
  rw [hd] at hue
  have hdi : (s.size : Int) - (e.size : Int) = (d : Int) := by omega
  have hdw : IntKind.i64.wrap ((s.size : Int) - (e.size : Int)) = (d : Int) := IntWalk.i64_in _ (by omega) |>.trans (by omega)
  have hd0 : (0 : Int) ≤ (d : Int) := by omega
  have hds : (d : Int) ≤ (s.size : Int) := by omega
  have hdn : d ≤ s.size := by omega
  have HPE := Lib.hid hpb
  have HUU := Lib.hid hue
  clear hd hpb hue
  by_cases h5 : z = cb
  rotate_left
  · have h5b : (z == cb) = false := by rw [beq_eq_false_iff_ne]; exact h5
    have H5 := Lib.hid h5
    clear h5
    go_enter Tryz.func14, Tryz.ntmps14
    go_wp2_with fail
    refine (HT.out _).mono ?_
    rintro e1 w1 ⟨rfl, rfl⟩
    go_wp2_with fail
    go_quiet (first | (go_at_call 49; with_reducible exact Calls.quiet_of_same (HC.out _)))
    go_wp2
    go_ret
    exact BoolIs.no rfl (fun h => H5.out (HZ.out.symm.trans (HSUB.out.2 (HI.out.1 h).2.2.2.1))) (gr_dn (gr_alloc _ _ _))
  have H5 := Lib.hid (HSUB.out.1 (HZ.out.trans h5))
  subst h5
  by_cases h6 : (s.extract 0 b.size).toList = b.toList
  rotate_left
  · have h6b : ((s.extract 0 b.size).toList == b.toList) = false := by rw [beq_eq_false_iff_ne]; exact h6
    have H6 := Lib.hid h6
    clear h6
    go_enter Tryz.func14, Tryz.ntmps14
    go_wp2_with fail
    refine (HT.out _).mono ?_
    rintro e1 w1 ⟨rfl, rfl⟩
    go_wp2_with fail
    go_quiet (first | (go_at_call 49; with_reducible exact Calls.quiet_of_same (HC.out _)))
    go_wp2
    go_ret
    exact BoolIs.no rfl (fun h => H6.out (HPE.out.2 (HI.out.1 h).2.2.2.2.1)) (gr_dn (gr_alloc _ _ _))
  have h6b : ((s.extract 0 b.size).toList == b.toList) = true := by rw [beq_iff_eq]; exact h6
  have H6 := Lib.hid (HPE.out.1 h6)
  clear h6
  by_cases h7 : (s.extract d s.size).toList = e.toList
  rotate_left
  · have h7b : ((s.extract d s.size).toList == e.toList) = false := by rw [beq_eq_false_iff_ne]; exact h7
    have H7 := Lib.hid h7
    clear h7
    go_enter Tryz.func14, Tryz.ntmps14
    go_wp2_with fail
    refine (HT.out _).mono ?_
    rintro e1 w1 ⟨rfl, rfl⟩
    go_wp2_with fail
    go_quiet (first | (go_at_call 49; with_reducible exact Calls.quiet_of_same (HC.out _)))
    go_wp2
    go_ret
    exact BoolIs.no rfl (fun h => H7.out (HUU.out.2 (HI.out.1 h).2.2.2.2.2)) (gr_dn (gr_alloc _ _ _))
  have h7b : ((s.extract d s.size).toList == e.toList) = true := by rw [beq_iff_eq]; exact h7
  have H7 := Lib.hid (HUU.out.1 h7)
  clear h7
  go_enter Tryz.func14, Tryz.ntmps14
  go_wp2_with fail
  refine (HT.out _).mono ?_
  rintro e1 w1 ⟨rfl, rfl⟩
  go_wp2_with fail
  go_quiet (first | (go_at_call 49; with_reducible exact Calls.quiet_of_same (HC.out _)))
  go_wp2
  go_ret
  exact BoolIs.yes rfl (HI.out.2 ⟨by first | rfl | trivial, by have := H1.out; omega, by have := H2.out; omega, H5.out, H6.out, H7.out⟩) (gr_dn (gr_alloc _ _ _))
end Go.Proofs.YtaejnklgnegkhaaGreatDoor
namespace Go.Proofs.YtaejnklgnegkhaaGreatDoor
open Go.RowKit Pt Sh

/-- A call that gives some text, of which something holds if the call says so. -/
def SampleQ (I : List UInt8 → Prop) (w : World) (e : Ending) (w' : World) : Prop := ∃ (s : ByteArray) (ok : Bool), s.size ≤ 212 ∧ (ok = true → I s.data.toList) ∧ e = .returned (.tuple #[.string s, .bool ok]) ∧ w.grownBy w' none
set_option maxRecDepth 100000 in
set_option maxHeartbeats 4000000 in
theorem rsample8_any (a : S5) (n : Int) (w : World) (ha : GoodS a) (hn : I64 n) : Calls Tryz.prog 10 #[vS a, .int .i64 n] w (SampleQ (inD a) w) := by
  have HL := Lib.hid (fun w => rleast_any a w (Nat.le_trans ha.b (by decide)) (Nat.le_trans ha.e (by decide)))
  have HM := Lib.hid (fun w => rmost_any a w)
  have HS := Lib.hid (fun (k : Nat) (h : k ≤ 100000) w => rsome_any a k w h (Nat.le_trans ha.b (by decide)) (Nat.le_trans ha.e (by decide)))
  have HC := Lib.hid (fun (s : ByteArray) (h : s.size ≤ 1000) w => rcontains_any a s w (by omega) (Nat.le_trans ha.b (by decide)) (Nat.le_trans ha.e (by decide)))
  have hL0 : 0 ≤ leastD a := by unfold leastD; omega
  have HIN := Lib.hid (show ∀ s : ByteArray, inD a s.data.toList → inD a s.data.toList from fun _ h => h)
  have HSL := Lib.hid (fun (k : Nat) (t : List UInt8) (h : someD a k = some t) => some_len h)
  obtain ⟨M, hM⟩ : ∃ M : Int, min a.m 200 = M := ⟨_, rfl⟩
  have hM2 : M ≤ 200 := by omega
  rw [hM] at HM
  clear hM
  generalize leastD a = L at *
  generalize hI : inD a = I at *
  generalize hsm : someD a = S at *
  obtain ⟨l, m, c, b, e⟩ := a
  have RB := Row.new w [.int .i64 l, .int .i64 m, .int .i64 c, .string b, .string e] 24
  simp only [List.toArray] at RB
  have HRB := Lib.hid RB
  have G0 := Lib.hid (gr_alloc w (.cells #[.int .i64 l, .int .i64 m, .int .i64 c, .string b, .string e] 24) none)
  clear hI hsm ha RB
  go_enter Tryz.func10, Tryz.ntmps10
  go_wp2_with fail
  refine (HL.out _).mono ?_
  rintro e1 w1 ⟨rfl, g1⟩
  have HR1 := Lib.hid (HRB.out.kept g1)
  have G1 := Lib.hid (gr_then G0.out g1)
  have c0 := HR1.out.cell 0 _ rfl
  have c1 := HR1.out.cell 1 _ rfl
  have c2 := HR1.out.cell 2 _ rfl
  have c3 := HR1.out.cell 3 _ rfl
  have c4 := HR1.out.cell 4 _ rfl
  clear g1 G0 HRB
  go_wp2_with fail
  refine (HM.out _).mono ?_
  rintro e1 w2 ⟨rfl, g2⟩
  have HR2 := Lib.hid (HR1.out.kept g2)
  have G2 := Lib.hid (gr_then G1.out g2)
  clear g2 G1 HR1 c0 c1 c2 c3 c4
  by_cases hLM : M < L
  · have hLd : decide (M < L) = true := decide_eq_true hLM
    go_wp2
    go_ret2
    exact ⟨⟨#[]⟩, false, Nat.zero_le _, fun h => (by cases h), rfl, G2.out⟩
  have hLd : decide (M < L) = false := decide_eq_false hLM
  have hLe : L ≤ M := by omega
  obtain ⟨k, hk⟩ : ∃ k : Int, min (M - L) 12 = k := ⟨_, rfl⟩
  have hk0 : 0 ≤ k ∧ k ≤ 12 := by omega
  have HMO := Lib.hid (fun w => rmod_any n (k + 1) w (by omega) (by omega) hn.1 hn.2)
  have hr := mod_le (z := n) (show (0 : Int) < k + 1 by omega)
  generalize n % (k + 1) = r at *
  obtain ⟨N, hN⟩ : ∃ N : Nat, L + r = (N : Int) := ⟨(L + r).toNat, by omega⟩
  have hN2 : N ≤ 212 := by omega
  have HN2 := Lib.hid hN2
  have c0 := HR2.out.cell 0 _ rfl
  have c1 := HR2.out.cell 1 _ rfl
  have c2 := HR2.out.cell 2 _ rfl
  have c3 := HR2.out.cell 3 _ rfl
  have c4 := HR2.out.cell 4 _ rfl
  have HSN := Lib.hid (fun w => HS.out N (by omega) w)
  have HSLN := Lib.hid (fun t h => HSL.out N t h)
  clear hLM HL HM HS HSL hn
  go_wp2_with fail
  refine (HMO.out _).mono ?_
  rintro e3 w3 ⟨rfl, rfl⟩
  go_wp2_with fail
  refine (HSN.out _).mono ?_
  rintro e4 w4 ⟨rfl, g4⟩
  have HR4 := Lib.hid (HR2.out.kept g4)
  have G4 := Lib.hid (gr_then G2.out g4)
  have d0 := HR4.out.cell 0 _ rfl
  have d1 := HR4.out.cell 1 _ rfl
  have d2 := HR4.out.cell 2 _ rfl
  have d3 := HR4.out.cell 3 _ rfl
  have d4 := HR4.out.cell 4 _ rfl
  clear g4 G2 HR2 c0 c1 c2 c3 c4
  generalize S N = o at *
  cases o with
  | none =>
    simp only [vSome, Option.getD_none, Option.isSome_none]
    go_wp2
    go_ret2
    exact ⟨⟨#[]⟩, false, Nat.zero_le _, fun h => (by cases h), rfl, G4.out⟩
  | some t =>
    have htl : t.length = N := HSLN.out t rfl
    have htz : (BA t).size ≤ 212 := by show t.length ≤ 212; omega
    have HK := Lib.hid (fun w => HC.out (BA t) (by omega) w)
    obtain ⟨x, hx⟩ : ∃ x, BA t = x := ⟨_, rfl⟩
    rw [hx] at htz HK
    have HTZ := Lib.hid htz
    simp only [vSome, Option.getD_some, Option.isSome_some]
    rw [hx]
    clear htl htz hx
    go_wp2_with fail
    refine (HK.out _).mono ?_
    rintro e5 w5 ⟨q, rfl, hq, g5⟩
    have HQ := Lib.hid hq.1
    have G5 := Lib.hid (gr_then G4.out g5)
    clear hq g5 d0 d1 d2 d3 d4
    go_wp2
    go_ret2
    exact ⟨x, q, HTZ.out, HQ.out, rfl, G5.out⟩
end Go.Proofs.YtaejnklgnegkhaaGreatDoor
namespace Go.Proofs.YtaejnklgnegkhaaGreatDoor
open Go.ChangeShapes Go.WideShapes Go.ChangeAt Go.RowKit Pt

set_option maxRecDepth 100000 in
theorem a2i_arg {H : Type} {enc : TypeId × Value → H} {W : World} {base : Nat} {v : Value} {d : DataW H} {p : List MemPlace} (hok : Value.okWide Tryz.prog W .any base 37 v) (h : DataW.Trod enc Tryz.prog W 0 (fun _ => true) true 37 v d p) : ∃ n0 n1 : Int, v = .agg #[.int .i64 n0, .int .i64 n1] ∧ I64 n0 ∧ I64 n1 := by
  have hc : Tryz.prog.cellsOf 37 = 2 := by kernel_rfl
  have hc1 : Tryz.prog.cellsOf 3 = 1 := by kernel_rfl
  simp only [Value.okWide, Tryz.underlying37] at hok
  obtain ⟨cs, rfl, hsz, _⟩ := hok
  obtain ⟨fuel, hf⟩ := h
  rw [hc] at hsz
  obtain ⟨x0, x1, rfl⟩ : ∃ x0 x1, cs = #[x0, x1] := by
    rcases cs with ⟨l⟩
    match l, hsz with
    | [x0, x1], _ => exact ⟨x0, x1, rfl⟩
  obtain ⟨xs, m, _, _, _, hlen, hf2⟩ := DataW.trod_array Tryz.underlying37 hf
  have h0 := hf2 0 (by decide)
  have h1 := hf2 1 (by decide)
  rw [hc1] at h0 h1
  match xs, hlen with
  | [y0, y1], _ =>
    obtain ⟨u0, e0, _, i0⟩ := DataW.trod_int Tryz.underlying3 (x := y0) (by simpa using h0)
    obtain ⟨u1, e1, _, i1⟩ := DataW.trod_int Tryz.underlying3 (x := y1) (by simpa using h1)
    simp [Value.cells] at e0 e1
    exact ⟨u0, u1, by rw [e0, e1], wf_i64 i0, wf_i64 i1⟩
set_option maxRecDepth 100000 in
theorem a2u8_arg {H : Type} {enc : TypeId × Value → H} {W : World} {base : Nat} {v : Value} {d : DataW H} {p : List MemPlace} (hok : Value.okWide Tryz.prog W .any base 43 v) (h : DataW.Trod enc Tryz.prog W 0 (fun _ => true) true 43 v d p) : ∃ n0 n1 : Nat, v = .agg #[.int .u8 (n0 : Int), .int .u8 (n1 : Int)] ∧ n0 ≤ 255 ∧ n1 ≤ 255 := by
  have hc : Tryz.prog.cellsOf 43 = 2 := by kernel_rfl
  have hc1 : Tryz.prog.cellsOf 5 = 1 := by kernel_rfl
  simp only [Value.okWide, Tryz.underlying43] at hok
  obtain ⟨cs, rfl, hsz, _⟩ := hok
  obtain ⟨fuel, hf⟩ := h
  rw [hc] at hsz
  obtain ⟨x0, x1, rfl⟩ : ∃ x0 x1, cs = #[x0, x1] := by
    rcases cs with ⟨l⟩
    match l, hsz with
    | [x0, x1], _ => exact ⟨x0, x1, rfl⟩
  obtain ⟨xs, m, _, _, _, hlen, hf2⟩ := DataW.trod_array Tryz.underlying43 hf
  have h0 := hf2 0 (by decide)
  have h1 := hf2 1 (by decide)
  rw [hc1] at h0 h1
  match xs, hlen with
  | [y0, y1], _ =>
    obtain ⟨u0, e0, _, i0⟩ := DataW.trod_int Tryz.underlying5 (x := y0) (by simpa using h0)
    obtain ⟨u1, e1, _, i1⟩ := DataW.trod_int Tryz.underlying5 (x := y1) (by simpa using h1)
    simp [Value.cells] at e0 e1
    obtain ⟨m0, rfl, hm0⟩ := wf_u8 i0
    obtain ⟨m1, rfl, hm1⟩ := wf_u8 i1
    exact ⟨m0, m1, by rw [e0, e1], hm0, hm1⟩
end Go.Proofs.YtaejnklgnegkhaaGreatDoor
namespace Go.Proofs.YtaejnklgnegkhaaGreatDoor
open Go.RowKit Pt Sh

theorem infoS : (Tryz.prog.info? 9).map (fun i => (i.zero, i.size, i.bytes)) = some (some (.string ⟨#[]⟩), 1, 16) := by kernel_rfl
/-- A slice of strings that the call owns. -/
def TF (w : World) (base : Nat) (v : Value) (ss : List ByteArray) : Prop := w.ownsRow base 9 1 v ss.length (ss.map Value.string)
theorem TF.kept {w w1 : World} {base : Nat} {v : Value} {l : List ByteArray} (h : TF w base v l) (hg : w.grownBy w1 none) : TF w1 base v l := World.ownsRow.kept h hg (by cases Value.ownBlock v <;> simp)
/-- A list of strings as a call left it. -/
def IsTs (w : World) (v : Value) (l : List ByteArray) : Prop := ∃ a c, v = .slice a l.length c ∧ (l.length = 0 ∨ ∃ g, a = some ⟨g, 0, none⟩ ∧ g < w.heap.size ∧ ∀ i (hi : i < l.length), w.cell? ⟨g, i, none⟩ = some (.string l[i]))
theorem IsTs.kept {w w1 : World} {v : Value} {l : List ByteArray} (h : IsTs w v l) (hg : w.grownBy w1 none) : IsTs w1 v l := by
  obtain ⟨a, c, rfl, h | ⟨g, rfl, hl, hc⟩⟩ := h
  · exact ⟨a, c, rfl, .inl h⟩
  · exact ⟨_, c, rfl, .inr ⟨g, rfl, Nat.lt_of_lt_of_le hl hg.size, fun i hi => by rw [(gcell hg).1 g i hl]; exact hc i hi⟩⟩
theorem TF.shape {w : World} {base : Nat} {v : Value} {l : List ByteArray} (h : TF w base v l) : IsTs w v l := by
  rcases h.2 with ⟨rfl, h0⟩ | ⟨g, cap, cur, rfl, _, hg, hle, _, hs, hx⟩
  · exact ⟨none, 0, by rw [show l.length = 0 from h0], .inl h0⟩
  · refine ⟨_, cap, rfl, .inr ⟨g, rfl, (Array.getElem?_eq_some_iff.mp hg).1, fun i hi => ?_⟩⟩
    rw [cell_of_row w g i _ _ (0, 0) hg]
    rw [← Array.getElem?_toList, ← List.getElem?_take_of_lt (show i < l.length * 1 by omega), hx, List.getElem?_map, List.getElem?_eq_getElem hi]
    rfl
theorem TF.apart {w : World} {base : Nat} {v : Value} {l : List ByteArray} (h : TF w base v l) {b : Nat} {cs : List Value} {t : TypeId} (hr : Row w b cs t) (ht : t ≠ 9) : some b ≠ v.ownBlock := by
  intro e
  rcases h.2 with ⟨rfl, h0⟩ | ⟨g, cap, cur, rfl, _, hg, hle, _, hs, hx⟩
  · exact absurd e (by simp [Value.ownBlock])
  · have hb : b = g := by simpa [Value.ownBlock] using e
    subst hb
    unfold Row at hr
    rw [hg] at hr
    simp only [Option.some.injEq, Obj.cells.injEq] at hr
    exact ht hr.2.1.symm
theorem app_s (w0 wr : World) (v : Value) (l : List ByteArray) (x : ByteArray) (hf : TF wr w0.heap.size v l) (hn : l.length ≤ 90000) (hg : w0.grownBy wr none) :
    ∃ v' w', (Builtin.append_ #[38, 38] 38 #[v, .slice (some ⟨wr.heap.size, 0, none⟩) 1 1]).run Tryz.prog (wr.alloc (.cells #[.string x] 9)) = .ok v' w' ∧ TF w' w0.heap.size v' (l ++ [x]) ∧ w0.grownBy w' none ∧ ∀ b cs t, Row wr b cs t → t ≠ 9 → Row w' b cs t := by
  obtain ⟨i0, hi, hz0, hz1, hz2⟩ := info_parts infoS
  obtain ⟨v', w', h1, h2, h3, _⟩ := run_append_own_at (P := Tryz.prog) (wr.alloc (.cells #[.string x] 9)) w0.heap.size 38 38 9 i0 (.string ⟨#[]⟩) 1 16 Tryz.underlying38 hi hz0 hz1 hz2 rfl (by decide) v l.length (l.map Value.string) (World.ownsRow.alloc hf _) ⟨wr.heap.size, 0, none⟩ 1 1 [.string x] (by rfl) (fun j u hj => by
    rw [addr_add, Nat.zero_add, cell_of_row _ _ j _ 9 (0, 0) (heap_alloc_new wr (.cells #[.string x] 9))]
    simpa using hj) (by
    intro u hu
    have : u = .string x := by simpa using hu
    subst this; rfl) (by unfold maxLen; omega) (by omega) (by have := hg.size; simp; omega)
  refine ⟨v', w', h1, ?_, gr_trans (gr_then hg (gr_alloc wr (.cells #[.string x] 9) none)) h3 (.inl rfl) (.inr (.inr (own_base hf))), fun b cs t hr ht => ?_⟩
  rotate_left
  · have hra : Row (wr.alloc (.cells #[.string x] 9)) b cs t := hr.al
    have hb := h3.block b hra.lt (hf.apart hr ht)
    unfold Row at hra ⊢
    rw [hb]; exact hra
  unfold TF
  rw [List.length_append, List.map_append]
  exact h2
theorem TF.one (w : World) (base : Nat) (x : ByteArray) (hb : base ≤ w.heap.size) : TF (w.alloc (.cells #[.string x] 9)) base (.slice (some ⟨w.heap.size, 0, none⟩) 1 1) [x] := ⟨rfl, .inr ⟨w.heap.size, 1, #[.string x], rfl, hb, heap_alloc_new w _, Nat.le_refl _, by unfold maxLen; omega, rfl, rfl⟩⟩
end Go.Proofs.YtaejnklgnegkhaaGreatDoor
namespace Go.Proofs.YtaejnklgnegkhaaGreatDoor
open Go.RowKit Pt Sh

/-- One of two numbers. -/
def pick2 (n0 n1 : Int) : Nat → Int
  | 0 => n0
  | _ => n1
theorem pick2_i64 {n0 n1 : Int} (h0 : I64 n0) (h1 : I64 n1) (k : Nat) : I64 (pick2 n0 n1 k) := by
  match k with
  | 0 => exact h0
  | _ + 1 => exact h1
theorem pick2_get {n0 n1 : Int} {k : Nat} (h : k < 2) : ([.int .i64 n0, .int .i64 n1] : List Value)[k]? = some (.int .i64 (pick2 n0 n1 k)) := by
  match k with
  | 0 => rfl
  | 1 => rfl
  | _ + 2 => omega
/-- Some texts, as a call leaves them. -/
def SomeTs (w : World) (e : Ending) (w' : World) : Prop := ∃ u l, e = .returned u ∧ IsTs w' u l ∧ l.length ≤ 7 ∧ (∀ x ∈ l, x.size ≤ 212) ∧ w.grownBy w' none
set_option maxRecDepth 100000 in
set_option maxHeartbeats 16000000 in
theorem texts_any (va vb : Value) (a : S5) (s : ByteArray) (n0 n1 : Int) (w : World) (hc : CaseA w va vb a s) (hn0 : I64 n0) (hn1 : I64 n1) : Calls Tryz.prog 19 #[vCase va vb a s, .agg #[.int .i64 n0, .int .i64 n1]] w (SomeTs w) := by
  have HSH := Lib.hid (fun (w0 : World) (g : w.grownBy w0 none) => shapes_any va vb a s w0 ⟨hc.1.kept g, hc.2.1.kept g, hc.2.2⟩)
  have hss := hc.2.2.2.2.2.2.2
  obtain ⟨k, hk⟩ : ∃ k, min s.size 30 = k := ⟨_, rfl⟩
  have hki : min (s.size : Int) 30 = (k : Int) := by omega
  have hk0 : (0 : Int) ≤ (k : Int) ∧ (k : Int) ≤ (s.size : Int) := by omega
  have sk := cut_size hk
  obtain ⟨x0, hx⟩ : ∃ x0, s.extract 0 k = x0 := ⟨_, rfl⟩
  rw [hx] at sk
  have HX := Lib.hid hx
  have HSK := Lib.hid sk
  obtain ⟨l, m, c, b, e⟩ := a
  have RC := (Row.new w [va, vb, .int .i64 l, .int .i64 m, .int .i64 c, .string b, .string e, .string s] 26).al (o := .cells #[.int .i64 n0, .int .i64 n1] 37)
  have RN := Row.new (w.alloc (.cells #[va, vb, .int .i64 l, .int .i64 m, .int .i64 c, .string b, .string e, .string s] 26)) [.int .i64 n0, .int .i64 n1] 37
  rw [World.size_alloc] at RN
  simp only [List.toArray] at RC RN
  obtain ⟨wa, hwa⟩ : ∃ wa, (w.alloc (.cells #[va, vb, .int .i64 l, .int .i64 m, .int .i64 c, .string b, .string e, .string s] 26)).alloc (.cells #[.int .i64 n0, .int .i64 n1] 37) = wa := ⟨_, rfl⟩
  have G0 := gr_then (gr_alloc w (.cells #[va, vb, .int .i64 l, .int .i64 m, .int .i64 c, .string b, .string e, .string s] 26) none) (gr_alloc _ (.cells #[.int .i64 n0, .int .i64 n1] 37) none)
  rw [hwa] at RC RN G0
  have HWA := Lib.hid hwa
  have HRC := Lib.hid RC
  have HRN := Lib.hid RN
  have HG0 := Lib.hid G0
  have HNN := Lib.hid (And.intro hn0 hn1)
  have c7 := RC.cell 7 _ rfl
  rw [← hwa] at c7
  clear hc RC RN hn0 hn1 hwa G0 hss hx sk hk
  go_enter Tryz.func19, Tryz.ntmps19
  go_wp2_with fail
  have hsz : wa.heap.size = w.heap.size + 1 + 1 := by rw [← HWA.out]; simp
  rw [HX.out, HWA.out]
  obtain ⟨wb, hwb⟩ : ∃ wb, wa.alloc (.cells #[.string x0] 9) = wb := ⟨_, rfl⟩
  have HT1 := Lib.hid (show TF wb w.heap.size (.slice (some ⟨w.heap.size + 1 + 1, 0, none⟩) 1 1) [x0] from by rw [← hwb, ← hsz]; exact TF.one wa w.heap.size x0 (by omega))
  have GB := Lib.hid (show w.grownBy wb none from by rw [← hwb]; exact gr_then HG0.out (gr_alloc _ _ _))
  have HRN1 := Lib.hid (show Row wb (w.heap.size + 1) [.int .i64 n0, .int .i64 n1] 37 from by rw [← hwb]; exact HRN.out.al)
  rw [hwb]
  clear hwb hsz HG0 HRN HRC HWA c7 HX
  refine (HSH.out _ GB.out).mono ?_
  rintro e2 w2 ⟨a0, a1, a2, a3, h0, h1, h2, h3, rfl, g2⟩
  have G2 := Lib.hid (gr_then GB.out g2)
  have HG := Lib.hid (fun i => pick_good h0 h1 h2 h3 i)
  obtain ⟨L, hL⟩ : ∃ L, w2.heap.size = L := ⟨_, rfl⟩
  have RA := Row.new w2 [.int .i64 0, .int .i64 0, .int .i64 0, .string ⟨#[]⟩, .string ⟨#[]⟩, .int .i64 0, .int .i64 0, .int .i64 0, .string ⟨#[]⟩, .string ⟨#[]⟩, .int .i64 0, .int .i64 0, .int .i64 0, .string ⟨#[]⟩, .string ⟨#[]⟩, .int .i64 0, .int .i64 0, .int .i64 0, .string ⟨#[]⟩, .string ⟨#[]⟩] 28
  simp only [List.toArray, hL] at RA
  obtain ⟨wd, hwd⟩ : ∃ wd, w2.alloc (.cells #[.int .i64 0, .int .i64 0, .int .i64 0, .string ⟨#[]⟩, .string ⟨#[]⟩, .int .i64 0, .int .i64 0, .int .i64 0, .string ⟨#[]⟩, .string ⟨#[]⟩, .int .i64 0, .int .i64 0, .int .i64 0, .string ⟨#[]⟩, .string ⟨#[]⟩, .int .i64 0, .int .i64 0, .int .i64 0, .string ⟨#[]⟩, .string ⟨#[]⟩] 28) = wd := ⟨_, rfl⟩
  rw [hwd] at RA
  have HWD := Lib.hid hwd
  have HRA := Lib.hid RA
  have GA := Lib.hid (show w.grownBy wd none from by rw [← hwd]; exact gr_then G2.out (gr_alloc _ _ _))
  have GAB := Lib.hid (show wb.grownBy wd none from by rw [← hwd]; exact gr_then g2 (gr_alloc _ _ _))
  have hLw : w.heap.size + 1 < L := by rw [← hL]; exact (HRN1.out.kept g2).lt
  have hLb : wb.heap.size ≤ L := by rw [← hL]; exact g2.size
  have HRNA := Lib.hid (show Row wd (w.heap.size + 1) [.int .i64 n0, .int .i64 n1] 37 from by rw [← hwd]; exact (HRN1.out.kept g2).al)
  have HLL := Lib.hid hL
  clear h0 h1 h2 h3 g2 G2 RA HSH hL hwd HRN1
  go_wp2_with ((refine wpList_store_row rfl 28 (.tmp 6) (.tmp 20) rfl w2.heap.size rfl (four a0 a1 a2 a3) rfl 28 [.int .i64 0, .int .i64 0, .int .i64 0, .string ⟨#[]⟩, .string ⟨#[]⟩, .int .i64 0, .int .i64 0, .int .i64 0, .string ⟨#[]⟩, .string ⟨#[]⟩, .int .i64 0, .int .i64 0, .int .i64 0, .string ⟨#[]⟩, .string ⟨#[]⟩, .int .i64 0, .int .i64 0, .int .i64 0, .string ⟨#[]⟩, .string ⟨#[]⟩] ?hstore (by kernel_rfl) rfl (by rfl) ?_))
  case hstore =>
    rw [HWD.out, HLL.out]
    exact HRA.out
  rw [HWD.out, HLL.out]
  have RL := HRA.out.put (cs' := four a0 a1 a2 a3)
  have GL := gr_put (cs' := (four a0 a1 a2 a3).toArray) GA.out (show w.heap.size ≤ L by omega)
  have GLB := gr_put (cs' := (four a0 a1 a2 a3).toArray) GAB.out hLb
  have RN := HRNA.out.oput (cs' := (four a0 a1 a2 a3).toArray) (show w.heap.size + 1 ≠ L by omega)
  obtain ⟨w3, hw3⟩ : ∃ w3, wd.setRow L (four a0 a1 a2 a3).toArray = w3 := ⟨_, rfl⟩
  rw [hw3] at RL GL RN GLB ⊢
  have HRL := Lib.hid RL
  have HRN3 := Lib.hid RN
  have G3 := Lib.hid GL
  have HT3 := Lib.hid (HT1.out.kept GLB)
  have HX0 := Lib.hid (show ∀ x ∈ [x0], x.size ≤ 212 from fun x hx => by
    have e : x = x0 := by simpa using hx
    have := HSK.out
    rw [e]; omega)
  clear RL GL RN GLB hw3 GA GAB HRA HWD HLL HRNA HT1 GB hLb
  go_loopw [5, 7] (fun out i wr => ∃ (I : Nat) (acc : List ByteArray), i = .int .i64 (I : Int) ∧ I ≤ 3 ∧ acc.length ≤ 1 + 2 * I ∧ Hid (TF wr w.heap.size out acc) ∧ Hid (∀ x ∈ acc, x.size ≤ 212) ∧ Hid (Row wr L (four a0 a1 a2 a3) 28) ∧ Hid (Row wr (w.heap.size + 1) [.int .i64 n0, .int .i64 n1] 37) ∧ Hid (w.grownBy wr none)) (fun _ i _ => 3 - (intOf i).toNat)
  case atStart => exact ⟨0, [x0], rfl, by omega, by simp, HT3, HX0, HRL, HRN3, G3⟩
  case round =>
    obtain ⟨I, acc0, rfl, hI, hacc0, HT0, HA0, HR0, HN0, GR0⟩ := hrel
    by_cases hI3 : I < 3
    rotate_left
    · have hIi : ¬ (I : Int) < 3 := by omega
      obtain ⟨oa, oc, rfl, _⟩ := HT0.out.shape
      go_wp2
      go_ret
      exact ⟨_, acc0, rfl, HT0.out.shape, by omega, HA0.out, GR0.out⟩
    have hIi : (I : Int) < 3 := by omega
    obtain ⟨wo, hwo⟩ : ∃ wo, wr = wo := ⟨_, rfl⟩
    rw [hwo] at HT0 HR0 HN0 GR0 ⊢
    clear hwo
    go_wp2_with fail
    go_loopw [5, 8] (fun out k wr => ∃ (K : Nat) (acc : List ByteArray), k = .int .i64 (K : Int) ∧ K ≤ 2 ∧ acc.length ≤ 1 + 2 * I + K ∧ Hid (TF wr w.heap.size out acc) ∧ Hid (∀ x ∈ acc, x.size ≤ 212) ∧ Hid (Row wr L (four a0 a1 a2 a3) 28) ∧ Hid (Row wr (w.heap.size + 1) [.int .i64 n0, .int .i64 n1] 37) ∧ Hid (w.grownBy wr none)) (fun _ k _ => 2 - (intOf k).toNat)
    case atStart => exact ⟨0, acc0, rfl, by omega, by omega, HT0, HA0, HR0, HN0, GR0⟩
    case round =>
      obtain ⟨K, acc, rfl, hK, hacc, HT, HA, HR, HN, GR⟩ := hrel
      obtain ⟨oa, oc, rfl, _⟩ := HT.out.shape
      by_cases hK3 : K < 2
      rotate_left
      · have hKi : ¬ (K : Int) < 2 := by omega
        go_wp2
        exact ⟨⟨I + 1, acc, by simp, by omega, by omega, HT, HA, HR, HN, GR⟩, by simp only [intOf]; omega⟩
      have hKi : (K : Int) < 2 := by omega
      have hI0 : (0 : Int) ≤ (I : Int) := by omega
      have hI4 : (I : Int) < 4 := by omega
      have hK0 : (0 : Int) ≤ (K : Int) := by omega
      have gx := HG.out I
      have gz := pick2_i64 HNN.out.1 HNN.out.2 K
      have HAX := Lib.hid (fun (w0 : World) (g : wr.grownBy w0 none) => at4 (HR.out.kept g) (show I < 4 by omega))
      have HAN := Lib.hid (fun (w0 : World) (g : wr.grownBy w0 none) => (HN.out.kept g).cell K _ (pick2_get hK3))
      generalize pick4 a0 a1 a2 a3 I = x at *
      generalize pick2 n0 n1 K = z at *
      have KSX := Lib.hid (fun w0 => rsample8_any x z w0 gx gz)
      clear gx gz
      obtain ⟨xl, xm, xc, xb, xe⟩ := x
      unfold At4 at HAX
      simp only at HAX
      have HK1 := Lib.hid (show ∀ w', wr.grownBy w' none → (w'.cell? ⟨L, I * 5, none⟩ = some (.int .i64 xl) ∧ w'.cell? ⟨L, I * 5 + 1, none⟩ = some (.int .i64 xm) ∧ w'.cell? ⟨L, I * 5 + 2, none⟩ = some (.int .i64 xc) ∧ w'.cell? ⟨L, I * 5 + 3, none⟩ = some (.string xb) ∧ w'.cell? ⟨L, I * 5 + 4, none⟩ = some (.string xe) ∧ w'.cell? ⟨w.heap.size + 1, K, none⟩ = some (.int .i64 z)) from fun w' h => ⟨(HAX.out w' h).1, (HAX.out w' h).2.1, (HAX.out w' h).2.2.1, (HAX.out w' h).2.2.2.1, (HAX.out w' h).2.2.2.2, HAN.out w' h⟩)
      go_wp2_with fail
      refine wp_region_held_drew (S := (fun w' => w'.cell? ⟨L, I * 5, none⟩ = some (.int .i64 xl) ∧ w'.cell? ⟨L, I * 5 + 1, none⟩ = some (.int .i64 xm) ∧ w'.cell? ⟨L, I * 5 + 2, none⟩ = some (.int .i64 xc) ∧ w'.cell? ⟨L, I * 5 + 3, none⟩ = some (.string xb) ∧ w'.cell? ⟨L, I * 5 + 4, none⟩ = some (.string xe) ∧ w'.cell? ⟨w.heap.size + 1, K, none⟩ = some (.int .i64 z))) (by kernel_rfl) ?_ (fun hHeld => ?_)
      · refine HK1.out _ ?_; (repeat (first | (with_reducible refine gr_dr ?_) | (with_reducible refine gr_then ?_ q1) | (with_reducible exact gr_rfl _)))
      refine wpAnyH_take (i := 0) (oi := _) (v := ?v1) rfl (by kernel_rfl) (by kernel_rfl) (by kernel_rfl) (fun _ _ _ h => h) (Or.inl ⟨by rfl, ?hy1⟩) (by assumption) ?rest1
      case hy1 => ((intro w hSw; (try dsimp only at hSw); go_simp); try (with_reducible rfl))
      ((try dsimp only [List.getElem_toArray, List.getElem_cons_succ, List.getElem_cons_zero]); try simp only [Act.put, List.setIfInBounds_toArray, List.set_cons_zero, List.set_cons_succ])
      refine wpAnyH_take (i := 1) (oi := _) (v := ?v2) rfl (by kernel_rfl) (by kernel_rfl) (by kernel_rfl) (fun _ _ _ h => h) (Or.inl ⟨by rfl, ?hy2⟩) (by assumption) ?rest2
      case hy2 => ((intro w hSw; (try dsimp only at hSw); go_simp); try (with_reducible rfl))
      ((try dsimp only [List.getElem_toArray, List.getElem_cons_succ, List.getElem_cons_zero]); try simp only [Act.put, List.setIfInBounds_toArray, List.set_cons_zero, List.set_cons_succ])
      refine wpAnyH_take (i := 2) (oi := _) (v := ?v3) rfl (by kernel_rfl) (by kernel_rfl) (by kernel_rfl) (fun _ _ _ h => h) (Or.inl ⟨by rfl, ?hy3⟩) (by assumption) ?rest3
      case hy3 => ((intro w hSw; (try dsimp only at hSw); go_simp); try (with_reducible rfl))
      ((try dsimp only [List.getElem_toArray, List.getElem_cons_succ, List.getElem_cons_zero]); try simp only [Act.put, List.setIfInBounds_toArray, List.set_cons_zero, List.set_cons_succ])
      refine wpAnyH_take (i := 3) (oi := _) (v := ?v4) rfl (by kernel_rfl) (by kernel_rfl) (by kernel_rfl) (fun _ _ _ h => h) (Or.inl ⟨by rfl, ?hy4⟩) (by assumption) ?rest4
      case hy4 => ((intro w hSw; (try dsimp only at hSw); go_simp); try (with_reducible rfl))
      ((try dsimp only [List.getElem_toArray, List.getElem_cons_succ, List.getElem_cons_zero]); try simp only [Act.put, List.setIfInBounds_toArray, List.set_cons_zero, List.set_cons_succ])
      refine wpAnyH_take (i := 4) (oi := _) (v := ?v5) rfl (by kernel_rfl) (by kernel_rfl) (by kernel_rfl) (fun _ _ _ h => h) (Or.inl ⟨by rfl, ?hy5⟩) (by assumption) ?rest5
      case hy5 => ((intro w hSw; (try dsimp only at hSw); go_simp); try (with_reducible rfl))
      ((try dsimp only [List.getElem_toArray, List.getElem_cons_succ, List.getElem_cons_zero]); try simp only [Act.put, List.setIfInBounds_toArray, List.set_cons_zero, List.set_cons_succ])
      refine wpAnyH_take (i := 5) (oi := _) (v := ?v6) rfl (by kernel_rfl) (by kernel_rfl) (by kernel_rfl) (fun _ _ _ h => h) (Or.inl ⟨by rfl, ?hy6⟩) (by assumption) ?rest6
      case hy6 => ((intro w hSw; (try dsimp only at hSw); go_simp); try (with_reducible rfl))
      ((try dsimp only [List.getElem_toArray, List.getElem_cons_succ, List.getElem_cons_zero]); try simp only [Act.put, List.setIfInBounds_toArray, List.set_cons_zero, List.set_cons_succ])
      refine wpAnyH_ready (rs := [6]) (by kernel_rfl) (by simp) ?_
      refine AllReadyH.cons (o := _) rfl (fun K hK => ?_) AllReadyH.nil
      go_simp
      go_at_call 10; (with_reducible refine (KSX.out _).mono ?_); rintro e1 u1 ⟨sx, ox, hsx, hix, rfl, q1⟩
      refine hK.out _ _ ?_ (fun hHeld => ?_)
      · (try dsimp only); refine HK1.out _ ?_; (repeat (first | (with_reducible refine gr_dr ?_) | (with_reducible refine gr_then ?_ q1) | (with_reducible exact gr_rfl _)))
      clear hK K
      ((try dsimp only [List.getElem_toArray, List.getElem_cons_succ, List.getElem_cons_zero]); try simp only [Act.put, List.setIfInBounds_toArray, List.set_cons_zero, List.set_cons_succ])
      refine wpAnyH_take (i := 7) (oi := _) (v := ?v7) rfl (by kernel_rfl) (by kernel_rfl) (by kernel_rfl) (fun _ _ _ h => h) (Or.inl ⟨by rfl, ?hy7⟩) (by assumption) ?rest7
      case hy7 => ((intro w hSw; (try dsimp only at hSw); go_simp); try (with_reducible rfl))
      ((try dsimp only [List.getElem_toArray, List.getElem_cons_succ, List.getElem_cons_zero]); try simp only [Act.put, List.setIfInBounds_toArray, List.set_cons_zero, List.set_cons_succ])
      refine wpAnyH_take (i := 8) (oi := _) (v := ?v8) rfl (by kernel_rfl) (by kernel_rfl) (by kernel_rfl) (fun _ _ _ h => h) (Or.inl ⟨by rfl, ?hy8⟩) (by assumption) ?rest8
      case hy8 => ((intro w hSw; (try dsimp only at hSw); go_simp); try (with_reducible rfl))
      ((try dsimp only [List.getElem_toArray, List.getElem_cons_succ, List.getElem_cons_zero]); try simp only [Act.put, List.setIfInBounds_toArray, List.set_cons_zero, List.set_cons_succ])
      refine wpAnyH_take (i := 9) (oi := _) (v := ?v9) rfl (by kernel_rfl) (by kernel_rfl) (by kernel_rfl) (fun _ _ _ h => h) (Or.inl ⟨by rfl, ?hy9⟩) (by assumption) ?rest9
      case hy9 => ((intro w hSw; (try dsimp only at hSw); go_simp); try (with_reducible rfl))
      ((try dsimp only [List.getElem_toArray, List.getElem_cons_succ, List.getElem_cons_zero]); try simp only [Act.put, List.setIfInBounds_toArray, List.set_cons_zero, List.set_cons_succ])
      refine wpAnyH_take (i := 10) (oi := _) (v := ?v10) rfl (by kernel_rfl) (by kernel_rfl) (by kernel_rfl) (fun _ _ _ h => h) (Or.inl ⟨by rfl, ?hy10⟩) (by assumption) ?rest10
      case hy10 => ((intro w hSw; (try dsimp only at hSw); go_simp); try (with_reducible rfl))
      ((try dsimp only [List.getElem_toArray, List.getElem_cons_succ, List.getElem_cons_zero]); try simp only [Act.put, List.setIfInBounds_toArray, List.set_cons_zero, List.set_cons_succ])
      refine wpAnyH_take (i := 11) (oi := _) (v := ?v11) rfl (by kernel_rfl) (by kernel_rfl) (by kernel_rfl) (fun _ _ _ h => h) (Or.inl ⟨by rfl, ?hy11⟩) (by assumption) ?rest11
      case hy11 => ((intro w hSw; (try dsimp only at hSw); go_simp); try (with_reducible rfl))
      ((try dsimp only [List.getElem_toArray, List.getElem_cons_succ, List.getElem_cons_zero]); try simp only [Act.put, List.setIfInBounds_toArray, List.set_cons_zero, List.set_cons_succ])
      refine wpAnyH_done (by kernel_rfl) ?_ _
      have GW := gr_then (gr_dr (gr_rfl wr)) q1
      have GU1 := Lib.hid (gr_then GR.out GW)
      have HT1 := Lib.hid (HT.out.kept GW)
      have HR1 := Lib.hid (HR.out.kept GW)
      have HN1 := Lib.hid (HN.out.kept GW)
      have HSX := Lib.hid hsx
      clear hsx hix q1 HK1 GW KSX HAX HAN hHeld
      cases ox
      · go_wp2
        exact ⟨⟨K + 1, acc, by simp, by omega, by omega, HT1, HA, HR1, HN1, GU1⟩, by simp only [intOf]; omega⟩
      · obtain ⟨v', w', r5, f5, g5, k5⟩ := app_s w u1 _ acc sx HT1.out (by omega) GU1.out
        have F5 := Lib.hid f5
        have G5 := Lib.hid g5
        have R5 := Lib.hid (k5 _ _ _ HR1.out (by decide))
        have N5 := Lib.hid (k5 _ _ _ HN1.out (by decide))
        have A5 := Lib.hid (show ∀ x ∈ acc ++ [sx], x.size ≤ 212 from fun x hx => by
          rcases List.mem_append.1 hx with h | h
          · exact HA.out x h
          · rw [List.mem_singleton.1 h]; exact HSX.out)
        clear f5 g5 k5
        go_wp2_with (at_builtin; refine wpList_call_append rfl (.tmp 40) (.tmp 42) 38 rfl _ _ rfl rfl _ _ r5 ?_)
        exact ⟨⟨K + 1, acc ++ [sx], by simp, by omega, by rw [List.length_append, List.length_singleton]; omega, F5, A5, R5, N5, G5⟩, by simp only [intOf]; omega⟩
end Go.Proofs.YtaejnklgnegkhaaGreatDoor
namespace Go.Proofs.YtaejnklgnegkhaaGreatDoor
open Go.RowKit Pt Sh
open List renaming getElem_toArray → gA, getElem_cons_succ → gB, getElem_cons_zero → gC, setIfInBounds_toArray → gD, set_cons_zero → gE, set_cons_succ → gF

theorem bool_yes {b : Bool} {P : Prop} (h : b = true ↔ P) (p : P) : b = true := h.2 p
theorem bool_no {b : Bool} {P : Prop} (h : b = true ↔ P) (p : ¬ P) : b = false := Bool.eq_false_iff.2 (fun q => p (h.1 q))
theorem not_of {P : Prop} (h : false = true ↔ P) : ¬ P := fun p => Bool.noConfusion (h.2 p)
theorem IsTs.at' {w : World} {oa : Option Addr} {oc : Nat} {l : List ByteArray} (h : IsTs w (.slice oa l.length oc) l) {i : Nat} (hi : i < l.length) : ∃ g, oa = some ⟨g, 0, none⟩ ∧ g < w.heap.size ∧ w.cell? ⟨g, i, none⟩ = some (.string l[i]) := by
  obtain ⟨a, c, e, h | ⟨g, rfl, hl, hc⟩⟩ := h
  · omega
  · simp only [Value.slice.injEq] at e
    exact ⟨g, e.1, hl, hc i hi⟩
set_option maxRecDepth 100000 in
set_option maxHeartbeats 16000000 in
theorem sets_true (va vb : Value) (a : S5) (s : ByteArray) (n0 n1 : Int) (w : World) (ht : TabP w) (hc : CaseA w va vb a s) (hn0 : I64 n0) (hn1 : I64 n1) : Calls Tryz.prog 4 #[vCase va vb a s, .agg #[.int .i64 n0, .int .i64 n1]] w fun e w' => e = .returned (.bool true) ∧ w.grownBy w' none := by
  have HS := Lib.hid (fun (w0 : World) (g : w.grownBy w0 none) => sanity8_any w0 (tabis_grown ht g))
  have HSH := Lib.hid (fun (w0 : World) (g : w.grownBy w0 none) => shapes_any va vb a s w0 ⟨hc.1.kept g, hc.2.1.kept g, hc.2.2⟩)
  have HTX := Lib.hid (fun (w0 : World) (g : w.grownBy w0 none) => texts_any va vb a s n0 n1 w0 ⟨hc.1.kept g, hc.2.1.kept g, hc.2.2⟩ hn0 hn1)
  obtain ⟨l, m, c, b, e⟩ := a
  have RC := (Row.new w [va, vb, .int .i64 l, .int .i64 m, .int .i64 c, .string b, .string e, .string s] 26).al (o := .cells #[.int .i64 n0, .int .i64 n1] 37)
  have RN := Row.new (w.alloc (.cells #[va, vb, .int .i64 l, .int .i64 m, .int .i64 c, .string b, .string e, .string s] 26)) [.int .i64 n0, .int .i64 n1] 37
  rw [World.size_alloc] at RN
  simp only [List.toArray] at RC RN
  have HRC := Lib.hid RC
  have HRN := Lib.hid RN
  have G0 := Lib.hid (gr_then (gr_alloc w (.cells #[va, vb, .int .i64 l, .int .i64 m, .int .i64 c, .string b, .string e, .string s] 26) none) (gr_alloc _ (.cells #[.int .i64 n0, .int .i64 n1] 37) none))
  clear ht hc RC RN hn0 hn1
  go_enter Tryz.func4, Tryz.ntmps4
  go_wp2_with fail
  refine (HS.out _ G0.out).mono ?_
  rintro e1 w1 ⟨rfl, g1⟩
  have RC1 := HRC.out.kept g1
  have HRN1 := Lib.hid (HRN.out.kept g1)
  have c0 := RC1.cell 0 _ rfl
  have c1 := RC1.cell 1 _ rfl
  have c2 := RC1.cell 2 _ rfl
  have c3 := RC1.cell 3 _ rfl
  have c4 := RC1.cell 4 _ rfl
  have c5 := RC1.cell 5 _ rfl
  have c6 := RC1.cell 6 _ rfl
  have c7 := RC1.cell 7 _ rfl
  have G1 := Lib.hid (gr_then G0.out g1)
  have HRC1 := Lib.hid RC1
  clear g1 G0 HRC HRN RC1 HS
  go_wp2_with fail
  refine (HSH.out _ G1.out).mono ?_
  rintro e2 w2 ⟨a0, a1, a2, a3, h0, h1, h2, h3, rfl, g2⟩
  have G2 := Lib.hid (gr_then G1.out g2)
  have HG := Lib.hid (fun i => pick_good h0 h1 h2 h3 i)
  obtain ⟨L, hL⟩ : ∃ L, w2.heap.size = L := ⟨_, rfl⟩
  have RA := Row.new w2 [.int .i64 0, .int .i64 0, .int .i64 0, .string ⟨#[]⟩, .string ⟨#[]⟩, .int .i64 0, .int .i64 0, .int .i64 0, .string ⟨#[]⟩, .string ⟨#[]⟩, .int .i64 0, .int .i64 0, .int .i64 0, .string ⟨#[]⟩, .string ⟨#[]⟩, .int .i64 0, .int .i64 0, .int .i64 0, .string ⟨#[]⟩, .string ⟨#[]⟩] 28
  simp only [List.toArray, hL] at RA
  obtain ⟨wa, hwa⟩ : ∃ wa, w2.alloc (.cells #[.int .i64 0, .int .i64 0, .int .i64 0, .string ⟨#[]⟩, .string ⟨#[]⟩, .int .i64 0, .int .i64 0, .int .i64 0, .string ⟨#[]⟩, .string ⟨#[]⟩, .int .i64 0, .int .i64 0, .int .i64 0, .string ⟨#[]⟩, .string ⟨#[]⟩, .int .i64 0, .int .i64 0, .int .i64 0, .string ⟨#[]⟩, .string ⟨#[]⟩] 28) = wa := ⟨_, rfl⟩
  rw [hwa] at RA
  have HWA := Lib.hid hwa
  have HRA := Lib.hid RA
  have GA := Lib.hid (show w.grownBy wa none from by rw [← hwa]; exact gr_then G2.out (gr_alloc _ _ _))
  have hLw : w.heap.size + 1 < L := by rw [← hL]; exact (HRN1.out.kept g2).lt
  have HRNA := Lib.hid (show Row wa (w.heap.size + 1) [.int .i64 n0, .int .i64 n1] 37 from by rw [← hwa]; exact (HRN1.out.kept g2).al)
  have HRCA := Lib.hid (show Row wa w.heap.size [va, vb, .int .i64 l, .int .i64 m, .int .i64 c, .string b, .string e, .string s] 26 from by rw [← hwa]; exact (HRC1.out.kept g2).al)
  have HLL := Lib.hid hL
  clear h0 h1 h2 h3 g2 G1 G2 RA HSH c0 c1 c2 c3 c4 c5 c6 c7 hL hwa HRN1 HRC1
  have RCs := HRCA.out.oput (cs' := (four a0 a1 a2 a3).toArray) (show w.heap.size ≠ L by omega)
  have RNs := HRNA.out.oput (cs' := (four a0 a1 a2 a3).toArray) (show w.heap.size + 1 ≠ L by omega)
  rw [← HWA.out, ← HLL.out] at RCs RNs
  have d0 := RNs.cell 0 _ rfl
  have d1 := RNs.cell 1 _ rfl
  have c0 := RCs.cell 0 _ rfl
  have c1 := RCs.cell 1 _ rfl
  have c2 := RCs.cell 2 _ rfl
  have c3 := RCs.cell 3 _ rfl
  have c4 := RCs.cell 4 _ rfl
  have c5 := RCs.cell 5 _ rfl
  have c6 := RCs.cell 6 _ rfl
  have c7 := RCs.cell 7 _ rfl
  clear RCs RNs
  go_wp2_with ((refine wpList_store_row rfl 28 (.tmp 6) (.tmp 18) rfl w2.heap.size rfl (four a0 a1 a2 a3) rfl 28 [.int .i64 0, .int .i64 0, .int .i64 0, .string ⟨#[]⟩, .string ⟨#[]⟩, .int .i64 0, .int .i64 0, .int .i64 0, .string ⟨#[]⟩, .string ⟨#[]⟩, .int .i64 0, .int .i64 0, .int .i64 0, .string ⟨#[]⟩, .string ⟨#[]⟩, .int .i64 0, .int .i64 0, .int .i64 0, .string ⟨#[]⟩, .string ⟨#[]⟩] ?hstore (by kernel_rfl) rfl (by rfl) ?_))
  case hstore =>
    rw [HWA.out, HLL.out]
    exact HRA.out
  rw [HWA.out, HLL.out]
  have RL := HRA.out.put (cs' := four a0 a1 a2 a3)
  have GL := gr_put (cs' := (four a0 a1 a2 a3).toArray) GA.out (show w.heap.size ≤ L by omega)
  obtain ⟨w3, hw3⟩ : ∃ w3, wa.setRow L (four a0 a1 a2 a3).toArray = w3 := ⟨_, rfl⟩
  rw [hw3] at RL GL ⊢
  have HRL := Lib.hid RL
  have G3 := Lib.hid GL
  clear RL GL hw3 GA HRA HWA HLL HRNA HRCA
  refine (HTX.out _ G3.out).mono ?_
  rintro e4 w4 ⟨u, tl, rfl, hts, htn, htz, g4⟩
  obtain ⟨oa, oc, rfl, hts2⟩ := id hts
  have HT4 := Lib.hid hts
  have HTZ := Lib.hid (And.intro htn htz)
  have HR4 := Lib.hid (HRL.out.kept g4)
  have G4 := Lib.hid (gr_then G3.out g4)
  clear c0 c1 c2 c3 c4 c5 c6 c7 d0 d1 hts hts2 htn htz g4 HRL G3 HTX
  go_wp2_with fail
  go_loopw [8] (fun i wr => ∃ I : Nat, i = .int .i64 (I : Int) ∧ I ≤ 3 ∧ Hid (Row wr L (four a0 a1 a2 a3) 28) ∧ Hid (IsTs wr (.slice oa tl.length oc) tl) ∧ Hid (w.grownBy wr none)) (fun i _ => 3 - (intOf i).toNat)
  case atStart => exact ⟨0, rfl, by omega, HR4, HT4, G4⟩
  case round =>
    obtain ⟨I, rfl, hI, HR0, HT0, GR0⟩ := hrel
    by_cases hI3 : I < 3
    rotate_left
    · have hIi : ¬ (I : Int) < 3 := by omega
      go_wp2
      go_ret
      exact ⟨rfl, GR0.out⟩
    have hIi : (I : Int) < 3 := by omega
    obtain ⟨wo, hwo⟩ : ∃ wo, wr = wo := ⟨_, rfl⟩
    rw [hwo] at HR0 HT0 GR0 ⊢
    clear hwo
    go_wp2_with fail
    go_loopw [9] (fun k wr => ∃ K : Nat, k = .int .i64 (K : Int) ∧ K ≤ 3 ∧ Hid (Row wr L (four a0 a1 a2 a3) 28) ∧ Hid (IsTs wr (.slice oa tl.length oc) tl) ∧ Hid (w.grownBy wr none)) (fun k _ => 3 - (intOf k).toNat)
    case atStart => exact ⟨0, rfl, by omega, HR0, HT0, GR0⟩
    case round =>
      obtain ⟨K, rfl, hK, HR, HT, GR⟩ := hrel
      by_cases hK3 : K < 3
      rotate_left
      · have hKi : ¬ (K : Int) < 3 := by omega
        go_wp2
        exact ⟨⟨I + 1, by simp, by omega, HR, HT, GR⟩, by simp only [intOf]; omega⟩
      have hKi : (K : Int) < 3 := by omega
      have hI0 : (0 : Int) ≤ (I : Int) := by omega
      have hI4 : (I : Int) < 4 := by omega
      have hK0 : (0 : Int) ≤ (K : Int) := by omega
      have hK4 : (K : Int) < 4 := by omega
      have gx := HG.out I
      have gy := HG.out K
      have HAX := Lib.hid (fun (w0 : World) (g : wr.grownBy w0 none) => at4 (HR.out.kept g) (show I < 4 by omega))
      have HAY := Lib.hid (fun (w0 : World) (g : wr.grownBy w0 none) => at4 (HR.out.kept g) (show K < 4 by omega))
      generalize pick4 a0 a1 a2 a3 I = x at *
      generalize pick4 a0 a1 a2 a3 K = y at *
      have KME := Lib.hid (fun w0 => meet_any x y w0 (Nat.le_trans gx.b (by decide)) (Nat.le_trans gx.e (by decide)) (Nat.le_trans gy.b (by decide)) (Nat.le_trans gy.e (by decide)))
      have KJO := Lib.hid (fun w0 => join_any x y w0 (Nat.le_trans gx.b (by decide)) (Nat.le_trans gx.e (by decide)) (Nat.le_trans gy.b (by decide)) (Nat.le_trans gy.e (by decide)))
      have KWI := Lib.hid (fun w0 => within_any x y w0 (Nat.le_trans gx.b (by decide)) (Nat.le_trans gx.e (by decide)) (Nat.le_trans gy.b (by decide)) (Nat.le_trans gy.e (by decide)))
      have KX := Lib.hid (fun (u : ByteArray) (h : u.size ≤ 1000) w0 => contains_any x u w0 (by omega))
      have KY := Lib.hid (fun (u : ByteArray) (h : u.size ≤ 1000) w0 => contains_any y u w0 (by omega))
      have KM := Lib.hid (fun (u : ByteArray) (h : u.size ≤ 1000) w0 => contains_any (meetD x y) u w0 (by omega))
      have KJ := Lib.hid (fun (u : ByteArray) (h : u.size ≤ 1000) w0 => contains_any (joinD x y) u w0 (by omega))
      have IM := Lib.hid (fun (p : List UInt8) => (in_meet : inD (meetD x y) p ↔ inD x p ∧ inD y p))
      have IJ := Lib.hid (fun (p : List UInt8) (h : inD x p ∨ inD y p) => (in_join h : inD (joinD x y) p))
      have IW := Lib.hid (fun (p : List UInt8) (h : withD x y) (q : inD x p) => in_within h q)
      clear gx gy
      generalize withD x y = wi at *
      generalize joinD x y = jn at *
      generalize meetD x y = mt at *
      obtain ⟨xl, xm, xc, xb, xe⟩ := x
      obtain ⟨yl, ym, yc, yb, ye⟩ := y
      obtain ⟨jl, jm, jc, jb, je⟩ := jn
      obtain ⟨ml, mm, mc, mb, me⟩ := mt
      unfold At4 at HAX HAY
      simp only at HAX HAY
      go_upto_region 10 with (fail)
      go_cut [10] from 30 to 108 (fun p wx => ∃ X, p = .pointer (some ⟨X, 0, none⟩) ∧ Row wx X (five ⟨ml, mm, mc, mb, me⟩) 24 ∧ wr.grownBy wx none)
      case first =>
        have HK3 := Lib.hid (show ∀ w', wr.grownBy w' none → (w'.cell? ⟨L, I * 5, none⟩ = some (.int .i64 xl) ∧ w'.cell? ⟨L, I * 5 + 1, none⟩ = some (.int .i64 xm) ∧ w'.cell? ⟨L, I * 5 + 2, none⟩ = some (.int .i64 xc) ∧ w'.cell? ⟨L, I * 5 + 3, none⟩ = some (.string xb) ∧ w'.cell? ⟨L, I * 5 + 4, none⟩ = some (.string xe) ∧ w'.cell? ⟨L, K * 5, none⟩ = some (.int .i64 yl) ∧ w'.cell? ⟨L, K * 5 + 1, none⟩ = some (.int .i64 ym) ∧ w'.cell? ⟨L, K * 5 + 2, none⟩ = some (.int .i64 yc) ∧ w'.cell? ⟨L, K * 5 + 3, none⟩ = some (.string yb) ∧ w'.cell? ⟨L, K * 5 + 4, none⟩ = some (.string ye)) from fun w' h => ⟨(HAX.out w' h).1, (HAX.out w' h).2.1, (HAX.out w' h).2.2.1, (HAX.out w' h).2.2.2.1, (HAX.out w' h).2.2.2.2, (HAY.out w' h).1, (HAY.out w' h).2.1, (HAY.out w' h).2.2.1, (HAY.out w' h).2.2.2.1, (HAY.out w' h).2.2.2.2⟩)
        go_region_held3 (fun w' => w'.cell? ⟨L, I * 5, none⟩ = some (.int .i64 xl) ∧ w'.cell? ⟨L, I * 5 + 1, none⟩ = some (.int .i64 xm) ∧ w'.cell? ⟨L, I * 5 + 2, none⟩ = some (.int .i64 xc) ∧ w'.cell? ⟨L, I * 5 + 3, none⟩ = some (.string xb) ∧ w'.cell? ⟨L, I * 5 + 4, none⟩ = some (.string xe) ∧ w'.cell? ⟨L, K * 5, none⟩ = some (.int .i64 yl) ∧ w'.cell? ⟨L, K * 5 + 1, none⟩ = some (.int .i64 ym) ∧ w'.cell? ⟨L, K * 5 + 2, none⟩ = some (.int .i64 yc) ∧ w'.cell? ⟨L, K * 5 + 3, none⟩ = some (.string yb) ∧ w'.cell? ⟨L, K * 5 + 4, none⟩ = some (.string ye)) ((refine HK3.out _ ?_; (repeat (first | (with_reducible refine gr_five ?_ (by first | omega | (simp; done) | (simp; omega))) | (with_reducible refine gr_al ?_) | (with_reducible refine gr_dr ?_) | (with_reducible refine gr_then ?_ ga) | (with_reducible exact gr_rfl _)))))
          (first | (go_at_call 20; (with_reducible refine (KME.out _).mono ?_); rintro e wa ⟨rfl, ga⟩; obtain ⟨hcA, hfA⟩ := gcell ga; have tA := ga.size; (try simp at tA); have sA : wr.heap.size ≤ wa.heap.size := (by omega); (try have eA1 : wr.heap.size < wa.heap.size := (by omega))))
        all_goals
          go_wp2_with fail
          go_meet
          clear hcA hfA
          refine ⟨_, rfl, ?_, ?_⟩
          · (repeat (first | ((with_reducible refine Row.at5 ?_); first | rfl | (simp; done) | omega) | (with_reducible refine Row.five (a0 := .int .i64 0) (a1 := .int .i64 0) (a2 := .int .i64 0) (a3 := .string ⟨#[]⟩) (a4 := .string ⟨#[]⟩) ?_) | (with_reducible refine Row.kept ?_ ga) | (with_reducible refine Row.al ?_) | (with_reducible refine Row.dr ?_)))
          · (repeat (first | (with_reducible refine gr_five ?_ (by first | omega | (simp; done) | (simp; omega))) | (with_reducible refine gr_al ?_) | (with_reducible refine gr_dr ?_) | (with_reducible refine gr_then ?_ ga) | (with_reducible exact gr_rfl _)))
      case rest =>
        obtain ⟨MB, rfl, RM, GM⟩ := hcut
        obtain ⟨w5, hw5⟩ : ∃ w5, wc = w5 := ⟨_, rfl⟩
        rw [hw5] at RM GM ⊢
        have HM5 := Lib.hid RM
        have HG5 := Lib.hid GM
        clear hw5 RM GM KME
        go_upto_region 11 with (fail)
        go_cut [11] from 37 to 108 (fun p wx => ∃ X, p = .pointer (some ⟨X, 0, none⟩) ∧ Row wx X (five ⟨jl, jm, jc, jb, je⟩) 24 ∧ w5.grownBy wx none)
        case first =>
          have HK3 := Lib.hid (show ∀ w', w5.grownBy w' none → (w'.cell? ⟨L, I * 5, none⟩ = some (.int .i64 xl) ∧ w'.cell? ⟨L, I * 5 + 1, none⟩ = some (.int .i64 xm) ∧ w'.cell? ⟨L, I * 5 + 2, none⟩ = some (.int .i64 xc) ∧ w'.cell? ⟨L, I * 5 + 3, none⟩ = some (.string xb) ∧ w'.cell? ⟨L, I * 5 + 4, none⟩ = some (.string xe) ∧ w'.cell? ⟨L, K * 5, none⟩ = some (.int .i64 yl) ∧ w'.cell? ⟨L, K * 5 + 1, none⟩ = some (.int .i64 ym) ∧ w'.cell? ⟨L, K * 5 + 2, none⟩ = some (.int .i64 yc) ∧ w'.cell? ⟨L, K * 5 + 3, none⟩ = some (.string yb) ∧ w'.cell? ⟨L, K * 5 + 4, none⟩ = some (.string ye)) from fun w' h => ⟨(HAX.out w' (gr_then HG5.out h)).1, (HAX.out w' (gr_then HG5.out h)).2.1, (HAX.out w' (gr_then HG5.out h)).2.2.1, (HAX.out w' (gr_then HG5.out h)).2.2.2.1, (HAX.out w' (gr_then HG5.out h)).2.2.2.2, (HAY.out w' (gr_then HG5.out h)).1, (HAY.out w' (gr_then HG5.out h)).2.1, (HAY.out w' (gr_then HG5.out h)).2.2.1, (HAY.out w' (gr_then HG5.out h)).2.2.2.1, (HAY.out w' (gr_then HG5.out h)).2.2.2.2⟩)
          go_region_held3 (fun w' => w'.cell? ⟨L, I * 5, none⟩ = some (.int .i64 xl) ∧ w'.cell? ⟨L, I * 5 + 1, none⟩ = some (.int .i64 xm) ∧ w'.cell? ⟨L, I * 5 + 2, none⟩ = some (.int .i64 xc) ∧ w'.cell? ⟨L, I * 5 + 3, none⟩ = some (.string xb) ∧ w'.cell? ⟨L, I * 5 + 4, none⟩ = some (.string xe) ∧ w'.cell? ⟨L, K * 5, none⟩ = some (.int .i64 yl) ∧ w'.cell? ⟨L, K * 5 + 1, none⟩ = some (.int .i64 ym) ∧ w'.cell? ⟨L, K * 5 + 2, none⟩ = some (.int .i64 yc) ∧ w'.cell? ⟨L, K * 5 + 3, none⟩ = some (.string yb) ∧ w'.cell? ⟨L, K * 5 + 4, none⟩ = some (.string ye)) ((refine HK3.out _ ?_; (repeat (first | (with_reducible refine gr_five ?_ (by first | omega | (simp; done) | (simp; omega))) | (with_reducible refine gr_al ?_) | (with_reducible refine gr_dr ?_) | (with_reducible refine gr_then ?_ ga) | (with_reducible exact gr_rfl _)))))
            (first | (go_at_call 21; (with_reducible refine (KJO.out _).mono ?_); rintro e wa ⟨rfl, ga⟩; obtain ⟨hcA, hfA⟩ := gcell ga; have tA := ga.size; (try simp at tA); have sA : w5.heap.size ≤ wa.heap.size := (by omega); (try have eA1 : w5.heap.size < wa.heap.size := (by omega))))
          all_goals
            go_wp2_with fail
            go_meet
            clear hcA hfA
            refine ⟨_, rfl, ?_, ?_⟩
            · (repeat (first | ((with_reducible refine Row.at5 ?_); first | rfl | (simp; done) | omega) | (with_reducible refine Row.five (a0 := .int .i64 0) (a1 := .int .i64 0) (a2 := .int .i64 0) (a3 := .string ⟨#[]⟩) (a4 := .string ⟨#[]⟩) ?_) | (with_reducible refine Row.kept ?_ ga) | (with_reducible refine Row.al ?_) | (with_reducible refine Row.dr ?_)))
            · (repeat (first | (with_reducible refine gr_five ?_ (by first | omega | (simp; done) | (simp; omega))) | (with_reducible refine gr_al ?_) | (with_reducible refine gr_dr ?_) | (with_reducible refine gr_then ?_ ga) | (with_reducible exact gr_rfl _)))
        case rest =>
          obtain ⟨JB, rfl, RJ, GJ⟩ := hcut
          obtain ⟨w6, hw6⟩ : ∃ w6, wc = w6 := ⟨_, rfl⟩
          rw [hw6] at RJ GJ ⊢
          have HJ6 := Lib.hid RJ
          have HM6 := Lib.hid (HM5.out.kept GJ)
          have HG6 := Lib.hid (gr_then HG5.out GJ)
          clear hw6 RJ GJ KJO HM5 HG5
          have HK4 := Lib.hid (show ∀ w', w6.grownBy w' none → (w'.cell? ⟨L, I * 5, none⟩ = some (.int .i64 xl) ∧ w'.cell? ⟨L, I * 5 + 1, none⟩ = some (.int .i64 xm) ∧ w'.cell? ⟨L, I * 5 + 2, none⟩ = some (.int .i64 xc) ∧ w'.cell? ⟨L, I * 5 + 3, none⟩ = some (.string xb) ∧ w'.cell? ⟨L, I * 5 + 4, none⟩ = some (.string xe) ∧ w'.cell? ⟨L, K * 5, none⟩ = some (.int .i64 yl) ∧ w'.cell? ⟨L, K * 5 + 1, none⟩ = some (.int .i64 ym) ∧ w'.cell? ⟨L, K * 5 + 2, none⟩ = some (.int .i64 yc) ∧ w'.cell? ⟨L, K * 5 + 3, none⟩ = some (.string yb) ∧ w'.cell? ⟨L, K * 5 + 4, none⟩ = some (.string ye)) from fun w' h => ⟨(HAX.out w' (gr_then HG6.out h)).1, (HAX.out w' (gr_then HG6.out h)).2.1, (HAX.out w' (gr_then HG6.out h)).2.2.1, (HAX.out w' (gr_then HG6.out h)).2.2.2.1, (HAX.out w' (gr_then HG6.out h)).2.2.2.2, (HAY.out w' (gr_then HG6.out h)).1, (HAY.out w' (gr_then HG6.out h)).2.1, (HAY.out w' (gr_then HG6.out h)).2.2.1, (HAY.out w' (gr_then HG6.out h)).2.2.2.1, (HAY.out w' (gr_then HG6.out h)).2.2.2.2⟩)
          go_wp2_with fail
          refine wp_region_held_drew (S := (fun w' => w'.cell? ⟨L, I * 5, none⟩ = some (.int .i64 xl) ∧ w'.cell? ⟨L, I * 5 + 1, none⟩ = some (.int .i64 xm) ∧ w'.cell? ⟨L, I * 5 + 2, none⟩ = some (.int .i64 xc) ∧ w'.cell? ⟨L, I * 5 + 3, none⟩ = some (.string xb) ∧ w'.cell? ⟨L, I * 5 + 4, none⟩ = some (.string xe) ∧ w'.cell? ⟨L, K * 5, none⟩ = some (.int .i64 yl) ∧ w'.cell? ⟨L, K * 5 + 1, none⟩ = some (.int .i64 ym) ∧ w'.cell? ⟨L, K * 5 + 2, none⟩ = some (.int .i64 yc) ∧ w'.cell? ⟨L, K * 5 + 3, none⟩ = some (.string yb) ∧ w'.cell? ⟨L, K * 5 + 4, none⟩ = some (.string ye))) (by kernel_rfl) ?_ (fun hHeld => ?_)
          · refine HK4.out _ ?_; (repeat (first | (with_reducible refine gr_dr ?_) | (with_reducible refine gr_then ?_ q1) | (with_reducible exact gr_rfl _)))
          refine wpAnyH_take (i := 0) (oi := _) (v := ?v1) rfl (by kernel_rfl) (by kernel_rfl) (by kernel_rfl) (fun _ _ _ h => h) (Or.inl ⟨by rfl, ?hy1⟩) (by assumption) ?rest1
          case hy1 => ((intro w hSw; (try dsimp only at hSw); go_simp); try (with_reducible rfl))
          ((try dsimp only [gA, gB, gC]); try simp only [Act.put, gD, gE, gF])
          refine wpAnyH_take (i := 1) (oi := _) (v := ?v2) rfl (by kernel_rfl) (by kernel_rfl) (by kernel_rfl) (fun _ _ _ h => h) (Or.inl ⟨by rfl, ?hy2⟩) (by assumption) ?rest2
          case hy2 => ((intro w hSw; (try dsimp only at hSw); go_simp); try (with_reducible rfl))
          ((try dsimp only [gA, gB, gC]); try simp only [Act.put, gD, gE, gF])
          refine wpAnyH_take (i := 2) (oi := _) (v := ?v3) rfl (by kernel_rfl) (by kernel_rfl) (by kernel_rfl) (fun _ _ _ h => h) (Or.inl ⟨by rfl, ?hy3⟩) (by assumption) ?rest3
          case hy3 => ((intro w hSw; (try dsimp only at hSw); go_simp); try (with_reducible rfl))
          ((try dsimp only [gA, gB, gC]); try simp only [Act.put, gD, gE, gF])
          refine wpAnyH_take (i := 3) (oi := _) (v := ?v4) rfl (by kernel_rfl) (by kernel_rfl) (by kernel_rfl) (fun _ _ _ h => h) (Or.inl ⟨by rfl, ?hy4⟩) (by assumption) ?rest4
          case hy4 => ((intro w hSw; (try dsimp only at hSw); go_simp); try (with_reducible rfl))
          ((try dsimp only [gA, gB, gC]); try simp only [Act.put, gD, gE, gF])
          refine wpAnyH_take (i := 4) (oi := _) (v := ?v5) rfl (by kernel_rfl) (by kernel_rfl) (by kernel_rfl) (fun _ _ _ h => h) (Or.inl ⟨by rfl, ?hy5⟩) (by assumption) ?rest5
          case hy5 => ((intro w hSw; (try dsimp only at hSw); go_simp); try (with_reducible rfl))
          ((try dsimp only [gA, gB, gC]); try simp only [Act.put, gD, gE, gF])
          refine wpAnyH_take (i := 5) (oi := _) (v := ?v6) rfl (by kernel_rfl) (by kernel_rfl) (by kernel_rfl) (fun _ _ _ h => h) (Or.inl ⟨by rfl, ?hy6⟩) (by assumption) ?rest6
          case hy6 => ((intro w hSw; (try dsimp only at hSw); go_simp); try (with_reducible rfl))
          ((try dsimp only [gA, gB, gC]); try simp only [Act.put, gD, gE, gF])
          refine wpAnyH_ready (rs := [6]) (by kernel_rfl) (by simp) ?_
          refine AllReadyH.cons (o := _) rfl (fun K hK => ?_) AllReadyH.nil
          go_simp
          go_at_call 22; (with_reducible refine (KWI.out _).mono ?_); rintro e1 w7 ⟨rw_, rfl, hrw, q1⟩
          refine hK.out _ _ ?_ (fun hHeld => ?_)
          · (try dsimp only); refine HK4.out _ ?_; (repeat (first | (with_reducible refine gr_dr ?_) | (with_reducible refine gr_then ?_ q1) | (with_reducible exact gr_rfl _)))
          clear hK K
          ((try dsimp only [gA, gB, gC]); try simp only [Act.put, gD, gE, gF])
          refine wpAnyH_take (i := 7) (oi := _) (v := ?v7) rfl (by kernel_rfl) (by kernel_rfl) (by kernel_rfl) (fun _ _ _ h => h) (Or.inl ⟨by rfl, ?hy7⟩) (by assumption) ?rest7
          case hy7 => ((intro w hSw; (try dsimp only at hSw); go_simp); try (with_reducible rfl))
          ((try dsimp only [gA, gB, gC]); try simp only [Act.put, gD, gE, gF])
          refine wpAnyH_done (by kernel_rfl) ?_ _
          have G67 := gr_then (gr_dr (gr_rfl w6)) q1
          have HG7 := Lib.hid (gr_then HG6.out G67)
          have HM7 := Lib.hid (HM6.out.kept G67)
          have HJ7 := Lib.hid (HJ6.out.kept G67)
          have HRW := Lib.hid hrw
          clear q1 G67 HM6 HJ6 HG6 HK4 hHeld hrw KWI
          go_wp2_with fail
          go_loopw [13] (fun j wx => ∃ J : Nat, j = .int .i64 (J : Int) ∧ J ≤ tl.length ∧ Hid (w7.grownBy wx none)) (fun j _ => tl.length - (intOf j).toNat)
          case atStart => exact ⟨0, rfl, Nat.zero_le _, Lib.hid (gr_rfl _)⟩
          case round =>
            obtain ⟨J, rfl, hJ, HGX⟩ := hrel
            have GRX := Lib.hid (gr_then HG7.out HGX.out)
            by_cases hJ3 : J < tl.length
            rotate_left
            · have hJi : ¬ (J : Int) < (tl.length : Int) := by omega
              go_wp2
              exact ⟨⟨K + 1, by simp, by omega, Lib.hid (HR.out.kept GRX.out), Lib.hid (HT.out.kept GRX.out), Lib.hid (gr_then GR.out GRX.out)⟩, by simp only [intOf]; omega⟩
            have hJi : (J : Int) < (tl.length : Int) := by omega
            have hJ0 : (0 : Int) ≤ (J : Int) := by omega
            obtain ⟨g, rfl, hgl, ct⟩ := (HT.out.kept GRX.out).at' hJ3
            have htz := HTZ.out.2 _ (List.getElem_mem hJ3)
            obtain ⟨tx, htx⟩ : ∃ tx, tl[J] = tx := ⟨_, rfl⟩
            rw [htx] at ct htz
            have HCT := Lib.hid (show ∀ w', wr.grownBy w' none → w'.cell? ⟨g, J, none⟩ = some (.string tx) from fun w' h => by rw [(gcell h).1 g J hgl]; exact ct)
            have K1 := Lib.hid (fun w0 => KX.out tx (by omega) w0)
            have K2 := Lib.hid (fun w0 => KY.out tx (by omega) w0)
            have K3 := Lib.hid (fun w0 => KM.out tx (by omega) w0)
            have K4 := Lib.hid (fun w0 => KJ.out tx (by omega) w0)
            have I1 := Lib.hid (IM.out tx.data.toList)
            have I2 := Lib.hid (IJ.out tx.data.toList)
            have I3 := Lib.hid (IW.out tx.data.toList)
            clear htz htx ct hgl
            have hn7i : (tl.length : Int) ≤ 7 := by have := HTZ.out.1; omega
            generalize hlen : tl.length = n at *
            have HK5 := Lib.hid (show ∀ w', wr.grownBy w' none → (w'.cell? ⟨L, I * 5, none⟩ = some (.int .i64 xl) ∧ w'.cell? ⟨L, I * 5 + 1, none⟩ = some (.int .i64 xm) ∧ w'.cell? ⟨L, I * 5 + 2, none⟩ = some (.int .i64 xc) ∧ w'.cell? ⟨L, I * 5 + 3, none⟩ = some (.string xb) ∧ w'.cell? ⟨L, I * 5 + 4, none⟩ = some (.string xe) ∧ w'.cell? ⟨g, J, none⟩ = some (.string tx)) from fun w' h => ⟨(HAX.out w' (gr_then GRX.out h)).1, (HAX.out w' (gr_then GRX.out h)).2.1, (HAX.out w' (gr_then GRX.out h)).2.2.1, (HAX.out w' (gr_then GRX.out h)).2.2.2.1, (HAX.out w' (gr_then GRX.out h)).2.2.2.2, HCT.out w' h⟩)
            go_wp2_with fail
            refine wp_region_held_drew (S := (fun w' => w'.cell? ⟨L, I * 5, none⟩ = some (.int .i64 xl) ∧ w'.cell? ⟨L, I * 5 + 1, none⟩ = some (.int .i64 xm) ∧ w'.cell? ⟨L, I * 5 + 2, none⟩ = some (.int .i64 xc) ∧ w'.cell? ⟨L, I * 5 + 3, none⟩ = some (.string xb) ∧ w'.cell? ⟨L, I * 5 + 4, none⟩ = some (.string xe) ∧ w'.cell? ⟨g, J, none⟩ = some (.string tx))) (by kernel_rfl) ?_ (fun hHeld => ?_)
            · refine HK5.out _ ?_; (repeat (first | (with_reducible refine gr_dr ?_) | (with_reducible refine gr_then ?_ q1) | (with_reducible exact gr_rfl _)))
            refine wpAnyH_take (i := 0) (oi := _) (v := ?v8) rfl (by kernel_rfl) (by kernel_rfl) (by kernel_rfl) (fun _ _ _ h => h) (Or.inl ⟨by rfl, ?hy8⟩) (by assumption) ?rest8
            case hy8 => ((intro w hSw; (try dsimp only at hSw); go_simp); try (with_reducible rfl))
            ((try dsimp only [gA, gB, gC]); try simp only [Act.put, gD, gE, gF])
            refine wpAnyH_take (i := 1) (oi := _) (v := ?v9) rfl (by kernel_rfl) (by kernel_rfl) (by kernel_rfl) (fun _ _ _ h => h) (Or.inl ⟨by rfl, ?hy9⟩) (by assumption) ?rest9
            case hy9 => ((intro w hSw; (try dsimp only at hSw); go_simp); try (with_reducible rfl))
            ((try dsimp only [gA, gB, gC]); try simp only [Act.put, gD, gE, gF])
            refine wpAnyH_take (i := 2) (oi := _) (v := ?v10) rfl (by kernel_rfl) (by kernel_rfl) (by kernel_rfl) (fun _ _ _ h => h) (Or.inl ⟨by rfl, ?hy10⟩) (by assumption) ?rest10
            case hy10 => ((intro w hSw; (try dsimp only at hSw); go_simp); try (with_reducible rfl))
            ((try dsimp only [gA, gB, gC]); try simp only [Act.put, gD, gE, gF])
            refine wpAnyH_take (i := 3) (oi := _) (v := ?v11) rfl (by kernel_rfl) (by kernel_rfl) (by kernel_rfl) (fun _ _ _ h => h) (Or.inl ⟨by rfl, ?hy11⟩) (by assumption) ?rest11
            case hy11 => ((intro w hSw; (try dsimp only at hSw); go_simp); try (with_reducible rfl))
            ((try dsimp only [gA, gB, gC]); try simp only [Act.put, gD, gE, gF])
            refine wpAnyH_take (i := 4) (oi := _) (v := ?v12) rfl (by kernel_rfl) (by kernel_rfl) (by kernel_rfl) (fun _ _ _ h => h) (Or.inl ⟨by rfl, ?hy12⟩) (by assumption) ?rest12
            case hy12 => ((intro w hSw; (try dsimp only at hSw); go_simp); try (with_reducible rfl))
            ((try dsimp only [gA, gB, gC]); try simp only [Act.put, gD, gE, gF])
            refine wpAnyH_take (i := 5) (oi := _) (v := ?v13) rfl (by kernel_rfl) (by kernel_rfl) (by kernel_rfl) (fun _ _ _ h => h) (Or.inl ⟨by rfl, ?hy13⟩) (by assumption) ?rest13
            case hy13 => ((intro w hSw; (try dsimp only at hSw); go_simp); try (with_reducible rfl))
            ((try dsimp only [gA, gB, gC]); try simp only [Act.put, gD, gE, gF])
            refine wpAnyH_take (i := 6) (oi := _) (v := ?v14) rfl (by kernel_rfl) (by kernel_rfl) (by kernel_rfl) (fun _ _ _ h => h) (Or.inl ⟨by rfl, ?hy14⟩) (by assumption) ?rest14
            case hy14 => ((intro w hSw; (try dsimp only at hSw); go_simp); try (with_reducible rfl))
            ((try dsimp only [gA, gB, gC]); try simp only [Act.put, gD, gE, gF])
            refine wpAnyH_ready (rs := [7]) (by kernel_rfl) (by simp) ?_
            refine AllReadyH.cons (o := _) rfl (fun K hK => ?_) AllReadyH.nil
            go_simp
            go_at_call 13; (with_reducible refine (K1.out _).mono ?_); rintro e1 u1 ⟨ra, rfl, hra, q1⟩
            refine hK.out _ _ ?_ (fun hHeld => ?_)
            · (try dsimp only); refine HK5.out _ ?_; (repeat (first | (with_reducible refine gr_dr ?_) | (with_reducible refine gr_then ?_ q1) | (with_reducible exact gr_rfl _)))
            clear hK K
            ((try dsimp only [gA, gB, gC]); try simp only [Act.put, gD, gE, gF])
            refine wpAnyH_take (i := 8) (oi := _) (v := ?v15) rfl (by kernel_rfl) (by kernel_rfl) (by kernel_rfl) (fun _ _ _ h => h) (Or.inl ⟨by rfl, ?hy15⟩) (by assumption) ?rest15
            case hy15 => ((intro w hSw; (try dsimp only at hSw); go_simp); try (with_reducible rfl))
            ((try dsimp only [gA, gB, gC]); try simp only [Act.put, gD, gE, gF])
            refine wpAnyH_done (by kernel_rfl) ?_ _
            have GU1 := Lib.hid (gr_then (gr_dr (gr_rfl wr)) q1)
            have HRA := Lib.hid hra
            clear q1 hra HK5 hHeld K1
            have HK6 := Lib.hid (show ∀ w', u1.grownBy w' none → (w'.cell? ⟨L, K * 5, none⟩ = some (.int .i64 yl) ∧ w'.cell? ⟨L, K * 5 + 1, none⟩ = some (.int .i64 ym) ∧ w'.cell? ⟨L, K * 5 + 2, none⟩ = some (.int .i64 yc) ∧ w'.cell? ⟨L, K * 5 + 3, none⟩ = some (.string yb) ∧ w'.cell? ⟨L, K * 5 + 4, none⟩ = some (.string ye) ∧ w'.cell? ⟨g, J, none⟩ = some (.string tx)) from fun w' h => ⟨(HAY.out w' (gr_then GRX.out (gr_then GU1.out h))).1, (HAY.out w' (gr_then GRX.out (gr_then GU1.out h))).2.1, (HAY.out w' (gr_then GRX.out (gr_then GU1.out h))).2.2.1, (HAY.out w' (gr_then GRX.out (gr_then GU1.out h))).2.2.2.1, (HAY.out w' (gr_then GRX.out (gr_then GU1.out h))).2.2.2.2, HCT.out w' (gr_then GU1.out h)⟩)
            go_wp2_with fail
            refine wp_region_held_drew (S := (fun w' => w'.cell? ⟨L, K * 5, none⟩ = some (.int .i64 yl) ∧ w'.cell? ⟨L, K * 5 + 1, none⟩ = some (.int .i64 ym) ∧ w'.cell? ⟨L, K * 5 + 2, none⟩ = some (.int .i64 yc) ∧ w'.cell? ⟨L, K * 5 + 3, none⟩ = some (.string yb) ∧ w'.cell? ⟨L, K * 5 + 4, none⟩ = some (.string ye) ∧ w'.cell? ⟨g, J, none⟩ = some (.string tx))) (by kernel_rfl) ?_ (fun hHeld => ?_)
            · refine HK6.out _ ?_; (repeat (first | (with_reducible refine gr_dr ?_) | (with_reducible refine gr_then ?_ q2) | (with_reducible exact gr_rfl _)))
            refine wpAnyH_take (i := 0) (oi := _) (v := ?v16) rfl (by kernel_rfl) (by kernel_rfl) (by kernel_rfl) (fun _ _ _ h => h) (Or.inl ⟨by rfl, ?hy16⟩) (by assumption) ?rest16
            case hy16 => ((intro w hSw; (try dsimp only at hSw); go_simp); try (with_reducible rfl))
            ((try dsimp only [gA, gB, gC]); try simp only [Act.put, gD, gE, gF])
            refine wpAnyH_take (i := 1) (oi := _) (v := ?v17) rfl (by kernel_rfl) (by kernel_rfl) (by kernel_rfl) (fun _ _ _ h => h) (Or.inl ⟨by rfl, ?hy17⟩) (by assumption) ?rest17
            case hy17 => ((intro w hSw; (try dsimp only at hSw); go_simp); try (with_reducible rfl))
            ((try dsimp only [gA, gB, gC]); try simp only [Act.put, gD, gE, gF])
            refine wpAnyH_take (i := 2) (oi := _) (v := ?v18) rfl (by kernel_rfl) (by kernel_rfl) (by kernel_rfl) (fun _ _ _ h => h) (Or.inl ⟨by rfl, ?hy18⟩) (by assumption) ?rest18
            case hy18 => ((intro w hSw; (try dsimp only at hSw); go_simp); try (with_reducible rfl))
            ((try dsimp only [gA, gB, gC]); try simp only [Act.put, gD, gE, gF])
            refine wpAnyH_take (i := 3) (oi := _) (v := ?v19) rfl (by kernel_rfl) (by kernel_rfl) (by kernel_rfl) (fun _ _ _ h => h) (Or.inl ⟨by rfl, ?hy19⟩) (by assumption) ?rest19
            case hy19 => ((intro w hSw; (try dsimp only at hSw); go_simp); try (with_reducible rfl))
            ((try dsimp only [gA, gB, gC]); try simp only [Act.put, gD, gE, gF])
            refine wpAnyH_take (i := 4) (oi := _) (v := ?v20) rfl (by kernel_rfl) (by kernel_rfl) (by kernel_rfl) (fun _ _ _ h => h) (Or.inl ⟨by rfl, ?hy20⟩) (by assumption) ?rest20
            case hy20 => ((intro w hSw; (try dsimp only at hSw); go_simp); try (with_reducible rfl))
            ((try dsimp only [gA, gB, gC]); try simp only [Act.put, gD, gE, gF])
            refine wpAnyH_take (i := 5) (oi := _) (v := ?v21) rfl (by kernel_rfl) (by kernel_rfl) (by kernel_rfl) (fun _ _ _ h => h) (Or.inl ⟨by rfl, ?hy21⟩) (by assumption) ?rest21
            case hy21 => ((intro w hSw; (try dsimp only at hSw); go_simp); try (with_reducible rfl))
            ((try dsimp only [gA, gB, gC]); try simp only [Act.put, gD, gE, gF])
            refine wpAnyH_take (i := 6) (oi := _) (v := ?v22) rfl (by kernel_rfl) (by kernel_rfl) (by kernel_rfl) (fun _ _ _ h => h) (Or.inl ⟨by rfl, ?hy22⟩) (by assumption) ?rest22
            case hy22 => ((intro w hSw; (try dsimp only at hSw); go_simp); try (with_reducible rfl))
            ((try dsimp only [gA, gB, gC]); try simp only [Act.put, gD, gE, gF])
            refine wpAnyH_ready (rs := [7]) (by kernel_rfl) (by simp) ?_
            refine AllReadyH.cons (o := _) rfl (fun K hK => ?_) AllReadyH.nil
            go_simp
            go_at_call 13; (with_reducible refine (K2.out _).mono ?_); rintro e1 u2 ⟨rb, rfl, hrb, q2⟩
            refine hK.out _ _ ?_ (fun hHeld => ?_)
            · (try dsimp only); refine HK6.out _ ?_; (repeat (first | (with_reducible refine gr_dr ?_) | (with_reducible refine gr_then ?_ q2) | (with_reducible exact gr_rfl _)))
            clear hK K
            ((try dsimp only [gA, gB, gC]); try simp only [Act.put, gD, gE, gF])
            refine wpAnyH_take (i := 8) (oi := _) (v := ?v23) rfl (by kernel_rfl) (by kernel_rfl) (by kernel_rfl) (fun _ _ _ h => h) (Or.inl ⟨by rfl, ?hy23⟩) (by assumption) ?rest23
            case hy23 => ((intro w hSw; (try dsimp only at hSw); go_simp); try (with_reducible rfl))
            ((try dsimp only [gA, gB, gC]); try simp only [Act.put, gD, gE, gF])
            refine wpAnyH_done (by kernel_rfl) ?_ _
            have GU2 := Lib.hid (gr_then GU1.out (gr_then (gr_dr (gr_rfl u1)) q2))
            have HRB := Lib.hid hrb
            clear q2 hrb HK6 hHeld K2
            have HK7 := Lib.hid (show ∀ w', u2.grownBy w' none → (w'.cell? ⟨MB, 0, none⟩ = some (.int .i64 ml) ∧ w'.cell? ⟨MB, 1, none⟩ = some (.int .i64 mm) ∧ w'.cell? ⟨MB, 2, none⟩ = some (.int .i64 mc) ∧ w'.cell? ⟨MB, 3, none⟩ = some (.string mb) ∧ w'.cell? ⟨MB, 4, none⟩ = some (.string me) ∧ w'.cell? ⟨JB, 0, none⟩ = some (.int .i64 jl) ∧ w'.cell? ⟨JB, 1, none⟩ = some (.int .i64 jm) ∧ w'.cell? ⟨JB, 2, none⟩ = some (.int .i64 jc) ∧ w'.cell? ⟨JB, 3, none⟩ = some (.string jb) ∧ w'.cell? ⟨JB, 4, none⟩ = some (.string je) ∧ w'.cell? ⟨g, J, none⟩ = some (.string tx)) from fun w' h => ⟨(HM7.out.kept (gr_then HGX.out (gr_then GU2.out h))).cell 0 _ rfl, (HM7.out.kept (gr_then HGX.out (gr_then GU2.out h))).cell 1 _ rfl, (HM7.out.kept (gr_then HGX.out (gr_then GU2.out h))).cell 2 _ rfl, (HM7.out.kept (gr_then HGX.out (gr_then GU2.out h))).cell 3 _ rfl, (HM7.out.kept (gr_then HGX.out (gr_then GU2.out h))).cell 4 _ rfl, (HJ7.out.kept (gr_then HGX.out (gr_then GU2.out h))).cell 0 _ rfl, (HJ7.out.kept (gr_then HGX.out (gr_then GU2.out h))).cell 1 _ rfl, (HJ7.out.kept (gr_then HGX.out (gr_then GU2.out h))).cell 2 _ rfl, (HJ7.out.kept (gr_then HGX.out (gr_then GU2.out h))).cell 3 _ rfl, (HJ7.out.kept (gr_then HGX.out (gr_then GU2.out h))).cell 4 _ rfl, HCT.out w' (gr_then GU2.out h)⟩)
            clear HCT GU1
            go_wp2_with fail
            cases ra
            · cases rb
              · cases rw_
                · refine wp_region_held_drew (S := (fun w' => w'.cell? ⟨MB, 0, none⟩ = some (.int .i64 ml) ∧ w'.cell? ⟨MB, 1, none⟩ = some (.int .i64 mm) ∧ w'.cell? ⟨MB, 2, none⟩ = some (.int .i64 mc) ∧ w'.cell? ⟨MB, 3, none⟩ = some (.string mb) ∧ w'.cell? ⟨MB, 4, none⟩ = some (.string me) ∧ w'.cell? ⟨JB, 0, none⟩ = some (.int .i64 jl) ∧ w'.cell? ⟨JB, 1, none⟩ = some (.int .i64 jm) ∧ w'.cell? ⟨JB, 2, none⟩ = some (.int .i64 jc) ∧ w'.cell? ⟨JB, 3, none⟩ = some (.string jb) ∧ w'.cell? ⟨JB, 4, none⟩ = some (.string je) ∧ w'.cell? ⟨g, J, none⟩ = some (.string tx))) (by kernel_rfl) ?_ (fun hHeld => ?_)
                  · refine HK7.out _ ?_; (repeat (first | (with_reducible refine gr_dr ?_) | (with_reducible refine gr_then ?_ q3) | (with_reducible exact gr_rfl _)))
                  refine wpAnyH_take (i := 0) (oi := _) (v := ?v24) rfl (by kernel_rfl) (by kernel_rfl) (by kernel_rfl) (fun _ _ _ h => h) (Or.inl ⟨by rfl, ?hy24⟩) (by assumption) ?rest24
                  case hy24 => ((intro w hSw; (try dsimp only at hSw); go_simp); try (with_reducible rfl))
                  ((try dsimp only [gA, gB, gC]); try simp only [Act.put, gD, gE, gF])
                  refine wpAnyH_take (i := 1) (oi := _) (v := ?v25) rfl (by kernel_rfl) (by kernel_rfl) (by kernel_rfl) (fun _ _ _ h => h) (Or.inl ⟨by rfl, ?hy25⟩) (by assumption) ?rest25
                  case hy25 => ((intro w hSw; (try dsimp only at hSw); go_simp); try (with_reducible rfl))
                  ((try dsimp only [gA, gB, gC]); try simp only [Act.put, gD, gE, gF])
                  refine wpAnyH_take (i := 2) (oi := _) (v := ?v26) rfl (by kernel_rfl) (by kernel_rfl) (by kernel_rfl) (fun _ _ _ h => h) (Or.inl ⟨by rfl, ?hy26⟩) (by assumption) ?rest26
                  case hy26 => ((intro w hSw; (try dsimp only at hSw); go_simp); try (with_reducible rfl))
                  ((try dsimp only [gA, gB, gC]); try simp only [Act.put, gD, gE, gF])
                  refine wpAnyH_take (i := 3) (oi := _) (v := ?v27) rfl (by kernel_rfl) (by kernel_rfl) (by kernel_rfl) (fun _ _ _ h => h) (Or.inl ⟨by rfl, ?hy27⟩) (by assumption) ?rest27
                  case hy27 => ((intro w hSw; (try dsimp only at hSw); go_simp); try (with_reducible rfl))
                  ((try dsimp only [gA, gB, gC]); try simp only [Act.put, gD, gE, gF])
                  refine wpAnyH_take (i := 4) (oi := _) (v := ?v28) rfl (by kernel_rfl) (by kernel_rfl) (by kernel_rfl) (fun _ _ _ h => h) (Or.inl ⟨by rfl, ?hy28⟩) (by assumption) ?rest28
                  case hy28 => ((intro w hSw; (try dsimp only at hSw); go_simp); try (with_reducible rfl))
                  ((try dsimp only [gA, gB, gC]); try simp only [Act.put, gD, gE, gF])
                  refine wpAnyH_take (i := 6) (oi := _) (v := ?v29) rfl (by kernel_rfl) (by kernel_rfl) (by kernel_rfl) (fun _ _ _ h => h) (Or.inl ⟨by rfl, ?hy29⟩) (by assumption) ?rest29
                  case hy29 => ((intro w hSw; (try dsimp only at hSw); go_simp); try (with_reducible rfl))
                  ((try dsimp only [gA, gB, gC]); try simp only [Act.put, gD, gE, gF])
                  refine wpAnyH_ready (rs := [5]) (by kernel_rfl) (by simp) ?_
                  refine AllReadyH.cons (o := _) rfl (fun K hK => ?_) AllReadyH.nil
                  go_simp
                  go_at_call 13; (with_reducible refine (K3.out _).mono ?_); rintro e1 u3 ⟨rm, rfl, hrm, q3⟩; obtain rfl : rm = false := bool_no hrm (fun h => not_of HRA.out (I1.out.1 h).1); clear hrm
                  refine hK.out _ _ ?_ (fun hHeld => ?_)
                  · (try dsimp only); refine HK7.out _ ?_; (repeat (first | (with_reducible refine gr_dr ?_) | (with_reducible refine gr_then ?_ q3) | (with_reducible exact gr_rfl _)))
                  clear hK K
                  ((try dsimp only [gA, gB, gC]); try simp only [Act.put, gD, gE, gF])
                  refine wpAnyH_take (i := 7) (oi := _) (v := ?v30) rfl (by kernel_rfl) (by kernel_rfl) (by kernel_rfl) (fun _ _ _ h => h) (Or.inl ⟨by rfl, ?hy30⟩) (by assumption) ?rest30
                  case hy30 => ((intro w hSw; (try dsimp only at hSw); go_simp); try (with_reducible rfl))
                  ((try dsimp only [gA, gB, gC]); try simp only [Act.put, gD, gE, gF])
                  refine wpAnyH_take (i := 8) (oi := _) (v := _) rfl (by kernel_rfl) (by kernel_rfl) (by kernel_rfl) (fun _ _ _ h => h) (Or.inr ⟨by rfl, rfl⟩) (by assumption) ?rest31
                  ((try dsimp only [gA, gB, gC]); try simp only [Act.put, gD, gE, gF])
                  refine wpAnyH_take (i := 9) (oi := _) (v := ?v32) rfl (by kernel_rfl) (by kernel_rfl) (by kernel_rfl) (fun _ _ _ h => h) (Or.inl ⟨by rfl, ?hy32⟩) (by assumption) ?rest32
                  case hy32 => ((intro w hSw; (try dsimp only at hSw); go_simp); try (with_reducible rfl))
                  ((try dsimp only [gA, gB, gC]); try simp only [Act.put, gD, gE, gF])
                  refine wpAnyH_take (i := 10) (oi := _) (v := ?v33) rfl (by kernel_rfl) (by kernel_rfl) (by kernel_rfl) (fun _ _ _ h => h) (Or.inl ⟨by rfl, ?hy33⟩) (by assumption) ?rest33
                  case hy33 => ((intro w hSw; (try dsimp only at hSw); go_simp); try (with_reducible rfl))
                  ((try dsimp only [gA, gB, gC]); try simp only [Act.put, gD, gE, gF])
                  refine wpAnyH_take (i := 11) (oi := _) (v := ?v34) rfl (by kernel_rfl) (by kernel_rfl) (by kernel_rfl) (fun _ _ _ h => h) (Or.inl ⟨by rfl, ?hy34⟩) (by assumption) ?rest34
                  case hy34 => ((intro w hSw; (try dsimp only at hSw); go_simp); try (with_reducible rfl))
                  ((try dsimp only [gA, gB, gC]); try simp only [Act.put, gD, gE, gF])
                  refine wpAnyH_take (i := 12) (oi := _) (v := ?v35) rfl (by kernel_rfl) (by kernel_rfl) (by kernel_rfl) (fun _ _ _ h => h) (Or.inl ⟨by rfl, ?hy35⟩) (by assumption) ?rest35
                  case hy35 => ((intro w hSw; (try dsimp only at hSw); go_simp); try (with_reducible rfl))
                  ((try dsimp only [gA, gB, gC]); try simp only [Act.put, gD, gE, gF])
                  refine wpAnyH_take (i := 13) (oi := _) (v := ?v36) rfl (by kernel_rfl) (by kernel_rfl) (by kernel_rfl) (fun _ _ _ h => h) (Or.inl ⟨by rfl, ?hy36⟩) (by assumption) ?rest36
                  case hy36 => ((intro w hSw; (try dsimp only at hSw); go_simp); try (with_reducible rfl))
                  ((try dsimp only [gA, gB, gC]); try simp only [Act.put, gD, gE, gF])
                  refine wpAnyH_take (i := 14) (oi := _) (v := ?v37) rfl (by kernel_rfl) (by kernel_rfl) (by kernel_rfl) (fun _ _ _ h => h) (Or.inl ⟨by rfl, ?hy37⟩) (by assumption) ?rest37
                  case hy37 => ((intro w hSw; (try dsimp only at hSw); go_simp); try (with_reducible rfl))
                  ((try dsimp only [gA, gB, gC]); try simp only [Act.put, gD, gE, gF])
                  refine wpAnyH_take (i := 15) (oi := _) (v := ?v38) rfl (by kernel_rfl) (by kernel_rfl) (by kernel_rfl) (fun _ _ _ h => h) (Or.inl ⟨by rfl, ?hy38⟩) (by assumption) ?rest38
                  case hy38 => ((intro w hSw; (try dsimp only at hSw); go_simp); try (with_reducible rfl))
                  ((try dsimp only [gA, gB, gC]); try simp only [Act.put, gD, gE, gF])
                  refine wpAnyH_take (i := 16) (oi := _) (v := ?v39) rfl (by kernel_rfl) (by kernel_rfl) (by kernel_rfl) (fun _ _ _ h => h) (Or.inl ⟨by rfl, ?hy39⟩) (by assumption) ?rest39
                  case hy39 => ((intro w hSw; (try dsimp only at hSw); go_simp); try (with_reducible rfl))
                  ((try dsimp only [gA, gB, gC]); try simp only [Act.put, gD, gE, gF])
                  refine wpAnyH_take (i := 17) (oi := _) (v := _) rfl (by kernel_rfl) (by kernel_rfl) (by kernel_rfl) (fun _ _ _ h => h) (Or.inr ⟨by rfl, rfl⟩) (by assumption) ?rest40
                  ((try dsimp only [gA, gB, gC]); try simp only [Act.put, gD, gE, gF])
                  refine wpAnyH_take (i := 18) (oi := _) (v := _) rfl (by kernel_rfl) (by kernel_rfl) (by kernel_rfl) (fun _ _ _ h => h) (Or.inr ⟨by rfl, rfl⟩) (by assumption) ?rest41
                  ((try dsimp only [gA, gB, gC]); try simp only [Act.put, gD, gE, gF])
                  refine wpAnyH_take (i := 19) (oi := _) (v := _) rfl (by kernel_rfl) (by kernel_rfl) (by kernel_rfl) (fun _ _ _ h => h) (Or.inr ⟨by rfl, rfl⟩) (by assumption) ?rest42
                  ((try dsimp only [gA, gB, gC]); try simp only [Act.put, gD, gE, gF])
                  refine wpAnyH_take (i := 20) (oi := _) (v := _) rfl (by kernel_rfl) (by kernel_rfl) (by kernel_rfl) (fun _ _ _ h => h) (Or.inr ⟨by rfl, rfl⟩) (by assumption) ?rest43
                  ((try dsimp only [gA, gB, gC]); try simp only [Act.put, gD, gE, gF])
                  refine wpAnyH_take (i := 21) (oi := _) (v := _) rfl (by kernel_rfl) (by kernel_rfl) (by kernel_rfl) (fun _ _ _ h => h) (Or.inr ⟨by rfl, rfl⟩) (by assumption) ?rest44
                  ((try dsimp only [gA, gB, gC]); try simp only [Act.put, gD, gE, gF])
                  refine wpAnyH_take (i := 22) (oi := _) (v := _) rfl (by kernel_rfl) (by kernel_rfl) (by kernel_rfl) (fun _ _ _ h => h) (Or.inr ⟨by rfl, rfl⟩) (by assumption) ?rest45
                  ((try dsimp only [gA, gB, gC]); try simp only [Act.put, gD, gE, gF])
                  refine wpAnyH_take (i := 23) (oi := _) (v := _) rfl (by kernel_rfl) (by kernel_rfl) (by kernel_rfl) (fun _ _ _ h => h) (Or.inr ⟨by rfl, rfl⟩) (by assumption) ?rest46
                  ((try dsimp only [gA, gB, gC]); try simp only [Act.put, gD, gE, gF])
                  refine wpAnyH_take (i := 24) (oi := _) (v := ?v47) rfl (by kernel_rfl) (by kernel_rfl) (by kernel_rfl) (fun _ _ _ h => h) (Or.inl ⟨by rfl, ?hy47⟩) (by assumption) ?rest47
                  case hy47 => ((intro w hSw; (try dsimp only at hSw); go_simp); try (with_reducible rfl))
                  ((try dsimp only [gA, gB, gC]); try simp only [Act.put, gD, gE, gF])
                  refine wpAnyH_take (i := 25) (oi := _) (v := ?v48) rfl (by kernel_rfl) (by kernel_rfl) (by kernel_rfl) (fun _ _ _ h => h) (Or.inl ⟨by rfl, ?hy48⟩) (by assumption) ?rest48
                  case hy48 => ((intro w hSw; (try dsimp only at hSw); go_simp); try (with_reducible rfl))
                  ((try dsimp only [gA, gB, gC]); try simp only [Act.put, gD, gE, gF])
                  refine wpAnyH_take (i := 26) (oi := _) (v := ?v49) rfl (by kernel_rfl) (by kernel_rfl) (by kernel_rfl) (fun _ _ _ h => h) (Or.inl ⟨by rfl, ?hy49⟩) (by assumption) ?rest49
                  case hy49 => ((intro w hSw; (try dsimp only at hSw); go_simp); try (with_reducible rfl))
                  ((try dsimp only [gA, gB, gC]); try simp only [Act.put, gD, gE, gF])
                  refine wpAnyH_take (i := 27) (oi := _) (v := ?v50) rfl (by kernel_rfl) (by kernel_rfl) (by kernel_rfl) (fun _ _ _ h => h) (Or.inl ⟨by rfl, ?hy50⟩) (by assumption) ?rest50
                  case hy50 => ((intro w hSw; (try dsimp only at hSw); go_simp); try (with_reducible rfl))
                  ((try dsimp only [gA, gB, gC]); try simp only [Act.put, gD, gE, gF])
                  refine wpAnyH_take (i := 28) (oi := _) (v := ?v51) rfl (by kernel_rfl) (by kernel_rfl) (by kernel_rfl) (fun _ _ _ h => h) (Or.inl ⟨by rfl, ?hy51⟩) (by assumption) ?rest51
                  case hy51 => ((intro w hSw; (try dsimp only at hSw); go_simp); try (with_reducible rfl))
                  ((try dsimp only [gA, gB, gC]); try simp only [Act.put, gD, gE, gF])
                  refine wpAnyH_take (i := 29) (oi := _) (v := _) rfl (by kernel_rfl) (by kernel_rfl) (by kernel_rfl) (fun _ _ _ h => h) (Or.inr ⟨by rfl, rfl⟩) (by assumption) ?rest52
                  ((try dsimp only [gA, gB, gC]); try simp only [Act.put, gD, gE, gF])
                  refine wpAnyH_take (i := 30) (oi := _) (v := ?v53) rfl (by kernel_rfl) (by kernel_rfl) (by kernel_rfl) (fun _ _ _ h => h) (Or.inl ⟨by rfl, ?hy53⟩) (by assumption) ?rest53
                  case hy53 => ((intro w hSw; (try dsimp only at hSw); go_simp); try (with_reducible rfl))
                  ((try dsimp only [gA, gB, gC]); try simp only [Act.put, gD, gE, gF])
                  refine wpAnyH_take (i := 31) (oi := _) (v := ?v54) rfl (by kernel_rfl) (by kernel_rfl) (by kernel_rfl) (fun _ _ _ h => h) (Or.inl ⟨by rfl, ?hy54⟩) (by assumption) ?rest54
                  case hy54 => ((intro w hSw; (try dsimp only at hSw); go_simp); try (with_reducible rfl))
                  ((try dsimp only [gA, gB, gC]); try simp only [Act.put, gD, gE, gF])
                  refine wpAnyH_take (i := 32) (oi := _) (v := _) rfl (by kernel_rfl) (by kernel_rfl) (by kernel_rfl) (fun _ _ _ h => h) (Or.inr ⟨by rfl, rfl⟩) (by assumption) ?rest55
                  ((try dsimp only [gA, gB, gC]); try simp only [Act.put, gD, gE, gF])
                  refine wpAnyH_take (i := 33) (oi := _) (v := _) rfl (by kernel_rfl) (by kernel_rfl) (by kernel_rfl) (fun _ _ _ h => h) (Or.inr ⟨by rfl, rfl⟩) (by assumption) ?rest56
                  ((try dsimp only [gA, gB, gC]); try simp only [Act.put, gD, gE, gF])
                  refine wpAnyH_take (i := 34) (oi := _) (v := ?v57) rfl (by kernel_rfl) (by kernel_rfl) (by kernel_rfl) (fun _ _ _ h => h) (Or.inl ⟨by rfl, ?hy57⟩) (by assumption) ?rest57
                  case hy57 => ((intro w hSw; (try dsimp only at hSw); go_simp); try (with_reducible rfl))
                  ((try dsimp only [gA, gB, gC]); try simp only [Act.put, gD, gE, gF])
                  refine wpAnyH_take (i := 35) (oi := _) (v := ?v58) rfl (by kernel_rfl) (by kernel_rfl) (by kernel_rfl) (fun _ _ _ h => h) (Or.inl ⟨by rfl, ?hy58⟩) (by assumption) ?rest58
                  case hy58 => ((intro w hSw; (try dsimp only at hSw); go_simp); try (with_reducible rfl))
                  ((try dsimp only [gA, gB, gC]); try simp only [Act.put, gD, gE, gF])
                  refine wpAnyH_done (by kernel_rfl) ?_ _
                  have GE := Lib.hid (show w7.grownBy u3 none from gr_then HGX.out (gr_then GU2.out (by (repeat (first | (with_reducible refine gr_dr ?_) | (with_reducible refine gr_then ?_ q3) | (with_reducible exact gr_rfl _))))))
                  clear hHeld HK7 q3
                  go_wp2
                  exact ⟨⟨J + 1, by simp, by omega, GE⟩, by simp only [intOf]; omega⟩
                · refine wp_region_held_drew (S := (fun w' => w'.cell? ⟨MB, 0, none⟩ = some (.int .i64 ml) ∧ w'.cell? ⟨MB, 1, none⟩ = some (.int .i64 mm) ∧ w'.cell? ⟨MB, 2, none⟩ = some (.int .i64 mc) ∧ w'.cell? ⟨MB, 3, none⟩ = some (.string mb) ∧ w'.cell? ⟨MB, 4, none⟩ = some (.string me) ∧ w'.cell? ⟨JB, 0, none⟩ = some (.int .i64 jl) ∧ w'.cell? ⟨JB, 1, none⟩ = some (.int .i64 jm) ∧ w'.cell? ⟨JB, 2, none⟩ = some (.int .i64 jc) ∧ w'.cell? ⟨JB, 3, none⟩ = some (.string jb) ∧ w'.cell? ⟨JB, 4, none⟩ = some (.string je) ∧ w'.cell? ⟨g, J, none⟩ = some (.string tx))) (by kernel_rfl) ?_ (fun hHeld => ?_)
                  · refine HK7.out _ ?_; (repeat (first | (with_reducible refine gr_dr ?_) | (with_reducible refine gr_then ?_ q3) | (with_reducible exact gr_rfl _)))
                  refine wpAnyH_take (i := 0) (oi := _) (v := ?v59) rfl (by kernel_rfl) (by kernel_rfl) (by kernel_rfl) (fun _ _ _ h => h) (Or.inl ⟨by rfl, ?hy59⟩) (by assumption) ?rest59
                  case hy59 => ((intro w hSw; (try dsimp only at hSw); go_simp); try (with_reducible rfl))
                  ((try dsimp only [gA, gB, gC]); try simp only [Act.put, gD, gE, gF])
                  refine wpAnyH_take (i := 1) (oi := _) (v := ?v60) rfl (by kernel_rfl) (by kernel_rfl) (by kernel_rfl) (fun _ _ _ h => h) (Or.inl ⟨by rfl, ?hy60⟩) (by assumption) ?rest60
                  case hy60 => ((intro w hSw; (try dsimp only at hSw); go_simp); try (with_reducible rfl))
                  ((try dsimp only [gA, gB, gC]); try simp only [Act.put, gD, gE, gF])
                  refine wpAnyH_take (i := 2) (oi := _) (v := ?v61) rfl (by kernel_rfl) (by kernel_rfl) (by kernel_rfl) (fun _ _ _ h => h) (Or.inl ⟨by rfl, ?hy61⟩) (by assumption) ?rest61
                  case hy61 => ((intro w hSw; (try dsimp only at hSw); go_simp); try (with_reducible rfl))
                  ((try dsimp only [gA, gB, gC]); try simp only [Act.put, gD, gE, gF])
                  refine wpAnyH_take (i := 3) (oi := _) (v := ?v62) rfl (by kernel_rfl) (by kernel_rfl) (by kernel_rfl) (fun _ _ _ h => h) (Or.inl ⟨by rfl, ?hy62⟩) (by assumption) ?rest62
                  case hy62 => ((intro w hSw; (try dsimp only at hSw); go_simp); try (with_reducible rfl))
                  ((try dsimp only [gA, gB, gC]); try simp only [Act.put, gD, gE, gF])
                  refine wpAnyH_take (i := 4) (oi := _) (v := ?v63) rfl (by kernel_rfl) (by kernel_rfl) (by kernel_rfl) (fun _ _ _ h => h) (Or.inl ⟨by rfl, ?hy63⟩) (by assumption) ?rest63
                  case hy63 => ((intro w hSw; (try dsimp only at hSw); go_simp); try (with_reducible rfl))
                  ((try dsimp only [gA, gB, gC]); try simp only [Act.put, gD, gE, gF])
                  refine wpAnyH_take (i := 6) (oi := _) (v := ?v64) rfl (by kernel_rfl) (by kernel_rfl) (by kernel_rfl) (fun _ _ _ h => h) (Or.inl ⟨by rfl, ?hy64⟩) (by assumption) ?rest64
                  case hy64 => ((intro w hSw; (try dsimp only at hSw); go_simp); try (with_reducible rfl))
                  ((try dsimp only [gA, gB, gC]); try simp only [Act.put, gD, gE, gF])
                  refine wpAnyH_ready (rs := [5]) (by kernel_rfl) (by simp) ?_
                  refine AllReadyH.cons (o := _) rfl (fun K hK => ?_) AllReadyH.nil
                  go_simp
                  go_at_call 13; (with_reducible refine (K3.out _).mono ?_); rintro e1 u3 ⟨rm, rfl, hrm, q3⟩; obtain rfl : rm = false := bool_no hrm (fun h => not_of HRA.out (I1.out.1 h).1); clear hrm
                  refine hK.out _ _ ?_ (fun hHeld => ?_)
                  · (try dsimp only); refine HK7.out _ ?_; (repeat (first | (with_reducible refine gr_dr ?_) | (with_reducible refine gr_then ?_ q3) | (with_reducible exact gr_rfl _)))
                  clear hK K
                  ((try dsimp only [gA, gB, gC]); try simp only [Act.put, gD, gE, gF])
                  refine wpAnyH_take (i := 7) (oi := _) (v := ?v65) rfl (by kernel_rfl) (by kernel_rfl) (by kernel_rfl) (fun _ _ _ h => h) (Or.inl ⟨by rfl, ?hy65⟩) (by assumption) ?rest65
                  case hy65 => ((intro w hSw; (try dsimp only at hSw); go_simp); try (with_reducible rfl))
                  ((try dsimp only [gA, gB, gC]); try simp only [Act.put, gD, gE, gF])
                  refine wpAnyH_take (i := 8) (oi := _) (v := _) rfl (by kernel_rfl) (by kernel_rfl) (by kernel_rfl) (fun _ _ _ h => h) (Or.inr ⟨by rfl, rfl⟩) (by assumption) ?rest66
                  ((try dsimp only [gA, gB, gC]); try simp only [Act.put, gD, gE, gF])
                  refine wpAnyH_take (i := 9) (oi := _) (v := ?v67) rfl (by kernel_rfl) (by kernel_rfl) (by kernel_rfl) (fun _ _ _ h => h) (Or.inl ⟨by rfl, ?hy67⟩) (by assumption) ?rest67
                  case hy67 => ((intro w hSw; (try dsimp only at hSw); go_simp); try (with_reducible rfl))
                  ((try dsimp only [gA, gB, gC]); try simp only [Act.put, gD, gE, gF])
                  refine wpAnyH_take (i := 10) (oi := _) (v := ?v68) rfl (by kernel_rfl) (by kernel_rfl) (by kernel_rfl) (fun _ _ _ h => h) (Or.inl ⟨by rfl, ?hy68⟩) (by assumption) ?rest68
                  case hy68 => ((intro w hSw; (try dsimp only at hSw); go_simp); try (with_reducible rfl))
                  ((try dsimp only [gA, gB, gC]); try simp only [Act.put, gD, gE, gF])
                  refine wpAnyH_take (i := 11) (oi := _) (v := ?v69) rfl (by kernel_rfl) (by kernel_rfl) (by kernel_rfl) (fun _ _ _ h => h) (Or.inl ⟨by rfl, ?hy69⟩) (by assumption) ?rest69
                  case hy69 => ((intro w hSw; (try dsimp only at hSw); go_simp); try (with_reducible rfl))
                  ((try dsimp only [gA, gB, gC]); try simp only [Act.put, gD, gE, gF])
                  refine wpAnyH_take (i := 12) (oi := _) (v := ?v70) rfl (by kernel_rfl) (by kernel_rfl) (by kernel_rfl) (fun _ _ _ h => h) (Or.inl ⟨by rfl, ?hy70⟩) (by assumption) ?rest70
                  case hy70 => ((intro w hSw; (try dsimp only at hSw); go_simp); try (with_reducible rfl))
                  ((try dsimp only [gA, gB, gC]); try simp only [Act.put, gD, gE, gF])
                  refine wpAnyH_take (i := 13) (oi := _) (v := ?v71) rfl (by kernel_rfl) (by kernel_rfl) (by kernel_rfl) (fun _ _ _ h => h) (Or.inl ⟨by rfl, ?hy71⟩) (by assumption) ?rest71
                  case hy71 => ((intro w hSw; (try dsimp only at hSw); go_simp); try (with_reducible rfl))
                  ((try dsimp only [gA, gB, gC]); try simp only [Act.put, gD, gE, gF])
                  refine wpAnyH_take (i := 14) (oi := _) (v := ?v72) rfl (by kernel_rfl) (by kernel_rfl) (by kernel_rfl) (fun _ _ _ h => h) (Or.inl ⟨by rfl, ?hy72⟩) (by assumption) ?rest72
                  case hy72 => ((intro w hSw; (try dsimp only at hSw); go_simp); try (with_reducible rfl))
                  ((try dsimp only [gA, gB, gC]); try simp only [Act.put, gD, gE, gF])
                  refine wpAnyH_take (i := 15) (oi := _) (v := ?v73) rfl (by kernel_rfl) (by kernel_rfl) (by kernel_rfl) (fun _ _ _ h => h) (Or.inl ⟨by rfl, ?hy73⟩) (by assumption) ?rest73
                  case hy73 => ((intro w hSw; (try dsimp only at hSw); go_simp); try (with_reducible rfl))
                  ((try dsimp only [gA, gB, gC]); try simp only [Act.put, gD, gE, gF])
                  refine wpAnyH_take (i := 16) (oi := _) (v := ?v74) rfl (by kernel_rfl) (by kernel_rfl) (by kernel_rfl) (fun _ _ _ h => h) (Or.inl ⟨by rfl, ?hy74⟩) (by assumption) ?rest74
                  case hy74 => ((intro w hSw; (try dsimp only at hSw); go_simp); try (with_reducible rfl))
                  ((try dsimp only [gA, gB, gC]); try simp only [Act.put, gD, gE, gF])
                  refine wpAnyH_take (i := 17) (oi := _) (v := _) rfl (by kernel_rfl) (by kernel_rfl) (by kernel_rfl) (fun _ _ _ h => h) (Or.inr ⟨by rfl, rfl⟩) (by assumption) ?rest75
                  ((try dsimp only [gA, gB, gC]); try simp only [Act.put, gD, gE, gF])
                  refine wpAnyH_take (i := 18) (oi := _) (v := _) rfl (by kernel_rfl) (by kernel_rfl) (by kernel_rfl) (fun _ _ _ h => h) (Or.inr ⟨by rfl, rfl⟩) (by assumption) ?rest76
                  ((try dsimp only [gA, gB, gC]); try simp only [Act.put, gD, gE, gF])
                  refine wpAnyH_take (i := 19) (oi := _) (v := _) rfl (by kernel_rfl) (by kernel_rfl) (by kernel_rfl) (fun _ _ _ h => h) (Or.inr ⟨by rfl, rfl⟩) (by assumption) ?rest77
                  ((try dsimp only [gA, gB, gC]); try simp only [Act.put, gD, gE, gF])
                  refine wpAnyH_take (i := 20) (oi := _) (v := _) rfl (by kernel_rfl) (by kernel_rfl) (by kernel_rfl) (fun _ _ _ h => h) (Or.inr ⟨by rfl, rfl⟩) (by assumption) ?rest78
                  ((try dsimp only [gA, gB, gC]); try simp only [Act.put, gD, gE, gF])
                  refine wpAnyH_take (i := 21) (oi := _) (v := _) rfl (by kernel_rfl) (by kernel_rfl) (by kernel_rfl) (fun _ _ _ h => h) (Or.inr ⟨by rfl, rfl⟩) (by assumption) ?rest79
                  ((try dsimp only [gA, gB, gC]); try simp only [Act.put, gD, gE, gF])
                  refine wpAnyH_take (i := 22) (oi := _) (v := _) rfl (by kernel_rfl) (by kernel_rfl) (by kernel_rfl) (fun _ _ _ h => h) (Or.inr ⟨by rfl, rfl⟩) (by assumption) ?rest80
                  ((try dsimp only [gA, gB, gC]); try simp only [Act.put, gD, gE, gF])
                  refine wpAnyH_take (i := 23) (oi := _) (v := _) rfl (by kernel_rfl) (by kernel_rfl) (by kernel_rfl) (fun _ _ _ h => h) (Or.inr ⟨by rfl, rfl⟩) (by assumption) ?rest81
                  ((try dsimp only [gA, gB, gC]); try simp only [Act.put, gD, gE, gF])
                  refine wpAnyH_take (i := 24) (oi := _) (v := ?v82) rfl (by kernel_rfl) (by kernel_rfl) (by kernel_rfl) (fun _ _ _ h => h) (Or.inl ⟨by rfl, ?hy82⟩) (by assumption) ?rest82
                  case hy82 => ((intro w hSw; (try dsimp only at hSw); go_simp); try (with_reducible rfl))
                  ((try dsimp only [gA, gB, gC]); try simp only [Act.put, gD, gE, gF])
                  refine wpAnyH_take (i := 25) (oi := _) (v := ?v83) rfl (by kernel_rfl) (by kernel_rfl) (by kernel_rfl) (fun _ _ _ h => h) (Or.inl ⟨by rfl, ?hy83⟩) (by assumption) ?rest83
                  case hy83 => ((intro w hSw; (try dsimp only at hSw); go_simp); try (with_reducible rfl))
                  ((try dsimp only [gA, gB, gC]); try simp only [Act.put, gD, gE, gF])
                  refine wpAnyH_take (i := 26) (oi := _) (v := ?v84) rfl (by kernel_rfl) (by kernel_rfl) (by kernel_rfl) (fun _ _ _ h => h) (Or.inl ⟨by rfl, ?hy84⟩) (by assumption) ?rest84
                  case hy84 => ((intro w hSw; (try dsimp only at hSw); go_simp); try (with_reducible rfl))
                  ((try dsimp only [gA, gB, gC]); try simp only [Act.put, gD, gE, gF])
                  refine wpAnyH_take (i := 27) (oi := _) (v := ?v85) rfl (by kernel_rfl) (by kernel_rfl) (by kernel_rfl) (fun _ _ _ h => h) (Or.inl ⟨by rfl, ?hy85⟩) (by assumption) ?rest85
                  case hy85 => ((intro w hSw; (try dsimp only at hSw); go_simp); try (with_reducible rfl))
                  ((try dsimp only [gA, gB, gC]); try simp only [Act.put, gD, gE, gF])
                  refine wpAnyH_take (i := 28) (oi := _) (v := ?v86) rfl (by kernel_rfl) (by kernel_rfl) (by kernel_rfl) (fun _ _ _ h => h) (Or.inl ⟨by rfl, ?hy86⟩) (by assumption) ?rest86
                  case hy86 => ((intro w hSw; (try dsimp only at hSw); go_simp); try (with_reducible rfl))
                  ((try dsimp only [gA, gB, gC]); try simp only [Act.put, gD, gE, gF])
                  refine wpAnyH_take (i := 29) (oi := _) (v := ?v87) rfl (by kernel_rfl) (by kernel_rfl) (by kernel_rfl) (fun _ _ _ h => h) (Or.inl ⟨by rfl, ?hy87⟩) (by assumption) ?rest87
                  case hy87 => ((intro w hSw; (try dsimp only at hSw); go_simp); try (with_reducible rfl))
                  ((try dsimp only [gA, gB, gC]); try simp only [Act.put, gD, gE, gF])
                  refine wpAnyH_take (i := 30) (oi := _) (v := ?v88) rfl (by kernel_rfl) (by kernel_rfl) (by kernel_rfl) (fun _ _ _ h => h) (Or.inl ⟨by rfl, ?hy88⟩) (by assumption) ?rest88
                  case hy88 => ((intro w hSw; (try dsimp only at hSw); go_simp); try (with_reducible rfl))
                  ((try dsimp only [gA, gB, gC]); try simp only [Act.put, gD, gE, gF])
                  refine wpAnyH_take (i := 31) (oi := _) (v := ?v89) rfl (by kernel_rfl) (by kernel_rfl) (by kernel_rfl) (fun _ _ _ h => h) (Or.inl ⟨by rfl, ?hy89⟩) (by assumption) ?rest89
                  case hy89 => ((intro w hSw; (try dsimp only at hSw); go_simp); try (with_reducible rfl))
                  ((try dsimp only [gA, gB, gC]); try simp only [Act.put, gD, gE, gF])
                  refine wpAnyH_take (i := 32) (oi := _) (v := _) rfl (by kernel_rfl) (by kernel_rfl) (by kernel_rfl) (fun _ _ _ h => h) (Or.inr ⟨by rfl, rfl⟩) (by assumption) ?rest90
                  ((try dsimp only [gA, gB, gC]); try simp only [Act.put, gD, gE, gF])
                  refine wpAnyH_take (i := 33) (oi := _) (v := _) rfl (by kernel_rfl) (by kernel_rfl) (by kernel_rfl) (fun _ _ _ h => h) (Or.inr ⟨by rfl, rfl⟩) (by assumption) ?rest91
                  ((try dsimp only [gA, gB, gC]); try simp only [Act.put, gD, gE, gF])
                  refine wpAnyH_take (i := 34) (oi := _) (v := ?v92) rfl (by kernel_rfl) (by kernel_rfl) (by kernel_rfl) (fun _ _ _ h => h) (Or.inl ⟨by rfl, ?hy92⟩) (by assumption) ?rest92
                  case hy92 => ((intro w hSw; (try dsimp only at hSw); go_simp); try (with_reducible rfl))
                  ((try dsimp only [gA, gB, gC]); try simp only [Act.put, gD, gE, gF])
                  refine wpAnyH_take (i := 35) (oi := _) (v := ?v93) rfl (by kernel_rfl) (by kernel_rfl) (by kernel_rfl) (fun _ _ _ h => h) (Or.inl ⟨by rfl, ?hy93⟩) (by assumption) ?rest93
                  case hy93 => ((intro w hSw; (try dsimp only at hSw); go_simp); try (with_reducible rfl))
                  ((try dsimp only [gA, gB, gC]); try simp only [Act.put, gD, gE, gF])
                  refine wpAnyH_done (by kernel_rfl) ?_ _
                  have GE := Lib.hid (show w7.grownBy u3 none from gr_then HGX.out (gr_then GU2.out (by (repeat (first | (with_reducible refine gr_dr ?_) | (with_reducible refine gr_then ?_ q3) | (with_reducible exact gr_rfl _))))))
                  clear hHeld HK7 q3
                  go_wp2
                  exact ⟨⟨J + 1, by simp, by omega, GE⟩, by simp only [intOf]; omega⟩
              · cases rw_
                · refine wp_region_held_drew (S := (fun w' => w'.cell? ⟨MB, 0, none⟩ = some (.int .i64 ml) ∧ w'.cell? ⟨MB, 1, none⟩ = some (.int .i64 mm) ∧ w'.cell? ⟨MB, 2, none⟩ = some (.int .i64 mc) ∧ w'.cell? ⟨MB, 3, none⟩ = some (.string mb) ∧ w'.cell? ⟨MB, 4, none⟩ = some (.string me) ∧ w'.cell? ⟨JB, 0, none⟩ = some (.int .i64 jl) ∧ w'.cell? ⟨JB, 1, none⟩ = some (.int .i64 jm) ∧ w'.cell? ⟨JB, 2, none⟩ = some (.int .i64 jc) ∧ w'.cell? ⟨JB, 3, none⟩ = some (.string jb) ∧ w'.cell? ⟨JB, 4, none⟩ = some (.string je) ∧ w'.cell? ⟨g, J, none⟩ = some (.string tx))) (by kernel_rfl) ?_ (fun hHeld => ?_)
                  · refine HK7.out _ ?_; (repeat (first | (with_reducible refine gr_dr ?_) | (with_reducible refine gr_then ?_ q3) | (with_reducible refine gr_then ?_ q4) | (with_reducible exact gr_rfl _)))
                  refine wpAnyH_take (i := 0) (oi := _) (v := ?v94) rfl (by kernel_rfl) (by kernel_rfl) (by kernel_rfl) (fun _ _ _ h => h) (Or.inl ⟨by rfl, ?hy94⟩) (by assumption) ?rest94
                  case hy94 => ((intro w hSw; (try dsimp only at hSw); go_simp); try (with_reducible rfl))
                  ((try dsimp only [gA, gB, gC]); try simp only [Act.put, gD, gE, gF])
                  refine wpAnyH_take (i := 1) (oi := _) (v := ?v95) rfl (by kernel_rfl) (by kernel_rfl) (by kernel_rfl) (fun _ _ _ h => h) (Or.inl ⟨by rfl, ?hy95⟩) (by assumption) ?rest95
                  case hy95 => ((intro w hSw; (try dsimp only at hSw); go_simp); try (with_reducible rfl))
                  ((try dsimp only [gA, gB, gC]); try simp only [Act.put, gD, gE, gF])
                  refine wpAnyH_take (i := 2) (oi := _) (v := ?v96) rfl (by kernel_rfl) (by kernel_rfl) (by kernel_rfl) (fun _ _ _ h => h) (Or.inl ⟨by rfl, ?hy96⟩) (by assumption) ?rest96
                  case hy96 => ((intro w hSw; (try dsimp only at hSw); go_simp); try (with_reducible rfl))
                  ((try dsimp only [gA, gB, gC]); try simp only [Act.put, gD, gE, gF])
                  refine wpAnyH_take (i := 3) (oi := _) (v := ?v97) rfl (by kernel_rfl) (by kernel_rfl) (by kernel_rfl) (fun _ _ _ h => h) (Or.inl ⟨by rfl, ?hy97⟩) (by assumption) ?rest97
                  case hy97 => ((intro w hSw; (try dsimp only at hSw); go_simp); try (with_reducible rfl))
                  ((try dsimp only [gA, gB, gC]); try simp only [Act.put, gD, gE, gF])
                  refine wpAnyH_take (i := 4) (oi := _) (v := ?v98) rfl (by kernel_rfl) (by kernel_rfl) (by kernel_rfl) (fun _ _ _ h => h) (Or.inl ⟨by rfl, ?hy98⟩) (by assumption) ?rest98
                  case hy98 => ((intro w hSw; (try dsimp only at hSw); go_simp); try (with_reducible rfl))
                  ((try dsimp only [gA, gB, gC]); try simp only [Act.put, gD, gE, gF])
                  refine wpAnyH_take (i := 6) (oi := _) (v := ?v99) rfl (by kernel_rfl) (by kernel_rfl) (by kernel_rfl) (fun _ _ _ h => h) (Or.inl ⟨by rfl, ?hy99⟩) (by assumption) ?rest99
                  case hy99 => ((intro w hSw; (try dsimp only at hSw); go_simp); try (with_reducible rfl))
                  ((try dsimp only [gA, gB, gC]); try simp only [Act.put, gD, gE, gF])
                  refine wpAnyH_ready (rs := [5]) (by kernel_rfl) (by simp) ?_
                  refine AllReadyH.cons (o := _) rfl (fun K hK => ?_) AllReadyH.nil
                  go_simp
                  go_at_call 13; (with_reducible refine (K3.out _).mono ?_); rintro e1 u3 ⟨rm, rfl, hrm, q3⟩; obtain rfl : rm = false := bool_no hrm (fun h => not_of HRA.out (I1.out.1 h).1); clear hrm
                  refine hK.out _ _ ?_ (fun hHeld => ?_)
                  · (try dsimp only); refine HK7.out _ ?_; (repeat (first | (with_reducible refine gr_dr ?_) | (with_reducible refine gr_then ?_ q3) | (with_reducible refine gr_then ?_ q4) | (with_reducible exact gr_rfl _)))
                  clear hK K
                  ((try dsimp only [gA, gB, gC]); try simp only [Act.put, gD, gE, gF])
                  refine wpAnyH_take (i := 7) (oi := _) (v := ?v100) rfl (by kernel_rfl) (by kernel_rfl) (by kernel_rfl) (fun _ _ _ h => h) (Or.inl ⟨by rfl, ?hy100⟩) (by assumption) ?rest100
                  case hy100 => ((intro w hSw; (try dsimp only at hSw); go_simp); try (with_reducible rfl))
                  ((try dsimp only [gA, gB, gC]); try simp only [Act.put, gD, gE, gF])
                  refine wpAnyH_take (i := 8) (oi := _) (v := _) rfl (by kernel_rfl) (by kernel_rfl) (by kernel_rfl) (fun _ _ _ h => h) (Or.inr ⟨by rfl, rfl⟩) (by assumption) ?rest101
                  ((try dsimp only [gA, gB, gC]); try simp only [Act.put, gD, gE, gF])
                  refine wpAnyH_take (i := 9) (oi := _) (v := ?v102) rfl (by kernel_rfl) (by kernel_rfl) (by kernel_rfl) (fun _ _ _ h => h) (Or.inl ⟨by rfl, ?hy102⟩) (by assumption) ?rest102
                  case hy102 => ((intro w hSw; (try dsimp only at hSw); go_simp); try (with_reducible rfl))
                  ((try dsimp only [gA, gB, gC]); try simp only [Act.put, gD, gE, gF])
                  refine wpAnyH_take (i := 10) (oi := _) (v := ?v103) rfl (by kernel_rfl) (by kernel_rfl) (by kernel_rfl) (fun _ _ _ h => h) (Or.inl ⟨by rfl, ?hy103⟩) (by assumption) ?rest103
                  case hy103 => ((intro w hSw; (try dsimp only at hSw); go_simp); try (with_reducible rfl))
                  ((try dsimp only [gA, gB, gC]); try simp only [Act.put, gD, gE, gF])
                  refine wpAnyH_take (i := 11) (oi := _) (v := ?v104) rfl (by kernel_rfl) (by kernel_rfl) (by kernel_rfl) (fun _ _ _ h => h) (Or.inl ⟨by rfl, ?hy104⟩) (by assumption) ?rest104
                  case hy104 => ((intro w hSw; (try dsimp only at hSw); go_simp); try (with_reducible rfl))
                  ((try dsimp only [gA, gB, gC]); try simp only [Act.put, gD, gE, gF])
                  refine wpAnyH_take (i := 12) (oi := _) (v := ?v105) rfl (by kernel_rfl) (by kernel_rfl) (by kernel_rfl) (fun _ _ _ h => h) (Or.inl ⟨by rfl, ?hy105⟩) (by assumption) ?rest105
                  case hy105 => ((intro w hSw; (try dsimp only at hSw); go_simp); try (with_reducible rfl))
                  ((try dsimp only [gA, gB, gC]); try simp only [Act.put, gD, gE, gF])
                  refine wpAnyH_take (i := 13) (oi := _) (v := ?v106) rfl (by kernel_rfl) (by kernel_rfl) (by kernel_rfl) (fun _ _ _ h => h) (Or.inl ⟨by rfl, ?hy106⟩) (by assumption) ?rest106
                  case hy106 => ((intro w hSw; (try dsimp only at hSw); go_simp); try (with_reducible rfl))
                  ((try dsimp only [gA, gB, gC]); try simp only [Act.put, gD, gE, gF])
                  refine wpAnyH_take (i := 14) (oi := _) (v := ?v107) rfl (by kernel_rfl) (by kernel_rfl) (by kernel_rfl) (fun _ _ _ h => h) (Or.inl ⟨by rfl, ?hy107⟩) (by assumption) ?rest107
                  case hy107 => ((intro w hSw; (try dsimp only at hSw); go_simp); try (with_reducible rfl))
                  ((try dsimp only [gA, gB, gC]); try simp only [Act.put, gD, gE, gF])
                  refine wpAnyH_take (i := 15) (oi := _) (v := ?v108) rfl (by kernel_rfl) (by kernel_rfl) (by kernel_rfl) (fun _ _ _ h => h) (Or.inl ⟨by rfl, ?hy108⟩) (by assumption) ?rest108
                  case hy108 => ((intro w hSw; (try dsimp only at hSw); go_simp); try (with_reducible rfl))
                  ((try dsimp only [gA, gB, gC]); try simp only [Act.put, gD, gE, gF])
                  refine wpAnyH_take (i := 16) (oi := _) (v := ?v109) rfl (by kernel_rfl) (by kernel_rfl) (by kernel_rfl) (fun _ _ _ h => h) (Or.inl ⟨by rfl, ?hy109⟩) (by assumption) ?rest109
                  case hy109 => ((intro w hSw; (try dsimp only at hSw); go_simp); try (with_reducible rfl))
                  ((try dsimp only [gA, gB, gC]); try simp only [Act.put, gD, gE, gF])
                  refine wpAnyH_take (i := 17) (oi := _) (v := ?v110) rfl (by kernel_rfl) (by kernel_rfl) (by kernel_rfl) (fun _ _ _ h => h) (Or.inl ⟨by rfl, ?hy110⟩) (by assumption) ?rest110
                  case hy110 => ((intro w hSw; (try dsimp only at hSw); go_simp); try (with_reducible rfl))
                  ((try dsimp only [gA, gB, gC]); try simp only [Act.put, gD, gE, gF])
                  refine wpAnyH_take (i := 18) (oi := _) (v := ?v111) rfl (by kernel_rfl) (by kernel_rfl) (by kernel_rfl) (fun _ _ _ h => h) (Or.inl ⟨by rfl, ?hy111⟩) (by assumption) ?rest111
                  case hy111 => ((intro w hSw; (try dsimp only at hSw); go_simp); try (with_reducible rfl))
                  ((try dsimp only [gA, gB, gC]); try simp only [Act.put, gD, gE, gF])
                  refine wpAnyH_take (i := 19) (oi := _) (v := ?v112) rfl (by kernel_rfl) (by kernel_rfl) (by kernel_rfl) (fun _ _ _ h => h) (Or.inl ⟨by rfl, ?hy112⟩) (by assumption) ?rest112
                  case hy112 => ((intro w hSw; (try dsimp only at hSw); go_simp); try (with_reducible rfl))
                  ((try dsimp only [gA, gB, gC]); try simp only [Act.put, gD, gE, gF])
                  refine wpAnyH_take (i := 20) (oi := _) (v := ?v113) rfl (by kernel_rfl) (by kernel_rfl) (by kernel_rfl) (fun _ _ _ h => h) (Or.inl ⟨by rfl, ?hy113⟩) (by assumption) ?rest113
                  case hy113 => ((intro w hSw; (try dsimp only at hSw); go_simp); try (with_reducible rfl))
                  ((try dsimp only [gA, gB, gC]); try simp only [Act.put, gD, gE, gF])
                  refine wpAnyH_take (i := 21) (oi := _) (v := ?v114) rfl (by kernel_rfl) (by kernel_rfl) (by kernel_rfl) (fun _ _ _ h => h) (Or.inl ⟨by rfl, ?hy114⟩) (by assumption) ?rest114
                  case hy114 => ((intro w hSw; (try dsimp only at hSw); go_simp); try (with_reducible rfl))
                  ((try dsimp only [gA, gB, gC]); try simp only [Act.put, gD, gE, gF])
                  refine wpAnyH_ready (rs := [22]) (by kernel_rfl) (by simp) ?_
                  refine AllReadyH.cons (o := _) rfl (fun K hK => ?_) AllReadyH.nil
                  go_simp
                  go_at_call 13; (with_reducible refine (K4.out _).mono ?_); rintro e1 u4 ⟨rj, rfl, hrj, q4⟩; obtain rfl : rj = true := bool_yes hrj (I2.out (.inr (HRB.out.1 rfl))); clear hrj
                  refine hK.out _ _ ?_ (fun hHeld => ?_)
                  · (try dsimp only); refine HK7.out _ ?_; (repeat (first | (with_reducible refine gr_dr ?_) | (with_reducible refine gr_then ?_ q3) | (with_reducible refine gr_then ?_ q4) | (with_reducible exact gr_rfl _)))
                  clear hK K
                  ((try dsimp only [gA, gB, gC]); try simp only [Act.put, gD, gE, gF])
                  refine wpAnyH_take (i := 23) (oi := _) (v := ?v115) rfl (by kernel_rfl) (by kernel_rfl) (by kernel_rfl) (fun _ _ _ h => h) (Or.inl ⟨by rfl, ?hy115⟩) (by assumption) ?rest115
                  case hy115 => ((intro w hSw; (try dsimp only at hSw); go_simp); try (with_reducible rfl))
                  ((try dsimp only [gA, gB, gC]); try simp only [Act.put, gD, gE, gF])
                  refine wpAnyH_take (i := 24) (oi := _) (v := ?v116) rfl (by kernel_rfl) (by kernel_rfl) (by kernel_rfl) (fun _ _ _ h => h) (Or.inl ⟨by rfl, ?hy116⟩) (by assumption) ?rest116
                  case hy116 => ((intro w hSw; (try dsimp only at hSw); go_simp); try (with_reducible rfl))
                  ((try dsimp only [gA, gB, gC]); try simp only [Act.put, gD, gE, gF])
                  refine wpAnyH_take (i := 25) (oi := _) (v := ?v117) rfl (by kernel_rfl) (by kernel_rfl) (by kernel_rfl) (fun _ _ _ h => h) (Or.inl ⟨by rfl, ?hy117⟩) (by assumption) ?rest117
                  case hy117 => ((intro w hSw; (try dsimp only at hSw); go_simp); try (with_reducible rfl))
                  ((try dsimp only [gA, gB, gC]); try simp only [Act.put, gD, gE, gF])
                  refine wpAnyH_take (i := 26) (oi := _) (v := ?v118) rfl (by kernel_rfl) (by kernel_rfl) (by kernel_rfl) (fun _ _ _ h => h) (Or.inl ⟨by rfl, ?hy118⟩) (by assumption) ?rest118
                  case hy118 => ((intro w hSw; (try dsimp only at hSw); go_simp); try (with_reducible rfl))
                  ((try dsimp only [gA, gB, gC]); try simp only [Act.put, gD, gE, gF])
                  refine wpAnyH_take (i := 27) (oi := _) (v := ?v119) rfl (by kernel_rfl) (by kernel_rfl) (by kernel_rfl) (fun _ _ _ h => h) (Or.inl ⟨by rfl, ?hy119⟩) (by assumption) ?rest119
                  case hy119 => ((intro w hSw; (try dsimp only at hSw); go_simp); try (with_reducible rfl))
                  ((try dsimp only [gA, gB, gC]); try simp only [Act.put, gD, gE, gF])
                  refine wpAnyH_take (i := 28) (oi := _) (v := ?v120) rfl (by kernel_rfl) (by kernel_rfl) (by kernel_rfl) (fun _ _ _ h => h) (Or.inl ⟨by rfl, ?hy120⟩) (by assumption) ?rest120
                  case hy120 => ((intro w hSw; (try dsimp only at hSw); go_simp); try (with_reducible rfl))
                  ((try dsimp only [gA, gB, gC]); try simp only [Act.put, gD, gE, gF])
                  refine wpAnyH_take (i := 29) (oi := _) (v := _) rfl (by kernel_rfl) (by kernel_rfl) (by kernel_rfl) (fun _ _ _ h => h) (Or.inr ⟨by rfl, rfl⟩) (by assumption) ?rest121
                  ((try dsimp only [gA, gB, gC]); try simp only [Act.put, gD, gE, gF])
                  refine wpAnyH_take (i := 30) (oi := _) (v := ?v122) rfl (by kernel_rfl) (by kernel_rfl) (by kernel_rfl) (fun _ _ _ h => h) (Or.inl ⟨by rfl, ?hy122⟩) (by assumption) ?rest122
                  case hy122 => ((intro w hSw; (try dsimp only at hSw); go_simp); try (with_reducible rfl))
                  ((try dsimp only [gA, gB, gC]); try simp only [Act.put, gD, gE, gF])
                  refine wpAnyH_take (i := 31) (oi := _) (v := ?v123) rfl (by kernel_rfl) (by kernel_rfl) (by kernel_rfl) (fun _ _ _ h => h) (Or.inl ⟨by rfl, ?hy123⟩) (by assumption) ?rest123
                  case hy123 => ((intro w hSw; (try dsimp only at hSw); go_simp); try (with_reducible rfl))
                  ((try dsimp only [gA, gB, gC]); try simp only [Act.put, gD, gE, gF])
                  refine wpAnyH_take (i := 32) (oi := _) (v := _) rfl (by kernel_rfl) (by kernel_rfl) (by kernel_rfl) (fun _ _ _ h => h) (Or.inr ⟨by rfl, rfl⟩) (by assumption) ?rest124
                  ((try dsimp only [gA, gB, gC]); try simp only [Act.put, gD, gE, gF])
                  refine wpAnyH_take (i := 33) (oi := _) (v := _) rfl (by kernel_rfl) (by kernel_rfl) (by kernel_rfl) (fun _ _ _ h => h) (Or.inr ⟨by rfl, rfl⟩) (by assumption) ?rest125
                  ((try dsimp only [gA, gB, gC]); try simp only [Act.put, gD, gE, gF])
                  refine wpAnyH_take (i := 34) (oi := _) (v := ?v126) rfl (by kernel_rfl) (by kernel_rfl) (by kernel_rfl) (fun _ _ _ h => h) (Or.inl ⟨by rfl, ?hy126⟩) (by assumption) ?rest126
                  case hy126 => ((intro w hSw; (try dsimp only at hSw); go_simp); try (with_reducible rfl))
                  ((try dsimp only [gA, gB, gC]); try simp only [Act.put, gD, gE, gF])
                  refine wpAnyH_take (i := 35) (oi := _) (v := ?v127) rfl (by kernel_rfl) (by kernel_rfl) (by kernel_rfl) (fun _ _ _ h => h) (Or.inl ⟨by rfl, ?hy127⟩) (by assumption) ?rest127
                  case hy127 => ((intro w hSw; (try dsimp only at hSw); go_simp); try (with_reducible rfl))
                  ((try dsimp only [gA, gB, gC]); try simp only [Act.put, gD, gE, gF])
                  refine wpAnyH_done (by kernel_rfl) ?_ _
                  have GE := Lib.hid (show w7.grownBy u4 none from gr_then HGX.out (gr_then GU2.out (by (repeat (first | (with_reducible refine gr_dr ?_) | (with_reducible refine gr_then ?_ q3) | (with_reducible refine gr_then ?_ q4) | (with_reducible exact gr_rfl _))))))
                  clear hHeld HK7 q3 q4
                  go_wp2
                  exact ⟨⟨J + 1, by simp, by omega, GE⟩, by simp only [intOf]; omega⟩
                · refine wp_region_held_drew (S := (fun w' => w'.cell? ⟨MB, 0, none⟩ = some (.int .i64 ml) ∧ w'.cell? ⟨MB, 1, none⟩ = some (.int .i64 mm) ∧ w'.cell? ⟨MB, 2, none⟩ = some (.int .i64 mc) ∧ w'.cell? ⟨MB, 3, none⟩ = some (.string mb) ∧ w'.cell? ⟨MB, 4, none⟩ = some (.string me) ∧ w'.cell? ⟨JB, 0, none⟩ = some (.int .i64 jl) ∧ w'.cell? ⟨JB, 1, none⟩ = some (.int .i64 jm) ∧ w'.cell? ⟨JB, 2, none⟩ = some (.int .i64 jc) ∧ w'.cell? ⟨JB, 3, none⟩ = some (.string jb) ∧ w'.cell? ⟨JB, 4, none⟩ = some (.string je) ∧ w'.cell? ⟨g, J, none⟩ = some (.string tx))) (by kernel_rfl) ?_ (fun hHeld => ?_)
                  · refine HK7.out _ ?_; (repeat (first | (with_reducible refine gr_dr ?_) | (with_reducible refine gr_then ?_ q3) | (with_reducible refine gr_then ?_ q4) | (with_reducible exact gr_rfl _)))
                  refine wpAnyH_take (i := 0) (oi := _) (v := ?v128) rfl (by kernel_rfl) (by kernel_rfl) (by kernel_rfl) (fun _ _ _ h => h) (Or.inl ⟨by rfl, ?hy128⟩) (by assumption) ?rest128
                  case hy128 => ((intro w hSw; (try dsimp only at hSw); go_simp); try (with_reducible rfl))
                  ((try dsimp only [gA, gB, gC]); try simp only [Act.put, gD, gE, gF])
                  refine wpAnyH_take (i := 1) (oi := _) (v := ?v129) rfl (by kernel_rfl) (by kernel_rfl) (by kernel_rfl) (fun _ _ _ h => h) (Or.inl ⟨by rfl, ?hy129⟩) (by assumption) ?rest129
                  case hy129 => ((intro w hSw; (try dsimp only at hSw); go_simp); try (with_reducible rfl))
                  ((try dsimp only [gA, gB, gC]); try simp only [Act.put, gD, gE, gF])
                  refine wpAnyH_take (i := 2) (oi := _) (v := ?v130) rfl (by kernel_rfl) (by kernel_rfl) (by kernel_rfl) (fun _ _ _ h => h) (Or.inl ⟨by rfl, ?hy130⟩) (by assumption) ?rest130
                  case hy130 => ((intro w hSw; (try dsimp only at hSw); go_simp); try (with_reducible rfl))
                  ((try dsimp only [gA, gB, gC]); try simp only [Act.put, gD, gE, gF])
                  refine wpAnyH_take (i := 3) (oi := _) (v := ?v131) rfl (by kernel_rfl) (by kernel_rfl) (by kernel_rfl) (fun _ _ _ h => h) (Or.inl ⟨by rfl, ?hy131⟩) (by assumption) ?rest131
                  case hy131 => ((intro w hSw; (try dsimp only at hSw); go_simp); try (with_reducible rfl))
                  ((try dsimp only [gA, gB, gC]); try simp only [Act.put, gD, gE, gF])
                  refine wpAnyH_take (i := 4) (oi := _) (v := ?v132) rfl (by kernel_rfl) (by kernel_rfl) (by kernel_rfl) (fun _ _ _ h => h) (Or.inl ⟨by rfl, ?hy132⟩) (by assumption) ?rest132
                  case hy132 => ((intro w hSw; (try dsimp only at hSw); go_simp); try (with_reducible rfl))
                  ((try dsimp only [gA, gB, gC]); try simp only [Act.put, gD, gE, gF])
                  refine wpAnyH_take (i := 6) (oi := _) (v := ?v133) rfl (by kernel_rfl) (by kernel_rfl) (by kernel_rfl) (fun _ _ _ h => h) (Or.inl ⟨by rfl, ?hy133⟩) (by assumption) ?rest133
                  case hy133 => ((intro w hSw; (try dsimp only at hSw); go_simp); try (with_reducible rfl))
                  ((try dsimp only [gA, gB, gC]); try simp only [Act.put, gD, gE, gF])
                  refine wpAnyH_ready (rs := [5]) (by kernel_rfl) (by simp) ?_
                  refine AllReadyH.cons (o := _) rfl (fun K hK => ?_) AllReadyH.nil
                  go_simp
                  go_at_call 13; (with_reducible refine (K3.out _).mono ?_); rintro e1 u3 ⟨rm, rfl, hrm, q3⟩; obtain rfl : rm = false := bool_no hrm (fun h => not_of HRA.out (I1.out.1 h).1); clear hrm
                  refine hK.out _ _ ?_ (fun hHeld => ?_)
                  · (try dsimp only); refine HK7.out _ ?_; (repeat (first | (with_reducible refine gr_dr ?_) | (with_reducible refine gr_then ?_ q3) | (with_reducible refine gr_then ?_ q4) | (with_reducible exact gr_rfl _)))
                  clear hK K
                  ((try dsimp only [gA, gB, gC]); try simp only [Act.put, gD, gE, gF])
                  refine wpAnyH_take (i := 7) (oi := _) (v := ?v134) rfl (by kernel_rfl) (by kernel_rfl) (by kernel_rfl) (fun _ _ _ h => h) (Or.inl ⟨by rfl, ?hy134⟩) (by assumption) ?rest134
                  case hy134 => ((intro w hSw; (try dsimp only at hSw); go_simp); try (with_reducible rfl))
                  ((try dsimp only [gA, gB, gC]); try simp only [Act.put, gD, gE, gF])
                  refine wpAnyH_take (i := 8) (oi := _) (v := _) rfl (by kernel_rfl) (by kernel_rfl) (by kernel_rfl) (fun _ _ _ h => h) (Or.inr ⟨by rfl, rfl⟩) (by assumption) ?rest135
                  ((try dsimp only [gA, gB, gC]); try simp only [Act.put, gD, gE, gF])
                  refine wpAnyH_take (i := 9) (oi := _) (v := ?v136) rfl (by kernel_rfl) (by kernel_rfl) (by kernel_rfl) (fun _ _ _ h => h) (Or.inl ⟨by rfl, ?hy136⟩) (by assumption) ?rest136
                  case hy136 => ((intro w hSw; (try dsimp only at hSw); go_simp); try (with_reducible rfl))
                  ((try dsimp only [gA, gB, gC]); try simp only [Act.put, gD, gE, gF])
                  refine wpAnyH_take (i := 10) (oi := _) (v := ?v137) rfl (by kernel_rfl) (by kernel_rfl) (by kernel_rfl) (fun _ _ _ h => h) (Or.inl ⟨by rfl, ?hy137⟩) (by assumption) ?rest137
                  case hy137 => ((intro w hSw; (try dsimp only at hSw); go_simp); try (with_reducible rfl))
                  ((try dsimp only [gA, gB, gC]); try simp only [Act.put, gD, gE, gF])
                  refine wpAnyH_take (i := 11) (oi := _) (v := ?v138) rfl (by kernel_rfl) (by kernel_rfl) (by kernel_rfl) (fun _ _ _ h => h) (Or.inl ⟨by rfl, ?hy138⟩) (by assumption) ?rest138
                  case hy138 => ((intro w hSw; (try dsimp only at hSw); go_simp); try (with_reducible rfl))
                  ((try dsimp only [gA, gB, gC]); try simp only [Act.put, gD, gE, gF])
                  refine wpAnyH_take (i := 12) (oi := _) (v := ?v139) rfl (by kernel_rfl) (by kernel_rfl) (by kernel_rfl) (fun _ _ _ h => h) (Or.inl ⟨by rfl, ?hy139⟩) (by assumption) ?rest139
                  case hy139 => ((intro w hSw; (try dsimp only at hSw); go_simp); try (with_reducible rfl))
                  ((try dsimp only [gA, gB, gC]); try simp only [Act.put, gD, gE, gF])
                  refine wpAnyH_take (i := 13) (oi := _) (v := ?v140) rfl (by kernel_rfl) (by kernel_rfl) (by kernel_rfl) (fun _ _ _ h => h) (Or.inl ⟨by rfl, ?hy140⟩) (by assumption) ?rest140
                  case hy140 => ((intro w hSw; (try dsimp only at hSw); go_simp); try (with_reducible rfl))
                  ((try dsimp only [gA, gB, gC]); try simp only [Act.put, gD, gE, gF])
                  refine wpAnyH_take (i := 14) (oi := _) (v := ?v141) rfl (by kernel_rfl) (by kernel_rfl) (by kernel_rfl) (fun _ _ _ h => h) (Or.inl ⟨by rfl, ?hy141⟩) (by assumption) ?rest141
                  case hy141 => ((intro w hSw; (try dsimp only at hSw); go_simp); try (with_reducible rfl))
                  ((try dsimp only [gA, gB, gC]); try simp only [Act.put, gD, gE, gF])
                  refine wpAnyH_take (i := 15) (oi := _) (v := ?v142) rfl (by kernel_rfl) (by kernel_rfl) (by kernel_rfl) (fun _ _ _ h => h) (Or.inl ⟨by rfl, ?hy142⟩) (by assumption) ?rest142
                  case hy142 => ((intro w hSw; (try dsimp only at hSw); go_simp); try (with_reducible rfl))
                  ((try dsimp only [gA, gB, gC]); try simp only [Act.put, gD, gE, gF])
                  refine wpAnyH_take (i := 16) (oi := _) (v := ?v143) rfl (by kernel_rfl) (by kernel_rfl) (by kernel_rfl) (fun _ _ _ h => h) (Or.inl ⟨by rfl, ?hy143⟩) (by assumption) ?rest143
                  case hy143 => ((intro w hSw; (try dsimp only at hSw); go_simp); try (with_reducible rfl))
                  ((try dsimp only [gA, gB, gC]); try simp only [Act.put, gD, gE, gF])
                  refine wpAnyH_take (i := 17) (oi := _) (v := ?v144) rfl (by kernel_rfl) (by kernel_rfl) (by kernel_rfl) (fun _ _ _ h => h) (Or.inl ⟨by rfl, ?hy144⟩) (by assumption) ?rest144
                  case hy144 => ((intro w hSw; (try dsimp only at hSw); go_simp); try (with_reducible rfl))
                  ((try dsimp only [gA, gB, gC]); try simp only [Act.put, gD, gE, gF])
                  refine wpAnyH_take (i := 18) (oi := _) (v := ?v145) rfl (by kernel_rfl) (by kernel_rfl) (by kernel_rfl) (fun _ _ _ h => h) (Or.inl ⟨by rfl, ?hy145⟩) (by assumption) ?rest145
                  case hy145 => ((intro w hSw; (try dsimp only at hSw); go_simp); try (with_reducible rfl))
                  ((try dsimp only [gA, gB, gC]); try simp only [Act.put, gD, gE, gF])
                  refine wpAnyH_take (i := 19) (oi := _) (v := ?v146) rfl (by kernel_rfl) (by kernel_rfl) (by kernel_rfl) (fun _ _ _ h => h) (Or.inl ⟨by rfl, ?hy146⟩) (by assumption) ?rest146
                  case hy146 => ((intro w hSw; (try dsimp only at hSw); go_simp); try (with_reducible rfl))
                  ((try dsimp only [gA, gB, gC]); try simp only [Act.put, gD, gE, gF])
                  refine wpAnyH_take (i := 20) (oi := _) (v := ?v147) rfl (by kernel_rfl) (by kernel_rfl) (by kernel_rfl) (fun _ _ _ h => h) (Or.inl ⟨by rfl, ?hy147⟩) (by assumption) ?rest147
                  case hy147 => ((intro w hSw; (try dsimp only at hSw); go_simp); try (with_reducible rfl))
                  ((try dsimp only [gA, gB, gC]); try simp only [Act.put, gD, gE, gF])
                  refine wpAnyH_take (i := 21) (oi := _) (v := ?v148) rfl (by kernel_rfl) (by kernel_rfl) (by kernel_rfl) (fun _ _ _ h => h) (Or.inl ⟨by rfl, ?hy148⟩) (by assumption) ?rest148
                  case hy148 => ((intro w hSw; (try dsimp only at hSw); go_simp); try (with_reducible rfl))
                  ((try dsimp only [gA, gB, gC]); try simp only [Act.put, gD, gE, gF])
                  refine wpAnyH_ready (rs := [22]) (by kernel_rfl) (by simp) ?_
                  refine AllReadyH.cons (o := _) rfl (fun K hK => ?_) AllReadyH.nil
                  go_simp
                  go_at_call 13; (with_reducible refine (K4.out _).mono ?_); rintro e1 u4 ⟨rj, rfl, hrj, q4⟩; obtain rfl : rj = true := bool_yes hrj (I2.out (.inr (HRB.out.1 rfl))); clear hrj
                  refine hK.out _ _ ?_ (fun hHeld => ?_)
                  · (try dsimp only); refine HK7.out _ ?_; (repeat (first | (with_reducible refine gr_dr ?_) | (with_reducible refine gr_then ?_ q3) | (with_reducible refine gr_then ?_ q4) | (with_reducible exact gr_rfl _)))
                  clear hK K
                  ((try dsimp only [gA, gB, gC]); try simp only [Act.put, gD, gE, gF])
                  refine wpAnyH_take (i := 23) (oi := _) (v := ?v149) rfl (by kernel_rfl) (by kernel_rfl) (by kernel_rfl) (fun _ _ _ h => h) (Or.inl ⟨by rfl, ?hy149⟩) (by assumption) ?rest149
                  case hy149 => ((intro w hSw; (try dsimp only at hSw); go_simp); try (with_reducible rfl))
                  ((try dsimp only [gA, gB, gC]); try simp only [Act.put, gD, gE, gF])
                  refine wpAnyH_take (i := 24) (oi := _) (v := ?v150) rfl (by kernel_rfl) (by kernel_rfl) (by kernel_rfl) (fun _ _ _ h => h) (Or.inl ⟨by rfl, ?hy150⟩) (by assumption) ?rest150
                  case hy150 => ((intro w hSw; (try dsimp only at hSw); go_simp); try (with_reducible rfl))
                  ((try dsimp only [gA, gB, gC]); try simp only [Act.put, gD, gE, gF])
                  refine wpAnyH_take (i := 25) (oi := _) (v := ?v151) rfl (by kernel_rfl) (by kernel_rfl) (by kernel_rfl) (fun _ _ _ h => h) (Or.inl ⟨by rfl, ?hy151⟩) (by assumption) ?rest151
                  case hy151 => ((intro w hSw; (try dsimp only at hSw); go_simp); try (with_reducible rfl))
                  ((try dsimp only [gA, gB, gC]); try simp only [Act.put, gD, gE, gF])
                  refine wpAnyH_take (i := 26) (oi := _) (v := ?v152) rfl (by kernel_rfl) (by kernel_rfl) (by kernel_rfl) (fun _ _ _ h => h) (Or.inl ⟨by rfl, ?hy152⟩) (by assumption) ?rest152
                  case hy152 => ((intro w hSw; (try dsimp only at hSw); go_simp); try (with_reducible rfl))
                  ((try dsimp only [gA, gB, gC]); try simp only [Act.put, gD, gE, gF])
                  refine wpAnyH_take (i := 27) (oi := _) (v := ?v153) rfl (by kernel_rfl) (by kernel_rfl) (by kernel_rfl) (fun _ _ _ h => h) (Or.inl ⟨by rfl, ?hy153⟩) (by assumption) ?rest153
                  case hy153 => ((intro w hSw; (try dsimp only at hSw); go_simp); try (with_reducible rfl))
                  ((try dsimp only [gA, gB, gC]); try simp only [Act.put, gD, gE, gF])
                  refine wpAnyH_take (i := 28) (oi := _) (v := ?v154) rfl (by kernel_rfl) (by kernel_rfl) (by kernel_rfl) (fun _ _ _ h => h) (Or.inl ⟨by rfl, ?hy154⟩) (by assumption) ?rest154
                  case hy154 => ((intro w hSw; (try dsimp only at hSw); go_simp); try (with_reducible rfl))
                  ((try dsimp only [gA, gB, gC]); try simp only [Act.put, gD, gE, gF])
                  refine wpAnyH_take (i := 29) (oi := _) (v := ?v155) rfl (by kernel_rfl) (by kernel_rfl) (by kernel_rfl) (fun _ _ _ h => h) (Or.inl ⟨by rfl, ?hy155⟩) (by assumption) ?rest155
                  case hy155 => ((intro w hSw; (try dsimp only at hSw); go_simp); try (with_reducible rfl))
                  ((try dsimp only [gA, gB, gC]); try simp only [Act.put, gD, gE, gF])
                  refine wpAnyH_take (i := 30) (oi := _) (v := ?v156) rfl (by kernel_rfl) (by kernel_rfl) (by kernel_rfl) (fun _ _ _ h => h) (Or.inl ⟨by rfl, ?hy156⟩) (by assumption) ?rest156
                  case hy156 => ((intro w hSw; (try dsimp only at hSw); go_simp); try (with_reducible rfl))
                  ((try dsimp only [gA, gB, gC]); try simp only [Act.put, gD, gE, gF])
                  refine wpAnyH_take (i := 31) (oi := _) (v := ?v157) rfl (by kernel_rfl) (by kernel_rfl) (by kernel_rfl) (fun _ _ _ h => h) (Or.inl ⟨by rfl, ?hy157⟩) (by assumption) ?rest157
                  case hy157 => ((intro w hSw; (try dsimp only at hSw); go_simp); try (with_reducible rfl))
                  ((try dsimp only [gA, gB, gC]); try simp only [Act.put, gD, gE, gF])
                  refine wpAnyH_take (i := 32) (oi := _) (v := _) rfl (by kernel_rfl) (by kernel_rfl) (by kernel_rfl) (fun _ _ _ h => h) (Or.inr ⟨by rfl, rfl⟩) (by assumption) ?rest158
                  ((try dsimp only [gA, gB, gC]); try simp only [Act.put, gD, gE, gF])
                  refine wpAnyH_take (i := 33) (oi := _) (v := _) rfl (by kernel_rfl) (by kernel_rfl) (by kernel_rfl) (fun _ _ _ h => h) (Or.inr ⟨by rfl, rfl⟩) (by assumption) ?rest159
                  ((try dsimp only [gA, gB, gC]); try simp only [Act.put, gD, gE, gF])
                  refine wpAnyH_take (i := 34) (oi := _) (v := ?v160) rfl (by kernel_rfl) (by kernel_rfl) (by kernel_rfl) (fun _ _ _ h => h) (Or.inl ⟨by rfl, ?hy160⟩) (by assumption) ?rest160
                  case hy160 => ((intro w hSw; (try dsimp only at hSw); go_simp); try (with_reducible rfl))
                  ((try dsimp only [gA, gB, gC]); try simp only [Act.put, gD, gE, gF])
                  refine wpAnyH_take (i := 35) (oi := _) (v := ?v161) rfl (by kernel_rfl) (by kernel_rfl) (by kernel_rfl) (fun _ _ _ h => h) (Or.inl ⟨by rfl, ?hy161⟩) (by assumption) ?rest161
                  case hy161 => ((intro w hSw; (try dsimp only at hSw); go_simp); try (with_reducible rfl))
                  ((try dsimp only [gA, gB, gC]); try simp only [Act.put, gD, gE, gF])
                  refine wpAnyH_done (by kernel_rfl) ?_ _
                  have GE := Lib.hid (show w7.grownBy u4 none from gr_then HGX.out (gr_then GU2.out (by (repeat (first | (with_reducible refine gr_dr ?_) | (with_reducible refine gr_then ?_ q3) | (with_reducible refine gr_then ?_ q4) | (with_reducible exact gr_rfl _))))))
                  clear hHeld HK7 q3 q4
                  go_wp2
                  exact ⟨⟨J + 1, by simp, by omega, GE⟩, by simp only [intOf]; omega⟩
            · cases rb
              · cases rw_
                · refine wp_region_held_drew (S := (fun w' => w'.cell? ⟨MB, 0, none⟩ = some (.int .i64 ml) ∧ w'.cell? ⟨MB, 1, none⟩ = some (.int .i64 mm) ∧ w'.cell? ⟨MB, 2, none⟩ = some (.int .i64 mc) ∧ w'.cell? ⟨MB, 3, none⟩ = some (.string mb) ∧ w'.cell? ⟨MB, 4, none⟩ = some (.string me) ∧ w'.cell? ⟨JB, 0, none⟩ = some (.int .i64 jl) ∧ w'.cell? ⟨JB, 1, none⟩ = some (.int .i64 jm) ∧ w'.cell? ⟨JB, 2, none⟩ = some (.int .i64 jc) ∧ w'.cell? ⟨JB, 3, none⟩ = some (.string jb) ∧ w'.cell? ⟨JB, 4, none⟩ = some (.string je) ∧ w'.cell? ⟨g, J, none⟩ = some (.string tx))) (by kernel_rfl) ?_ (fun hHeld => ?_)
                  · refine HK7.out _ ?_; (repeat (first | (with_reducible refine gr_dr ?_) | (with_reducible refine gr_then ?_ q3) | (with_reducible refine gr_then ?_ q4) | (with_reducible exact gr_rfl _)))
                  refine wpAnyH_take (i := 0) (oi := _) (v := ?v162) rfl (by kernel_rfl) (by kernel_rfl) (by kernel_rfl) (fun _ _ _ h => h) (Or.inl ⟨by rfl, ?hy162⟩) (by assumption) ?rest162
                  case hy162 => ((intro w hSw; (try dsimp only at hSw); go_simp); try (with_reducible rfl))
                  ((try dsimp only [gA, gB, gC]); try simp only [Act.put, gD, gE, gF])
                  refine wpAnyH_take (i := 1) (oi := _) (v := ?v163) rfl (by kernel_rfl) (by kernel_rfl) (by kernel_rfl) (fun _ _ _ h => h) (Or.inl ⟨by rfl, ?hy163⟩) (by assumption) ?rest163
                  case hy163 => ((intro w hSw; (try dsimp only at hSw); go_simp); try (with_reducible rfl))
                  ((try dsimp only [gA, gB, gC]); try simp only [Act.put, gD, gE, gF])
                  refine wpAnyH_take (i := 2) (oi := _) (v := ?v164) rfl (by kernel_rfl) (by kernel_rfl) (by kernel_rfl) (fun _ _ _ h => h) (Or.inl ⟨by rfl, ?hy164⟩) (by assumption) ?rest164
                  case hy164 => ((intro w hSw; (try dsimp only at hSw); go_simp); try (with_reducible rfl))
                  ((try dsimp only [gA, gB, gC]); try simp only [Act.put, gD, gE, gF])
                  refine wpAnyH_take (i := 3) (oi := _) (v := ?v165) rfl (by kernel_rfl) (by kernel_rfl) (by kernel_rfl) (fun _ _ _ h => h) (Or.inl ⟨by rfl, ?hy165⟩) (by assumption) ?rest165
                  case hy165 => ((intro w hSw; (try dsimp only at hSw); go_simp); try (with_reducible rfl))
                  ((try dsimp only [gA, gB, gC]); try simp only [Act.put, gD, gE, gF])
                  refine wpAnyH_take (i := 4) (oi := _) (v := ?v166) rfl (by kernel_rfl) (by kernel_rfl) (by kernel_rfl) (fun _ _ _ h => h) (Or.inl ⟨by rfl, ?hy166⟩) (by assumption) ?rest166
                  case hy166 => ((intro w hSw; (try dsimp only at hSw); go_simp); try (with_reducible rfl))
                  ((try dsimp only [gA, gB, gC]); try simp only [Act.put, gD, gE, gF])
                  refine wpAnyH_take (i := 6) (oi := _) (v := ?v167) rfl (by kernel_rfl) (by kernel_rfl) (by kernel_rfl) (fun _ _ _ h => h) (Or.inl ⟨by rfl, ?hy167⟩) (by assumption) ?rest167
                  case hy167 => ((intro w hSw; (try dsimp only at hSw); go_simp); try (with_reducible rfl))
                  ((try dsimp only [gA, gB, gC]); try simp only [Act.put, gD, gE, gF])
                  refine wpAnyH_ready (rs := [5]) (by kernel_rfl) (by simp) ?_
                  refine AllReadyH.cons (o := _) rfl (fun K hK => ?_) AllReadyH.nil
                  go_simp
                  go_at_call 13; (with_reducible refine (K3.out _).mono ?_); rintro e1 u3 ⟨rm, rfl, hrm, q3⟩; obtain rfl : rm = false := bool_no hrm (fun h => not_of HRB.out (I1.out.1 h).2); clear hrm
                  refine hK.out _ _ ?_ (fun hHeld => ?_)
                  · (try dsimp only); refine HK7.out _ ?_; (repeat (first | (with_reducible refine gr_dr ?_) | (with_reducible refine gr_then ?_ q3) | (with_reducible refine gr_then ?_ q4) | (with_reducible exact gr_rfl _)))
                  clear hK K
                  ((try dsimp only [gA, gB, gC]); try simp only [Act.put, gD, gE, gF])
                  refine wpAnyH_take (i := 7) (oi := _) (v := ?v168) rfl (by kernel_rfl) (by kernel_rfl) (by kernel_rfl) (fun _ _ _ h => h) (Or.inl ⟨by rfl, ?hy168⟩) (by assumption) ?rest168
                  case hy168 => ((intro w hSw; (try dsimp only at hSw); go_simp); try (with_reducible rfl))
                  ((try dsimp only [gA, gB, gC]); try simp only [Act.put, gD, gE, gF])
                  refine wpAnyH_take (i := 8) (oi := _) (v := ?v169) rfl (by kernel_rfl) (by kernel_rfl) (by kernel_rfl) (fun _ _ _ h => h) (Or.inl ⟨by rfl, ?hy169⟩) (by assumption) ?rest169
                  case hy169 => ((intro w hSw; (try dsimp only at hSw); go_simp); try (with_reducible rfl))
                  ((try dsimp only [gA, gB, gC]); try simp only [Act.put, gD, gE, gF])
                  refine wpAnyH_take (i := 9) (oi := _) (v := ?v170) rfl (by kernel_rfl) (by kernel_rfl) (by kernel_rfl) (fun _ _ _ h => h) (Or.inl ⟨by rfl, ?hy170⟩) (by assumption) ?rest170
                  case hy170 => ((intro w hSw; (try dsimp only at hSw); go_simp); try (with_reducible rfl))
                  ((try dsimp only [gA, gB, gC]); try simp only [Act.put, gD, gE, gF])
                  refine wpAnyH_take (i := 10) (oi := _) (v := ?v171) rfl (by kernel_rfl) (by kernel_rfl) (by kernel_rfl) (fun _ _ _ h => h) (Or.inl ⟨by rfl, ?hy171⟩) (by assumption) ?rest171
                  case hy171 => ((intro w hSw; (try dsimp only at hSw); go_simp); try (with_reducible rfl))
                  ((try dsimp only [gA, gB, gC]); try simp only [Act.put, gD, gE, gF])
                  refine wpAnyH_take (i := 11) (oi := _) (v := ?v172) rfl (by kernel_rfl) (by kernel_rfl) (by kernel_rfl) (fun _ _ _ h => h) (Or.inl ⟨by rfl, ?hy172⟩) (by assumption) ?rest172
                  case hy172 => ((intro w hSw; (try dsimp only at hSw); go_simp); try (with_reducible rfl))
                  ((try dsimp only [gA, gB, gC]); try simp only [Act.put, gD, gE, gF])
                  refine wpAnyH_take (i := 12) (oi := _) (v := ?v173) rfl (by kernel_rfl) (by kernel_rfl) (by kernel_rfl) (fun _ _ _ h => h) (Or.inl ⟨by rfl, ?hy173⟩) (by assumption) ?rest173
                  case hy173 => ((intro w hSw; (try dsimp only at hSw); go_simp); try (with_reducible rfl))
                  ((try dsimp only [gA, gB, gC]); try simp only [Act.put, gD, gE, gF])
                  refine wpAnyH_take (i := 13) (oi := _) (v := ?v174) rfl (by kernel_rfl) (by kernel_rfl) (by kernel_rfl) (fun _ _ _ h => h) (Or.inl ⟨by rfl, ?hy174⟩) (by assumption) ?rest174
                  case hy174 => ((intro w hSw; (try dsimp only at hSw); go_simp); try (with_reducible rfl))
                  ((try dsimp only [gA, gB, gC]); try simp only [Act.put, gD, gE, gF])
                  refine wpAnyH_take (i := 14) (oi := _) (v := _) rfl (by kernel_rfl) (by kernel_rfl) (by kernel_rfl) (fun _ _ _ h => h) (Or.inr ⟨by rfl, rfl⟩) (by assumption) ?rest175
                  ((try dsimp only [gA, gB, gC]); try simp only [Act.put, gD, gE, gF])
                  refine wpAnyH_take (i := 15) (oi := _) (v := ?v176) rfl (by kernel_rfl) (by kernel_rfl) (by kernel_rfl) (fun _ _ _ h => h) (Or.inl ⟨by rfl, ?hy176⟩) (by assumption) ?rest176
                  case hy176 => ((intro w hSw; (try dsimp only at hSw); go_simp); try (with_reducible rfl))
                  ((try dsimp only [gA, gB, gC]); try simp only [Act.put, gD, gE, gF])
                  refine wpAnyH_take (i := 16) (oi := _) (v := ?v177) rfl (by kernel_rfl) (by kernel_rfl) (by kernel_rfl) (fun _ _ _ h => h) (Or.inl ⟨by rfl, ?hy177⟩) (by assumption) ?rest177
                  case hy177 => ((intro w hSw; (try dsimp only at hSw); go_simp); try (with_reducible rfl))
                  ((try dsimp only [gA, gB, gC]); try simp only [Act.put, gD, gE, gF])
                  refine wpAnyH_take (i := 17) (oi := _) (v := ?v178) rfl (by kernel_rfl) (by kernel_rfl) (by kernel_rfl) (fun _ _ _ h => h) (Or.inl ⟨by rfl, ?hy178⟩) (by assumption) ?rest178
                  case hy178 => ((intro w hSw; (try dsimp only at hSw); go_simp); try (with_reducible rfl))
                  ((try dsimp only [gA, gB, gC]); try simp only [Act.put, gD, gE, gF])
                  refine wpAnyH_take (i := 18) (oi := _) (v := ?v179) rfl (by kernel_rfl) (by kernel_rfl) (by kernel_rfl) (fun _ _ _ h => h) (Or.inl ⟨by rfl, ?hy179⟩) (by assumption) ?rest179
                  case hy179 => ((intro w hSw; (try dsimp only at hSw); go_simp); try (with_reducible rfl))
                  ((try dsimp only [gA, gB, gC]); try simp only [Act.put, gD, gE, gF])
                  refine wpAnyH_take (i := 19) (oi := _) (v := ?v180) rfl (by kernel_rfl) (by kernel_rfl) (by kernel_rfl) (fun _ _ _ h => h) (Or.inl ⟨by rfl, ?hy180⟩) (by assumption) ?rest180
                  case hy180 => ((intro w hSw; (try dsimp only at hSw); go_simp); try (with_reducible rfl))
                  ((try dsimp only [gA, gB, gC]); try simp only [Act.put, gD, gE, gF])
                  refine wpAnyH_take (i := 20) (oi := _) (v := ?v181) rfl (by kernel_rfl) (by kernel_rfl) (by kernel_rfl) (fun _ _ _ h => h) (Or.inl ⟨by rfl, ?hy181⟩) (by assumption) ?rest181
                  case hy181 => ((intro w hSw; (try dsimp only at hSw); go_simp); try (with_reducible rfl))
                  ((try dsimp only [gA, gB, gC]); try simp only [Act.put, gD, gE, gF])
                  refine wpAnyH_take (i := 21) (oi := _) (v := ?v182) rfl (by kernel_rfl) (by kernel_rfl) (by kernel_rfl) (fun _ _ _ h => h) (Or.inl ⟨by rfl, ?hy182⟩) (by assumption) ?rest182
                  case hy182 => ((intro w hSw; (try dsimp only at hSw); go_simp); try (with_reducible rfl))
                  ((try dsimp only [gA, gB, gC]); try simp only [Act.put, gD, gE, gF])
                  refine wpAnyH_ready (rs := [22]) (by kernel_rfl) (by simp) ?_
                  refine AllReadyH.cons (o := _) rfl (fun K hK => ?_) AllReadyH.nil
                  go_simp
                  go_at_call 13; (with_reducible refine (K4.out _).mono ?_); rintro e1 u4 ⟨rj, rfl, hrj, q4⟩; obtain rfl : rj = true := bool_yes hrj (I2.out (.inl (HRA.out.1 rfl))); clear hrj
                  refine hK.out _ _ ?_ (fun hHeld => ?_)
                  · (try dsimp only); refine HK7.out _ ?_; (repeat (first | (with_reducible refine gr_dr ?_) | (with_reducible refine gr_then ?_ q3) | (with_reducible refine gr_then ?_ q4) | (with_reducible exact gr_rfl _)))
                  clear hK K
                  ((try dsimp only [gA, gB, gC]); try simp only [Act.put, gD, gE, gF])
                  refine wpAnyH_take (i := 23) (oi := _) (v := ?v183) rfl (by kernel_rfl) (by kernel_rfl) (by kernel_rfl) (fun _ _ _ h => h) (Or.inl ⟨by rfl, ?hy183⟩) (by assumption) ?rest183
                  case hy183 => ((intro w hSw; (try dsimp only at hSw); go_simp); try (with_reducible rfl))
                  ((try dsimp only [gA, gB, gC]); try simp only [Act.put, gD, gE, gF])
                  refine wpAnyH_take (i := 24) (oi := _) (v := ?v184) rfl (by kernel_rfl) (by kernel_rfl) (by kernel_rfl) (fun _ _ _ h => h) (Or.inl ⟨by rfl, ?hy184⟩) (by assumption) ?rest184
                  case hy184 => ((intro w hSw; (try dsimp only at hSw); go_simp); try (with_reducible rfl))
                  ((try dsimp only [gA, gB, gC]); try simp only [Act.put, gD, gE, gF])
                  refine wpAnyH_take (i := 25) (oi := _) (v := ?v185) rfl (by kernel_rfl) (by kernel_rfl) (by kernel_rfl) (fun _ _ _ h => h) (Or.inl ⟨by rfl, ?hy185⟩) (by assumption) ?rest185
                  case hy185 => ((intro w hSw; (try dsimp only at hSw); go_simp); try (with_reducible rfl))
                  ((try dsimp only [gA, gB, gC]); try simp only [Act.put, gD, gE, gF])
                  refine wpAnyH_take (i := 26) (oi := _) (v := ?v186) rfl (by kernel_rfl) (by kernel_rfl) (by kernel_rfl) (fun _ _ _ h => h) (Or.inl ⟨by rfl, ?hy186⟩) (by assumption) ?rest186
                  case hy186 => ((intro w hSw; (try dsimp only at hSw); go_simp); try (with_reducible rfl))
                  ((try dsimp only [gA, gB, gC]); try simp only [Act.put, gD, gE, gF])
                  refine wpAnyH_take (i := 27) (oi := _) (v := ?v187) rfl (by kernel_rfl) (by kernel_rfl) (by kernel_rfl) (fun _ _ _ h => h) (Or.inl ⟨by rfl, ?hy187⟩) (by assumption) ?rest187
                  case hy187 => ((intro w hSw; (try dsimp only at hSw); go_simp); try (with_reducible rfl))
                  ((try dsimp only [gA, gB, gC]); try simp only [Act.put, gD, gE, gF])
                  refine wpAnyH_take (i := 28) (oi := _) (v := ?v188) rfl (by kernel_rfl) (by kernel_rfl) (by kernel_rfl) (fun _ _ _ h => h) (Or.inl ⟨by rfl, ?hy188⟩) (by assumption) ?rest188
                  case hy188 => ((intro w hSw; (try dsimp only at hSw); go_simp); try (with_reducible rfl))
                  ((try dsimp only [gA, gB, gC]); try simp only [Act.put, gD, gE, gF])
                  refine wpAnyH_take (i := 29) (oi := _) (v := _) rfl (by kernel_rfl) (by kernel_rfl) (by kernel_rfl) (fun _ _ _ h => h) (Or.inr ⟨by rfl, rfl⟩) (by assumption) ?rest189
                  ((try dsimp only [gA, gB, gC]); try simp only [Act.put, gD, gE, gF])
                  refine wpAnyH_take (i := 30) (oi := _) (v := ?v190) rfl (by kernel_rfl) (by kernel_rfl) (by kernel_rfl) (fun _ _ _ h => h) (Or.inl ⟨by rfl, ?hy190⟩) (by assumption) ?rest190
                  case hy190 => ((intro w hSw; (try dsimp only at hSw); go_simp); try (with_reducible rfl))
                  ((try dsimp only [gA, gB, gC]); try simp only [Act.put, gD, gE, gF])
                  refine wpAnyH_take (i := 31) (oi := _) (v := ?v191) rfl (by kernel_rfl) (by kernel_rfl) (by kernel_rfl) (fun _ _ _ h => h) (Or.inl ⟨by rfl, ?hy191⟩) (by assumption) ?rest191
                  case hy191 => ((intro w hSw; (try dsimp only at hSw); go_simp); try (with_reducible rfl))
                  ((try dsimp only [gA, gB, gC]); try simp only [Act.put, gD, gE, gF])
                  refine wpAnyH_take (i := 32) (oi := _) (v := _) rfl (by kernel_rfl) (by kernel_rfl) (by kernel_rfl) (fun _ _ _ h => h) (Or.inr ⟨by rfl, rfl⟩) (by assumption) ?rest192
                  ((try dsimp only [gA, gB, gC]); try simp only [Act.put, gD, gE, gF])
                  refine wpAnyH_take (i := 33) (oi := _) (v := _) rfl (by kernel_rfl) (by kernel_rfl) (by kernel_rfl) (fun _ _ _ h => h) (Or.inr ⟨by rfl, rfl⟩) (by assumption) ?rest193
                  ((try dsimp only [gA, gB, gC]); try simp only [Act.put, gD, gE, gF])
                  refine wpAnyH_take (i := 34) (oi := _) (v := ?v194) rfl (by kernel_rfl) (by kernel_rfl) (by kernel_rfl) (fun _ _ _ h => h) (Or.inl ⟨by rfl, ?hy194⟩) (by assumption) ?rest194
                  case hy194 => ((intro w hSw; (try dsimp only at hSw); go_simp); try (with_reducible rfl))
                  ((try dsimp only [gA, gB, gC]); try simp only [Act.put, gD, gE, gF])
                  refine wpAnyH_take (i := 35) (oi := _) (v := ?v195) rfl (by kernel_rfl) (by kernel_rfl) (by kernel_rfl) (fun _ _ _ h => h) (Or.inl ⟨by rfl, ?hy195⟩) (by assumption) ?rest195
                  case hy195 => ((intro w hSw; (try dsimp only at hSw); go_simp); try (with_reducible rfl))
                  ((try dsimp only [gA, gB, gC]); try simp only [Act.put, gD, gE, gF])
                  refine wpAnyH_done (by kernel_rfl) ?_ _
                  have GE := Lib.hid (show w7.grownBy u4 none from gr_then HGX.out (gr_then GU2.out (by (repeat (first | (with_reducible refine gr_dr ?_) | (with_reducible refine gr_then ?_ q3) | (with_reducible refine gr_then ?_ q4) | (with_reducible exact gr_rfl _))))))
                  clear hHeld HK7 q3 q4
                  go_wp2
                  exact ⟨⟨J + 1, by simp, by omega, GE⟩, by simp only [intOf]; omega⟩
                · exact absurd (I3.out (HRW.out.1 rfl) (HRA.out.1 rfl)) (not_of HRB.out)
              · cases rw_
                · refine wp_region_held_drew (S := (fun w' => w'.cell? ⟨MB, 0, none⟩ = some (.int .i64 ml) ∧ w'.cell? ⟨MB, 1, none⟩ = some (.int .i64 mm) ∧ w'.cell? ⟨MB, 2, none⟩ = some (.int .i64 mc) ∧ w'.cell? ⟨MB, 3, none⟩ = some (.string mb) ∧ w'.cell? ⟨MB, 4, none⟩ = some (.string me) ∧ w'.cell? ⟨JB, 0, none⟩ = some (.int .i64 jl) ∧ w'.cell? ⟨JB, 1, none⟩ = some (.int .i64 jm) ∧ w'.cell? ⟨JB, 2, none⟩ = some (.int .i64 jc) ∧ w'.cell? ⟨JB, 3, none⟩ = some (.string jb) ∧ w'.cell? ⟨JB, 4, none⟩ = some (.string je) ∧ w'.cell? ⟨g, J, none⟩ = some (.string tx))) (by kernel_rfl) ?_ (fun hHeld => ?_)
                  · refine HK7.out _ ?_; (repeat (first | (with_reducible refine gr_dr ?_) | (with_reducible refine gr_then ?_ q3) | (with_reducible refine gr_then ?_ q4) | (with_reducible exact gr_rfl _)))
                  refine wpAnyH_take (i := 0) (oi := _) (v := ?v196) rfl (by kernel_rfl) (by kernel_rfl) (by kernel_rfl) (fun _ _ _ h => h) (Or.inl ⟨by rfl, ?hy196⟩) (by assumption) ?rest196
                  case hy196 => ((intro w hSw; (try dsimp only at hSw); go_simp); try (with_reducible rfl))
                  ((try dsimp only [gA, gB, gC]); try simp only [Act.put, gD, gE, gF])
                  refine wpAnyH_take (i := 1) (oi := _) (v := ?v197) rfl (by kernel_rfl) (by kernel_rfl) (by kernel_rfl) (fun _ _ _ h => h) (Or.inl ⟨by rfl, ?hy197⟩) (by assumption) ?rest197
                  case hy197 => ((intro w hSw; (try dsimp only at hSw); go_simp); try (with_reducible rfl))
                  ((try dsimp only [gA, gB, gC]); try simp only [Act.put, gD, gE, gF])
                  refine wpAnyH_take (i := 2) (oi := _) (v := ?v198) rfl (by kernel_rfl) (by kernel_rfl) (by kernel_rfl) (fun _ _ _ h => h) (Or.inl ⟨by rfl, ?hy198⟩) (by assumption) ?rest198
                  case hy198 => ((intro w hSw; (try dsimp only at hSw); go_simp); try (with_reducible rfl))
                  ((try dsimp only [gA, gB, gC]); try simp only [Act.put, gD, gE, gF])
                  refine wpAnyH_take (i := 3) (oi := _) (v := ?v199) rfl (by kernel_rfl) (by kernel_rfl) (by kernel_rfl) (fun _ _ _ h => h) (Or.inl ⟨by rfl, ?hy199⟩) (by assumption) ?rest199
                  case hy199 => ((intro w hSw; (try dsimp only at hSw); go_simp); try (with_reducible rfl))
                  ((try dsimp only [gA, gB, gC]); try simp only [Act.put, gD, gE, gF])
                  refine wpAnyH_take (i := 4) (oi := _) (v := ?v200) rfl (by kernel_rfl) (by kernel_rfl) (by kernel_rfl) (fun _ _ _ h => h) (Or.inl ⟨by rfl, ?hy200⟩) (by assumption) ?rest200
                  case hy200 => ((intro w hSw; (try dsimp only at hSw); go_simp); try (with_reducible rfl))
                  ((try dsimp only [gA, gB, gC]); try simp only [Act.put, gD, gE, gF])
                  refine wpAnyH_take (i := 6) (oi := _) (v := ?v201) rfl (by kernel_rfl) (by kernel_rfl) (by kernel_rfl) (fun _ _ _ h => h) (Or.inl ⟨by rfl, ?hy201⟩) (by assumption) ?rest201
                  case hy201 => ((intro w hSw; (try dsimp only at hSw); go_simp); try (with_reducible rfl))
                  ((try dsimp only [gA, gB, gC]); try simp only [Act.put, gD, gE, gF])
                  refine wpAnyH_ready (rs := [5]) (by kernel_rfl) (by simp) ?_
                  refine AllReadyH.cons (o := _) rfl (fun K hK => ?_) AllReadyH.nil
                  go_simp
                  go_at_call 13; (with_reducible refine (K3.out _).mono ?_); rintro e1 u3 ⟨rm, rfl, hrm, q3⟩; obtain rfl : rm = true := bool_yes hrm (I1.out.2 ⟨HRA.out.1 rfl, HRB.out.1 rfl⟩); clear hrm
                  refine hK.out _ _ ?_ (fun hHeld => ?_)
                  · (try dsimp only); refine HK7.out _ ?_; (repeat (first | (with_reducible refine gr_dr ?_) | (with_reducible refine gr_then ?_ q3) | (with_reducible refine gr_then ?_ q4) | (with_reducible exact gr_rfl _)))
                  clear hK K
                  ((try dsimp only [gA, gB, gC]); try simp only [Act.put, gD, gE, gF])
                  refine wpAnyH_take (i := 7) (oi := _) (v := ?v202) rfl (by kernel_rfl) (by kernel_rfl) (by kernel_rfl) (fun _ _ _ h => h) (Or.inl ⟨by rfl, ?hy202⟩) (by assumption) ?rest202
                  case hy202 => ((intro w hSw; (try dsimp only at hSw); go_simp); try (with_reducible rfl))
                  ((try dsimp only [gA, gB, gC]); try simp only [Act.put, gD, gE, gF])
                  refine wpAnyH_take (i := 8) (oi := _) (v := ?v203) rfl (by kernel_rfl) (by kernel_rfl) (by kernel_rfl) (fun _ _ _ h => h) (Or.inl ⟨by rfl, ?hy203⟩) (by assumption) ?rest203
                  case hy203 => ((intro w hSw; (try dsimp only at hSw); go_simp); try (with_reducible rfl))
                  ((try dsimp only [gA, gB, gC]); try simp only [Act.put, gD, gE, gF])
                  refine wpAnyH_take (i := 9) (oi := _) (v := ?v204) rfl (by kernel_rfl) (by kernel_rfl) (by kernel_rfl) (fun _ _ _ h => h) (Or.inl ⟨by rfl, ?hy204⟩) (by assumption) ?rest204
                  case hy204 => ((intro w hSw; (try dsimp only at hSw); go_simp); try (with_reducible rfl))
                  ((try dsimp only [gA, gB, gC]); try simp only [Act.put, gD, gE, gF])
                  refine wpAnyH_take (i := 10) (oi := _) (v := ?v205) rfl (by kernel_rfl) (by kernel_rfl) (by kernel_rfl) (fun _ _ _ h => h) (Or.inl ⟨by rfl, ?hy205⟩) (by assumption) ?rest205
                  case hy205 => ((intro w hSw; (try dsimp only at hSw); go_simp); try (with_reducible rfl))
                  ((try dsimp only [gA, gB, gC]); try simp only [Act.put, gD, gE, gF])
                  refine wpAnyH_take (i := 11) (oi := _) (v := ?v206) rfl (by kernel_rfl) (by kernel_rfl) (by kernel_rfl) (fun _ _ _ h => h) (Or.inl ⟨by rfl, ?hy206⟩) (by assumption) ?rest206
                  case hy206 => ((intro w hSw; (try dsimp only at hSw); go_simp); try (with_reducible rfl))
                  ((try dsimp only [gA, gB, gC]); try simp only [Act.put, gD, gE, gF])
                  refine wpAnyH_take (i := 12) (oi := _) (v := ?v207) rfl (by kernel_rfl) (by kernel_rfl) (by kernel_rfl) (fun _ _ _ h => h) (Or.inl ⟨by rfl, ?hy207⟩) (by assumption) ?rest207
                  case hy207 => ((intro w hSw; (try dsimp only at hSw); go_simp); try (with_reducible rfl))
                  ((try dsimp only [gA, gB, gC]); try simp only [Act.put, gD, gE, gF])
                  refine wpAnyH_take (i := 13) (oi := _) (v := ?v208) rfl (by kernel_rfl) (by kernel_rfl) (by kernel_rfl) (fun _ _ _ h => h) (Or.inl ⟨by rfl, ?hy208⟩) (by assumption) ?rest208
                  case hy208 => ((intro w hSw; (try dsimp only at hSw); go_simp); try (with_reducible rfl))
                  ((try dsimp only [gA, gB, gC]); try simp only [Act.put, gD, gE, gF])
                  refine wpAnyH_take (i := 14) (oi := _) (v := _) rfl (by kernel_rfl) (by kernel_rfl) (by kernel_rfl) (fun _ _ _ h => h) (Or.inr ⟨by rfl, rfl⟩) (by assumption) ?rest209
                  ((try dsimp only [gA, gB, gC]); try simp only [Act.put, gD, gE, gF])
                  refine wpAnyH_take (i := 15) (oi := _) (v := ?v210) rfl (by kernel_rfl) (by kernel_rfl) (by kernel_rfl) (fun _ _ _ h => h) (Or.inl ⟨by rfl, ?hy210⟩) (by assumption) ?rest210
                  case hy210 => ((intro w hSw; (try dsimp only at hSw); go_simp); try (with_reducible rfl))
                  ((try dsimp only [gA, gB, gC]); try simp only [Act.put, gD, gE, gF])
                  refine wpAnyH_take (i := 16) (oi := _) (v := ?v211) rfl (by kernel_rfl) (by kernel_rfl) (by kernel_rfl) (fun _ _ _ h => h) (Or.inl ⟨by rfl, ?hy211⟩) (by assumption) ?rest211
                  case hy211 => ((intro w hSw; (try dsimp only at hSw); go_simp); try (with_reducible rfl))
                  ((try dsimp only [gA, gB, gC]); try simp only [Act.put, gD, gE, gF])
                  refine wpAnyH_take (i := 17) (oi := _) (v := ?v212) rfl (by kernel_rfl) (by kernel_rfl) (by kernel_rfl) (fun _ _ _ h => h) (Or.inl ⟨by rfl, ?hy212⟩) (by assumption) ?rest212
                  case hy212 => ((intro w hSw; (try dsimp only at hSw); go_simp); try (with_reducible rfl))
                  ((try dsimp only [gA, gB, gC]); try simp only [Act.put, gD, gE, gF])
                  refine wpAnyH_take (i := 18) (oi := _) (v := ?v213) rfl (by kernel_rfl) (by kernel_rfl) (by kernel_rfl) (fun _ _ _ h => h) (Or.inl ⟨by rfl, ?hy213⟩) (by assumption) ?rest213
                  case hy213 => ((intro w hSw; (try dsimp only at hSw); go_simp); try (with_reducible rfl))
                  ((try dsimp only [gA, gB, gC]); try simp only [Act.put, gD, gE, gF])
                  refine wpAnyH_take (i := 19) (oi := _) (v := ?v214) rfl (by kernel_rfl) (by kernel_rfl) (by kernel_rfl) (fun _ _ _ h => h) (Or.inl ⟨by rfl, ?hy214⟩) (by assumption) ?rest214
                  case hy214 => ((intro w hSw; (try dsimp only at hSw); go_simp); try (with_reducible rfl))
                  ((try dsimp only [gA, gB, gC]); try simp only [Act.put, gD, gE, gF])
                  refine wpAnyH_take (i := 20) (oi := _) (v := ?v215) rfl (by kernel_rfl) (by kernel_rfl) (by kernel_rfl) (fun _ _ _ h => h) (Or.inl ⟨by rfl, ?hy215⟩) (by assumption) ?rest215
                  case hy215 => ((intro w hSw; (try dsimp only at hSw); go_simp); try (with_reducible rfl))
                  ((try dsimp only [gA, gB, gC]); try simp only [Act.put, gD, gE, gF])
                  refine wpAnyH_take (i := 21) (oi := _) (v := ?v216) rfl (by kernel_rfl) (by kernel_rfl) (by kernel_rfl) (fun _ _ _ h => h) (Or.inl ⟨by rfl, ?hy216⟩) (by assumption) ?rest216
                  case hy216 => ((intro w hSw; (try dsimp only at hSw); go_simp); try (with_reducible rfl))
                  ((try dsimp only [gA, gB, gC]); try simp only [Act.put, gD, gE, gF])
                  refine wpAnyH_ready (rs := [22]) (by kernel_rfl) (by simp) ?_
                  refine AllReadyH.cons (o := _) rfl (fun K hK => ?_) AllReadyH.nil
                  go_simp
                  go_at_call 13; (with_reducible refine (K4.out _).mono ?_); rintro e1 u4 ⟨rj, rfl, hrj, q4⟩; obtain rfl : rj = true := bool_yes hrj (I2.out (.inl (HRA.out.1 rfl))); clear hrj
                  refine hK.out _ _ ?_ (fun hHeld => ?_)
                  · (try dsimp only); refine HK7.out _ ?_; (repeat (first | (with_reducible refine gr_dr ?_) | (with_reducible refine gr_then ?_ q3) | (with_reducible refine gr_then ?_ q4) | (with_reducible exact gr_rfl _)))
                  clear hK K
                  ((try dsimp only [gA, gB, gC]); try simp only [Act.put, gD, gE, gF])
                  refine wpAnyH_take (i := 23) (oi := _) (v := ?v217) rfl (by kernel_rfl) (by kernel_rfl) (by kernel_rfl) (fun _ _ _ h => h) (Or.inl ⟨by rfl, ?hy217⟩) (by assumption) ?rest217
                  case hy217 => ((intro w hSw; (try dsimp only at hSw); go_simp); try (with_reducible rfl))
                  ((try dsimp only [gA, gB, gC]); try simp only [Act.put, gD, gE, gF])
                  refine wpAnyH_take (i := 24) (oi := _) (v := ?v218) rfl (by kernel_rfl) (by kernel_rfl) (by kernel_rfl) (fun _ _ _ h => h) (Or.inl ⟨by rfl, ?hy218⟩) (by assumption) ?rest218
                  case hy218 => ((intro w hSw; (try dsimp only at hSw); go_simp); try (with_reducible rfl))
                  ((try dsimp only [gA, gB, gC]); try simp only [Act.put, gD, gE, gF])
                  refine wpAnyH_take (i := 25) (oi := _) (v := ?v219) rfl (by kernel_rfl) (by kernel_rfl) (by kernel_rfl) (fun _ _ _ h => h) (Or.inl ⟨by rfl, ?hy219⟩) (by assumption) ?rest219
                  case hy219 => ((intro w hSw; (try dsimp only at hSw); go_simp); try (with_reducible rfl))
                  ((try dsimp only [gA, gB, gC]); try simp only [Act.put, gD, gE, gF])
                  refine wpAnyH_take (i := 26) (oi := _) (v := ?v220) rfl (by kernel_rfl) (by kernel_rfl) (by kernel_rfl) (fun _ _ _ h => h) (Or.inl ⟨by rfl, ?hy220⟩) (by assumption) ?rest220
                  case hy220 => ((intro w hSw; (try dsimp only at hSw); go_simp); try (with_reducible rfl))
                  ((try dsimp only [gA, gB, gC]); try simp only [Act.put, gD, gE, gF])
                  refine wpAnyH_take (i := 27) (oi := _) (v := ?v221) rfl (by kernel_rfl) (by kernel_rfl) (by kernel_rfl) (fun _ _ _ h => h) (Or.inl ⟨by rfl, ?hy221⟩) (by assumption) ?rest221
                  case hy221 => ((intro w hSw; (try dsimp only at hSw); go_simp); try (with_reducible rfl))
                  ((try dsimp only [gA, gB, gC]); try simp only [Act.put, gD, gE, gF])
                  refine wpAnyH_take (i := 28) (oi := _) (v := ?v222) rfl (by kernel_rfl) (by kernel_rfl) (by kernel_rfl) (fun _ _ _ h => h) (Or.inl ⟨by rfl, ?hy222⟩) (by assumption) ?rest222
                  case hy222 => ((intro w hSw; (try dsimp only at hSw); go_simp); try (with_reducible rfl))
                  ((try dsimp only [gA, gB, gC]); try simp only [Act.put, gD, gE, gF])
                  refine wpAnyH_take (i := 29) (oi := _) (v := _) rfl (by kernel_rfl) (by kernel_rfl) (by kernel_rfl) (fun _ _ _ h => h) (Or.inr ⟨by rfl, rfl⟩) (by assumption) ?rest223
                  ((try dsimp only [gA, gB, gC]); try simp only [Act.put, gD, gE, gF])
                  refine wpAnyH_take (i := 30) (oi := _) (v := ?v224) rfl (by kernel_rfl) (by kernel_rfl) (by kernel_rfl) (fun _ _ _ h => h) (Or.inl ⟨by rfl, ?hy224⟩) (by assumption) ?rest224
                  case hy224 => ((intro w hSw; (try dsimp only at hSw); go_simp); try (with_reducible rfl))
                  ((try dsimp only [gA, gB, gC]); try simp only [Act.put, gD, gE, gF])
                  refine wpAnyH_take (i := 31) (oi := _) (v := ?v225) rfl (by kernel_rfl) (by kernel_rfl) (by kernel_rfl) (fun _ _ _ h => h) (Or.inl ⟨by rfl, ?hy225⟩) (by assumption) ?rest225
                  case hy225 => ((intro w hSw; (try dsimp only at hSw); go_simp); try (with_reducible rfl))
                  ((try dsimp only [gA, gB, gC]); try simp only [Act.put, gD, gE, gF])
                  refine wpAnyH_take (i := 32) (oi := _) (v := _) rfl (by kernel_rfl) (by kernel_rfl) (by kernel_rfl) (fun _ _ _ h => h) (Or.inr ⟨by rfl, rfl⟩) (by assumption) ?rest226
                  ((try dsimp only [gA, gB, gC]); try simp only [Act.put, gD, gE, gF])
                  refine wpAnyH_take (i := 33) (oi := _) (v := _) rfl (by kernel_rfl) (by kernel_rfl) (by kernel_rfl) (fun _ _ _ h => h) (Or.inr ⟨by rfl, rfl⟩) (by assumption) ?rest227
                  ((try dsimp only [gA, gB, gC]); try simp only [Act.put, gD, gE, gF])
                  refine wpAnyH_take (i := 34) (oi := _) (v := ?v228) rfl (by kernel_rfl) (by kernel_rfl) (by kernel_rfl) (fun _ _ _ h => h) (Or.inl ⟨by rfl, ?hy228⟩) (by assumption) ?rest228
                  case hy228 => ((intro w hSw; (try dsimp only at hSw); go_simp); try (with_reducible rfl))
                  ((try dsimp only [gA, gB, gC]); try simp only [Act.put, gD, gE, gF])
                  refine wpAnyH_take (i := 35) (oi := _) (v := ?v229) rfl (by kernel_rfl) (by kernel_rfl) (by kernel_rfl) (fun _ _ _ h => h) (Or.inl ⟨by rfl, ?hy229⟩) (by assumption) ?rest229
                  case hy229 => ((intro w hSw; (try dsimp only at hSw); go_simp); try (with_reducible rfl))
                  ((try dsimp only [gA, gB, gC]); try simp only [Act.put, gD, gE, gF])
                  refine wpAnyH_done (by kernel_rfl) ?_ _
                  have GE := Lib.hid (show w7.grownBy u4 none from gr_then HGX.out (gr_then GU2.out (by (repeat (first | (with_reducible refine gr_dr ?_) | (with_reducible refine gr_then ?_ q3) | (with_reducible refine gr_then ?_ q4) | (with_reducible exact gr_rfl _))))))
                  clear hHeld HK7 q3 q4
                  go_wp2
                  exact ⟨⟨J + 1, by simp, by omega, GE⟩, by simp only [intOf]; omega⟩
                · refine wp_region_held_drew (S := (fun w' => w'.cell? ⟨MB, 0, none⟩ = some (.int .i64 ml) ∧ w'.cell? ⟨MB, 1, none⟩ = some (.int .i64 mm) ∧ w'.cell? ⟨MB, 2, none⟩ = some (.int .i64 mc) ∧ w'.cell? ⟨MB, 3, none⟩ = some (.string mb) ∧ w'.cell? ⟨MB, 4, none⟩ = some (.string me) ∧ w'.cell? ⟨JB, 0, none⟩ = some (.int .i64 jl) ∧ w'.cell? ⟨JB, 1, none⟩ = some (.int .i64 jm) ∧ w'.cell? ⟨JB, 2, none⟩ = some (.int .i64 jc) ∧ w'.cell? ⟨JB, 3, none⟩ = some (.string jb) ∧ w'.cell? ⟨JB, 4, none⟩ = some (.string je) ∧ w'.cell? ⟨g, J, none⟩ = some (.string tx))) (by kernel_rfl) ?_ (fun hHeld => ?_)
                  · refine HK7.out _ ?_; (repeat (first | (with_reducible refine gr_dr ?_) | (with_reducible refine gr_then ?_ q3) | (with_reducible refine gr_then ?_ q4) | (with_reducible exact gr_rfl _)))
                  refine wpAnyH_take (i := 0) (oi := _) (v := ?v230) rfl (by kernel_rfl) (by kernel_rfl) (by kernel_rfl) (fun _ _ _ h => h) (Or.inl ⟨by rfl, ?hy230⟩) (by assumption) ?rest230
                  case hy230 => ((intro w hSw; (try dsimp only at hSw); go_simp); try (with_reducible rfl))
                  ((try dsimp only [gA, gB, gC]); try simp only [Act.put, gD, gE, gF])
                  refine wpAnyH_take (i := 1) (oi := _) (v := ?v231) rfl (by kernel_rfl) (by kernel_rfl) (by kernel_rfl) (fun _ _ _ h => h) (Or.inl ⟨by rfl, ?hy231⟩) (by assumption) ?rest231
                  case hy231 => ((intro w hSw; (try dsimp only at hSw); go_simp); try (with_reducible rfl))
                  ((try dsimp only [gA, gB, gC]); try simp only [Act.put, gD, gE, gF])
                  refine wpAnyH_take (i := 2) (oi := _) (v := ?v232) rfl (by kernel_rfl) (by kernel_rfl) (by kernel_rfl) (fun _ _ _ h => h) (Or.inl ⟨by rfl, ?hy232⟩) (by assumption) ?rest232
                  case hy232 => ((intro w hSw; (try dsimp only at hSw); go_simp); try (with_reducible rfl))
                  ((try dsimp only [gA, gB, gC]); try simp only [Act.put, gD, gE, gF])
                  refine wpAnyH_take (i := 3) (oi := _) (v := ?v233) rfl (by kernel_rfl) (by kernel_rfl) (by kernel_rfl) (fun _ _ _ h => h) (Or.inl ⟨by rfl, ?hy233⟩) (by assumption) ?rest233
                  case hy233 => ((intro w hSw; (try dsimp only at hSw); go_simp); try (with_reducible rfl))
                  ((try dsimp only [gA, gB, gC]); try simp only [Act.put, gD, gE, gF])
                  refine wpAnyH_take (i := 4) (oi := _) (v := ?v234) rfl (by kernel_rfl) (by kernel_rfl) (by kernel_rfl) (fun _ _ _ h => h) (Or.inl ⟨by rfl, ?hy234⟩) (by assumption) ?rest234
                  case hy234 => ((intro w hSw; (try dsimp only at hSw); go_simp); try (with_reducible rfl))
                  ((try dsimp only [gA, gB, gC]); try simp only [Act.put, gD, gE, gF])
                  refine wpAnyH_take (i := 6) (oi := _) (v := ?v235) rfl (by kernel_rfl) (by kernel_rfl) (by kernel_rfl) (fun _ _ _ h => h) (Or.inl ⟨by rfl, ?hy235⟩) (by assumption) ?rest235
                  case hy235 => ((intro w hSw; (try dsimp only at hSw); go_simp); try (with_reducible rfl))
                  ((try dsimp only [gA, gB, gC]); try simp only [Act.put, gD, gE, gF])
                  refine wpAnyH_ready (rs := [5]) (by kernel_rfl) (by simp) ?_
                  refine AllReadyH.cons (o := _) rfl (fun K hK => ?_) AllReadyH.nil
                  go_simp
                  go_at_call 13; (with_reducible refine (K3.out _).mono ?_); rintro e1 u3 ⟨rm, rfl, hrm, q3⟩; obtain rfl : rm = true := bool_yes hrm (I1.out.2 ⟨HRA.out.1 rfl, HRB.out.1 rfl⟩); clear hrm
                  refine hK.out _ _ ?_ (fun hHeld => ?_)
                  · (try dsimp only); refine HK7.out _ ?_; (repeat (first | (with_reducible refine gr_dr ?_) | (with_reducible refine gr_then ?_ q3) | (with_reducible refine gr_then ?_ q4) | (with_reducible exact gr_rfl _)))
                  clear hK K
                  ((try dsimp only [gA, gB, gC]); try simp only [Act.put, gD, gE, gF])
                  refine wpAnyH_take (i := 7) (oi := _) (v := ?v236) rfl (by kernel_rfl) (by kernel_rfl) (by kernel_rfl) (fun _ _ _ h => h) (Or.inl ⟨by rfl, ?hy236⟩) (by assumption) ?rest236
                  case hy236 => ((intro w hSw; (try dsimp only at hSw); go_simp); try (with_reducible rfl))
                  ((try dsimp only [gA, gB, gC]); try simp only [Act.put, gD, gE, gF])
                  refine wpAnyH_take (i := 8) (oi := _) (v := ?v237) rfl (by kernel_rfl) (by kernel_rfl) (by kernel_rfl) (fun _ _ _ h => h) (Or.inl ⟨by rfl, ?hy237⟩) (by assumption) ?rest237
                  case hy237 => ((intro w hSw; (try dsimp only at hSw); go_simp); try (with_reducible rfl))
                  ((try dsimp only [gA, gB, gC]); try simp only [Act.put, gD, gE, gF])
                  refine wpAnyH_take (i := 9) (oi := _) (v := ?v238) rfl (by kernel_rfl) (by kernel_rfl) (by kernel_rfl) (fun _ _ _ h => h) (Or.inl ⟨by rfl, ?hy238⟩) (by assumption) ?rest238
                  case hy238 => ((intro w hSw; (try dsimp only at hSw); go_simp); try (with_reducible rfl))
                  ((try dsimp only [gA, gB, gC]); try simp only [Act.put, gD, gE, gF])
                  refine wpAnyH_take (i := 10) (oi := _) (v := ?v239) rfl (by kernel_rfl) (by kernel_rfl) (by kernel_rfl) (fun _ _ _ h => h) (Or.inl ⟨by rfl, ?hy239⟩) (by assumption) ?rest239
                  case hy239 => ((intro w hSw; (try dsimp only at hSw); go_simp); try (with_reducible rfl))
                  ((try dsimp only [gA, gB, gC]); try simp only [Act.put, gD, gE, gF])
                  refine wpAnyH_take (i := 11) (oi := _) (v := ?v240) rfl (by kernel_rfl) (by kernel_rfl) (by kernel_rfl) (fun _ _ _ h => h) (Or.inl ⟨by rfl, ?hy240⟩) (by assumption) ?rest240
                  case hy240 => ((intro w hSw; (try dsimp only at hSw); go_simp); try (with_reducible rfl))
                  ((try dsimp only [gA, gB, gC]); try simp only [Act.put, gD, gE, gF])
                  refine wpAnyH_take (i := 12) (oi := _) (v := ?v241) rfl (by kernel_rfl) (by kernel_rfl) (by kernel_rfl) (fun _ _ _ h => h) (Or.inl ⟨by rfl, ?hy241⟩) (by assumption) ?rest241
                  case hy241 => ((intro w hSw; (try dsimp only at hSw); go_simp); try (with_reducible rfl))
                  ((try dsimp only [gA, gB, gC]); try simp only [Act.put, gD, gE, gF])
                  refine wpAnyH_take (i := 13) (oi := _) (v := ?v242) rfl (by kernel_rfl) (by kernel_rfl) (by kernel_rfl) (fun _ _ _ h => h) (Or.inl ⟨by rfl, ?hy242⟩) (by assumption) ?rest242
                  case hy242 => ((intro w hSw; (try dsimp only at hSw); go_simp); try (with_reducible rfl))
                  ((try dsimp only [gA, gB, gC]); try simp only [Act.put, gD, gE, gF])
                  refine wpAnyH_take (i := 14) (oi := _) (v := _) rfl (by kernel_rfl) (by kernel_rfl) (by kernel_rfl) (fun _ _ _ h => h) (Or.inr ⟨by rfl, rfl⟩) (by assumption) ?rest243
                  ((try dsimp only [gA, gB, gC]); try simp only [Act.put, gD, gE, gF])
                  refine wpAnyH_take (i := 15) (oi := _) (v := ?v244) rfl (by kernel_rfl) (by kernel_rfl) (by kernel_rfl) (fun _ _ _ h => h) (Or.inl ⟨by rfl, ?hy244⟩) (by assumption) ?rest244
                  case hy244 => ((intro w hSw; (try dsimp only at hSw); go_simp); try (with_reducible rfl))
                  ((try dsimp only [gA, gB, gC]); try simp only [Act.put, gD, gE, gF])
                  refine wpAnyH_take (i := 16) (oi := _) (v := ?v245) rfl (by kernel_rfl) (by kernel_rfl) (by kernel_rfl) (fun _ _ _ h => h) (Or.inl ⟨by rfl, ?hy245⟩) (by assumption) ?rest245
                  case hy245 => ((intro w hSw; (try dsimp only at hSw); go_simp); try (with_reducible rfl))
                  ((try dsimp only [gA, gB, gC]); try simp only [Act.put, gD, gE, gF])
                  refine wpAnyH_take (i := 17) (oi := _) (v := ?v246) rfl (by kernel_rfl) (by kernel_rfl) (by kernel_rfl) (fun _ _ _ h => h) (Or.inl ⟨by rfl, ?hy246⟩) (by assumption) ?rest246
                  case hy246 => ((intro w hSw; (try dsimp only at hSw); go_simp); try (with_reducible rfl))
                  ((try dsimp only [gA, gB, gC]); try simp only [Act.put, gD, gE, gF])
                  refine wpAnyH_take (i := 18) (oi := _) (v := ?v247) rfl (by kernel_rfl) (by kernel_rfl) (by kernel_rfl) (fun _ _ _ h => h) (Or.inl ⟨by rfl, ?hy247⟩) (by assumption) ?rest247
                  case hy247 => ((intro w hSw; (try dsimp only at hSw); go_simp); try (with_reducible rfl))
                  ((try dsimp only [gA, gB, gC]); try simp only [Act.put, gD, gE, gF])
                  refine wpAnyH_take (i := 19) (oi := _) (v := ?v248) rfl (by kernel_rfl) (by kernel_rfl) (by kernel_rfl) (fun _ _ _ h => h) (Or.inl ⟨by rfl, ?hy248⟩) (by assumption) ?rest248
                  case hy248 => ((intro w hSw; (try dsimp only at hSw); go_simp); try (with_reducible rfl))
                  ((try dsimp only [gA, gB, gC]); try simp only [Act.put, gD, gE, gF])
                  refine wpAnyH_take (i := 20) (oi := _) (v := ?v249) rfl (by kernel_rfl) (by kernel_rfl) (by kernel_rfl) (fun _ _ _ h => h) (Or.inl ⟨by rfl, ?hy249⟩) (by assumption) ?rest249
                  case hy249 => ((intro w hSw; (try dsimp only at hSw); go_simp); try (with_reducible rfl))
                  ((try dsimp only [gA, gB, gC]); try simp only [Act.put, gD, gE, gF])
                  refine wpAnyH_take (i := 21) (oi := _) (v := ?v250) rfl (by kernel_rfl) (by kernel_rfl) (by kernel_rfl) (fun _ _ _ h => h) (Or.inl ⟨by rfl, ?hy250⟩) (by assumption) ?rest250
                  case hy250 => ((intro w hSw; (try dsimp only at hSw); go_simp); try (with_reducible rfl))
                  ((try dsimp only [gA, gB, gC]); try simp only [Act.put, gD, gE, gF])
                  refine wpAnyH_ready (rs := [22]) (by kernel_rfl) (by simp) ?_
                  refine AllReadyH.cons (o := _) rfl (fun K hK => ?_) AllReadyH.nil
                  go_simp
                  go_at_call 13; (with_reducible refine (K4.out _).mono ?_); rintro e1 u4 ⟨rj, rfl, hrj, q4⟩; obtain rfl : rj = true := bool_yes hrj (I2.out (.inl (HRA.out.1 rfl))); clear hrj
                  refine hK.out _ _ ?_ (fun hHeld => ?_)
                  · (try dsimp only); refine HK7.out _ ?_; (repeat (first | (with_reducible refine gr_dr ?_) | (with_reducible refine gr_then ?_ q3) | (with_reducible refine gr_then ?_ q4) | (with_reducible exact gr_rfl _)))
                  clear hK K
                  ((try dsimp only [gA, gB, gC]); try simp only [Act.put, gD, gE, gF])
                  refine wpAnyH_take (i := 23) (oi := _) (v := ?v251) rfl (by kernel_rfl) (by kernel_rfl) (by kernel_rfl) (fun _ _ _ h => h) (Or.inl ⟨by rfl, ?hy251⟩) (by assumption) ?rest251
                  case hy251 => ((intro w hSw; (try dsimp only at hSw); go_simp); try (with_reducible rfl))
                  ((try dsimp only [gA, gB, gC]); try simp only [Act.put, gD, gE, gF])
                  refine wpAnyH_take (i := 24) (oi := _) (v := ?v252) rfl (by kernel_rfl) (by kernel_rfl) (by kernel_rfl) (fun _ _ _ h => h) (Or.inl ⟨by rfl, ?hy252⟩) (by assumption) ?rest252
                  case hy252 => ((intro w hSw; (try dsimp only at hSw); go_simp); try (with_reducible rfl))
                  ((try dsimp only [gA, gB, gC]); try simp only [Act.put, gD, gE, gF])
                  refine wpAnyH_take (i := 25) (oi := _) (v := ?v253) rfl (by kernel_rfl) (by kernel_rfl) (by kernel_rfl) (fun _ _ _ h => h) (Or.inl ⟨by rfl, ?hy253⟩) (by assumption) ?rest253
                  case hy253 => ((intro w hSw; (try dsimp only at hSw); go_simp); try (with_reducible rfl))
                  ((try dsimp only [gA, gB, gC]); try simp only [Act.put, gD, gE, gF])
                  refine wpAnyH_take (i := 26) (oi := _) (v := ?v254) rfl (by kernel_rfl) (by kernel_rfl) (by kernel_rfl) (fun _ _ _ h => h) (Or.inl ⟨by rfl, ?hy254⟩) (by assumption) ?rest254
                  case hy254 => ((intro w hSw; (try dsimp only at hSw); go_simp); try (with_reducible rfl))
                  ((try dsimp only [gA, gB, gC]); try simp only [Act.put, gD, gE, gF])
                  refine wpAnyH_take (i := 27) (oi := _) (v := ?v255) rfl (by kernel_rfl) (by kernel_rfl) (by kernel_rfl) (fun _ _ _ h => h) (Or.inl ⟨by rfl, ?hy255⟩) (by assumption) ?rest255
                  case hy255 => ((intro w hSw; (try dsimp only at hSw); go_simp); try (with_reducible rfl))
                  ((try dsimp only [gA, gB, gC]); try simp only [Act.put, gD, gE, gF])
                  refine wpAnyH_take (i := 28) (oi := _) (v := ?v256) rfl (by kernel_rfl) (by kernel_rfl) (by kernel_rfl) (fun _ _ _ h => h) (Or.inl ⟨by rfl, ?hy256⟩) (by assumption) ?rest256
                  case hy256 => ((intro w hSw; (try dsimp only at hSw); go_simp); try (with_reducible rfl))
                  ((try dsimp only [gA, gB, gC]); try simp only [Act.put, gD, gE, gF])
                  refine wpAnyH_take (i := 29) (oi := _) (v := ?v257) rfl (by kernel_rfl) (by kernel_rfl) (by kernel_rfl) (fun _ _ _ h => h) (Or.inl ⟨by rfl, ?hy257⟩) (by assumption) ?rest257
                  case hy257 => ((intro w hSw; (try dsimp only at hSw); go_simp); try (with_reducible rfl))
                  ((try dsimp only [gA, gB, gC]); try simp only [Act.put, gD, gE, gF])
                  refine wpAnyH_take (i := 30) (oi := _) (v := ?v258) rfl (by kernel_rfl) (by kernel_rfl) (by kernel_rfl) (fun _ _ _ h => h) (Or.inl ⟨by rfl, ?hy258⟩) (by assumption) ?rest258
                  case hy258 => ((intro w hSw; (try dsimp only at hSw); go_simp); try (with_reducible rfl))
                  ((try dsimp only [gA, gB, gC]); try simp only [Act.put, gD, gE, gF])
                  refine wpAnyH_take (i := 31) (oi := _) (v := ?v259) rfl (by kernel_rfl) (by kernel_rfl) (by kernel_rfl) (fun _ _ _ h => h) (Or.inl ⟨by rfl, ?hy259⟩) (by assumption) ?rest259
                  case hy259 => ((intro w hSw; (try dsimp only at hSw); go_simp); try (with_reducible rfl))
                  ((try dsimp only [gA, gB, gC]); try simp only [Act.put, gD, gE, gF])
                  refine wpAnyH_take (i := 32) (oi := _) (v := ?v260) rfl (by kernel_rfl) (by kernel_rfl) (by kernel_rfl) (fun _ _ _ h => h) (Or.inl ⟨by rfl, ?hy260⟩) (by assumption) ?rest260
                  case hy260 => ((intro w hSw; (try dsimp only at hSw); go_simp); try (with_reducible rfl))
                  ((try dsimp only [gA, gB, gC]); try simp only [Act.put, gD, gE, gF])
                  refine wpAnyH_take (i := 33) (oi := _) (v := ?v261) rfl (by kernel_rfl) (by kernel_rfl) (by kernel_rfl) (fun _ _ _ h => h) (Or.inl ⟨by rfl, ?hy261⟩) (by assumption) ?rest261
                  case hy261 => ((intro w hSw; (try dsimp only at hSw); go_simp); try (with_reducible rfl))
                  ((try dsimp only [gA, gB, gC]); try simp only [Act.put, gD, gE, gF])
                  refine wpAnyH_take (i := 34) (oi := _) (v := ?v262) rfl (by kernel_rfl) (by kernel_rfl) (by kernel_rfl) (fun _ _ _ h => h) (Or.inl ⟨by rfl, ?hy262⟩) (by assumption) ?rest262
                  case hy262 => ((intro w hSw; (try dsimp only at hSw); go_simp); try (with_reducible rfl))
                  ((try dsimp only [gA, gB, gC]); try simp only [Act.put, gD, gE, gF])
                  refine wpAnyH_take (i := 35) (oi := _) (v := ?v263) rfl (by kernel_rfl) (by kernel_rfl) (by kernel_rfl) (fun _ _ _ h => h) (Or.inl ⟨by rfl, ?hy263⟩) (by assumption) ?rest263
                  case hy263 => ((intro w hSw; (try dsimp only at hSw); go_simp); try (with_reducible rfl))
                  ((try dsimp only [gA, gB, gC]); try simp only [Act.put, gD, gE, gF])
                  refine wpAnyH_done (by kernel_rfl) ?_ _
                  have GE := Lib.hid (show w7.grownBy u4 none from gr_then HGX.out (gr_then GU2.out (by (repeat (first | (with_reducible refine gr_dr ?_) | (with_reducible refine gr_then ?_ q3) | (with_reducible refine gr_then ?_ q4) | (with_reducible exact gr_rfl _))))))
                  clear hHeld HK7 q3 q4
                  go_wp2
                  exact ⟨⟨J + 1, by simp, by omega, GE⟩, by simp only [intOf]; omega⟩
end Go.Proofs.YtaejnklgnegkhaaGreatDoor
namespace Go.Proofs.YtaejnklgnegkhaaGreatDoor
open Go.ChangeShapes Go.WideShapes Go.ChangeAt Go.RowKit Pt Sh

set_option maxRecDepth 1000000 in
set_option maxHeartbeats 4000000 in
theorem sets_lifted (os : Os) (started : os.Started) (H : Type) (enc : TypeId × Value → H) :
    ReturnsInHanded {} Tryz.checked os 4 .any (fun w args => (Rows.shapeSetsSpec.pre enc Tryz.prog Tryz.f4 Rows.shapeSetsRow.domain false w args ∧ laidMet Tryz.prog Rows.shapeSetsRow.laid w) ∧ sizedMet enc Tryz.prog Tryz.f4 (OpenSpec.ofChange Rows.shapeSetsSpec) false w args)
      (Rows.shapeSetsSpec.post enc Tryz.prog Tryz.f4 false true false false) := by
  refine returnsInHanded_of_change_and (C := Tryz.checked) (X := fun w _ => laidMet Tryz.prog Rows.shapeSetsRow.laid w) (fun _ _ _ hh h => h.of_heap hh) own0 started (by kernel_rfl) Tryz.func4
    (ChangeSpec.witness_at (enc := enc) (C := Tryz.checked) (os := os) (X := fun w _ => laidMet Tryz.prog Rows.shapeSetsRow.laid w) false (laidWorld os) #[.agg #[.slice none 0 0, .slice none 0 0, .int .i64 0, .int .i64 0, .int .i64 0, .string ⟨#[]⟩, .string ⟨#[]⟩, .string ⟨#[]⟩], .agg #[.int .i64 0, .int .i64 0]] 8 rfl (by kernel_rfl) (by kernel_rfl) (by kernel_rfl) (by kernel_rfl) (by kernel_rfl) (laid_at os _)) ?_
  intro W base args ds gs before hval0 hW hcnd0 _ hL _
  have hval : ∀ (j : Nat) t v, Tryz.f4.params[j]? = some t → args[j]? = some v → Value.okWide Tryz.prog W .any base t v := hval0
  have hW' := hW
  obtain ⟨p, q, hA0, hV, rfl, hfz, hnd⟩ := hW
  have hA : DataW.TrodAll enc Tryz.prog W 0 (fun _ => true) true Tryz.f4.params.toList args.toList ds p := hA0
  rw [Tryz.params4] at hA hval
  obtain ⟨v0, v1, d0, d1, p0, p1, rfl, rfl, rfl, h0, h1⟩ := trodAll_two hA
  obtain ⟨rfl, rfl⟩ := trodVars_none hV
  clear hA0 hval0 hA
  simp only [List.append_nil] at hW'
  have k0 := hval 0 26 v0 rfl rfl
  have k1 := hval 1 37 v1 rfl rfl
  obtain ⟨va0, vb0, ra0, sa0, rfl, w0⟩ := case_arg k0 h0
  obtain ⟨na1, nb1, rfl, w1, x1⟩ := a2i_arg k1 h1
  refine (sets_true va0 vb0 ra0 sa0 na1 nb1 W (tab_of hL) w0 w1 x1).mono fun e W' ⟨he, hg⟩ => ?_
  subst he
  have hb : Below W.heap.size W W' := gr_low hg
  have hlt : ∀ x ∈ p0 ++ p1, x.block < W.heap.size := fun x hx => by simpa using hW'.lt x hx
  have hl0 : ∀ x ∈ p0, x.block < W.heap.size := fun x hx => hlt x (by simp [hx])
  have hl1 : ∀ x ∈ p1, x.block < W.heap.size := fun x hx => hlt x (by simp [hx])
  refine ⟨_, rfl, _, _, _, [], p0 ++ p1, [], hW', ?_, ?_, rfl, hb.frame _, fun h => by cases h⟩
  · exact trodAll_mk1 (shut_bool Tryz.underlying4 true)
  · have h3 := trodAll_mk2 (Below.trod laidOut0 (by kernel_rfl) (of_decide_eq_true (by kernel_rfl)) h0 hb hl0) (Below.trod laidOut0 (by kernel_rfl) (of_decide_eq_true (by kernel_rfl)) h1 hb hl1)
    exact h3

theorem sets_row : Rows.ShapeSetsSaid :=
  OpenClaim.holds_of_wide 4 Tryz.f4 rfl rfl rfl rfl rfl rfl rfl ⟨rfl, rfl, rfl, rfl, rfl⟩ rfl rfl rfl rfl rfl (by kernel_rfl) Tryz.func4 (by kernel_rfl)
    (of_decide_eq_true (by kernel_rfl)) (by unfold Func.isWrapper; first | (rw [if_pos (by decide +kernel)]; kernel_rfl) | (rw [if_neg (by decide +kernel)]; exact ⟨rfl, rfl⟩))
    (fun os started H enc _ => sets_lifted os started H enc)
end Go.Proofs.YtaejnklgnegkhaaGreatDoor
