/- Contracts of the program and of the reference, part 3: Ph, Pi, Pj, Pk, Pl. -/
import Derived.Test.YtgkegbcdiadkdaaDoorBBase2
import Derived.Laws.BytesArg
import Derived.OwnWalk
namespace Go.Proofs.YtgkegbcdiadkdaaDoor
open Go.RowKit Pt

theorem wpList_call_append {P : Program} {w : World} {ops : Array Oper} {rest : List Oper} {o : Oper} {a : Act} {Q : Exit → Act → World → Prop} (hgd : o.guard = none) (s x : Operand) (t : TypeId)
    (ho : o.op = .call { callee := .builtin .append, args := #[s, x], argTypes := #[t, t] }) (v xv : Value) (hs : a.eval s = v) (hx : a.eval x = xv) (v' : Value) (w' : World)
    (hr : Sem.run P (Builtin.append_ #[t, t] o.type #[v, xv]) w = .ok v' w') (h : wpList P ops Q rest (a.put o.dst v') w') : wpList P ops Q (o :: rest) a w := by
  refine wpList_plain hgd fun K hK => ?_
  unfold Oper.wp execOp
  simp only [ho, resolve, invoke, builtin, Sem.run_bind, Sem.run_pure, Result.andThen_ok, List.map_toArray, List.map_cons, List.map_nil, hs, hx, hr]
  exact hK _ _ h
/-- The table of powers of ten. -/
abbrev TabP (w : World) : Prop := Lib.TabIs Tryd.prog w "internal/strconv.uint64pow10" .u64 Lib.pow10Tab
theorem tab_below {W w : World} (h : TabP W) (g : W.grownBy w none) : Lib.TabBelow Tryd.prog W.heap.size w "internal/strconv.uint64pow10" .u64 Lib.pow10Tab := (Lib.tabBelow_of_tabIs h).on ((Below.refl W.heap.size W).grown g (Nat.le_refl _) (by simp))
theorem below_gr {W w w' : World} (h : W.grownBy w none) (b : Below W.heap.size w w') : W.grownBy w' none :=
  ⟨b.os.trans h.os, b.tape.trans h.tape, b.output.trans h.output, Nat.le_trans h.size b.size, fun k hk _ => (b.block k hk).trans (h.block k hk (by simp))⟩
/-- What a call gives that goes on with a form. -/
def Goes (W : World) (f : Nat) (args : Array Value) (w : World) (l : List UInt8) : Prop := Calls Tryd.prog f args w fun e w' => ∃ v', e = .returned v' ∧ Form w' W.heap.size v' l ∧ W.grownBy w' none ∧ OK8 w w'
theorem append_int (W w : World) (v : Value) (l : List UInt8) (n : Nat) (hf : Form w W.heap.size v l) (hg : W.grownBy w none) (ht : TabP W) (hn : n ≤ 1000000) (hl : l.length ≤ 100000) : Goes W 78 #[v, .int .i64 (n : Int), .int .i64 10] w (l ++ Lib.decDigits n) := by
  refine (Tryd.strconv_AppendInt_10 W.heap.size l.length (n : Int) (by omega) (by omega) v (byV l) w hf hg.size (by omega) (tab_below ht hg)).mono ?_
  rintro e w' ⟨v', rfl, h1, h2, h3⟩
  rw [Lib.itoa_nonneg] at h1
  refine ⟨v', rfl, ?_, below_gr hg h2, h3⟩
  unfold Form
  rw [byV_app, List.length_append]
  exact h1
theorem ds_le (n : Nat) (h : n ≤ 200) : (Lib.decDigits n).length ≤ 3 := dec_le n 3 (by decide) (by omega)
/-- append of one byte. -/
theorem app_byte (W wr : World) (v : Value) (l : List UInt8) (c : UInt8) (z : Int) (hz : (c.toNat : Int) = z) (hf : Form wr W.heap.size v l) (hn : l.length ≤ 90000) (hg : W.grownBy wr none) :
    ∃ v' w', (Builtin.append_ #[41, 41] 41 #[v, .slice (some ⟨wr.heap.size, 0, none⟩) 1 1]).run Tryd.prog (wr.alloc (.cells #[.int .u8 z] 5)) = .ok v' w' ∧ Form w' W.heap.size v' (l ++ [c]) ∧ W.grownBy w' none ∧ OK8 wr w' := by
  subst hz
  exact app_bytes W wr v l [c] hf (by simp; omega) hg
set_option maxRecDepth 100000 in
set_option maxHeartbeats 4000000 in
theorem pcount_any (W w : World) (v : Value) (l : List UInt8) (a b : Nat) (hf : Form w W.heap.size v l) (hg : W.grownBy w none) (ht : TabP W) (ha : a ≤ 200) (hb : b ≤ 200) (hl : l.length ≤ 1000) : Goes W 68 #[v, .int .i64 (a : Int), .int .i64 (b : Int)] w (l ++ cntL a b) := by
  have HF := Lib.hid hf
  have HT := Lib.hid ht
  clear hf ht
  unfold cntL
  by_cases h1 : a = 1 ∧ b = 1
  · rw [if_pos h1, List.append_nil]
    obtain ⟨rfl, rfl⟩ := h1
    unfold Goes
    go_enter Tryd.func68, Tryd.ntmps68
    go_wp2
    go_ret
    exact ⟨_, rfl, HF.out, hg, Lib.OthersKept.refl _ _ _⟩
  rw [if_neg h1]
  by_cases h2 : a = 1 ∧ b = 200
  · rw [if_pos h2]
    obtain ⟨rfl, rfl⟩ := h2
    unfold Goes
    go_enter Tryd.func68, Tryd.ntmps68
    obtain ⟨v1, w1, r1, f1, g1, k1⟩ := app_byte W w v (l) 43 43 (by decide) HF.out (by omega) hg
    have F1 := Lib.hid f1
    have K1 := Lib.hid k1
    clear f1 k1
    go_wp2_with (at_builtin; refine wpList_call_append rfl (.tmp 22) (.tmp 23) 41 rfl _ _ rfl rfl _ _ r1 ?_)
    go_ret
    exact ⟨_, rfl, F1.out, g1, K1.out⟩
  rw [if_neg h2]
  by_cases h3 : a = 0 ∧ b = 200
  · rw [if_pos h3]
    obtain ⟨rfl, rfl⟩ := h3
    unfold Goes
    go_enter Tryd.func68, Tryd.ntmps68
    obtain ⟨v1, w1, r1, f1, g1, k1⟩ := app_byte W w v (l) 42 42 (by decide) HF.out (by omega) hg
    have F1 := Lib.hid f1
    have K1 := Lib.hid k1
    clear f1 k1
    go_wp2_with (at_builtin; refine wpList_call_append rfl (.tmp 32) (.tmp 33) 41 rfl _ _ rfl rfl _ _ r1 ?_)
    go_ret
    exact ⟨_, rfl, F1.out, g1, K1.out⟩
  rw [if_neg h3]
  have c1 : ((a : Int) == 1) = true → ((b : Int) == 1) = false := by intro h; rw [beq_iff_eq] at h; rw [beq_eq_false_iff_ne]; omega
  have d1 : (((a : Int) == 1) = false) ∨ (a = 1 ∧ ((b : Int) == 1) = false ∧ ((b : Int) == 200) = false) := by
    rw [beq_eq_false_iff_ne, beq_eq_false_iff_ne, beq_eq_false_iff_ne]; omega
  have d2 : (((a : Int) == 0) = false) ∨ (a = 0 ∧ ((b : Int) == 200) = false) := by
    rw [beq_eq_false_iff_ne, beq_eq_false_iff_ne]; omega
  have hda := fun w v l hf hg (hl : l.length ≤ 100000) => append_int W w v l a hf hg HT.out (by omega) hl
  have hdb := fun w v l hf hg (hl : l.length ≤ 100000) => append_int W w v l b hf hg HT.out (by omega) hl
  have la := ds_le a ha
  have lb := ds_le b hb
  unfold Goes at hda hdb
  have HDA := Lib.hid hda
  have HDB := Lib.hid hdb
  clear hda hdb c1 h1 h2 h3
  have dd : a = b ∨ (a ≠ b ∧ ((a : Int) == (b : Int)) = false) := by
    rcases Nat.lt_or_ge a b with h | h
    · exact .inr ⟨by omega, by rw [beq_eq_false_iff_ne]; omega⟩
    · by_cases e : a = b
      · exact .inl e
      · exact .inr ⟨e, by rw [beq_eq_false_iff_ne]; omega⟩
  rcases dd with rfl | ⟨dn, de⟩
  · rw [if_pos rfl]
    rcases d1 with d1 | ⟨rfl, d1, d3⟩
    · rcases d2 with d2 | ⟨rfl, d2⟩
      · unfold Goes
        go_enter Tryd.func68, Tryd.ntmps68
        obtain ⟨v1, w1, r1, f1, g1, k1⟩ := app_byte W w v (l) 123 123 (by decide) HF.out (by omega) hg
        have F1 := Lib.hid f1
        have K1 := Lib.hid k1
        clear f1 k1
        go_wp2_with (at_builtin; refine wpList_call_append rfl (.tmp 35) (.tmp 36) 41 rfl _ _ rfl rfl _ _ r1 ?_)
        clear r1
        go_wp2_with fail
        refine (HDA.out w1 v1 _ F1.out g1 (by simp; omega)).mono ?_
        rintro e w2 ⟨v2, rfl, f2, g2, k2⟩
        have F2 := Lib.hid f2
        have K2 := Lib.hid (K1.out.trans k2)
        clear f2 g1 k2
        obtain ⟨v5, w5, r5, f5, g5, k5⟩ := app_byte W w2 v2 (l ++ [123] ++ Lib.decDigits a) 125 125 (by decide) F2.out (by simp; omega) g2
        have F5 := Lib.hid f5
        have K5 := Lib.hid k5
        clear f5 k5
        go_wp2_with (at_builtin; refine wpList_call_append rfl (.tmp 50) (.tmp 51) 41 rfl _ _ rfl rfl _ _ r5 ?_)
        go_ret
        exact ⟨_, rfl, by have h := F5.out; simpa using h, g5, K2.out.trans K5.out⟩
      · unfold Goes
        go_enter Tryd.func68, Tryd.ntmps68
        obtain ⟨v1, w1, r1, f1, g1, k1⟩ := app_byte W w v (l) 123 123 (by decide) HF.out (by omega) hg
        have F1 := Lib.hid f1
        have K1 := Lib.hid k1
        clear f1 k1
        go_wp2_with (at_builtin; refine wpList_call_append rfl (.tmp 35) (.tmp 36) 41 rfl _ _ rfl rfl _ _ r1 ?_)
        clear r1
        go_wp2_with fail
        refine (HDA.out w1 v1 _ F1.out g1 (by simp; omega)).mono ?_
        rintro e w2 ⟨v2, rfl, f2, g2, k2⟩
        have F2 := Lib.hid f2
        have K2 := Lib.hid (K1.out.trans k2)
        clear f2 g1 k2
        obtain ⟨v5, w5, r5, f5, g5, k5⟩ := app_byte W w2 v2 (l ++ [123] ++ Lib.decDigits 0) 125 125 (by decide) F2.out (by simp; omega) g2
        have F5 := Lib.hid f5
        have K5 := Lib.hid k5
        clear f5 k5
        go_wp2_with (at_builtin; refine wpList_call_append rfl (.tmp 50) (.tmp 51) 41 rfl _ _ rfl rfl _ _ r5 ?_)
        go_ret
        exact ⟨_, rfl, by have h := F5.out; simpa using h, g5, K2.out.trans K5.out⟩
    · exact absurd d1 (by decide)
  · rw [if_neg dn]
    rcases d1 with d1 | ⟨rfl, d1, d3⟩
    · rcases d2 with d2 | ⟨rfl, d2⟩
      · unfold Goes
        go_enter Tryd.func68, Tryd.ntmps68
        obtain ⟨v1, w1, r1, f1, g1, k1⟩ := app_byte W w v (l) 123 123 (by decide) HF.out (by omega) hg
        have F1 := Lib.hid f1
        have K1 := Lib.hid k1
        clear f1 k1
        go_wp2_with (at_builtin; refine wpList_call_append rfl (.tmp 35) (.tmp 36) 41 rfl _ _ rfl rfl _ _ r1 ?_)
        clear r1
        go_wp2_with fail
        refine (HDA.out w1 v1 _ F1.out g1 (by simp; omega)).mono ?_
        rintro e w2 ⟨v2, rfl, f2, g2, k2⟩
        have F2 := Lib.hid f2
        have K2 := Lib.hid (K1.out.trans k2)
        clear f2 g1 k2
        obtain ⟨v3, w3, r3, f3, g3, k3⟩ := app_byte W w2 v2 (l ++ [123] ++ Lib.decDigits a) 44 44 (by decide) F2.out (by simp; omega) g2
        have F3 := Lib.hid f3
        have K3 := Lib.hid k3
        clear f3 k3
        go_wp2_with (at_builtin; refine wpList_call_append rfl (.tmp 44) (.tmp 45) 41 rfl _ _ rfl rfl _ _ r3 ?_)
        clear r3
        go_wp2_with fail
        refine (HDB.out w3 v3 _ F3.out g3 (by simp; omega)).mono ?_
        rintro e w4 ⟨v4, rfl, f4, g4, k4⟩
        have F4 := Lib.hid f4
        have K4 := Lib.hid ((K2.out.trans K3.out).trans k4)
        clear f4 g3 k4
        obtain ⟨v5, w5, r5, f5, g5, k5⟩ := app_byte W w4 v4 (l ++ [123] ++ Lib.decDigits a ++ [44] ++ Lib.decDigits b) 125 125 (by decide) F4.out (by simp; omega) g4
        have F5 := Lib.hid f5
        have K5 := Lib.hid k5
        clear f5 k5
        go_wp2_with (at_builtin; refine wpList_call_append rfl (.tmp 50) (.tmp 51) 41 rfl _ _ rfl rfl _ _ r5 ?_)
        go_ret
        exact ⟨_, rfl, by have h := F5.out; simpa using h, g5, K4.out.trans K5.out⟩
      · unfold Goes
        go_enter Tryd.func68, Tryd.ntmps68
        obtain ⟨v1, w1, r1, f1, g1, k1⟩ := app_byte W w v (l) 123 123 (by decide) HF.out (by omega) hg
        have F1 := Lib.hid f1
        have K1 := Lib.hid k1
        clear f1 k1
        go_wp2_with (at_builtin; refine wpList_call_append rfl (.tmp 35) (.tmp 36) 41 rfl _ _ rfl rfl _ _ r1 ?_)
        clear r1
        go_wp2_with fail
        refine (HDA.out w1 v1 _ F1.out g1 (by simp; omega)).mono ?_
        rintro e w2 ⟨v2, rfl, f2, g2, k2⟩
        have F2 := Lib.hid f2
        have K2 := Lib.hid (K1.out.trans k2)
        clear f2 g1 k2
        obtain ⟨v3, w3, r3, f3, g3, k3⟩ := app_byte W w2 v2 (l ++ [123] ++ Lib.decDigits 0) 44 44 (by decide) F2.out (by simp; omega) g2
        have F3 := Lib.hid f3
        have K3 := Lib.hid k3
        clear f3 k3
        go_wp2_with (at_builtin; refine wpList_call_append rfl (.tmp 44) (.tmp 45) 41 rfl _ _ rfl rfl _ _ r3 ?_)
        clear r3
        go_wp2_with fail
        refine (HDB.out w3 v3 _ F3.out g3 (by simp; omega)).mono ?_
        rintro e w4 ⟨v4, rfl, f4, g4, k4⟩
        have F4 := Lib.hid f4
        have K4 := Lib.hid ((K2.out.trans K3.out).trans k4)
        clear f4 g3 k4
        obtain ⟨v5, w5, r5, f5, g5, k5⟩ := app_byte W w4 v4 (l ++ [123] ++ Lib.decDigits 0 ++ [44] ++ Lib.decDigits b) 125 125 (by decide) F4.out (by simp; omega) g4
        have F5 := Lib.hid f5
        have K5 := Lib.hid k5
        clear f5 k5
        go_wp2_with (at_builtin; refine wpList_call_append rfl (.tmp 50) (.tmp 51) 41 rfl _ _ rfl rfl _ _ r5 ?_)
        go_ret
        exact ⟨_, rfl, by have h := F5.out; simpa using h, g5, K4.out.trans K5.out⟩
    · clear d2
      unfold Goes
      go_enter Tryd.func68, Tryd.ntmps68
      obtain ⟨v1, w1, r1, f1, g1, k1⟩ := app_byte W w v (l) 123 123 (by decide) HF.out (by omega) hg
      have F1 := Lib.hid f1
      have K1 := Lib.hid k1
      clear f1 k1
      go_wp2_with (at_builtin; refine wpList_call_append rfl (.tmp 35) (.tmp 36) 41 rfl _ _ rfl rfl _ _ r1 ?_)
      clear r1
      go_wp2_with fail
      refine (HDA.out w1 v1 _ F1.out g1 (by simp; omega)).mono ?_
      rintro e w2 ⟨v2, rfl, f2, g2, k2⟩
      have F2 := Lib.hid f2
      have K2 := Lib.hid (K1.out.trans k2)
      clear f2 g1 k2
      obtain ⟨v3, w3, r3, f3, g3, k3⟩ := app_byte W w2 v2 (l ++ [123] ++ Lib.decDigits 1) 44 44 (by decide) F2.out (by simp; omega) g2
      have F3 := Lib.hid f3
      have K3 := Lib.hid k3
      clear f3 k3
      go_wp2_with (at_builtin; refine wpList_call_append rfl (.tmp 44) (.tmp 45) 41 rfl _ _ rfl rfl _ _ r3 ?_)
      clear r3
      go_wp2_with fail
      refine (HDB.out w3 v3 _ F3.out g3 (by simp; omega)).mono ?_
      rintro e w4 ⟨v4, rfl, f4, g4, k4⟩
      have F4 := Lib.hid f4
      have K4 := Lib.hid ((K2.out.trans K3.out).trans k4)
      clear f4 g3 k4
      obtain ⟨v5, w5, r5, f5, g5, k5⟩ := app_byte W w4 v4 (l ++ [123] ++ Lib.decDigits 1 ++ [44] ++ Lib.decDigits b) 125 125 (by decide) F4.out (by simp; omega) g4
      have F5 := Lib.hid f5
      have K5 := Lib.hid k5
      clear f5 k5
      go_wp2_with (at_builtin; refine wpList_call_append rfl (.tmp 50) (.tmp 51) 41 rfl _ _ rfl rfl _ _ r5 ?_)
      go_ret
      exact ⟨_, rfl, by have h := F5.out; simpa using h, g5, K4.out.trans K5.out⟩
end Go.Proofs.YtgkegbcdiadkdaaDoor
namespace Go.Proofs.YtgkegbcdiadkdaaDoor
open Go.RowKit Pt

theorem take_next {s : ByteArray} {k : Nat} (h : k < s.size) : s.data.toList.take (k + 1) = s.data.toList.take k ++ [s[k]] := by
  rw [List.take_succ_eq_append_getElem (by simpa using h)]; rfl
theorem esc_len (l : List UInt8) : (escL l).length ≤ 2 * l.length := by
  induction l with
  | nil => simp [escL]
  | cons c l ih =>
    have e : escL (c :: l) = (if specD c.toNat then [92, c] else [c]) ++ escL l := rfl
    rw [e, List.length_append, List.length_cons]
    split <;> simp <;> omega
theorem app_two (W wr : World) (v : Value) (l : List UInt8) (c d : UInt8) (y z : Int) (hy : (c.toNat : Int) = y) (hz : (d.toNat : Int) = z) (hf : Form wr W.heap.size v l) (hn : l.length ≤ 90000) (hg : W.grownBy wr none) :
    ∃ v' w', (Builtin.append_ #[41, 41] 41 #[v, .slice (some ⟨wr.heap.size, 0, none⟩) 2 2]).run Tryd.prog (wr.alloc (.cells #[.int .u8 y, .int .u8 z] 5)) = .ok v' w' ∧ Form w' W.heap.size v' (l ++ [c, d]) ∧ W.grownBy w' none ∧ OK8 wr w' := by
  subst hy hz
  exact app_bytes W wr v l [c, d] hf (by simp; omega) hg
set_option maxRecDepth 100000 in
set_option maxHeartbeats 8000000 in
theorem pappend_run (W w : World) (v : Value) (l : List UInt8) (k a b : Nat) (t : ByteArray) (hf : Form w W.heap.size v l) (hg : W.grownBy w none) (ht : TabP W) (hk1 : 1 ≤ k) (hk7 : k ≤ 7) (ha : a ≤ 200) (hb : b ≤ 200) (hl : l.length ≤ 900) : Goes W 53 #[v, pcv (k : Int) (a : Int) (b : Int) t] w (l ++ (92 :: letC k :: cntL a b)) := by
  rcases (show k = 1 ∨ k = 2 ∨ k = 3 ∨ k = 4 ∨ k = 5 ∨ k = 6 ∨ k = 7 by omega) with rfl | rfl | rfl | rfl | rfl | rfl | rfl
  · have HL := Lib.hid (fun w => plit_any 1 (a : Int) (b : Int) t w)
    have R0 := Row.new w [.int .i64 1, .int .i64 (a : Int), .int .i64 (b : Int), .string t] 31
    have F0 := Form.kept hf (gr_alloc w (.cells ([.int .i64 1, .int .i64 (a : Int), .int .i64 (b : Int), .string t] : List Value).toArray 31) none)
    have G0 := gr_then hg (gr_alloc w (.cells ([.int .i64 1, .int .i64 (a : Int), .int .i64 (b : Int), .string t] : List Value).toArray 31) none)
    have K0 : OK8 w (w.alloc (.cells ([.int .i64 1, .int .i64 (a : Int), .int .i64 (b : Int), .string t] : List Value).toArray 31)) := ok_gr (gr_alloc w _ none)
    have HT := Lib.hid ht
    clear hf ht
    unfold Goes
    go_enter Tryd.func53, Tryd.ntmps53
    have c0 := R0.cell 0 _ rfl
    have c1 := R0.cell 1 _ rfl
    have c2 := R0.cell 2 _ rfl
    have c3 := R0.cell 3 _ rfl
    go_wp2_with fail
    refine (HL.out _).mono ?_
    rintro e w1 ⟨rfl, g1⟩
    have R1 := R0.kept g1
    have F1 := Lib.hid (F0.kept g1)
    have G1 := gr_then G0 g1
    have K1 := Lib.hid (K0.trans (ok_gr g1))
    clear c0 c1 c2 c3 R0 F0 G0 K0 g1
    have c0 := R1.cell 0 _ rfl
    obtain ⟨v2, w2, r2, f2, g2, k2⟩ := app_two W w1 v l 92 100 92 100 (by decide) (by decide) F1.out (by omega) G1
    have F2 := Lib.hid f2
    have R2 := R1.ok (by decide) k2
    have K2 := Lib.hid (K1.out.trans k2)
    have HC := Lib.hid (pcount_any W w2 v2 _ a b f2 g2 HT.out ha hb (by simp; omega))
    unfold Goes at HC
    clear f2 k2 R1
    generalize w.heap.size = B at *
    have d1 := R2.cell 1 _ rfl
    have d2 := R2.cell 2 _ rfl
    go_wp2_with (at_builtin; refine wpList_call_append rfl (.tmp 9) (.tmp 14) 41 rfl _ _ rfl rfl _ _ r2 ?_)
    refine HC.out.mono ?_
    rintro e w3 ⟨v3, rfl, f3, g3, k3⟩
    have F3 := Lib.hid f3
    have K3 := Lib.hid (K2.out.trans k3)
    clear f3 k3 d1 d2
    go_wp2
    go_ret
    exact ⟨_, rfl, by have h := F3.out; simpa [letC] using h, g3, K3.out⟩
  · have HL := Lib.hid (fun w => plit_any 2 (a : Int) (b : Int) t w)
    have R0 := Row.new w [.int .i64 2, .int .i64 (a : Int), .int .i64 (b : Int), .string t] 31
    have F0 := Form.kept hf (gr_alloc w (.cells ([.int .i64 2, .int .i64 (a : Int), .int .i64 (b : Int), .string t] : List Value).toArray 31) none)
    have G0 := gr_then hg (gr_alloc w (.cells ([.int .i64 2, .int .i64 (a : Int), .int .i64 (b : Int), .string t] : List Value).toArray 31) none)
    have K0 : OK8 w (w.alloc (.cells ([.int .i64 2, .int .i64 (a : Int), .int .i64 (b : Int), .string t] : List Value).toArray 31)) := ok_gr (gr_alloc w _ none)
    have HT := Lib.hid ht
    clear hf ht
    unfold Goes
    go_enter Tryd.func53, Tryd.ntmps53
    have c0 := R0.cell 0 _ rfl
    have c1 := R0.cell 1 _ rfl
    have c2 := R0.cell 2 _ rfl
    have c3 := R0.cell 3 _ rfl
    go_wp2_with fail
    refine (HL.out _).mono ?_
    rintro e w1 ⟨rfl, g1⟩
    have R1 := R0.kept g1
    have F1 := Lib.hid (F0.kept g1)
    have G1 := gr_then G0 g1
    have K1 := Lib.hid (K0.trans (ok_gr g1))
    clear c0 c1 c2 c3 R0 F0 G0 K0 g1
    have c0 := R1.cell 0 _ rfl
    obtain ⟨v2, w2, r2, f2, g2, k2⟩ := app_two W w1 v l 92 117 92 117 (by decide) (by decide) F1.out (by omega) G1
    have F2 := Lib.hid f2
    have R2 := R1.ok (by decide) k2
    have K2 := Lib.hid (K1.out.trans k2)
    have HC := Lib.hid (pcount_any W w2 v2 _ a b f2 g2 HT.out ha hb (by simp; omega))
    unfold Goes at HC
    clear f2 k2 R1
    generalize w.heap.size = B at *
    have d1 := R2.cell 1 _ rfl
    have d2 := R2.cell 2 _ rfl
    go_wp2_with (at_builtin; refine wpList_call_append rfl (.tmp 9) (.tmp 14) 41 rfl _ _ rfl rfl _ _ r2 ?_)
    refine HC.out.mono ?_
    rintro e w3 ⟨v3, rfl, f3, g3, k3⟩
    have F3 := Lib.hid f3
    have K3 := Lib.hid (K2.out.trans k3)
    clear f3 k3 d1 d2
    go_wp2
    go_ret
    exact ⟨_, rfl, by have h := F3.out; simpa [letC] using h, g3, K3.out⟩
  · have HL := Lib.hid (fun w => plit_any 3 (a : Int) (b : Int) t w)
    have R0 := Row.new w [.int .i64 3, .int .i64 (a : Int), .int .i64 (b : Int), .string t] 31
    have F0 := Form.kept hf (gr_alloc w (.cells ([.int .i64 3, .int .i64 (a : Int), .int .i64 (b : Int), .string t] : List Value).toArray 31) none)
    have G0 := gr_then hg (gr_alloc w (.cells ([.int .i64 3, .int .i64 (a : Int), .int .i64 (b : Int), .string t] : List Value).toArray 31) none)
    have K0 : OK8 w (w.alloc (.cells ([.int .i64 3, .int .i64 (a : Int), .int .i64 (b : Int), .string t] : List Value).toArray 31)) := ok_gr (gr_alloc w _ none)
    have HT := Lib.hid ht
    clear hf ht
    unfold Goes
    go_enter Tryd.func53, Tryd.ntmps53
    have c0 := R0.cell 0 _ rfl
    have c1 := R0.cell 1 _ rfl
    have c2 := R0.cell 2 _ rfl
    have c3 := R0.cell 3 _ rfl
    go_wp2_with fail
    refine (HL.out _).mono ?_
    rintro e w1 ⟨rfl, g1⟩
    have R1 := R0.kept g1
    have F1 := Lib.hid (F0.kept g1)
    have G1 := gr_then G0 g1
    have K1 := Lib.hid (K0.trans (ok_gr g1))
    clear c0 c1 c2 c3 R0 F0 G0 K0 g1
    have c0 := R1.cell 0 _ rfl
    obtain ⟨v2, w2, r2, f2, g2, k2⟩ := app_two W w1 v l 92 108 92 108 (by decide) (by decide) F1.out (by omega) G1
    have F2 := Lib.hid f2
    have R2 := R1.ok (by decide) k2
    have K2 := Lib.hid (K1.out.trans k2)
    have HC := Lib.hid (pcount_any W w2 v2 _ a b f2 g2 HT.out ha hb (by simp; omega))
    unfold Goes at HC
    clear f2 k2 R1
    generalize w.heap.size = B at *
    have d1 := R2.cell 1 _ rfl
    have d2 := R2.cell 2 _ rfl
    go_wp2_with (at_builtin; refine wpList_call_append rfl (.tmp 9) (.tmp 14) 41 rfl _ _ rfl rfl _ _ r2 ?_)
    refine HC.out.mono ?_
    rintro e w3 ⟨v3, rfl, f3, g3, k3⟩
    have F3 := Lib.hid f3
    have K3 := Lib.hid (K2.out.trans k3)
    clear f3 k3 d1 d2
    go_wp2
    go_ret
    exact ⟨_, rfl, by have h := F3.out; simpa [letC] using h, g3, K3.out⟩
  · have HL := Lib.hid (fun w => plit_any 4 (a : Int) (b : Int) t w)
    have R0 := Row.new w [.int .i64 4, .int .i64 (a : Int), .int .i64 (b : Int), .string t] 31
    have F0 := Form.kept hf (gr_alloc w (.cells ([.int .i64 4, .int .i64 (a : Int), .int .i64 (b : Int), .string t] : List Value).toArray 31) none)
    have G0 := gr_then hg (gr_alloc w (.cells ([.int .i64 4, .int .i64 (a : Int), .int .i64 (b : Int), .string t] : List Value).toArray 31) none)
    have K0 : OK8 w (w.alloc (.cells ([.int .i64 4, .int .i64 (a : Int), .int .i64 (b : Int), .string t] : List Value).toArray 31)) := ok_gr (gr_alloc w _ none)
    have HT := Lib.hid ht
    clear hf ht
    unfold Goes
    go_enter Tryd.func53, Tryd.ntmps53
    have c0 := R0.cell 0 _ rfl
    have c1 := R0.cell 1 _ rfl
    have c2 := R0.cell 2 _ rfl
    have c3 := R0.cell 3 _ rfl
    go_wp2_with fail
    refine (HL.out _).mono ?_
    rintro e w1 ⟨rfl, g1⟩
    have R1 := R0.kept g1
    have F1 := Lib.hid (F0.kept g1)
    have G1 := gr_then G0 g1
    have K1 := Lib.hid (K0.trans (ok_gr g1))
    clear c0 c1 c2 c3 R0 F0 G0 K0 g1
    have c0 := R1.cell 0 _ rfl
    obtain ⟨v2, w2, r2, f2, g2, k2⟩ := app_two W w1 v l 92 97 92 97 (by decide) (by decide) F1.out (by omega) G1
    have F2 := Lib.hid f2
    have R2 := R1.ok (by decide) k2
    have K2 := Lib.hid (K1.out.trans k2)
    have HC := Lib.hid (pcount_any W w2 v2 _ a b f2 g2 HT.out ha hb (by simp; omega))
    unfold Goes at HC
    clear f2 k2 R1
    generalize w.heap.size = B at *
    have d1 := R2.cell 1 _ rfl
    have d2 := R2.cell 2 _ rfl
    go_wp2_with (at_builtin; refine wpList_call_append rfl (.tmp 9) (.tmp 14) 41 rfl _ _ rfl rfl _ _ r2 ?_)
    refine HC.out.mono ?_
    rintro e w3 ⟨v3, rfl, f3, g3, k3⟩
    have F3 := Lib.hid f3
    have K3 := Lib.hid (K2.out.trans k3)
    clear f3 k3 d1 d2
    go_wp2
    go_ret
    exact ⟨_, rfl, by have h := F3.out; simpa [letC] using h, g3, K3.out⟩
  · have HL := Lib.hid (fun w => plit_any 5 (a : Int) (b : Int) t w)
    have R0 := Row.new w [.int .i64 5, .int .i64 (a : Int), .int .i64 (b : Int), .string t] 31
    have F0 := Form.kept hf (gr_alloc w (.cells ([.int .i64 5, .int .i64 (a : Int), .int .i64 (b : Int), .string t] : List Value).toArray 31) none)
    have G0 := gr_then hg (gr_alloc w (.cells ([.int .i64 5, .int .i64 (a : Int), .int .i64 (b : Int), .string t] : List Value).toArray 31) none)
    have K0 : OK8 w (w.alloc (.cells ([.int .i64 5, .int .i64 (a : Int), .int .i64 (b : Int), .string t] : List Value).toArray 31)) := ok_gr (gr_alloc w _ none)
    have HT := Lib.hid ht
    clear hf ht
    unfold Goes
    go_enter Tryd.func53, Tryd.ntmps53
    have c0 := R0.cell 0 _ rfl
    have c1 := R0.cell 1 _ rfl
    have c2 := R0.cell 2 _ rfl
    have c3 := R0.cell 3 _ rfl
    go_wp2_with fail
    refine (HL.out _).mono ?_
    rintro e w1 ⟨rfl, g1⟩
    have R1 := R0.kept g1
    have F1 := Lib.hid (F0.kept g1)
    have G1 := gr_then G0 g1
    have K1 := Lib.hid (K0.trans (ok_gr g1))
    clear c0 c1 c2 c3 R0 F0 G0 K0 g1
    have c0 := R1.cell 0 _ rfl
    obtain ⟨v2, w2, r2, f2, g2, k2⟩ := app_two W w1 v l 92 115 92 115 (by decide) (by decide) F1.out (by omega) G1
    have F2 := Lib.hid f2
    have R2 := R1.ok (by decide) k2
    have K2 := Lib.hid (K1.out.trans k2)
    have HC := Lib.hid (pcount_any W w2 v2 _ a b f2 g2 HT.out ha hb (by simp; omega))
    unfold Goes at HC
    clear f2 k2 R1
    generalize w.heap.size = B at *
    have d1 := R2.cell 1 _ rfl
    have d2 := R2.cell 2 _ rfl
    go_wp2_with (at_builtin; refine wpList_call_append rfl (.tmp 9) (.tmp 14) 41 rfl _ _ rfl rfl _ _ r2 ?_)
    refine HC.out.mono ?_
    rintro e w3 ⟨v3, rfl, f3, g3, k3⟩
    have F3 := Lib.hid f3
    have K3 := Lib.hid (K2.out.trans k3)
    clear f3 k3 d1 d2
    go_wp2
    go_ret
    exact ⟨_, rfl, by have h := F3.out; simpa [letC] using h, g3, K3.out⟩
  · have HL := Lib.hid (fun w => plit_any 6 (a : Int) (b : Int) t w)
    have R0 := Row.new w [.int .i64 6, .int .i64 (a : Int), .int .i64 (b : Int), .string t] 31
    have F0 := Form.kept hf (gr_alloc w (.cells ([.int .i64 6, .int .i64 (a : Int), .int .i64 (b : Int), .string t] : List Value).toArray 31) none)
    have G0 := gr_then hg (gr_alloc w (.cells ([.int .i64 6, .int .i64 (a : Int), .int .i64 (b : Int), .string t] : List Value).toArray 31) none)
    have K0 : OK8 w (w.alloc (.cells ([.int .i64 6, .int .i64 (a : Int), .int .i64 (b : Int), .string t] : List Value).toArray 31)) := ok_gr (gr_alloc w _ none)
    have HT := Lib.hid ht
    clear hf ht
    unfold Goes
    go_enter Tryd.func53, Tryd.ntmps53
    have c0 := R0.cell 0 _ rfl
    have c1 := R0.cell 1 _ rfl
    have c2 := R0.cell 2 _ rfl
    have c3 := R0.cell 3 _ rfl
    go_wp2_with fail
    refine (HL.out _).mono ?_
    rintro e w1 ⟨rfl, g1⟩
    have R1 := R0.kept g1
    have F1 := Lib.hid (F0.kept g1)
    have G1 := gr_then G0 g1
    have K1 := Lib.hid (K0.trans (ok_gr g1))
    clear c0 c1 c2 c3 R0 F0 G0 K0 g1
    have c0 := R1.cell 0 _ rfl
    obtain ⟨v2, w2, r2, f2, g2, k2⟩ := app_two W w1 v l 92 111 92 111 (by decide) (by decide) F1.out (by omega) G1
    have F2 := Lib.hid f2
    have R2 := R1.ok (by decide) k2
    have K2 := Lib.hid (K1.out.trans k2)
    have HC := Lib.hid (pcount_any W w2 v2 _ a b f2 g2 HT.out ha hb (by simp; omega))
    unfold Goes at HC
    clear f2 k2 R1
    generalize w.heap.size = B at *
    have d1 := R2.cell 1 _ rfl
    have d2 := R2.cell 2 _ rfl
    go_wp2_with (at_builtin; refine wpList_call_append rfl (.tmp 9) (.tmp 14) 41 rfl _ _ rfl rfl _ _ r2 ?_)
    refine HC.out.mono ?_
    rintro e w3 ⟨v3, rfl, f3, g3, k3⟩
    have F3 := Lib.hid f3
    have K3 := Lib.hid (K2.out.trans k3)
    clear f3 k3 d1 d2
    go_wp2
    go_ret
    exact ⟨_, rfl, by have h := F3.out; simpa [letC] using h, g3, K3.out⟩
  · have HL := Lib.hid (fun w => plit_any 7 (a : Int) (b : Int) t w)
    have R0 := Row.new w [.int .i64 7, .int .i64 (a : Int), .int .i64 (b : Int), .string t] 31
    have F0 := Form.kept hf (gr_alloc w (.cells ([.int .i64 7, .int .i64 (a : Int), .int .i64 (b : Int), .string t] : List Value).toArray 31) none)
    have G0 := gr_then hg (gr_alloc w (.cells ([.int .i64 7, .int .i64 (a : Int), .int .i64 (b : Int), .string t] : List Value).toArray 31) none)
    have K0 : OK8 w (w.alloc (.cells ([.int .i64 7, .int .i64 (a : Int), .int .i64 (b : Int), .string t] : List Value).toArray 31)) := ok_gr (gr_alloc w _ none)
    have HT := Lib.hid ht
    clear hf ht
    unfold Goes
    go_enter Tryd.func53, Tryd.ntmps53
    have c0 := R0.cell 0 _ rfl
    have c1 := R0.cell 1 _ rfl
    have c2 := R0.cell 2 _ rfl
    have c3 := R0.cell 3 _ rfl
    go_wp2_with fail
    refine (HL.out _).mono ?_
    rintro e w1 ⟨rfl, g1⟩
    have R1 := R0.kept g1
    have F1 := Lib.hid (F0.kept g1)
    have G1 := gr_then G0 g1
    have K1 := Lib.hid (K0.trans (ok_gr g1))
    clear c0 c1 c2 c3 R0 F0 G0 K0 g1
    have c0 := R1.cell 0 _ rfl
    obtain ⟨v2, w2, r2, f2, g2, k2⟩ := app_two W w1 v l 92 46 92 46 (by decide) (by decide) F1.out (by omega) G1
    have F2 := Lib.hid f2
    have R2 := R1.ok (by decide) k2
    have K2 := Lib.hid (K1.out.trans k2)
    have HC := Lib.hid (pcount_any W w2 v2 _ a b f2 g2 HT.out ha hb (by simp; omega))
    unfold Goes at HC
    clear f2 k2 R1
    generalize w.heap.size = B at *
    have d1 := R2.cell 1 _ rfl
    have d2 := R2.cell 2 _ rfl
    go_wp2_with (at_builtin; refine wpList_call_append rfl (.tmp 9) (.tmp 14) 41 rfl _ _ rfl rfl _ _ r2 ?_)
    refine HC.out.mono ?_
    rintro e w3 ⟨v3, rfl, f3, g3, k3⟩
    have F3 := Lib.hid f3
    have K3 := Lib.hid (K2.out.trans k3)
    clear f3 k3 d1 d2
    go_wp2
    go_ret
    exact ⟨_, rfl, by have h := F3.out; simpa [letC] using h, g3, K3.out⟩
set_option maxRecDepth 100000 in
set_option maxHeartbeats 8000000 in
theorem pappend_lit (W w : World) (v : Value) (l : List UInt8) (a b : Int) (t : ByteArray) (hf : Form w W.heap.size v l) (hg : W.grownBy w none) (hsz : t.size ≤ 1000) (hl : l.length ≤ 900) : Goes W 53 #[v, pcv 0 a b t] w (l ++ escL t.data.toList) := by
  have HL := Lib.hid (fun w => plit_any 0 a b t w)
  have R0 := Row.new w [.int .i64 0, .int .i64 a, .int .i64 b, .string t] 31
  have F0 := Form.kept hf (gr_alloc w (.cells ([.int .i64 0, .int .i64 a, .int .i64 b, .string t] : List Value).toArray 31) none)
  have G0 := gr_then hg (gr_alloc w (.cells ([.int .i64 0, .int .i64 a, .int .i64 b, .string t] : List Value).toArray 31) none)
  have K0 : OK8 w (w.alloc (.cells ([.int .i64 0, .int .i64 a, .int .i64 b, .string t] : List Value).toArray 31)) := ok_gr (gr_alloc w _ none)
  clear hf
  unfold Goes
  go_enter Tryd.func53, Tryd.ntmps53
  have c0 := R0.cell 0 _ rfl
  have c1 := R0.cell 1 _ rfl
  have c2 := R0.cell 2 _ rfl
  have c3 := R0.cell 3 _ rfl
  go_wp2_with fail
  refine (HL.out _).mono ?_
  rintro e w1 ⟨rfl, g1⟩
  have R1 := R0.kept g1
  have F1 := Lib.hid (F0.kept g1)
  have G1 := Lib.hid (gr_then G0 g1)
  have K1 := Lib.hid (K0.trans (ok_gr g1))
  clear c0 c1 c2 c3 R0 F0 G0 K0 g1
  generalize w.heap.size = B at *
  have c3 := R1.cell 3 _ rfl
  go_wp2_with fail
  go_loopw [0, 25] (fun u i wr => ∃ j : Nat, j ≤ t.size ∧ i = .int .i64 (j : Int) ∧ Form wr W.heap.size u (l ++ escL (t.data.toList.take j)) ∧ W.grownBy wr none ∧ OK8 w wr ∧ Row wr B [.int .i64 0, .int .i64 a, .int .i64 b, .string t] 31) (fun _ i _ => t.size - (intOf i).toNat)
  case atStart => exact ⟨0, Nat.zero_le _, rfl, by simpa [escL] using F1.out, G1.out, K1.out, R1⟩
  case round =>
    clear F1 G1 K1 R1 c3
    obtain ⟨j, hj, rfl, hfj, Gj, Kj, Rj⟩ := hrel
    by_cases hlt : j < t.size
    · have hb1 : (j : Int) < (t.size : Int) := by omega
      have hk1 : (j : Int) + 1 ≤ 9223372036854775807 := by omega
      have c3 := Rj.cell 3 _ rfl
      have hnx := take_next hlt
      have HNX := Lib.hid hnx
      have HSP := Lib.hid (fun w => pspec_any t[j].toNat w (by have := t[j].toNat_lt; omega))
      have hlen : (l ++ escL (t.data.toList.take j)).length ≤ 80000 := by
        have h1 := esc_len (t.data.toList.take j)
        have h2 : (t.data.toList.take j).length ≤ j := by rw [List.length_take]; omega
        rw [List.length_append]; omega
      obtain ⟨cc, hcc⟩ : ∃ cc, t[j] = cc := ⟨_, rfl⟩
      have hcn : t[j].toNat = cc.toNat := by rw [hcc]
      rw [hcc] at HNX HSP
      have HF := Lib.hid hfj
      have HK := Lib.hid Kj
      obtain ⟨q, hq⟩ : ∃ q, escL (t.data.toList.take j) = q := ⟨_, rfl⟩
      have HQ := Lib.hid hq
      rw [hq] at HF hlen
      clear hfj Kj hnx hcc hq
      obtain ⟨n, hn⟩ : ∃ n, cc.toNat = n := ⟨_, rfl⟩
      rw [hn] at hcn HSP
      have hnz : ((cc.toNat : Nat) : Int) = (n : Int) := by rw [hn]
      have HN := Lib.hid hn
      clear hn
      cases hsp : specD n
      · rw [hsp] at HSP
        have HE := Lib.hid (show escL (t.data.toList.take (j + 1)) = q ++ [cc] by rw [HNX.out, escL_snoc, HN.out, hsp, HQ.out]; rfl)
        go_wp2_with fail
        refine (HSP.out _).mono ?_
        rintro e w2 ⟨rfl, rfl⟩
        obtain ⟨v5, w5, r5, f5, g5, k5⟩ := app_byte W wr u0 (l ++ q) cc (n : Int) hnz HF.out (by omega) Gj
        have F5 := Lib.hid f5
        have K5 := Lib.hid (HK.out.trans k5)
        have R5 := Rj.ok (by decide) k5
        clear f5 k5
        go_wp2_with (at_builtin; refine wpList_call_append rfl (.tmp 36) (.tmp 41) 41 rfl _ _ rfl rfl _ _ r5 ?_)
        exact ⟨⟨j + 1, by omega, by go_num, by rw [HE.out, ← List.append_assoc]; exact F5.out, g5, K5.out, R5⟩, by simp [intOf]; omega⟩
      · rw [hsp] at HSP
        have HE := Lib.hid (show escL (t.data.toList.take (j + 1)) = q ++ [92, cc] by rw [HNX.out, escL_snoc, HN.out, hsp, HQ.out]; rfl)
        go_wp2_with fail
        refine (HSP.out _).mono ?_
        rintro e w2 ⟨rfl, rfl⟩
        obtain ⟨v4, w4, r4, f4, g4, k4⟩ := app_byte W wr u0 (l ++ q) 92 92 (by decide) HF.out (by omega) Gj
        have R4 := Rj.ok (by decide) k4
        obtain ⟨v5, w5, r5, f5, g5, k5⟩ := app_byte W w4 v4 (l ++ q ++ [92]) cc (n : Int) hnz f4 (by rw [List.length_append, List.length_singleton]; omega) g4
        have F5 := Lib.hid f5
        have K5 := Lib.hid ((HK.out.trans k4).trans k5)
        have R5 := R4.ok (by decide) k5
        have d3 := R4.cell 3 _ rfl
        clear f5 k5 f4 k4
        go_wp2_with (at_builtin; first | (refine wpList_call_append rfl (.tmp 33) (.tmp 34) 41 rfl _ _ rfl rfl _ _ r4 ?_) | (refine wpList_call_append rfl (.tmp 36) (.tmp 41) 41 rfl _ _ rfl rfl _ _ r5 ?_))
        exact ⟨⟨j + 1, by omega, by go_num, by rw [HE.out]; have h := F5.out; simpa using h, g5, K5.out, R5⟩, by simp [intOf]; omega⟩
    · obtain rfl : j = t.size := by omega
      have hfull : t.data.toList.take t.size = t.data.toList := List.take_of_length_le (Nat.le_refl _)
      rw [hfull] at hfj
      have HF := Lib.hid hfj
      have HK := Lib.hid Kj
      clear hfj Kj
      go_wp2
      go_ret
      exact ⟨_, rfl, HF.out, Gj, HK.out⟩
end Go.Proofs.YtgkegbcdiadkdaaDoor
namespace Go.Proofs.YtgkegbcdiadkdaaDoor
open Go.RowKit Pt

theorem wrL_cat (l m : List Pc) : wrL (l ++ m) = wrL l ++ wrL m := by simp [wrL]
theorem wr_take (ps : List Pc) (j : Nat) : (wrL (ps.take j)).length ≤ (wrL ps).length := by
  have h := wrL_cat (ps.take j) (ps.drop j)
  rw [List.take_append_drop] at h
  rw [h, List.length_append]; omega
theorem esc_ge (l : List UInt8) : l.length ≤ (escL l).length := by
  induction l with
  | nil => simp [escL]
  | cons c l ih =>
    have e : escL (c :: l) = (if specD c.toNat then [92, c] else [c]) ++ escL l := rfl
    rw [e, List.length_append, List.length_cons]
    split <;> simp <;> omega
theorem wr_next {ps : List Pc} {j : Nat} (h : j < ps.length) : wrL (ps.take (j + 1)) = wrL (ps.take j) ++ wrP ps[j] := by
  rw [← List.take_append_getElem h, wrL_snoc]
theorem wr_one {p : Pc} (h : rightP p.k p.a p.b p.t = true) : 1 ≤ (wrP p).length := by
  unfold wrP
  by_cases hk : p.k = 0
  · rw [if_pos hk]
    unfold rightP at h
    rw [if_pos hk] at h
    simp only [Bool.and_eq_true, decide_eq_true_eq] at h
    have := esc_ge p.t.data.toList
    have e : p.t.data.toList.length = p.t.size := rfl
    omega
  · rw [if_neg hk]; simp
theorem right_long {ps : List Pc} {j : Nat} (h : 60 < (wrL (ps.take j)).length) : rightL ps = false := by
  have := wr_take ps j
  unfold rightL
  rw [decide_eq_false (p := (wrL ps).length ≤ 60) (by omega), Bool.and_false]
theorem right_q {ps : List Pc} {j : Nat} (h : j < ps.length) (hq : rightQ ps[j].k ps[j].a ps[j].b ps[j].t = false) : rightL ps = false := by
  cases hp : rightP ps[j].k ps[j].a ps[j].b ps[j].t
  · exact right_false h (by rw [good_some h, hp]; rfl)
  · unfold rightQ at hq
    rw [hp, Bool.true_and, Bool.or_eq_false_iff, decide_eq_false_iff_not, decide_eq_false_iff_not] at hq
    refine right_long (j := j + 1) ?_
    rw [wr_next h, List.length_append]
    have hk : ps[j].k = 0 := by
      by_cases hk : ps[j].k = 0
      · exact hk
      · exact absurd hk hq.1
    have e : wrP ps[j] = escL ps[j].t.data.toList := by unfold wrP; rw [if_pos hk]
    have h1 := esc_ge ps[j].t.data.toList
    have e2 : ps[j].t.data.toList.length = ps[j].t.size := rfl
    rw [e]
    omega
theorem count_le : ∀ (ps : List Pc), (∀ p ∈ ps, rightP p.k p.a p.b p.t = true) → ps.length ≤ (wrL ps).length
  | [], _ => by simp
  | p :: ps, h => by
    have e : wrL (p :: ps) = wrP p ++ wrL ps := rfl
    have h1 := wr_one (h p (by simp))
    have h2 := count_le ps (fun q hq => h q (by simp [hq]))
    rw [e, List.length_append, List.length_cons]; omega
theorem right_yes {ps : List Pc} (h : ∀ i, i < ps.length → goodAt ps i = true) (hl : (wrL ps).length ≤ 60) : rightL ps = true := by
  have hc := count_le ps (fun p hp => by
    obtain ⟨j, hj, rfl⟩ := List.getElem_of_mem hp
    have h1 := h j hj
    rw [good_some hj, Bool.and_eq_true] at h1
    exact h1.1)
  rw [right_good h, decide_eq_true hl, decide_eq_true (show ps.length ≤ 60 by omega)]; rfl
theorem pappend_any (W w : World) (v : Value) (l : List UInt8) (p : Pc) (hf : Form w W.heap.size v l) (hg : W.grownBy w none) (ht : TabP W) (hq : rightQ p.k p.a p.b p.t = true) (hl : l.length ≤ 900) : Goes W 53 #[v, pcv p.k p.a p.b p.t] w (l ++ wrP p) := by
  unfold rightQ at hq
  rw [Bool.and_eq_true, Bool.or_eq_true, decide_eq_true_eq, decide_eq_true_eq] at hq
  by_cases hk : p.k = 0
  · have hsz : p.t.size ≤ 60 := by
      rcases hq.2 with h | h
      · exact absurd hk h
      · exact h
    have e : wrP p = escL p.t.data.toList := by unfold wrP; rw [if_pos hk]
    rw [e, hk]
    exact pappend_lit W w v l p.a p.b p.t hf hg (by omega) hl
  · have h := hq.1
    unfold rightP at h
    rw [if_neg hk, Bool.and_eq_true, decide_eq_true_eq] at h
    obtain ⟨⟨h1, h2, h3, h4, h5, h6⟩, _⟩ := h
    have e : wrP p = 92 :: letC p.k.toNat :: cntL p.a.toNat p.b.toNat := by unfold wrP; rw [if_neg hk]
    have := pappend_run W w v l p.k.toNat p.a.toNat p.b.toNat p.t hf hg ht (by omega) (by omega) (by omega) (by omega) hl
    rw [Int.toNat_of_nonneg (by omega), Int.toNat_of_nonneg (by omega), Int.toNat_of_nonneg (by omega), ← e] at this
    exact this
theorem form_slice {w : World} {base : Nat} {v : Value} {l : List UInt8} (h : Form w base v l) : ∃ p c, v = .slice p l.length c := by
  rcases h.2 with ⟨h1, h2⟩ | ⟨g, cap, cur, h1, _⟩
  · exact ⟨none, 0, by rw [h1, h2]⟩
  · exact ⟨_, _, h1⟩
end Go.Proofs.YtgkegbcdiadkdaaDoor
namespace Go.Proofs.YtgkegbcdiadkdaaDoor
open Go.RowKit Pt

/-- What written gives. -/
def Wrote (W : World) (ps : List Pc) (f : Nat) (args : Array Value) (w : World) : Prop := Calls Tryd.prog f args w fun e w' => ∃ v' l, e = .returned (.tuple #[v', .bool (rightL ps)]) ∧ (rightL ps = true → l = wrL ps) ∧ Form w' W.heap.size v' l ∧ W.grownBy w' none
set_option maxRecDepth 100000 in
set_option maxHeartbeats 8000000 in
theorem pwritten_some (W w : World) (v : Value) (g o c : Nat) (ps : List Pc) (hf : Form w W.heap.size v []) (hg : W.grownBy w none) (ht : TabP W) (hb : g < W.heap.size) (hp : PcsAt W g o ps) (hn : ps.length ≤ 1000000) (hsz : ∀ p ∈ ps, p.t.size ≤ 1000) : Wrote W ps 34 #[v, .slice (some ⟨g, o, none⟩) ps.length c] w := by
  obtain ⟨n, hnn⟩ : ∃ n, ps.length = n := ⟨_, rfl⟩
  have HN := Lib.hid hnn
  have HP := Lib.hid hp
  have HSZ := Lib.hid hsz
  have HT := Lib.hid ht
  have HF := Lib.hid hf
  rw [hnn] at hn ⊢
  clear hnn hp hsz ht hf
  unfold Wrote
  go_enter Tryd.func34, Tryd.ntmps34
  go_wp2_with fail
  go_loopw [0, 10] (fun u i wr => ∃ j : Nat, j ≤ n ∧ i = .int .i64 (j : Int) ∧ Form wr W.heap.size u (wrL (ps.take j)) ∧ (wrL (ps.take j)).length ≤ 60 ∧ W.grownBy wr none ∧ Hid (∀ k, k < j → goodAt ps k = true)) (fun _ i _ => n - (intOf i).toNat)
  case atStart => exact ⟨0, Nat.zero_le _, rfl, HF.out, by simp [wrL], hg, Lib.hid (fun k h => by omega)⟩
  case round =>
    clear HF hg
    obtain ⟨j, hj, rfl, hfj, hl60, Gj, HA⟩ := hrel
    by_cases hlt : j < n
    · have hlq : j < ps.length := by rw [HN.out]; exact hlt
      have hb1 : (j : Int) < (n : Int) := by omega
      have hk1 : (j : Int) + 1 ≤ 9223372036854775807 := by omega
      obtain ⟨c0, c1, c2, c3⟩ := (HP.out.kept hb Gj) j hlq
      have hpc := ppiece_any ps[j].k ps[j].a ps[j].b ps[j].t
      have hpl := plit_any ps[j].k ps[j].a ps[j].b ps[j].t
      have hap := fun (w : World) (u : Value) (h1 : Form w W.heap.size u (wrL (ps.take j))) (h2 : W.grownBy w none) (h3 : rightQ ps[j].k ps[j].a ps[j].b ps[j].t = true) => pappend_any W w u (wrL (ps.take j)) ps[j] h1 h2 HT.out h3 (by omega)
      rw [← wr_next hlq] at hap
      have HQF := Lib.hid (fun h => right_q (ps := ps) (j := j) hlq h)
      have hgd := good_some hlq
      have hrp : rightQ ps[j].k ps[j].a ps[j].b ps[j].t = true → rightP ps[j].k ps[j].a ps[j].b ps[j].t = true := fun h => by
        unfold rightQ at h
        rw [Bool.and_eq_true] at h
        exact h.1
      have HGD := Lib.hid hgd
      have HRP := Lib.hid hrp
      have HAP := Lib.hid hap
      have hst := HSZ.out ps[j] (List.getElem_mem _)
      have HPC := Lib.hid (fun w => hpc w (by omega))
      have HPL := Lib.hid hpl
      clear hpc hpl hap hgd hrp hst
      obtain ⟨pk, epk⟩ : ∃ z, ps[j].k = z := ⟨_, rfl⟩
      have HEK := Lib.hid epk
      obtain ⟨pa, epa⟩ : ∃ z, ps[j].a = z := ⟨_, rfl⟩
      obtain ⟨pb, epb⟩ : ∃ z, ps[j].b = z := ⟨_, rfl⟩
      obtain ⟨pt, ept⟩ : ∃ z, ps[j].t = z := ⟨_, rfl⟩
      rw [epk] at c0
      rw [epa] at c1
      rw [epb] at c2
      rw [ept] at c3
      rw [epk, epa, epb, ept] at HPC HPL HAP HQF HGD HRP
      clear epk epa epb ept
      have HFJ := Lib.hid hfj
      have R0 := Row.new wr [.int .i64 pk, .int .i64 pa, .int .i64 pb, .string pt] 31
      have G0 := gr_then Gj (gr_alloc wr (.cells ([.int .i64 pk, .int .i64 pa, .int .i64 pb, .string pt] : List Value).toArray 31) none)
      have g0 := gr_alloc wr (.cells ([.int .i64 pk, .int .i64 pa, .int .i64 pb, .string pt] : List Value).toArray 31) none
      have HF0 := Lib.hid (HFJ.out.kept g0)
      clear hfj HFJ Gj g0
      obtain ⟨x0, x1, x2, x3⟩ : _ ∧ _ ∧ _ ∧ _ := ⟨R0.cell 0 _ rfl, R0.cell 1 _ rfl, R0.cell 2 _ rfl, R0.cell 3 _ rfl⟩
      go_wp2_with fail
      refine (HPC.out _).mono ?_
      rintro e w1 ⟨rfl, g1⟩
      have R1 := R0.kept g1
      have G1 := gr_then G0 g1
      have HF1 := Lib.hid (HF0.out.kept g1)
      clear c0 c1 c2 c3 x0 x1 x2 x3 R0 G0 g1 HF0
      generalize wr.heap.size = B at *
      cases hq : rightQ pk pa pb pt
      · have hr := HQF.out hq
        have HR := Lib.hid hr
        clear hr
        go_wp2
        go_ret2
        exact ⟨_, _, by rw [HR.out]; rfl, (fun h => by rw [HR.out] at h; cases h), HF1.out, G1⟩
      · have HQ := Lib.hid hq
        clear hq
        have x0 := R1.cell 0 _ rfl
        have x1 := R1.cell 1 _ rfl
        have x2 := R1.cell 2 _ rfl
        have x3 := R1.cell 3 _ rfl
        rcases (show j = 0 ∨ ∃ m, j = m + 1 from by cases j; exact .inl rfl; exact .inr ⟨_, rfl⟩) with h0 | ⟨m, hm⟩
        · subst h0
          have R2 := R1
          have G2 := G1
          have HF2 := HF1
          obtain ⟨w2, hw2⟩ : ∃ w2, w2 = w1 := ⟨_, rfl⟩
          subst hw2
          have hgj : goodAt ps 0 = true := by rw [HGD.out, HRP.out HQ.out, two_zero]; rfl
          have HGJ := Lib.hid hgj
          have hgo := HAP.out w2 u0 HF2.out G2 HQ.out
          unfold Goes at hgo
          have HGO := Lib.hid hgo
          clear hgj hgo
          have z0 := R2.cell 0 _ rfl
          have z1 := R2.cell 1 _ rfl
          have z2 := R2.cell 2 _ rfl
          have z3 := R2.cell 3 _ rfl
          go_wp2_with fail
          refine HGO.out.mono ?_
          rintro e w3 ⟨v3, rfl, f3, g3, _⟩
          obtain ⟨p3, k3, rfl⟩ := form_slice f3
          obtain ⟨n3, hn3⟩ : ∃ n3, (wrL (ps.take (0 + 1))).length = n3 := ⟨_, rfl⟩
          rw [hn3] at f3 ⊢
          have HN3 := Lib.hid hn3
          have HF3 := Lib.hid f3
          clear hn3 f3 z0 z1 z2 z3
          by_cases h60 : 60 < n3
          · have hb60 : (60 : Int) < (n3 : Int) := by omega
            have HR := Lib.hid (right_long (ps := ps) (j := 0 + 1) (by rw [HN3.out]; exact h60))
            go_wp2
            go_ret2
            exact ⟨_, _, by rw [HR.out]; rfl, (fun h => by rw [HR.out] at h; cases h), HF3.out, g3⟩
          · have hb60 : ¬ (60 : Int) < (n3 : Int) := by omega
            skip
            go_wp2
            refine ⟨?_, ?_⟩
            · refine ⟨0 + 1, ?_⟩
              refine ⟨by omega, ?_⟩
              refine ⟨?_, ?_⟩
              · go_num
              · refine ⟨HF3.out, by rw [HN3.out]; omega, g3, Lib.hid (fun k hk => ?_)⟩
                rcases Nat.lt_or_ge k 0 with h | h
                · exact HA.out k h
                · obtain rfl : k = 0 := by omega
                  exact HGJ.out
            · simp [intOf]; omega
        · subst hm
          have hmq : m < ps.length := by omega
          have hj0 : (0 : Int) < ((m + 1 : Nat) : Int) := by omega
          have hjs : ((m + 1 : Nat) : Int) - 1 = (m : Int) := by omega
          go_wp2_with fail
          refine (HPL.out _).mono ?_
          rintro e w2 ⟨rfl, g2⟩
          have R2 := R1.kept g2
          have G2 := gr_then G1 g2
          have HF2 := Lib.hid (HF1.out.kept g2)
          clear x0 x1 x2 x3 R1 G1 g2 HF1
          cases hz : (pk == 0)
          · have HZ := Lib.hid hz
            clear hz
            have hgj : goodAt ps (m + 1) = true := by rw [HGD.out, HRP.out HQ.out, two_succ hlq, HEK.out, show decide (pk = 0) = false from by have h := HZ.out; rw [beq_eq_false_iff_ne] at h; exact decide_eq_false h]; rfl
            have HGJ := Lib.hid hgj
            have hgo := HAP.out w2 u0 HF2.out G2 HQ.out
            unfold Goes at hgo
            have HGO := Lib.hid hgo
            clear hgj hgo
            have z0 := R2.cell 0 _ rfl
            have z1 := R2.cell 1 _ rfl
            have z2 := R2.cell 2 _ rfl
            have z3 := R2.cell 3 _ rfl
            go_wp2_with fail
            refine HGO.out.mono ?_
            rintro e w3 ⟨v3, rfl, f3, g3, _⟩
            obtain ⟨p3, k3, rfl⟩ := form_slice f3
            obtain ⟨n3, hn3⟩ : ∃ n3, (wrL (ps.take (m + 1 + 1))).length = n3 := ⟨_, rfl⟩
            rw [hn3] at f3 ⊢
            have HN3 := Lib.hid hn3
            have HF3 := Lib.hid f3
            clear hn3 f3 z0 z1 z2 z3
            by_cases h60 : 60 < n3
            · have hb60 : (60 : Int) < (n3 : Int) := by omega
              have HR := Lib.hid (right_long (ps := ps) (j := m + 1 + 1) (by rw [HN3.out]; exact h60))
              go_wp2
              go_ret2
              exact ⟨_, _, by rw [HR.out]; rfl, (fun h => by rw [HR.out] at h; cases h), HF3.out, g3⟩
            · have hb60 : ¬ (60 : Int) < (n3 : Int) := by omega
              obtain ⟨J, hJ⟩ : ∃ J, (m : Int) + 1 = J := ⟨_, rfl⟩; have hJ0 : 0 ≤ J := (by omega); have hJ1 : J + 1 ≤ 9223372036854775807 := (by omega); clear hjs hj0 hb1 hk1; rw [hJ]; have HJ := Lib.hid hJ; clear hJ
              go_wp2
              refine ⟨?_, ?_⟩
              · refine ⟨m + 1 + 1, ?_⟩
                refine ⟨by omega, ?_⟩
                refine ⟨?_, ?_⟩
                · rw [← HJ.out]; go_num
                · refine ⟨HF3.out, by rw [HN3.out]; omega, g3, Lib.hid (fun k hk => ?_)⟩
                  rcases Nat.lt_or_ge k (m + 1) with h | h
                  · exact HA.out k h
                  · obtain rfl : k = m + 1 := by omega
                    exact HGJ.out
              · have hq := HJ.out; simp only [intOf]; omega
          · obtain rfl : pk = 0 := by simpa using hz
            clear hz
            obtain ⟨d0, d1, d2, d3⟩ := (HP.out.kept hb G2) m hmq
            have HPM := Lib.hid (plit_any ps[m].k ps[m].a ps[m].b ps[m].t)
            obtain ⟨mk, emk⟩ : ∃ z, ps[m].k = z := ⟨_, rfl⟩
            have HEM := Lib.hid emk
            rw [emk] at d0 HPM
            clear emk
            generalize ps[m].a = ma at *
            generalize ps[m].b = mb at *
            generalize ps[m].t = mt at *
            have hbm : (m : Int) < (n : Int) := by omega
            go_wp2_with fail
            refine (HPM.out _).mono ?_
            rintro e w4 ⟨rfl, g4⟩
            have R4 := R2.kept g4
            have G4 := gr_then G2 g4
            have HF4 := Lib.hid (HF2.out.kept g4)
            clear d0 d1 d2 d3 R2 G2 HF2 g4
            cases hz : (mk == 0)
            · have HZ := Lib.hid hz
              have R2 := R4
              have G2 := G4
              have HF2 := HF4
              obtain ⟨w2, hw2⟩ : ∃ w2, w2 = w4 := ⟨_, rfl⟩
              subst hw2
              clear hz R4 G4 HF4
              have hgj : goodAt ps (m + 1) = true := by rw [HGD.out, HRP.out HQ.out, two_succ hlq, HEM.out, show decide (mk = 0) = false from by have h := HZ.out; rw [beq_eq_false_iff_ne] at h; exact decide_eq_false h, Bool.and_false]; rfl
              have HGJ := Lib.hid hgj
              have hgo := HAP.out w2 u0 HF2.out G2 HQ.out
              unfold Goes at hgo
              have HGO := Lib.hid hgo
              clear hgj hgo
              have z0 := R2.cell 0 _ rfl
              have z1 := R2.cell 1 _ rfl
              have z2 := R2.cell 2 _ rfl
              have z3 := R2.cell 3 _ rfl
              go_wp2_with fail
              refine HGO.out.mono ?_
              rintro e w3 ⟨v3, rfl, f3, g3, _⟩
              obtain ⟨p3, k3, rfl⟩ := form_slice f3
              obtain ⟨n3, hn3⟩ : ∃ n3, (wrL (ps.take (m + 1 + 1))).length = n3 := ⟨_, rfl⟩
              rw [hn3] at f3 ⊢
              have HN3 := Lib.hid hn3
              have HF3 := Lib.hid f3
              clear hn3 f3 z0 z1 z2 z3
              by_cases h60 : 60 < n3
              · have hb60 : (60 : Int) < (n3 : Int) := by omega
                have HR := Lib.hid (right_long (ps := ps) (j := m + 1 + 1) (by rw [HN3.out]; exact h60))
                go_wp2
                go_ret2
                exact ⟨_, _, by rw [HR.out]; rfl, (fun h => by rw [HR.out] at h; cases h), HF3.out, g3⟩
              · have hb60 : ¬ (60 : Int) < (n3 : Int) := by omega
                obtain ⟨J, hJ⟩ : ∃ J, (m : Int) + 1 = J := ⟨_, rfl⟩; have hJ0 : 0 ≤ J := (by omega); have hJ1 : J + 1 ≤ 9223372036854775807 := (by omega); clear hjs hj0 hb1 hk1; rw [hJ]; have HJ := Lib.hid hJ; clear hJ
                go_wp2
                refine ⟨?_, ?_⟩
                · refine ⟨m + 1 + 1, ?_⟩
                  refine ⟨by omega, ?_⟩
                  refine ⟨?_, ?_⟩
                  · rw [← HJ.out]; go_num
                  · refine ⟨HF3.out, by rw [HN3.out]; omega, g3, Lib.hid (fun k hk => ?_)⟩
                    rcases Nat.lt_or_ge k (m + 1) with h | h
                    · exact HA.out k h
                    · obtain rfl : k = m + 1 := by omega
                      exact HGJ.out
                · have hq := HJ.out; simp only [intOf]; omega
            · have hr : rightL ps = false := right_false hlq (by rw [HGD.out, two_succ hlq, HEK.out, HEM.out, show mk = 0 from by simpa using hz]; simp)
              have HR := Lib.hid hr
              clear hr
              go_wp2
              go_ret2
              exact ⟨_, _, by rw [HR.out]; rfl, (fun h => by rw [HR.out] at h; cases h), HF4.out, G4⟩
    · obtain rfl : j = n := by omega
      have hfull : ps.take j = ps := List.take_of_length_le (by rw [HN.out]; exact Nat.le_refl _)
      rw [hfull] at hfj hl60
      have HR := Lib.hid (right_yes (fun i hi => HA.out i (by rw [← HN.out]; exact hi)) hl60)
      have HFJ := Lib.hid hfj
      clear hfj
      go_wp2
      go_ret2
      exact ⟨_, _, by rw [HR.out]; rfl, (fun _ => rfl), HFJ.out, Gj⟩
end Go.Proofs.YtgkegbcdiadkdaaDoor
namespace Go.Proofs.YtgkegbcdiadkdaaDoor
open Go.RowKit Pt

set_option maxRecDepth 100000 in
theorem pwritten_nil (W w : World) (v : Value) (hf : Form w W.heap.size v []) (hg : W.grownBy w none) : Wrote W [] 34 #[v, .slice none 0 0] w := by
  have HF := Lib.hid hf
  clear hf
  unfold Wrote
  go_enter Tryd.func34, Tryd.ntmps34
  go_wp2_with fail
  go_loopw [0, 10] (fun u i wr => u = v ∧ i = .int .i64 0 ∧ w = wr) (fun _ _ _ => 0)
  case atStart => exact ⟨rfl, rfl, rfl⟩
  case round =>
    obtain ⟨rfl, rfl, rfl⟩ := hrel
    go_wp2
    go_ret2
    exact ⟨_, [], by rfl, (fun _ => rfl), HF.out, hg⟩
theorem pwritten_any (W w : World) (v p : Value) (ps : List Pc) (hf : Form w W.heap.size v []) (hg : W.grownBy w none) (ht : TabP W) (hp : Pcs W p ps) (hn : ps.length ≤ 1000000) (hsz : ∀ p ∈ ps, p.t.size ≤ 1000) : Wrote W ps 34 #[v, p] w := by
  rcases hp with ⟨rfl, rfl⟩ | ⟨g, o, c, rfl, hb, hp⟩
  · exact pwritten_nil W w v hf hg
  · exact pwritten_some W w v g o c ps hf hg ht hb hp hn hsz
/-- Bytes that the call owns, as a string. -/
theorem Form.str {w : World} {base : Nat} {v : Value} {l : List UInt8} (h : Form w base v l) : Sem.run Tryd.prog (convert 41 9 v) w = .ok (.string ⟨l.toArray⟩) w := by
  have hn : strOfNums (l.map fun c => (c.toNat : Int)) = ⟨l.toArray⟩ := by
    simp [strOfNums, Function.comp_def]
  obtain ⟨_, ⟨rfl, h0⟩ | ⟨g, cap, cur, rfl, _, hc, hle, _, hs, hx⟩⟩ := h
  · obtain rfl := List.eq_nil_of_length_eq_zero h0
    exact run_convert_bytes_nil (P := Tryd.prog) w 41 5 Tryd.underlying41 Tryd.underlying5 0 0 9 Tryd.underlying9
  · rw [run_convert_bytes_arg (P := Tryd.prog) w 41 5 Tryd.underlying41 Tryd.underlying5 g 0 l.length cap (l.map fun c => (c.toNat : Int)) (by simp) (fun i hi => by
      rw [Nat.zero_add, cell_of_row _ _ i _ 5 (0, 0) hc]
      rw [Nat.mul_one] at hx
      have h1 : (cur.toList.take l.length)[i]? = (byV l)[i]? := by rw [hx]
      rw [List.getElem?_take_of_lt hi, Array.getElem?_toList] at h1
      rw [h1]
      simp [byV, List.getD, hi]) 9 Tryd.underlying9, hn]
set_option maxRecDepth 100000 in
theorem pprint_any (w : World) (p : Value) (ps : List Pc) (ht : TabP w) (hp : Pcs w p ps) (hn : ps.length ≤ 1000000) (hsz : ∀ p ∈ ps, p.t.size ≤ 1000) :
    Calls Tryd.prog 13 #[p] w fun e w' => e = .returned (.string ⟨(printL ps).toArray⟩) ∧ w.grownBy w' none := by
  have hw := pwritten_any w w (.slice none 0 0) p ps (World.ownsRow_nil _ _ _ _) ⟨rfl, rfl, rfl, Nat.le_refl _, fun _ _ _ => rfl⟩ ht hp hn hsz
  unfold Wrote at hw
  have HW := Lib.hid hw
  clear hw ht hp hn hsz
  go_enter Tryd.func13, Tryd.ntmps13
  go_wp2_with fail
  refine HW.out.mono ?_
  rintro e w1 ⟨v1, l, rfl, hl, hf, g1⟩
  cases hr : rightL ps
  · have HR := Lib.hid hr
    clear hr hl hf
    go_wp2
    go_ret
    exact ⟨by unfold printL; rw [HR.out]; rfl, g1⟩
  · obtain rfl := hl hr
    have hc := hf.str
    have HR := Lib.hid hr
    clear hr hl hf
    go_wp2
    go_ret
    exact ⟨by unfold printL; rw [if_pos HR.out]; rfl, g1⟩
set_option maxRecDepth 100000 in
theorem pright_any (w : World) (p : Value) (ps : List Pc) (ht : TabP w) (hp : Pcs w p ps) (hn : ps.length ≤ 1000000) (hsz : ∀ p ∈ ps, p.t.size ≤ 1000) :
    Calls Tryd.prog 39 #[p] w fun e w' => e = .returned (.bool (rightL ps)) ∧ w.grownBy w' none := by
  have HW := Lib.hid (fun (w1 : World) (v : Value) (hf : Form w1 w.heap.size v []) (hg : w.grownBy w1 none) => pwritten_any w w1 v p ps hf hg ht hp hn hsz)
  clear ht hp hn hsz
  obtain ⟨i, h2, h3, h4, h5⟩ := info_parts infoY
  have HI := Lib.hid (And.intro h2 (And.intro h3 (And.intro h4 h5)))
  clear h2 h3 h4 h5
  go_enter Tryd.func39, Tryd.ntmps39
  go_wp2_with (at_make; refine wpList_make_own w rfl _ _ _ rfl w.heap.size 5 i (.int .u8 0) 1 Tryd.underlying41 HI.out.1 HI.out.2.1 HI.out.2.2.1 .i64 .i64 60 60 rfl rfl rfl (by rw [HI.out.2.2.2]; decide) (by decide) (Nat.le_refl _) ?_; intro w1 f1 g1)
  have h := HW.out w1 _ f1 g1
  unfold Wrote at h
  have H := Lib.hid h
  clear h f1
  go_wp2_with fail
  refine H.out.mono ?_
  rintro e w2 ⟨v1, l, rfl, _, hf, g2⟩
  clear hf
  go_wp2
  go_ret
  exact ⟨rfl, g2⟩
end Go.Proofs.YtgkegbcdiadkdaaDoor
