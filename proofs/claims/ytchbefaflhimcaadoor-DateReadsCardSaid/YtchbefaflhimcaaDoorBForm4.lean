/- Contracts of the program and of the reference, part 4: RTxt, RParts, RRight. -/
import Derived.Test.YtchbefaflhimcaaDoorBForm3
import Derived.Maps.AppendAt
namespace Go.Proofs.YtchbefaflhimcaaDoor
open Go.RowKit Mth

theorem rdig_at (z : Int) (n k : Nat) (hz : z = (n : Int)) (u : Int) (hu : u = (k : Int)) (hn : n ≤ 1000000000) (hk : k ≤ 1000) (w : World) :
    Calls Tryd.prog 43 #[.int .i64 z, .int .i64 u] w fun e w' => e = .returned (.string ⟨(padD n k).toArray⟩) ∧ w.grownBy w' none := by
  subst hz; subst hu; exact rdigits_any n k hn hk w

theorem textD_val {n : Int} (h : isN n = true) : textD n = padD (civ n.toNat).1 4 ++ 45 :: (padD (civ n.toNat).2.1 2 ++ 45 :: padD (civ n.toNat).2.2 2) := by
  unfold textD formD
  rw [h, show isRightL layI.data.toList = true from by rw [← rightE_eq]; decide +kernel]
  show fmt _ (toks layI.data.toList) = _
  rw [show toks layI.data.toList = iso from by rw [← toksF_eq 10 _ (by decide)]; decide +kernel, fmt_iso]
theorem textD_none {n : Int} (h : isN n = false) : textD n = [] := by
  unfold textD formD
  rw [h]; rfl

set_option maxRecDepth 100000 in
set_option maxHeartbeats 1000000 in
theorem rtext_any (n : Int) (w : World) :
    Calls Tryd.prog 26 #[.int .i64 n] w fun e w' => e = .returned (.string ⟨(textD n).toArray⟩) ∧ w.grownBy w' none := by
  cases hn : isN n with
  | false =>
    rw [textD_none hn]
    have hc : civD n = .tuple #[.int .i64 0, .int .i64 0, .int .i64 0, .bool false] := by unfold civD; rw [hn]; rfl
    have HC := Lib.hid hc
    clear hc hn
    go_enter Tryd.func26, Tryd.ntmps26
    go_wp2_with fail
    refine (rcivil_any _ w).mono ?_
    rintro e w' ⟨rfl, rfl⟩
    rw [HC.out]
    go_wp2
    go_ret
    exact ⟨rfl, World.grownBy.refl _ _⟩
  | true =>
    have hc : civD n = .tuple #[.int .i64 ((civ n.toNat).1 : Nat), .int .i64 ((civ n.toNat).2.1 : Nat), .int .i64 ((civ n.toNat).2.2 : Nat), .bool true] := by unfold civD; rw [hn]; rfl
    have hn2 : n.toNat ≤ 3652058 := by unfold isN at hn; rw [decide_eq_true_eq] at hn; omega
    obtain ⟨h1, h2, h3⟩ := civ_small hn2
    have hv := textD_val hn
    generalize (civ n.toNat).1 = y at *
    generalize (civ n.toNat).2.1 = m at *
    generalize (civ n.toNat).2.2 = d at *
    have hfin : ∀ a b c : ByteArray, a.data.toList = padD y 4 → b.data.toList = padD m 2 → c.data.toList = padD d 2 → (⟨(textD n).toArray⟩ : ByteArray) = a ++ ⟨#[45]⟩ ++ b ++ ⟨#[45]⟩ ++ c := by
      intro a b c ha hb hc
      apply toArray_eq
      rw [hv, cat_list, cat_list, cat_list, cat_list, ha, hb, hc]
      simp
    have HF := Lib.hid hfin
    have HC := Lib.hid hc
    have l1 := (padD_len (n := y) (k := 4) (w := 4) (by simp; omega) (by omega)).2
    have l2 := (padD_len (n := m) (k := 2) (w := 2) (by simp; omega) (by omega)).2
    have l3 := (padD_len (n := d) (k := 2) (w := 2) (by simp; omega) (by omega)).2
    obtain ⟨a, ha⟩ : ∃ a : ByteArray, a = ⟨(padD y 4).toArray⟩ := ⟨_, rfl⟩
    obtain ⟨b, hb⟩ : ∃ a : ByteArray, a = ⟨(padD m 2).toArray⟩ := ⟨_, rfl⟩
    obtain ⟨c, hcc⟩ : ∃ a : ByteArray, a = ⟨(padD d 2).toArray⟩ := ⟨_, rfl⟩
    have sa : a.size ≤ 4 := by rw [ha]; exact l1
    have sb : b.size ≤ 2 := by rw [hb]; exact l2
    have sc : c.size ≤ 2 := by rw [hcc]; exact l3
    have HE := Lib.hid (HF.out a b c (by rw [ha]) (by rw [hb]) (by rw [hcc]))
    have HA := Lib.hid (And.intro ha (And.intro hb hcc))
    clear hc hn hn2 hv hfin l1 l2 l3 ha hb hcc HF
    go_enter Tryd.func26, Tryd.ntmps26
    go_wp2_with fail
    refine (rcivil_any _ w).mono ?_
    rintro e w' ⟨rfl, rfl⟩
    rw [HC.out]
    go_wp2_with fail
    refine (rdig_at _ y 4 rfl _ rfl (by omega) (by omega) w).mono ?_
    rintro e w1 ⟨rfl, g1⟩
    rw [← HA.out.1]
    go_wp2_with fail
    refine (rdig_at _ m 2 rfl _ rfl (by omega) (by omega) w1).mono ?_
    rintro e w2 ⟨rfl, g2⟩
    rw [← HA.out.2.1]
    go_wp2_with fail
    refine (rdig_at _ d 2 rfl _ rfl (by omega) (by omega) w2).mono ?_
    rintro e w3 ⟨rfl, g3⟩
    rw [← HA.out.2.2]
    have hgg := Lib.hid (gr_then g1 (gr_then g2 g3))
    clear g1 g2 g3
    go_wp2
    go_ret
    rw [HE.out]
    exact ⟨rfl, hgg.out⟩

set_option maxRecDepth 100000 in
set_option maxHeartbeats 1000000 in
theorem rnum_any (s : ByteArray) (hs : s.size ≤ 10) (w : World) :
    Calls Tryd.prog 44 #[.string s] w fun e w' => e = .returned (.tuple #[.int .i64 ((numR s.data.toList).1 : Nat), .bool (numR s.data.toList).2]) ∧ w.grownBy w' none := by
  go_enter Tryd.func44, Tryd.ntmps44
  go_wp2
  go_loop [4, 5] (fun u v => ∃ i N : Nat, i ≤ s.size ∧ u = .int .i64 (N : Int) ∧ v = .int .i64 (i : Int) ∧ Hid (Led s.data.toList i N)) (fun _ v => s.size - (intOf v).toNat)
  case atStart => exact ⟨0, 0, by omega, by simp, by simp, ⟨by simp, by simp [dval]⟩⟩
  case round =>
    obtain ⟨i, N, his, rfl, rfl, HL⟩ := hrel
    have hN : N < 10000000000 := Nat.lt_of_lt_of_le HL.out.lt (by rw [show 10000000000 = 10 ^ 10 from rfl]; exact Nat.pow_le_pow_right (by decide) (by omega))
    by_cases hlt : i < s.size
    · cases hd : isDg s[i] with
      | true =>
        have hv1 : (48 : Int) ≤ (s[i].toNat : Int) := by simp only [isDg, Bool.and_eq_true, decide_eq_true_eq] at hd; omega
        have hv2 : (s[i].toNat : Int) ≤ 57 := by simp only [isDg, Bool.and_eq_true, decide_eq_true_eq] at hd; omega
        have HD := Lib.hid hd
        clear hd
        go_wp2
        refine ⟨⟨i + 1, 10 * N + (s[i].toNat - 48), by omega, by congr 1; omega, by congr 1, HL.out.next hlt HD.out⟩, ?_⟩
        simp only [intOf]
        omega
      | false =>
        have hno : numR s.data.toList = (0, false) := by
          unfold numR
          rw [if_neg]
          intro ha
          rw [List.all_eq_true] at ha
          have := ha s[i] (by
            have : s[i] = s.data.toList[i]'(by simpa using hlt) := rfl
            rw [this]; exact List.getElem_mem _)
          rw [this] at hd
          cases hd
        have HNO := Lib.hid hno
        by_cases h1 : (s[i].toNat : Int) < 48
        · clear hd hno
          go_wp2
          go_ret2
          rw [HNO.out]
          exact ⟨rfl, World.grownBy.refl _ _⟩
        · have h2 : (57 : Int) < (s[i].toNat : Int) := by
            simp only [isDg, Bool.and_eq_false_iff, decide_eq_false_iff_not] at hd
            omega
          have h1 : (48 : Int) ≤ (s[i].toNat : Int) := by omega
          clear hd hno
          go_wp2
          go_ret2
          rw [HNO.out]
          exact ⟨rfl, World.grownBy.refl _ _⟩
    · have hie : i = s.size := by omega
      subst hie
      have hall : s.data.toList.take s.size = s.data.toList := by rw [List.take_of_length_le]; rw [len_toList]; exact Nat.le_refl _
      have hyes : numR s.data.toList = (N, decide ((0 : Int) < s.size) && decide ((s.size : Int) < 5)) := by
        have h1 := HL.out.dig
        have h2 := HL.out.val
        rw [hall] at h1 h2
        unfold numR
        rw [if_pos (List.all_eq_true.2 h1), ← h2, len_toList]
        congr 2
        · exact decide_eq_decide.2 (by omega)
        · exact decide_eq_decide.2 (by omega)
      have HY := Lib.hid hyes
      clear hall hyes
      go_wp2_with fail
      all_goals
        go_ret2
        refine ⟨?_, World.grownBy.refl _ _⟩
        rw [HY.out]
        simp_all

/-- Parse of the reference is Read in the layout of Text. -/
theorem readL_iso (s : List UInt8) : readL layI.data.toList s = parseR s := by
  unfold readL
  rw [show isRightL layI.data.toList = true from by rw [← rightE_eq]; decide +kernel, show toks layI.data.toList = iso from by rw [← toksF_eq 10 _ (by decide)]; decide +kernel, parse_same]
  rfl
theorem u8_45 (c : UInt8) : (c.toNat : Int) = 45 ↔ c = 45 := by
  constructor
  · intro h
    apply UInt8.toNat_inj.1
    show c.toNat = 45
    omega
  · rintro rfl; rfl
theorem at_byte {s : ByteArray} {i : Nat} (hi : i < s.size) : s.data.toList[i]? = some s[i] := by
  rw [List.getElem?_eq_getElem (by simpa using hi)]; rfl

set_option maxRecDepth 100000 in
set_option maxHeartbeats 2000000 in
theorem rparse_any (s : ByteArray) (w : World) :
    Calls Tryd.prog 28 #[.string s] w fun e w' => e = .returned (.tuple #[.int .i64 ((readL layI.data.toList s.data.toList).1 : Nat), .bool (readL layI.data.toList s.data.toList).2]) ∧ w.grownBy w' none := by
  rw [readL_iso]
  by_cases h10 : s.size = 10
  · have hlen : s.data.toList.length = 10 := h10
    have e4 := at_byte (s := s) (i := 4) (by omega)
    have e7 := at_byte (s := s) (i := 7) (by omega)
    have hb4 : 4 < s.size := by omega
    have hb7 : 7 < s.size := by omega
    have hz4 := u8_45 s[4]
    have hz7 := u8_45 s[7]
    by_cases h4 : s[4] = 45
    · by_cases h7 : s[7] = 45
      · have hp : parseR s.data.toList = if (numR (s.data.toList.take 4)).2 = true ∧ (numR ((s.data.toList.drop 5).take 2)).2 = true ∧ (numR (s.data.toList.drop 8)).2 = true ∧ validC (parts10 s.data.toList) then (numC (parts10 s.data.toList), true) else (0, false) := by
          unfold parseR
          rw [e4, e7, h4, h7]
          simp only [hlen, true_and]
        rw [hp]
        have x1 := ext_head s 4
        have x2 := ext_list s 5 7
        have x3 := ext_tail s 8
        have n1 := rnum_any (s.extract 0 4) (by simp [ByteArray.size_extract]; omega) w
        have n2 := fun w => rnum_any (s.extract 5 7) (by simp [ByteArray.size_extract]; omega) w
        have n3 := fun w => rnum_any (s.extract 8 s.size) (by simp [ByteArray.size_extract]; omega) w
        rw [x1] at n1
        rw [x2, show 7 - 5 = 2 from rfl] at n2
        rw [x3] at n3
        rw [h10] at n3
        unfold parts10
        generalize numR (s.data.toList.take 4) = y at *
        generalize numR ((s.data.toList.drop 5).take 2) = m at *
        generalize numR (s.data.toList.drop 8) = d at *
        obtain ⟨y, by'⟩ := y
        obtain ⟨m, bm⟩ := m
        obtain ⟨d, bd⟩ := d
        have hv : ∃ nz ok, numD (y : Nat) (m : Nat) (d : Nat) = (nz, ok) ∧ ((ok = true ∧ validC (y, m, d) ∧ nz = ((numC (y, m, d) : Nat) : Int)) ∨ (ok = false ∧ ¬ validC (y, m, d))) := by
          by_cases h : validC (y, m, d)
          · exact ⟨_, _, numD_ok h, .inl ⟨rfl, h, rfl⟩⟩
          · exact ⟨_, _, numD_no h, .inr ⟨rfl, h⟩⟩
        obtain ⟨nz, ok, hnd, hv⟩ := hv
        have f4 : (s[4].toNat : Int) = 45 := hz4.2 h4
        have f7 : (s[7].toNat : Int) = 45 := hz7.2 h7
        have HN := Lib.hid (And.intro n1 (And.intro n2 n3))
        have HD := Lib.hid hnd
        have HV := Lib.hid hv
        clear hp e4 e7 x1 x2 x3 hz4 hz7 n1 n2 n3 hlen h4 h7 hnd hv
        generalize hN : numC (y, m, d) = N at *
        clear hN
        go_enter Tryd.func28, Tryd.ntmps28
        go_wp2_with fail
        refine HN.out.1.mono ?_
        rintro e w1 ⟨rfl, g1⟩
        go_wp2_with fail
        refine (HN.out.2.1 _).mono ?_
        rintro e w2 ⟨rfl, g2⟩
        go_wp2_with fail
        refine (HN.out.2.2 _).mono ?_
        rintro e w3 ⟨rfl, g3⟩
        have hg := Lib.hid (gr_then g1 (gr_then g2 g3))
        clear g1 g2 g3
        go_wp2_with fail
        refine (rnumber_any _ _ _ _).mono ?_
        rintro e w4 ⟨rfl, rfl⟩
        rw [HD.out]
        go_wp2
        all_goals
          go_ret2
          refine ⟨?_, hg.out⟩
          rcases HV.out with ⟨rfl, h2, rfl⟩ | ⟨rfl, h2⟩ <;> simp_all
      · have hp : parseR s.data.toList = (0, false) := by
          unfold parseR
          rw [if_neg]
          rintro ⟨_, _, h, _⟩
          rw [e7] at h
          exact h7 (Option.some.inj h)
        rw [hp]
        have f4 : (s[4].toNat : Int) = 45 := hz4.2 h4
        have f7 : ¬ (s[7].toNat : Int) = 45 := fun h => h7 (hz7.1 h)
        clear hp e4 e7 hz4 hz7 h4 h7 hlen
        go_enter Tryd.func28, Tryd.ntmps28
        go_wp2
        go_ret2
        exact ⟨rfl, World.grownBy.refl _ _⟩
    · have hp : parseR s.data.toList = (0, false) := by
        unfold parseR
        rw [if_neg]
        rintro ⟨_, h, _⟩
        rw [e4] at h
        exact h4 (Option.some.inj h)
      rw [hp]
      have f4 : ¬ (s[4].toNat : Int) = 45 := fun h => h4 (hz4.1 h)
      clear hp e4 e7 hz4 hz7 h4 hlen
      go_enter Tryd.func28, Tryd.ntmps28
      go_wp2
      go_ret2
      exact ⟨rfl, World.grownBy.refl _ _⟩
  · have hp : parseR s.data.toList = (0, false) := by
      unfold parseR
      rw [if_neg]
      rintro ⟨h, _⟩
      exact h10 h
    rw [hp]
    clear hp
    go_enter Tryd.func28, Tryd.ntmps28
    go_wp2
    go_ret2
    exact ⟨rfl, World.grownBy.refl _ _⟩
end Go.Proofs.YtchbefaflhimcaaDoor
namespace Go.Proofs.YtchbefaflhimcaaDoor
open Go.RowKit Mth

theorem infoS : (Tryd.prog.info? 9).map (fun i => (i.zero, i.size, i.bytes)) = some (some (.string ⟨#[]⟩), 1, 16) := by kernel_rfl
/-- The parts as strings. -/
def tokV (l : List Tok) : List Value := l.map fun t => Value.string ⟨t.txt.toArray⟩
theorem tokV_snoc (l : List Tok) (t : Tok) : tokV (l ++ [t]) = tokV l ++ [Value.string ⟨t.txt.toArray⟩] := by simp [tokV]
theorem tokV_len (l : List Tok) : (tokV l).length = l.length := by simp [tokV]

/-- What is left of a layout begins with its next part. -/
theorem next_part {s : ByteArray} {k : Nat} (hk : k < s.size) (l : List UInt8) (hl : l = s.data.toList.drop k) : l ≠ [] ∧ k + (tokOf l).txt.length ≤ s.size ∧ (⟨(tokOf l).txt.toArray⟩ : ByteArray) = s.extract k (k + (tokOf l).txt.length) := by
  have hne : l ≠ [] := by
    intro e
    have := congrArg List.length hl
    rw [e, List.length_drop, len_toList] at this
    simp at this
    omega
  have hle := tokOf_len hne
  have hll : l.length = s.size - k := by rw [hl, List.length_drop, len_toList]
  refine ⟨hne, by omega, toArray_eq _ ?_⟩
  rw [ext_list, Nat.add_sub_cancel_left, ← hl, tokOf_take hne]

theorem wpList_call_append {P : Program} {w : World} {ops : Array Oper} {rest : List Oper} {o : Oper} {a : Act} {Q : Exit → Act → World → Prop} (hgd : o.guard = none) (s x : Operand) (t : TypeId)
    (ho : o.op = .call { callee := .builtin .append, args := #[s, x], argTypes := #[t, t] }) (v xv : Value) (hs : a.eval s = v) (hx : a.eval x = xv) (v' : Value) (w' : World)
    (hr : Sem.run P (Builtin.append_ #[t, t] o.type #[v, xv]) w = .ok v' w') (h : wpList P ops Q rest (a.put o.dst v') w') : wpList P ops Q (o :: rest) a w := by
  refine wpList_plain hgd fun K hK => ?_
  unfold Oper.wp execOp
  simp only [ho, resolve, invoke, builtin, Sem.run_bind, Sem.run_pure, Result.andThen_ok, List.map_toArray, List.map_cons, List.map_nil, hs, hx, hr]
  exact hK _ _ h
theorem gr_own {a b c : World} {r : Option Nat} (g : a.grownBy b none) (h : b.grownBy c r) (hr : ∀ x, r = some x → a.heap.size ≤ x) : a.grownBy c none := by
  refine ⟨h.os.trans g.os, h.tape.trans g.tape, h.output.trans g.output, Nat.le_trans g.size h.size, fun k hk _ => ?_⟩
  refine (h.block k (Nat.lt_of_lt_of_le hk g.size) ?_).trans (g.block k hk (by simp))
  intro e
  have := hr k e.symm
  omega

set_option maxRecDepth 100000 in
set_option maxHeartbeats 8000000 in
theorem rparts_any (s : ByteArray) (w : World) (hs : s.size ≤ 40) :
    Calls Tryd.prog 49 #[.string s] w fun e w' => (∃ v, e = .returned v ∧ w'.ownsRow w.heap.size 9 1 v (toks s.data.toList).length (tokV (toks s.data.toList))) ∧ w.grownBy w' none := by
  obtain ⟨i0, hi, hz0, hz1, hz2⟩ := info_parts infoS
  go_enter Tryd.func49, Tryd.ntmps49
  go_wp2
  go_loopw [3, 4] (fun u v wr => ∃ (pre : List Tok) (k : Nat), v = .int .i64 (k : Int) ∧ k ≤ s.size ∧ pre.length ≤ k ∧ Hid (toks s.data.toList = pre ++ toks (s.data.toList.drop k)) ∧ wr.ownsRow w.heap.size 9 1 u pre.length (tokV pre) ∧ w.grownBy wr none) (fun _ v _ => s.size - (intOf v).toNat)
  case atStart => exact ⟨[], 0, rfl, by omega, by simp, Lib.hid (by simp), World.ownsRow_nil _ _ _ _, World.grownBy.refl _ _⟩
  case round =>
    obtain ⟨pre, k, rfl, hk, hpk, HT, hown, hg⟩ := hrel
    by_cases hlt : k < s.size
    · obtain ⟨l, hl⟩ : ∃ l, l = s.data.toList.drop k := ⟨_, rfl⟩
      obtain ⟨hne, hn1, hn2⟩ := next_part hlt l hl
      have HTT := Lib.hid (show toks s.data.toList = (pre ++ [tokOf l]) ++ toks (s.data.toList.drop (k + (tokOf l).txt.length)) from by
        rw [HT.out, ← hl, toks_cons hne, hl, List.drop_drop, List.append_assoc]; rfl)
      have htp := (tokOf l).txt_pos
      have hll : l.length = s.size - k := by rw [hl, List.length_drop, len_toList]
      have x4 : (s.extract k (k + 4)).toList = l.take 4 := by rw [ByteArray.toList_eq, ext_list, Nat.add_sub_cancel_left, ← hl]
      have x2 : (s.extract k (k + 2)).toList = l.take 2 := by rw [ByteArray.toList_eq, ext_list, Nat.add_sub_cancel_left, ← hl]
      have FIN : ∀ (v' : Value) (w' : World), w'.ownsRow w.heap.size 9 1 v' (pre.length + 1) (tokV pre ++ [.string (s.extract k (k + (tokOf l).txt.length))]) → w.grownBy w' none → ∃ (pre' : List Tok) (k' : Nat), Value.int .i64 ((k : Int) + (tokOf l).txt.length) = .int .i64 (k' : Int) ∧ k' ≤ s.size ∧ pre'.length ≤ k' ∧ Hid (toks s.data.toList = pre' ++ toks (s.data.toList.drop k')) ∧ w'.ownsRow w.heap.size 9 1 v' pre'.length (tokV pre') ∧ w.grownBy w' none := by
        intro v' w' ho hg'
        refine ⟨pre ++ [tokOf l], k + (tokOf l).txt.length, by simp, hn1, by simp; omega, HTT, ?_, hg'⟩
        rw [tokV_snoc, hn2, List.length_append]
        exact ho
      have hob : ∀ g, u3.ownBlock = some g → w.heap.size ≤ g := by
        intro g hgg
        rcases hown.2 with ⟨rfl, _⟩ | ⟨g', _, _, rfl, hb, _⟩
        · cases hgg
        · cases hgg; exact hb
      have HFIN := Lib.hid FIN
      have HOWN := Lib.hid hown
      have hsz := hg.size
      have hp40 : pre.length ≤ 40 := by omega
      clear FIN hown hne hn2 HT
      have hE4 : l.take 4 = [89, 89, 89, 89] → (tokOf l).txt.length = 4 ∧ k + 4 ≤ s.size := fun h => by
        have h1 : (tokOf l).txt.length = 4 := by unfold tokOf; rw [if_pos h]; rfl
        exact ⟨h1, by omega⟩
      have hE2 : ¬ l.take 4 = [89, 89, 89, 89] → (l.take 2 = [77, 77] ∨ l.take 2 = [68, 68]) → (tokOf l).txt.length = 2 ∧ k + 2 ≤ s.size := fun h h2 => by
        have h1 : (tokOf l).txt.length = 2 := by
          unfold tokOf
          rw [if_neg h]
          rcases h2 with h2 | h2
          · rw [if_pos h2]; rfl
          · have h3 : ¬ l.take 2 = [77, 77] := by rw [h2]; decide
            have h4 : ¬ l.take 1 = [77] := by
              intro h4
              have : (l.take 2).take 1 = l.take 1 := by rw [List.take_take]; rfl
              rw [h2, h4] at this
              exact absurd this (by decide)
            rw [if_neg h3, if_neg h4, if_pos h2]; rfl
        exact ⟨h1, by omega⟩
      have hE1 : ¬ l.take 4 = [89, 89, 89, 89] → ¬ l.take 2 = [77, 77] → ¬ l.take 2 = [68, 68] → (tokOf l).txt.length = 1 := fun h h2 h3 => by
        unfold tokOf
        rw [if_neg h, if_neg h2]
        by_cases h4 : l.take 1 = [77]
        · rw [if_pos h4]; rfl
        · rw [if_neg h4, if_neg h3]
          by_cases h5 : l.take 1 = [68]
          · rw [if_pos h5]; rfl
          · rw [if_neg h5]; rfl
      have hkz : (k : Int) < (s.size : Int) := by omega
      by_cases c4 : l.take 4 = [89, 89, 89, 89]
      · obtain ⟨hq, hk4⟩ := hE4 c4
        have e4 : ((s.extract k (k + 4)).toList == [89, 89, 89, 89]) = true := by rw [x4, c4]; rfl
        have hk4z : (k : Int) + 4 ≤ (s.size : Int) := by omega
        clear hE4 hE2 hE1 c4
        have HQ := Lib.hid hq
        clear hq x4 x2 htp hll hl
        obtain ⟨v', w2, hr, hown2, hg2, _, hblk⟩ := run_append_own_at (P := Tryd.prog) (wr.alloc (.cells #[.string (s.extract k (k + 4))] 9)) w.heap.size 47 47 9 i0 (.string ⟨#[]⟩) 1 16 Tryd.underlying47 hi hz0 hz1 hz2 rfl (by decide) u3 pre.length (tokV pre) (HOWN.out.kept (gr_alloc wr (.cells #[.string (s.extract k (k + 4))] 9) none) (by cases Value.ownBlock u3 <;> simp)) ⟨wr.heap.size, 0, none⟩ 1 1 [.string (s.extract k (k + 4))] rfl (cell_one_new wr (.string (s.extract k (k + 4))) 9) (by simp [Value.oneCell']) (by unfold maxLen; omega) (by omega) (by simp; omega)
        have hg3 : w.grownBy w2 none := by
          refine gr_own (gr_then hg (gr_alloc wr (.cells #[.string (s.extract k (k + 4))] 9) none)) hg2 (fun g e => ?_)
          exact hob g e
        have hf := HFIN.out v' w2 (by rw [HQ.out]; exact hown2) hg3
        rw [HQ.out] at hf
        have HF := Lib.hid hf
        clear hf hown2 hg2 hg3 hblk
        go_wp2_with (at_builtin; refine wpList_call_append rfl (.tmp 44) (.tmp 51) 47 rfl _ _ rfl rfl _ _ hr ?_)
        refine ⟨HF.out, ?_⟩
        simp only [intOf]
        omega
      · have e4 : k + 4 ≤ s.size → ((s.extract k (k + 4)).toList == [89, 89, 89, 89]) = false := fun _ => by rw [x4, beq_eq_false_iff_ne]; exact c4
        by_cases c2 : l.take 2 = [77, 77] ∨ l.take 2 = [68, 68]
        · obtain ⟨hq, hk2⟩ := hE2 c4 c2
          have hk2z : (k : Int) + 2 ≤ (s.size : Int) := by omega
          have e2 : ((s.extract k (k + 2)).toList == [77, 77]) = true ∨ (((s.extract k (k + 2)).toList == [77, 77]) = false ∧ ((s.extract k (k + 2)).toList == [68, 68]) = true) := by
            rw [x2]
            rcases c2 with c2 | c2
            · left; rw [c2]; rfl
            · right; rw [c2]; exact ⟨rfl, rfl⟩
          clear hE4 hE2 hE1 c4 c2
          by_cases h4 : k + 4 ≤ s.size
          · have e4 := e4 h4
            have hk4z : (k : Int) + 4 ≤ (s.size : Int) := by omega
            rcases e2 with e2 | ⟨e2, e3⟩
            · have HQ := Lib.hid hq
              clear hq x4 x2 htp hll hl
              obtain ⟨v', w2, hr, hown2, hg2, _, hblk⟩ := run_append_own_at (P := Tryd.prog) (wr.alloc (.cells #[.string (s.extract k (k + 2))] 9)) w.heap.size 47 47 9 i0 (.string ⟨#[]⟩) 1 16 Tryd.underlying47 hi hz0 hz1 hz2 rfl (by decide) u3 pre.length (tokV pre) (HOWN.out.kept (gr_alloc wr (.cells #[.string (s.extract k (k + 2))] 9) none) (by cases Value.ownBlock u3 <;> simp)) ⟨wr.heap.size, 0, none⟩ 1 1 [.string (s.extract k (k + 2))] rfl (cell_one_new wr (.string (s.extract k (k + 2))) 9) (by simp [Value.oneCell']) (by unfold maxLen; omega) (by omega) (by simp; omega)
              have hg3 : w.grownBy w2 none := by
                refine gr_own (gr_then hg (gr_alloc wr (.cells #[.string (s.extract k (k + 2))] 9) none)) hg2 (fun g e => ?_)
                exact hob g e
              have hf := HFIN.out v' w2 (by rw [HQ.out]; exact hown2) hg3
              rw [HQ.out] at hf
              have HF := Lib.hid hf
              clear hf hown2 hg2 hg3 hblk
              go_wp2_with (at_builtin; refine wpList_call_append rfl (.tmp 44) (.tmp 51) 47 rfl _ _ rfl rfl _ _ hr ?_)
              refine ⟨HF.out, ?_⟩
              simp only [intOf]
              omega
            · have HQ := Lib.hid hq
              clear hq x4 x2 htp hll hl
              obtain ⟨v', w2, hr, hown2, hg2, _, hblk⟩ := run_append_own_at (P := Tryd.prog) (wr.alloc (.cells #[.string (s.extract k (k + 2))] 9)) w.heap.size 47 47 9 i0 (.string ⟨#[]⟩) 1 16 Tryd.underlying47 hi hz0 hz1 hz2 rfl (by decide) u3 pre.length (tokV pre) (HOWN.out.kept (gr_alloc wr (.cells #[.string (s.extract k (k + 2))] 9) none) (by cases Value.ownBlock u3 <;> simp)) ⟨wr.heap.size, 0, none⟩ 1 1 [.string (s.extract k (k + 2))] rfl (cell_one_new wr (.string (s.extract k (k + 2))) 9) (by simp [Value.oneCell']) (by unfold maxLen; omega) (by omega) (by simp; omega)
              have hg3 : w.grownBy w2 none := by
                refine gr_own (gr_then hg (gr_alloc wr (.cells #[.string (s.extract k (k + 2))] 9) none)) hg2 (fun g e => ?_)
                exact hob g e
              have hf := HFIN.out v' w2 (by rw [HQ.out]; exact hown2) hg3
              rw [HQ.out] at hf
              have HF := Lib.hid hf
              clear hf hown2 hg2 hg3 hblk
              go_wp2_with (at_builtin; refine wpList_call_append rfl (.tmp 44) (.tmp 51) 47 rfl _ _ rfl rfl _ _ hr ?_)
              refine ⟨HF.out, ?_⟩
              simp only [intOf]
              omega
          · have hk4z : ¬ (k : Int) + 4 ≤ (s.size : Int) := by omega
            clear e4
            rcases e2 with e2 | ⟨e2, e3⟩
            · have HQ := Lib.hid hq
              clear hq x4 x2 htp hll hl
              obtain ⟨v', w2, hr, hown2, hg2, _, hblk⟩ := run_append_own_at (P := Tryd.prog) (wr.alloc (.cells #[.string (s.extract k (k + 2))] 9)) w.heap.size 47 47 9 i0 (.string ⟨#[]⟩) 1 16 Tryd.underlying47 hi hz0 hz1 hz2 rfl (by decide) u3 pre.length (tokV pre) (HOWN.out.kept (gr_alloc wr (.cells #[.string (s.extract k (k + 2))] 9) none) (by cases Value.ownBlock u3 <;> simp)) ⟨wr.heap.size, 0, none⟩ 1 1 [.string (s.extract k (k + 2))] rfl (cell_one_new wr (.string (s.extract k (k + 2))) 9) (by simp [Value.oneCell']) (by unfold maxLen; omega) (by omega) (by simp; omega)
              have hg3 : w.grownBy w2 none := by
                refine gr_own (gr_then hg (gr_alloc wr (.cells #[.string (s.extract k (k + 2))] 9) none)) hg2 (fun g e => ?_)
                exact hob g e
              have hf := HFIN.out v' w2 (by rw [HQ.out]; exact hown2) hg3
              rw [HQ.out] at hf
              have HF := Lib.hid hf
              clear hf hown2 hg2 hg3 hblk
              go_wp2_with (at_builtin; refine wpList_call_append rfl (.tmp 44) (.tmp 51) 47 rfl _ _ rfl rfl _ _ hr ?_)
              refine ⟨HF.out, ?_⟩
              simp only [intOf]
              omega
            · have HQ := Lib.hid hq
              clear hq x4 x2 htp hll hl
              obtain ⟨v', w2, hr, hown2, hg2, _, hblk⟩ := run_append_own_at (P := Tryd.prog) (wr.alloc (.cells #[.string (s.extract k (k + 2))] 9)) w.heap.size 47 47 9 i0 (.string ⟨#[]⟩) 1 16 Tryd.underlying47 hi hz0 hz1 hz2 rfl (by decide) u3 pre.length (tokV pre) (HOWN.out.kept (gr_alloc wr (.cells #[.string (s.extract k (k + 2))] 9) none) (by cases Value.ownBlock u3 <;> simp)) ⟨wr.heap.size, 0, none⟩ 1 1 [.string (s.extract k (k + 2))] rfl (cell_one_new wr (.string (s.extract k (k + 2))) 9) (by simp [Value.oneCell']) (by unfold maxLen; omega) (by omega) (by simp; omega)
              have hg3 : w.grownBy w2 none := by
                refine gr_own (gr_then hg (gr_alloc wr (.cells #[.string (s.extract k (k + 2))] 9) none)) hg2 (fun g e => ?_)
                exact hob g e
              have hf := HFIN.out v' w2 (by rw [HQ.out]; exact hown2) hg3
              rw [HQ.out] at hf
              have HF := Lib.hid hf
              clear hf hown2 hg2 hg3 hblk
              go_wp2_with (at_builtin; refine wpList_call_append rfl (.tmp 44) (.tmp 51) 47 rfl _ _ rfl rfl _ _ hr ?_)
              refine ⟨HF.out, ?_⟩
              simp only [intOf]
              omega
        · have hq := hE1 c4 (fun h => c2 (.inl h)) (fun h => c2 (.inr h))
          have e2 : ((s.extract k (k + 2)).toList == [77, 77]) = false := by rw [x2, beq_eq_false_iff_ne]; exact fun h => c2 (.inl h)
          have e3 : ((s.extract k (k + 2)).toList == [68, 68]) = false := by rw [x2, beq_eq_false_iff_ne]; exact fun h => c2 (.inr h)
          clear hE4 hE2 hE1 c4 c2
          by_cases h2 : k + 2 ≤ s.size
          · have hk2z : (k : Int) + 2 ≤ (s.size : Int) := by omega
            by_cases h4 : k + 4 ≤ s.size
            · have e4 := e4 h4
              have hk4z : (k : Int) + 4 ≤ (s.size : Int) := by omega
              have HQ := Lib.hid hq
              clear hq x4 x2 htp hll hl
              obtain ⟨v', w2, hr, hown2, hg2, _, hblk⟩ := run_append_own_at (P := Tryd.prog) (wr.alloc (.cells #[.string (s.extract k (k + 1))] 9)) w.heap.size 47 47 9 i0 (.string ⟨#[]⟩) 1 16 Tryd.underlying47 hi hz0 hz1 hz2 rfl (by decide) u3 pre.length (tokV pre) (HOWN.out.kept (gr_alloc wr (.cells #[.string (s.extract k (k + 1))] 9) none) (by cases Value.ownBlock u3 <;> simp)) ⟨wr.heap.size, 0, none⟩ 1 1 [.string (s.extract k (k + 1))] rfl (cell_one_new wr (.string (s.extract k (k + 1))) 9) (by simp [Value.oneCell']) (by unfold maxLen; omega) (by omega) (by simp; omega)
              have hg3 : w.grownBy w2 none := by
                refine gr_own (gr_then hg (gr_alloc wr (.cells #[.string (s.extract k (k + 1))] 9) none)) hg2 (fun g e => ?_)
                exact hob g e
              have hf := HFIN.out v' w2 (by rw [HQ.out]; exact hown2) hg3
              rw [HQ.out] at hf
              have HF := Lib.hid hf
              clear hf hown2 hg2 hg3 hblk
              go_wp2_with (at_builtin; refine wpList_call_append rfl (.tmp 44) (.tmp 51) 47 rfl _ _ rfl rfl _ _ hr ?_)
              refine ⟨HF.out, ?_⟩
              simp only [intOf]
              omega
            · have hk4z : ¬ (k : Int) + 4 ≤ (s.size : Int) := by omega
              clear e4
              have HQ := Lib.hid hq
              clear hq x4 x2 htp hll hl
              obtain ⟨v', w2, hr, hown2, hg2, _, hblk⟩ := run_append_own_at (P := Tryd.prog) (wr.alloc (.cells #[.string (s.extract k (k + 1))] 9)) w.heap.size 47 47 9 i0 (.string ⟨#[]⟩) 1 16 Tryd.underlying47 hi hz0 hz1 hz2 rfl (by decide) u3 pre.length (tokV pre) (HOWN.out.kept (gr_alloc wr (.cells #[.string (s.extract k (k + 1))] 9) none) (by cases Value.ownBlock u3 <;> simp)) ⟨wr.heap.size, 0, none⟩ 1 1 [.string (s.extract k (k + 1))] rfl (cell_one_new wr (.string (s.extract k (k + 1))) 9) (by simp [Value.oneCell']) (by unfold maxLen; omega) (by omega) (by simp; omega)
              have hg3 : w.grownBy w2 none := by
                refine gr_own (gr_then hg (gr_alloc wr (.cells #[.string (s.extract k (k + 1))] 9) none)) hg2 (fun g e => ?_)
                exact hob g e
              have hf := HFIN.out v' w2 (by rw [HQ.out]; exact hown2) hg3
              rw [HQ.out] at hf
              have HF := Lib.hid hf
              clear hf hown2 hg2 hg3 hblk
              go_wp2_with (at_builtin; refine wpList_call_append rfl (.tmp 44) (.tmp 51) 47 rfl _ _ rfl rfl _ _ hr ?_)
              refine ⟨HF.out, ?_⟩
              simp only [intOf]
              omega
          · have hk2z : ¬ (k : Int) + 2 ≤ (s.size : Int) := by omega
            have hk4z : ¬ (k : Int) + 4 ≤ (s.size : Int) := by omega
            clear e4
            have HQ := Lib.hid hq
            clear hq x4 x2 htp hll hl
            obtain ⟨v', w2, hr, hown2, hg2, _, hblk⟩ := run_append_own_at (P := Tryd.prog) (wr.alloc (.cells #[.string (s.extract k (k + 1))] 9)) w.heap.size 47 47 9 i0 (.string ⟨#[]⟩) 1 16 Tryd.underlying47 hi hz0 hz1 hz2 rfl (by decide) u3 pre.length (tokV pre) (HOWN.out.kept (gr_alloc wr (.cells #[.string (s.extract k (k + 1))] 9) none) (by cases Value.ownBlock u3 <;> simp)) ⟨wr.heap.size, 0, none⟩ 1 1 [.string (s.extract k (k + 1))] rfl (cell_one_new wr (.string (s.extract k (k + 1))) 9) (by simp [Value.oneCell']) (by unfold maxLen; omega) (by omega) (by simp; omega)
            have hg3 : w.grownBy w2 none := by
              refine gr_own (gr_then hg (gr_alloc wr (.cells #[.string (s.extract k (k + 1))] 9) none)) hg2 (fun g e => ?_)
              exact hob g e
            have hf := HFIN.out v' w2 (by rw [HQ.out]; exact hown2) hg3
            rw [HQ.out] at hf
            have HF := Lib.hid hf
            clear hf hown2 hg2 hg3 hblk
            go_wp2_with (at_builtin; refine wpList_call_append rfl (.tmp 44) (.tmp 51) 47 rfl _ _ rfl rfl _ _ hr ?_)
            refine ⟨HF.out, ?_⟩
            simp only [intOf]
            omega
    · have hke : k = s.size := by omega
      have hkz : ¬ (k : Int) < (s.size : Int) := by omega
      have HP := Lib.hid (show toks s.data.toList = pre from by
        rw [HT.out, List.drop_eq_nil_of_le (by rw [len_toList]; omega), toks_nil, List.append_nil])
      clear hke hlt
      go_wp2
      go_ret
      refine ⟨⟨u3, rfl, ?_⟩, hg⟩
      rw [HP.out]
      exact hown
end Go.Proofs.YtchbefaflhimcaaDoor
namespace Go.Proofs.YtchbefaflhimcaaDoor
open Go.RowKit Mth

/-- One part of the reference's walk: whether M or D came last. -/
def rA (o : Option Bool) (t : Tok) : Option Bool :=
  match o with
  | none => none
  | some a => match t with
    | .ch c => if c.toNat ≠ 89 then some false else none
    | .y4 => if a then none else some false
    | .m2 => if a then none else some false
    | .m1 => if a then none else some true
    | .d2 => if a then none else some false
    | .d1 => if a then none else some true
theorem rA_none (ts : List Tok) : ts.foldl rA none = none := by
  induction ts with
  | nil => rfl
  | cons t ts ih => exact ih
theorem refGood_st (a : Bool) (ts : List Tok) : refGood a ts = (ts.foldl rA (some a)).isSome := by
  induction ts generalizing a with
  | nil => rfl
  | cons t ts ih =>
    rw [List.foldl_cons]
    cases t
    case ch c =>
      simp only [refGood, rA]
      by_cases hc : c.toNat = 89
      · simp [hc, rA_none]
      · simp [hc, ih]
    all_goals
      simp only [refGood, rA]
      cases a
      · simp [ih]
      · simp [rA_none]
theorem refGood_take {ts : List Tok} {i : Nat} (h : (ts.take i).foldl rA (some false) = none) : refGood false ts = false := by
  rw [refGood_st, ← List.take_append_drop i ts, List.foldl_append, h, rA_none]
  rfl

/-- The counters of Right. -/
abbrev CN (W : World) (b cy cm cd : Nat) : Prop := W.heap[b]? = some (.cells #[.int .i64 (cy : Nat), .int .i64 (cm : Nat), .int .i64 (cd : Nat)] 22 (0, 0))
theorem CN.cell {W : World} {b cy cm cd : Nat} (h : CN W b cy cm cd) : W.cell? ⟨b, 0, none⟩ = some (.int .i64 (cy : Nat)) ∧ W.cell? ⟨b, 1, none⟩ = some (.int .i64 (cm : Nat)) ∧ W.cell? ⟨b, 2, none⟩ = some (.int .i64 (cd : Nat)) :=
  ⟨by rw [cell_of_row _ _ _ _ _ _ h]; rfl, by rw [cell_of_row _ _ _ _ _ _ h]; rfl, by rw [cell_of_row _ _ _ _ _ _ h]; rfl⟩
theorem CN.froz {W : World} {b cy cm cd : Nat} (h : CN W b cy cm cd) (i : Nat) : W.frozen? ⟨b, i, none⟩ = false := by
  simp only [World.frozen?]
  rw [show W.heap[b]? = _ from h]
  simp
theorem CN.set {W : World} {b cy cm cd cy' cm' cd' : Nat} (h : CN W b cy cm cd) (i : Nat) (v : Value) (hc : (#[.int .i64 (cy : Nat), .int .i64 (cm : Nat), .int .i64 (cd : Nat)] : Array Value).setIfInBounds i v = #[.int .i64 (cy' : Nat), .int .i64 (cm' : Nat), .int .i64 (cd' : Nat)]) : CN (W.setCell ⟨b, i, none⟩ v) b cy' cm' cd' := by
  unfold CN at h ⊢
  rw [setCell_eq_setRow W b i _ 22 (0, 0) _ h, setRow_heap W b _ _ 22 (0, 0) h, hc]

theorem toks_real (l : List UInt8) : ∀ t ∈ toks l, Tok_real t = true := by
  induction hx : l.length using Nat.strongRecOn generalizing l with
  | _ x ih =>
    by_cases h : l = []
    · subst h; rw [toks_nil]; simp
    · rw [toks_cons h]
      have h1 := (tokOf l).txt_pos
      have h2 := List.length_pos_iff.2 h
      intro t ht
      rcases List.mem_cons.1 ht with rfl | ht
      · exact tokOf_real h
      · exact ih (l.drop (tokOf l).txt.length).length (by rw [List.length_drop]; omega) _ rfl t ht
theorem ch_y {b : UInt8} : ((Tok.ch b).txt == [89]) = decide (b.toNat = 89) := by
  rw [Bool.eq_iff_iff, beq_iff_eq, decide_eq_true_eq]
  constructor
  · intro h
    have : b = 89 := by simpa [Tok.txt] using h
    rw [this]; rfl
  · intro h
    have : b = 89 := UInt8.toNat_inj.1 (by rw [h]; rfl)
    rw [this]; rfl
theorem gr_alloc0 (w : World) (row : Option Nat) : w.grownBy w row := ⟨rfl, rfl, rfl, Nat.le_refl _, fun _ _ _ => rfl⟩
/-- The bytes of a layout are those that there may be. -/
theorem okB_false {s : ByteArray} {i : Nat} (hi : i < s.size) (h : okB s[i] = false) : s.data.toList.all okB = false := by
  rw [Bool.eq_false_iff]
  intro ha
  rw [List.all_eq_true] at ha
  have hm : s[i] ∈ s.data.toList := by
    have : s[i] = s.data.toList[i]'(by simpa using hi) := rfl
    rw [this]; exact List.getElem_mem _
  rw [ha _ hm] at h
  cases h
theorem okB_true {s : ByteArray} (h : ∀ j (h : j < s.size), j < s.size → okB s[j] = true) : s.data.toList.all okB = true := by
  rw [List.all_eq_true]
  intro x hx
  obtain ⟨j, hj, rfl⟩ := List.getElem_of_mem hx
  have hj' : j < s.size := by simpa using hj
  exact h j hj' hj'

set_option maxRecDepth 100000 in
set_option maxHeartbeats 4000000 in
theorem rright_l (s : ByteArray) (w : World) :
    Calls Tryd.prog 48 #[.string s] w fun e w' => e = .returned (.bool (isRightL s.data.toList)) ∧ w.grownBy w' none := by
  by_cases h40 : s.size ≤ 40
  · go_enter Tryd.func48, Tryd.ntmps48
    go_wp2
    go_loopw [3] (fun v wr => ∃ i : Nat, i ≤ s.size ∧ v = .int .i64 i ∧ w = wr ∧ Hid (∀ j (h : j < s.size), j < i → okB s[j] = true)) (fun v _ => s.size - (RowKit.intOf v).toNat)
    case atStart => exact ⟨0, by omega, rfl, rfl, fun j h1 h2 => by omega⟩
    case round =>
      obtain ⟨i, hi, rfl, rfl, HA⟩ := hrel
      by_cases hlt : i < s.size
      · have hbi : okB s[i] = (decide (32 ≤ s[i].toNat) && decide (s[i].toNat ≤ 126) && !(decide (48 ≤ s[i].toNat) && decide (s[i].toNat ≤ 57))) := rfl
        have hno : okB s[i] = false → isRightL s.data.toList = false := fun h => by
          rw [right_ref, okB_false hlt h]; simp
        have HNO := Lib.hid (And.intro hbi hno)
        clear hbi hno
        go_wp2
        all_goals first
          | (go_ret
             refine ⟨?_, World.grownBy.refl _ _⟩
             rw [HNO.out.2 (by
               rw [HNO.out.1, Bool.eq_false_iff]
               intro h
               simp only [Bool.and_eq_true, Bool.not_eq_true', Bool.and_eq_false_iff, decide_eq_true_eq, decide_eq_false_iff_not] at h
               omega)]
             rfl)
          | (refine ⟨⟨i + 1, by omega, by congr 1, by trivial, fun j h1 h2 => ?_⟩, by simp only [intOf]; omega⟩
             by_cases e : j = i
             · subst e
               rw [HNO.out.1]
               simp only [Bool.and_eq_true, Bool.not_eq_true', Bool.and_eq_false_iff, decide_eq_true_eq, decide_eq_false_iff_not]
               omega
             · exact HA.out j h1 (by omega))
      · have hall : s.data.toList.all okB = true := okB_true (fun j h1 h2 => HA.out j h1 (by omega))
        have hR : isRightL s.data.toList = (refGood false (toks s.data.toList) && decide ((toks s.data.toList).countP Tok.isY = 1) && decide ((toks s.data.toList).countP Tok.isM = 1) && decide ((toks s.data.toList).countP Tok.isD = 1)) := by
          rw [right_ref, hall, decide_eq_true (show s.data.toList.length ≤ 40 from h40)]
          simp
        have HR := Lib.hid hR
        have hreal := toks_real s.data.toList
        have HREAL := Lib.hid hreal
        clear hall hR hreal HA
        go_wp2_with fail
        refine (rparts_any s w h40).mono ?_
        rintro e w1 ⟨⟨v, rfl, hown⟩, hg1⟩
        have hlen40 : (toks s.data.toList).length ≤ 40 := by have := toks_length s.data.toList; rw [len_toList] at this; omega
        generalize toks s.data.toList = ts at *
        obtain ⟨n, hn⟩ : ∃ n, n = ts.length := ⟨_, rfl⟩
        rcases Nat.eq_zero_or_pos n with hn0 | hn0
        · have hts : ts = [] := List.length_eq_zero_iff.1 (by omega)
          subst hts
          have hf : isRightL s.data.toList = false := by rw [HR.out]; rfl
          have HF := Lib.hid hf
          have hv : ∃ a c, v = .slice a 0 c := by
            rcases hown.2 with ⟨rfl, _⟩ | ⟨g, cap, cur, rfl, _⟩
            · exact ⟨_, _, rfl⟩
            · exact ⟨_, _, rfl⟩
          obtain ⟨a, c, rfl⟩ := hv
          clear hown hf HR
          go_wp2
          go_loopw [7] (fun u wr => u = .int .i64 0 ∧ wr = w1.alloc (.cells #[.int .i64 0, .int .i64 0, .int .i64 0] 22)) (fun _ _ => 0)
          case atStart => exact ⟨rfl, rfl⟩
          case round =>
            obtain ⟨rfl, rfl⟩ := hrel
            go_wp2
            go_ret
            rw [HF.out]
            exact ⟨rfl, gr_then hg1 (gr_alloc _ _ _)⟩
        · obtain ⟨g, cap, cur, rfl, hgb, hcap1, hcap2, hgc, hcell⟩ : ∃ g cap cur, v = .slice (some ⟨g, 0, none⟩) n cap ∧ w.heap.size ≤ g ∧ n ≤ cap ∧ cap ≤ maxLen ∧ w1.heap[g]? = some (.cells cur 9 (0, 0)) ∧ ∀ k (hk : k < ts.length), w1.cell? ⟨g, k, none⟩ = some (.string ⟨ts[k].txt.toArray⟩) := by
            rcases hown.2 with ⟨_, h0⟩ | ⟨g, cap, cur, rfl, hb, hgh, h1, h2, h3, h4⟩
            · omega
            · refine ⟨g, cap, cur, by rw [hn], hb, by omega, h2, hgh, fun k hk => ?_⟩
              rw [cell_of_row _ _ _ _ _ _ hgh]
              have e : (cur.toList.take (ts.length * 1))[k]? = (tokV ts)[k]? := by rw [h4]
              rw [List.getElem?_take] at e
              rw [if_pos (by omega)] at e
              simp only [tokV, List.getElem?_map, List.getElem?_eq_getElem hk, Option.map_some] at e
              simpa using e
          have hcap2 : cap ≤ 9223372036854775807 := hcap2
          have hglt : g < w1.heap.size := (Array.getElem?_eq_some_iff.1 hgc).1
          have hBw : w.heap.size ≤ w1.heap.size := hg1.size
          have hbox : CN (w1.alloc (.cells #[.int .i64 0, .int .i64 0, .int .i64 0] 22)) w1.heap.size 0 0 0 := heap_alloc_new w1 _
          have hgc0 := own_block hgc (gr_alloc w1 (.cells #[.int .i64 0, .int .i64 0, .int .i64 0] 22) none) no_row
          have hcell0 : ∀ k (hk : k < ts.length), (w1.alloc (.cells #[.int .i64 0, .int .i64 0, .int .i64 0] 22)).cell? ⟨g, k, none⟩ = some (.string ⟨ts[k].txt.toArray⟩) := fun k hk => (gr_alloc _ _ none).cell (hcell k hk) (by simp)
          have hgr0 := gr_then hg1 (gr_alloc w1 (.cells #[.int .i64 0, .int .i64 0, .int .i64 0] 22) none)
          obtain ⟨W0, hW0⟩ : ∃ W0 : World, W0 = w1.alloc (.cells #[.int .i64 0, .int .i64 0, .int .i64 0] 22) := ⟨_, rfl⟩
          rw [← hW0] at hbox hgc0 hcell0 hgr0
          generalize hBB : w1.heap.size = B at *
          have HC0 := Lib.hid hcell0
          have hn40 : n ≤ 40 := by omega
          go_wp2
          rw [← hW0]
          have hgB : g ≠ B := by omega
          clear hown hgc hcell hgc0 hcell0 hW0 hBB hgb
          go_loopw [6, 7] (fun o u wr => ∃ (k : Nat) (a : Bool) (cy cm cd : Nat), k ≤ n ∧ o = .bool a ∧ u = .int .i64 (k : Int) ∧ Hid (CN wr B cy cm cd) ∧ cy ≤ k ∧ cm ≤ k ∧ cd ≤ k ∧ Hid (cy = (ts.take k).countP Tok.isY ∧ cm = (ts.take k).countP Tok.isM ∧ cd = (ts.take k).countP Tok.isD ∧ (ts.take k).foldl rA (some false) = some a) ∧ Hid (∀ j (hj : j < ts.length), wr.cell? ⟨g, j, none⟩ = some (.string ⟨ts[j].txt.toArray⟩)) ∧ w.grownBy wr none) (fun _ u _ => n - (intOf u).toNat)
          case atStart => exact ⟨0, false, 0, 0, 0, by omega, rfl, rfl, Lib.hid hbox, by omega, by omega, by omega, Lib.hid ⟨by simp, by simp, by simp, by simp⟩, HC0, hgr0⟩
          case round =>
            obtain ⟨k, a, cy, cm, cd, hk, rfl, rfl, HCN, hcy, hcm, hcd, HS, HC, hgr⟩ := hrel
            obtain ⟨c0, c1, c2⟩ := HCN.out.cell
            have f0 := HCN.out.froz 0
            have f1 := HCN.out.froz 1
            have f2 := HCN.out.froz 2
            by_cases hlt : k < n
            · have hkl : k < ts.length := by omega
              obtain ⟨x, hx⟩ : ∃ x, x = ts[k] := ⟨_, rfl⟩
              have hck := HC.out k hkl
              rw [← hx] at hck
              have hxr : Tok_real x = true := by rw [hx]; exact HREAL.out _ (List.getElem_mem _)
              have htk : ts.take (k + 1) = ts.take k ++ [x] := by rw [List.take_add_one, List.getElem?_eq_getElem hkl, hx]; rfl
              have hI : ∀ (a' : Bool) (cy' cm' cd' : Nat) (W' : World) (o' : Value), CN W' B cy' cm' cd' → o' = .bool a' → cy' = cy + (if x.isY then 1 else 0) → cm' = cm + (if x.isM then 1 else 0) → cd' = cd + (if x.isD then 1 else 0) → rA (some a) x = some a' → wr.grownBy W' (some B) → ∃ (k' : Nat) (a : Bool) (cy cm cd : Nat), k' ≤ n ∧ o' = .bool a ∧ Value.int .i64 ((k : Int) + 1) = .int .i64 (k' : Int) ∧ Hid (CN W' B cy cm cd) ∧ cy ≤ k' ∧ cm ≤ k' ∧ cd ≤ k' ∧ Hid (cy = (ts.take k').countP Tok.isY ∧ cm = (ts.take k').countP Tok.isM ∧ cd = (ts.take k').countP Tok.isD ∧ (ts.take k').foldl rA (some false) = some a) ∧ Hid (∀ j (hj : j < ts.length), W'.cell? ⟨g, j, none⟩ = some (.string ⟨ts[j].txt.toArray⟩)) ∧ w.grownBy W' none := by
                intro a' cy' cm' cd' W' o' h1 h2 h3 h4 h5 h6 h7
                refine ⟨k + 1, a', cy', cm', cd', by omega, h2, by simp, Lib.hid h1, by rw [h3]; split <;> omega, by rw [h4]; split <;> omega, by rw [h5]; split <;> omega, Lib.hid ⟨?_, ?_, ?_, ?_⟩, Lib.hid (fun j hj => h7.cell (HC.out j hj) (by simp; omega)), gr_own hgr h7 (fun z e => by cases e; exact hBw)⟩
                · rw [h3, HS.out.1, htk, List.countP_append]; simp [List.countP_cons]
                · rw [h4, HS.out.2.1, htk, List.countP_append]; simp [List.countP_cons]
                · rw [h5, HS.out.2.2.1, htk, List.countP_append]; simp [List.countP_cons]
                · rw [htk, List.foldl_append, HS.out.2.2.2]; exact h6
              have hX : rA (some a) x = none → isRightL s.data.toList = false := fun h => by
                rw [HR.out, refGood_take (i := k + 1) (by rw [htk, List.foldl_append, HS.out.2.2.2]; exact h)]
                rfl
              have HI := Lib.hid hI
              have HX := Lib.hid hX
              have HBW := Lib.hid hBw
              have hkz : (k : Int) < (n : Int) := by omega
              have hnz : (n : Int) ≤ (cap : Int) := by omega
              clear hx htk hI hX hBw hbox hgr0 hkl
              cases x
              case y4 =>
                cases a
                · have hcn2 : CN (wr.setCell ⟨B, 0, none⟩ (.int .i64 ((cy : Int) + 1))) B (cy + 1) cm cd := HCN.out.set 0 _ (by rw [show ((cy : Int) + 1) = ((cy + 1 : Nat) : Int) from by omega]; rfl)
                  have hg3 : (wr.setCell ⟨B, 0, none⟩ (.int .i64 ((cy : Int) + 1))).cell? ⟨g, k, none⟩ = some (.string ⟨Tok.y4.txt.toArray⟩) := (gr_set _ _ _ _).cell hck (by simp; omega)
                  go_wp2
                  refine ⟨HI.out false _ _ _ _ _ hcn2 (by first | rfl | decide) rfl rfl rfl rfl (gr_set _ _ _ _), ?_⟩
                  simp only [intOf]
                  omega
                · go_wp2
                  go_ret
                  rw [HX.out rfl]
                  exact ⟨rfl, gr_own hgr (gr_set _ _ _ _) (fun z e => by cases e; exact HBW.out)⟩
              case m2 =>
                cases a
                · have hcn2 : CN (wr.setCell ⟨B, 1, none⟩ (.int .i64 ((cm : Int) + 1))) B cy (cm + 1) cd := HCN.out.set 1 _ (by rw [show ((cm : Int) + 1) = ((cm + 1 : Nat) : Int) from by omega]; rfl)
                  have hg3 : (wr.setCell ⟨B, 1, none⟩ (.int .i64 ((cm : Int) + 1))).cell? ⟨g, k, none⟩ = some (.string ⟨Tok.m2.txt.toArray⟩) := (gr_set _ _ _ _).cell hck (by simp; omega)
                  go_wp2
                  refine ⟨HI.out false _ _ _ _ _ hcn2 (by first | rfl | decide) rfl rfl rfl rfl (gr_set _ _ _ _), ?_⟩
                  simp only [intOf]
                  omega
                · go_wp2
                  go_ret
                  rw [HX.out rfl]
                  exact ⟨rfl, gr_own hgr (gr_set _ _ _ _) (fun z e => by cases e; exact HBW.out)⟩
              case m1 =>
                cases a
                · have hcn2 : CN (wr.setCell ⟨B, 1, none⟩ (.int .i64 ((cm : Int) + 1))) B cy (cm + 1) cd := HCN.out.set 1 _ (by rw [show ((cm : Int) + 1) = ((cm + 1 : Nat) : Int) from by omega]; rfl)
                  have hg3 : (wr.setCell ⟨B, 1, none⟩ (.int .i64 ((cm : Int) + 1))).cell? ⟨g, k, none⟩ = some (.string ⟨Tok.m1.txt.toArray⟩) := (gr_set _ _ _ _).cell hck (by simp; omega)
                  go_wp2
                  refine ⟨HI.out true _ _ _ _ _ hcn2 (by first | rfl | decide) rfl rfl rfl rfl (gr_set _ _ _ _), ?_⟩
                  simp only [intOf]
                  omega
                · go_wp2
                  go_ret
                  rw [HX.out rfl]
                  exact ⟨rfl, gr_own hgr (gr_set _ _ _ _) (fun z e => by cases e; exact HBW.out)⟩
              case d2 =>
                cases a
                · have hcn2 : CN (wr.setCell ⟨B, 2, none⟩ (.int .i64 ((cd : Int) + 1))) B cy cm (cd + 1) := HCN.out.set 2 _ (by rw [show ((cd : Int) + 1) = ((cd + 1 : Nat) : Int) from by omega]; rfl)
                  have hg3 : (wr.setCell ⟨B, 2, none⟩ (.int .i64 ((cd : Int) + 1))).cell? ⟨g, k, none⟩ = some (.string ⟨Tok.d2.txt.toArray⟩) := (gr_set _ _ _ _).cell hck (by simp; omega)
                  go_wp2
                  refine ⟨HI.out false _ _ _ _ _ hcn2 (by first | rfl | decide) rfl rfl rfl rfl (gr_set _ _ _ _), ?_⟩
                  simp only [intOf]
                  omega
                · go_wp2
                  go_ret
                  rw [HX.out rfl]
                  exact ⟨rfl, gr_own hgr (gr_set _ _ _ _) (fun z e => by cases e; exact HBW.out)⟩
              case d1 =>
                cases a
                · have hcn2 : CN (wr.setCell ⟨B, 2, none⟩ (.int .i64 ((cd : Int) + 1))) B cy cm (cd + 1) := HCN.out.set 2 _ (by rw [show ((cd : Int) + 1) = ((cd + 1 : Nat) : Int) from by omega]; rfl)
                  have hg3 : (wr.setCell ⟨B, 2, none⟩ (.int .i64 ((cd : Int) + 1))).cell? ⟨g, k, none⟩ = some (.string ⟨Tok.d1.txt.toArray⟩) := (gr_set _ _ _ _).cell hck (by simp; omega)
                  go_wp2
                  refine ⟨HI.out true _ _ _ _ _ hcn2 (by first | rfl | decide) rfl rfl rfl rfl (gr_set _ _ _ _), ?_⟩
                  simp only [intOf]
                  omega
                · go_wp2
                  go_ret
                  rw [HX.out rfl]
                  exact ⟨rfl, gr_own hgr (gr_set _ _ _ _) (fun z e => by cases e; exact HBW.out)⟩
              case ch c =>
                obtain ⟨f3, f4, f5, f6, f7⟩ := ch_tests hxr
                have f8 := ch_y (b := c)
                by_cases hc : c.toNat = 89
                · have f9 : ((Tok.ch c).txt == [89]) = true := by rw [f8, decide_eq_true hc]
                  clear f8
                  go_wp2
                  go_ret
                  rw [HX.out (by simp [rA, hc])]
                  exact ⟨rfl, hgr⟩
                · have f9 : ((Tok.ch c).txt == [89]) = false := by rw [f8, decide_eq_false hc]
                  clear f8
                  cases a
                  all_goals
                    go_wp2
                    refine ⟨HI.out false cy cm cd _ _ HCN.out rfl rfl rfl rfl (by simp [rA, hc]) (gr_alloc0 _ _), ?_⟩
                    simp only [intOf]
                    omega
            · have hkn : k = n := by omega
              have hkz : ¬ (k : Int) < (n : Int) := by omega
              have hfin : isRightL s.data.toList = (((cy : Int) == 1) && ((cm : Int) == 1) && ((cd : Int) == 1)) := by
                have e : ∀ n : Nat, decide (n = 1) = ((n : Int) == 1) := by intro n; rw [Bool.eq_iff_iff, decide_eq_true_eq, beq_iff_eq]; omega
                have hall : ts.take k = ts := by rw [List.take_of_length_le]; omega
                have h := HS.out
                rw [hall] at h
                rw [HR.out, refGood_st, h.2.2.2, ← h.1, ← h.2.1, ← h.2.2.1, e, e, e]
                rfl
              have HF := Lib.hid hfin
              clear hkn hlt hfin hbox hgr0
              go_wp2
              all_goals
                go_ret
                refine ⟨?_, hgr⟩
                rw [HF.out]
                simp_all
  · have hr : isRightL s.data.toList = false := by
      unfold isRightL
      rw [decide_eq_false (show ¬ s.data.toList.length ≤ 40 from h40)]
      simp
    rw [hr]
    go_enter Tryd.func48, Tryd.ntmps48
    go_wp2
    go_ret
    exact ⟨rfl, World.grownBy.refl _ _⟩
end Go.Proofs.YtchbefaflhimcaaDoor
