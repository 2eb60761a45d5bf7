/- The law of the claim at the level of the call, and its row: Undo, UndoRow. -/
import Derived.Test.YtchbefaflhimcaaDoorBForm8
namespace Go.Proofs.YtchbefaflhimcaaDoor
open Go.RowKit Mth

theorem right_all : ∀ a, a < 2 → ∀ b, b < 2 → ∀ k, k < 6 → ∀ c, c < 8 → rightE (layT a b k (sepW c)).data.toList = true := by decide +kernel
theorem lay_right {a b k c : Nat} (ha : a < 2) (hb : b < 2) (hk : k < 6) (hc : c < 8) : isRightL (layT a b k (sepW c)).data.toList = true := by
  rw [← rightE_eq]; exact right_all a ha b hb k hk c hc
/-- What DateUndo asks of a right layout. -/
theorem undo_facts {l : List UInt8} (h : isRightL l = true) {m n : Nat} (hm : m ≤ 3652058) (hn : n ≤ 3652058) :
    (formD l m).2 = true ∧ (formD l n).2 = true ∧ readL l (formD l m).1 = (m, true) ∧ ((formD l m).1 = (formD l n).1 ↔ m = n) := by
  have im : isN (m : Int) = true := by unfold isN; rw [decide_eq_true_eq]; omega
  have iN : isN (n : Int) = true := by unfold isN; rw [decide_eq_true_eq]; omega
  have hF := full_of h
  have cm := civ_spec (n := m) hm
  have cn := civ_spec (n := n) hn
  have em : formD l m = (fmt (civ m) (toks l), true) := by unfold formD; rw [im, h]; rfl
  have en : formD l n = (fmt (civ n) (toks l), true) := by unfold formD; rw [iN, h]; rfl
  rw [em, en]
  refine ⟨rfl, rfl, ?_, ?_⟩
  · unfold readL; rw [h, if_pos rfl, readD_fmt hF cm.ok]
    rw [show numC (civ m) = m from cm.num]
  · constructor
    · intro he
      have hc := hF.inj cm.ok cn.ok he
      have h1 : numC (civ m) = m := cm.num
      have h2 : numC (civ n) = n := cn.num
      rw [← h1, hc, h2]
    · rintro rfl; rfl
theorem formD_len (l : List UInt8) (n : Int) : (formD l n).1.length ≤ 160 := by
  unfold formD
  split
  · rename_i h
    rw [Bool.and_eq_true] at h
    have hn : n.toNat ≤ 3652058 := by have h1 := h.1; unfold isN at h1; rw [decide_eq_true_eq] at h1; omega
    have h1 := fmt_le (civ_small hn) (toks l)
    have h2 := (right_toks h.2).2
    dsimp only
    omega
  · simp
theorem iso_right : isRightL layI.data.toList = true := by rw [← rightE_eq]; decide +kernel
theorem iso_form {n : Nat} (hn : n ≤ 3652058) : formD layI.data.toList n = (textD n, true) := by
  have iN : isN (n : Int) = true := by unfold isN; rw [decide_eq_true_eq]; omega
  unfold textD formD
  rw [iN, iso_right]; rfl
theorem ba_ne {S T : ByteArray} (h : ¬ S.data.toList = T.data.toList) : (S.toList == T.toList) = false := by
  rw [beq_eq_false_iff_ne, ByteArray.toList_eq, ByteArray.toList_eq]; exact h
set_option maxHeartbeats 8000000 in
set_option maxRecDepth 100000 in
theorem undo_true (a b : Nat) (q0 q1 q2 : Int) (w : World) (hd : DV w) (ha : a ≤ 4294967295) (hb : b ≤ 4294967295) (h0 : -9223372036854775808 ≤ q0 ∧ q0 ≤ 9223372036854775807) (h1 : -9223372036854775808 ≤ q1 ∧ q1 ≤ 9223372036854775807) (h2 : -9223372036854775808 ≤ q2 ∧ q2 ≤ 9223372036854775807) :
    Calls Tryd.prog 12 #[.int .u32 (a : Int), .int .u32 (b : Int), .agg #[.int .i64 q0, .int .i64 q1, .int .i64 q2]] w fun e w' => e = .returned (.bool true) ∧ w.grownBy w' none := by
  have hwild := fun w => lay_any q0 q1 q2 false w h0 h1 h2
  have HL := Lib.hid hwild
  have HD := Lib.hid hd
  clear hwild hd
  obtain ⟨m, hm⟩ : ∃ m, m = a % 3652059 := ⟨_, rfl⟩
  obtain ⟨n, hn⟩ : ∃ n, n = b % 3652059 := ⟨_, rfl⟩
  have km : (a : Int) % 3652059 = (m : Int) := by omega
  have kn : (b : Int) % 3652059 = (n : Int) := by omega
  have m1 : m ≤ 3652058 := by omega
  have n1 : n ≤ 3652058 := by omega
  clear hm hn
  go_enter Tryd.func12, Tryd.ntmps12
  go_wp2_with fail
  have RQ : Row (w.alloc (.cells #[.int .i64 q0, .int .i64 q1, .int .i64 q2] 22)) w.heap.size [.int .i64 q0, .int .i64 q1, .int .i64 q2] 22 := Row.new_at rfl
  have g0 := gr_alloc w (.cells #[.int .i64 q0, .int .i64 q1, .int .i64 q2] 22) none
  refine (sanity_any _ (HD.out.grown g0)).mono ?_
  rintro _ w1 ⟨rfl, g1⟩
  have RQ := RQ.kept g1
  have G := gr_then g0 g1
  have c0 := RQ.cell 0 _ rfl
  have c1 := RQ.cell 1 _ rfl
  have c2 := RQ.cell 2 _ rfl
  clear g0 g1
  go_wp2_with fail
  refine (HL.out _).mono ?_
  rintro _ w2 ⟨l, rfl, hl, hr, g2⟩
  have G := gr_then G g2
  have hR : isRightL l.data.toList = true := by
    obtain ⟨a', b', k', c', x1, x2, x3, x4, rfl⟩ := hr rfl
    exact lay_right x1 x2 x3 x4
  clear hr g2 c0 c1 c2 RQ
  obtain ⟨f1, f2, f3, f4⟩ := undo_facts hR m1 n1
  have l1 := formD_len l.data.toList m
  have hF1 := fun w hd => format_any l m w (by omega) hd
  have hF2 := fun w hd => format_any l n w (by omega) hd
  generalize formD l.data.toList (m : Int) = z1 at f1 f3 f4 hF1 l1
  generalize formD l.data.toList (n : Int) = z2 at f2 f4 hF2
  obtain ⟨s1, b1⟩ := z1
  obtain ⟨s2, b2⟩ := z2
  dsimp only at f1 f2 f3 f4 hF1 hF2 l1
  subst f1 f2
  obtain ⟨S1, hS1⟩ : ∃ S : ByteArray, S = ⟨s1.toArray⟩ := ⟨_, rfl⟩
  obtain ⟨S2, hS2⟩ : ∃ S : ByteArray, S = ⟨s2.toArray⟩ := ⟨_, rfl⟩
  have t1 : S1.data.toList = s1 := by rw [hS1]
  have t2 : S2.data.toList = s2 := by rw [hS2]
  have hz : S1.size ≤ 9223372036854775807 := by have h : S1.data.toList.length = S1.size := rfl; rw [t1] at h; omega
  rw [← hS1] at hF1
  rw [← hS2] at hF2
  rw [← t1] at f3
  have hRd := fun w hd => read_any l S1 w (by omega) hz hd
  rw [f3] at hRd
  dsimp only at hRd
  rw [← t1, ← t2] at f4
  have hI := fun w hd => format_any layI m w (by decide) hd
  rw [iso_form m1] at hI
  have hT := fun w hd => text_any m w hd
  generalize textD (m : Int) = tx at hI hT
  have F1 := Lib.hid hF1
  have F2 := Lib.hid hF2
  have RD := Lib.hid hRd
  have HI := Lib.hid hI
  have HT := Lib.hid hT
  have F4 := Lib.hid f4
  clear hF1 hF2 hRd hI hT f4 f3 hS1 hS2 t1 t2 hR l1 hz
  go_wp2_with fail
  refine (F1.out _ (HD.out.grown G)).mono ?_
  rintro _ w3 ⟨rfl, g3⟩
  have G := gr_then G g3
  clear g3
  go_wp2_with fail
  refine (F2.out _ (HD.out.grown G)).mono ?_
  rintro _ w4 ⟨rfl, g4⟩
  have G := gr_then G g4
  clear g4
  go_wp2_with fail
  refine (RD.out _ (HD.out.grown G)).mono ?_
  rintro _ w5 ⟨rfl, g5⟩
  have G := gr_then G g5
  clear g5
  go_wp2_with fail
  refine (HI.out _ (HD.out.grown G)).mono ?_
  rintro _ w6 ⟨rfl, g6⟩
  have G := gr_then G g6
  clear g6
  have hcase : (m = n ∧ S1 = S2) ∨ ((S1.toList == S2.toList) = false ∧ ((m : Int) == (n : Int)) = false) := by
    by_cases h : m = n
    · refine .inl ⟨h, ?_⟩
      have e := F4.out.2 h
      cases S1; cases S2
      congr 1
      exact Array.toList_inj.1 e
    · exact .inr ⟨ba_ne (fun e => h (F4.out.1 e)), by rw [beq_eq_false_iff_ne]; omega⟩
  clear F4
  rcases hcase with ⟨rfl, rfl⟩ | ⟨e1, e2⟩
  all_goals
    go_wp2_with fail
    refine (HT.out _ (HD.out.grown G)).mono ?_
    rintro _ w7 ⟨rfl, g7⟩
    have G := gr_then G g7
    clear g7
    go_wp2
    go_ret
    exact ⟨by simp, G⟩
end Go.Proofs.YtchbefaflhimcaaDoor
namespace Go.Proofs.YtchbefaflhimcaaDoor
open Go.ChangeShapes Go.WideShapes Go.ChangeAt Go.RowKit Mth

set_option maxRecDepth 1000000 in
set_option maxHeartbeats 4000000 in
theorem undo_lifted (os : Os) (started : os.Started) (H : Type) (enc : TypeId × Value → H) :
    ReturnsInHanded {} Tryd.checked os 12 .any (fun w args => (Rows.dateUndoSpec.pre enc Tryd.prog Tryd.f12 Rows.dateUndoRow.domain false w args ∧ laidMet Tryd.prog Rows.dateUndoRow.laid w) ∧ sizedMet enc Tryd.prog Tryd.f12 (OpenSpec.ofChange Rows.dateUndoSpec) false w args)
      (Rows.dateUndoSpec.post enc Tryd.prog Tryd.f12 false true false false) := by
  refine returnsInHanded_of_change_and (C := Tryd.checked) (X := fun w _ => laidMet Tryd.prog Rows.dateUndoRow.laid w) (fun _ _ _ hh h => h.of_heap hh) own0 started (by kernel_rfl) Tryd.func12
    (ChangeSpec.witness_at (enc := enc) (C := Tryd.checked) (os := os) (X := fun w _ => laidMet Tryd.prog Rows.dateUndoRow.laid w) false (laidWorld os) #[.int .u32 0, .int .u32 0, .agg #[.int .i64 0, .int .i64 0, .int .i64 0]] 8 rfl (by kernel_rfl) (by kernel_rfl) (by kernel_rfl) (by kernel_rfl) (by kernel_rfl) (laid_at os _)) ?_
  intro W base args ds gs before hval0 hW hcnd0 _ hL _
  have hval : ∀ (j : Nat) t v, Tryd.f12.params[j]? = some t → args[j]? = some v → Value.okWide Tryd.prog W .any base t v := hval0
  have hW' := hW
  obtain ⟨p, q, hA0, hV, rfl, hfz, hnd⟩ := hW
  have hA : DataW.TrodAll enc Tryd.prog W 0 (fun _ => true) true Tryd.f12.params.toList args.toList ds p := hA0
  rw [Tryd.params12] at hA hval
  obtain ⟨v0, v1, v2, d0, d1, d2, p0, p1, p2, rfl, rfl, rfl, h0, h1, h2⟩ := trodAll_three hA
  obtain ⟨rfl, rfl⟩ := trodVars_none hV
  clear hA0 hval0 hA
  simp only [List.append_nil] at hW'
  have k0 := hval 0 33 v0 rfl rfl
  have k1 := hval 1 33 v1 rfl rfl
  have k2 := hval 2 22 v2 rfl rfl
  obtain ⟨n0, rfl, w0⟩ := u32_arg k0 h0
  obtain ⟨n1, rfl, w1⟩ := u32_arg k1 h1
  obtain ⟨n2_0, n2_1, n2_2, rfl, w2_0, w2_1, w2_2⟩ := arr3_arg Tryd.underlying22 Tryd.underlying3 (by kernel_rfl) (by kernel_rfl) k2 h2
  refine (undo_true n0 n1 n2_0 n2_1 n2_2 W (dv_of hL) w0 w1 (wf_i64 w2_0) (wf_i64 w2_1) (wf_i64 w2_2)).mono fun e W' ⟨he, hg⟩ => ?_
  subst he
  have hb : Below W.heap.size W W' := gr_low hg
  have hlt : ∀ x ∈ p0 ++ p1 ++ p2, x.block < W.heap.size := fun x hx => by simpa using hW'.lt x hx
  have hl0 : ∀ x ∈ p0, x.block < W.heap.size := fun x hx => hlt x (by simp [hx])
  have hl1 : ∀ x ∈ p1, x.block < W.heap.size := fun x hx => hlt x (by simp [hx])
  have hl2 : ∀ x ∈ p2, x.block < W.heap.size := fun x hx => hlt x (by simp [hx])
  refine ⟨_, rfl, _, _, _, [], p0 ++ p1 ++ p2, [], hW', ?_, ?_, rfl, hb.frame _, fun h => by cases h⟩
  · exact trodAll_mk1 (shut_bool Tryd.underlying4 true)
  · have h3 := trodAll_mk3 (Below.trod laidOut0 (by kernel_rfl) (of_decide_eq_true (by kernel_rfl)) h0 hb hl0) (Below.trod laidOut0 (by kernel_rfl) (of_decide_eq_true (by kernel_rfl)) h1 hb hl1) (Below.trod laidOut0 (by kernel_rfl) (of_decide_eq_true (by kernel_rfl)) h2 hb hl2)
    rw [← List.append_assoc] at h3
    exact h3

theorem undo_row : Rows.DateUndoSaid :=
  OpenClaim.holds_of_wide 12 Tryd.f12 rfl rfl rfl rfl rfl rfl rfl ⟨rfl, rfl, rfl, rfl, rfl⟩ rfl rfl rfl rfl rfl (by kernel_rfl) Tryd.func12 (by kernel_rfl)
    (of_decide_eq_true (by kernel_rfl)) (by unfold Func.isWrapper; first | (rw [if_pos (by decide +kernel)]; kernel_rfl) | (rw [if_neg (by decide +kernel)]; exact ⟨rfl, rfl⟩))
    (fun os started H enc _ => undo_lifted os started H enc)
end Go.Proofs.YtchbefaflhimcaaDoor
