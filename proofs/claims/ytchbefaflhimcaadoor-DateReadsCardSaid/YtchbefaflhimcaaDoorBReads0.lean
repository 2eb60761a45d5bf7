/- The law of the claim at the level of the call, and its row: Undo, Reads, ReadsRow. -/
import Derived.Test.YtchbefaflhimcaaDoorBForm8
import Derived.Laws.IdiomStrings
import Derived.Laws.Tables
import Derived.Laws.BytesArg
namespace Go.Proofs.YtchbefaflhimcaaDoor
open Go.RowKit Mth

theorem right_all : ∀ a, a < 2 → ∀ b, b < 2 → ∀ k, k < 6 → ∀ c, c < 8 → rightE (layT a b k (sepW c)).data.toList = true := by decide +kernel
theorem lay_right {a b k c : Nat} (ha : a < 2) (hb : b < 2) (hk : k < 6) (hc : c < 8) : isRightL (layT a b k (sepW c)).data.toList = true := by
  rw [← rightE_eq]; exact right_all a ha b hb k hk c hc
/-- What DateUndo asks of a right layout. -/
theorem undo_facts {l : List UInt8} (h : isRightL l = true) {m n : Nat} (hm : m ≤ 3652058) (hn : n ≤ 3652058) :
    (formD l m).2 = true ∧ (formD l n).2 = true ∧ readL l (formD l m).1 = (m, true) ∧ ((formD l m).1 = (formD l n).1 ↔ m = n) := by
  have im : isN (m : Int) = true := by unfold isN; rw [decide_eq_true_eq]; omega
  have iN : isN (n : Int) = true := by unfold isN; rw [decide_eq_true_eq]; omega
  have hF := full_of h
  have cm := civ_spec (n := m) hm
  have cn := civ_spec (n := n) hn
  have em : formD l m = (fmt (civ m) (toks l), true) := by unfold formD; rw [im, h]; rfl
  have en : formD l n = (fmt (civ n) (toks l), true) := by unfold formD; rw [iN, h]; rfl
  rw [em, en]
  refine ⟨rfl, rfl, ?_, ?_⟩
  · unfold readL; rw [h, if_pos rfl, readD_fmt hF cm.ok]
    rw [show numC (civ m) = m from cm.num]
  · constructor
    · intro he
      have hc := hF.inj cm.ok cn.ok he
      have h1 : numC (civ m) = m := cm.num
      have h2 : numC (civ n) = n := cn.num
      rw [← h1, hc, h2]
    · rintro rfl; rfl
theorem formD_len (l : List UInt8) (n : Int) : (formD l n).1.length ≤ 160 := by
  unfold formD
  split
  · rename_i h
    rw [Bool.and_eq_true] at h
    have hn : n.toNat ≤ 3652058 := by have h1 := h.1; unfold isN at h1; rw [decide_eq_true_eq] at h1; omega
    have h1 := fmt_le (civ_small hn) (toks l)
    have h2 := (right_toks h.2).2
    dsimp only
    omega
  · simp
theorem iso_right : isRightL layI.data.toList = true := by rw [← rightE_eq]; decide +kernel
theorem iso_form {n : Nat} (hn : n ≤ 3652058) : formD layI.data.toList n = (textD n, true) := by
  have iN : isN (n : Int) = true := by unfold isN; rw [decide_eq_true_eq]; omega
  unfold textD formD
  rw [iN, iso_right]; rfl
theorem ba_ne {S T : ByteArray} (h : ¬ S.data.toList = T.data.toList) : (S.toList == T.toList) = false := by
  rw [beq_eq_false_iff_ne, ByteArray.toList_eq, ByteArray.toList_eq]; exact h
set_option maxHeartbeats 8000000 in
set_option maxRecDepth 100000 in
theorem undo_true (a b : Nat) (q0 q1 q2 : Int) (w : World) (hd : DV w) (ha : a ≤ 4294967295) (hb : b ≤ 4294967295) (h0 : -9223372036854775808 ≤ q0 ∧ q0 ≤ 9223372036854775807) (h1 : -9223372036854775808 ≤ q1 ∧ q1 ≤ 9223372036854775807) (h2 : -9223372036854775808 ≤ q2 ∧ q2 ≤ 9223372036854775807) :
    Calls Tryd.prog 12 #[.int .u32 (a : Int), .int .u32 (b : Int), .agg #[.int .i64 q0, .int .i64 q1, .int .i64 q2]] w fun e w' => e = .returned (.bool true) ∧ w.grownBy w' none := by
  have hwild := fun w => lay_any q0 q1 q2 false w h0 h1 h2
  have HL := Lib.hid hwild
  have HD := Lib.hid hd
  clear hwild hd
  obtain ⟨m, hm⟩ : ∃ m, m = a % 3652059 := ⟨_, rfl⟩
  obtain ⟨n, hn⟩ : ∃ n, n = b % 3652059 := ⟨_, rfl⟩
  have km : (a : Int) % 3652059 = (m : Int) := by omega
  have kn : (b : Int) % 3652059 = (n : Int) := by omega
  have m1 : m ≤ 3652058 := by omega
  have n1 : n ≤ 3652058 := by omega
  clear hm hn
  go_enter Tryd.func12, Tryd.ntmps12
  go_wp2_with fail
  have RQ : Row (w.alloc (.cells #[.int .i64 q0, .int .i64 q1, .int .i64 q2] 22)) w.heap.size [.int .i64 q0, .int .i64 q1, .int .i64 q2] 22 := Row.new_at rfl
  have g0 := gr_alloc w (.cells #[.int .i64 q0, .int .i64 q1, .int .i64 q2] 22) none
  refine (sanity_any _ (HD.out.grown g0)).mono ?_
  rintro _ w1 ⟨rfl, g1⟩
  have RQ := RQ.kept g1
  have G := gr_then g0 g1
  have c0 := RQ.cell 0 _ rfl
  have c1 := RQ.cell 1 _ rfl
  have c2 := RQ.cell 2 _ rfl
  clear g0 g1
  go_wp2_with fail
  refine (HL.out _).mono ?_
  rintro _ w2 ⟨l, rfl, hl, hr, g2⟩
  have G := gr_then G g2
  have hR : isRightL l.data.toList = true := by
    obtain ⟨a', b', k', c', x1, x2, x3, x4, rfl⟩ := hr rfl
    exact lay_right x1 x2 x3 x4
  clear hr g2 c0 c1 c2 RQ
  obtain ⟨f1, f2, f3, f4⟩ := undo_facts hR m1 n1
  have l1 := formD_len l.data.toList m
  have hF1 := fun w hd => format_any l m w (by omega) hd
  have hF2 := fun w hd => format_any l n w (by omega) hd
  generalize formD l.data.toList (m : Int) = z1 at f1 f3 f4 hF1 l1
  generalize formD l.data.toList (n : Int) = z2 at f2 f4 hF2
  obtain ⟨s1, b1⟩ := z1
  obtain ⟨s2, b2⟩ := z2
  dsimp only at f1 f2 f3 f4 hF1 hF2 l1
  subst f1 f2
  obtain ⟨S1, hS1⟩ : ∃ S : ByteArray, S = ⟨s1.toArray⟩ := ⟨_, rfl⟩
  obtain ⟨S2, hS2⟩ : ∃ S : ByteArray, S = ⟨s2.toArray⟩ := ⟨_, rfl⟩
  have t1 : S1.data.toList = s1 := by rw [hS1]
  have t2 : S2.data.toList = s2 := by rw [hS2]
  have hz : S1.size ≤ 9223372036854775807 := by have h : S1.data.toList.length = S1.size := rfl; rw [t1] at h; omega
  rw [← hS1] at hF1
  rw [← hS2] at hF2
  rw [← t1] at f3
  have hRd := fun w hd => read_any l S1 w (by omega) hz hd
  rw [f3] at hRd
  dsimp only at hRd
  rw [← t1, ← t2] at f4
  have hI := fun w hd => format_any layI m w (by decide) hd
  rw [iso_form m1] at hI
  have hT := fun w hd => text_any m w hd
  generalize textD (m : Int) = tx at hI hT
  have F1 := Lib.hid hF1
  have F2 := Lib.hid hF2
  have RD := Lib.hid hRd
  have HI := Lib.hid hI
  have HT := Lib.hid hT
  have F4 := Lib.hid f4
  clear hF1 hF2 hRd hI hT f4 f3 hS1 hS2 t1 t2 hR l1 hz
  go_wp2_with fail
  refine (F1.out _ (HD.out.grown G)).mono ?_
  rintro _ w3 ⟨rfl, g3⟩
  have G := gr_then G g3
  clear g3
  go_wp2_with fail
  refine (F2.out _ (HD.out.grown G)).mono ?_
  rintro _ w4 ⟨rfl, g4⟩
  have G := gr_then G g4
  clear g4
  go_wp2_with fail
  refine (RD.out _ (HD.out.grown G)).mono ?_
  rintro _ w5 ⟨rfl, g5⟩
  have G := gr_then G g5
  clear g5
  go_wp2_with fail
  refine (HI.out _ (HD.out.grown G)).mono ?_
  rintro _ w6 ⟨rfl, g6⟩
  have G := gr_then G g6
  clear g6
  have hcase : (m = n ∧ S1 = S2) ∨ ((S1.toList == S2.toList) = false ∧ ((m : Int) == (n : Int)) = false) := by
    by_cases h : m = n
    · refine .inl ⟨h, ?_⟩
      have e := F4.out.2 h
      cases S1; cases S2
      congr 1
      exact Array.toList_inj.1 e
    · exact .inr ⟨ba_ne (fun e => h (F4.out.1 e)), by rw [beq_eq_false_iff_ne]; omega⟩
  clear F4
  rcases hcase with ⟨rfl, rfl⟩ | ⟨e1, e2⟩
  all_goals
    go_wp2_with fail
    refine (HT.out _ (HD.out.grown G)).mono ?_
    rintro _ w7 ⟨rfl, g7⟩
    have G := gr_then G g7
    clear g7
    go_wp2
    go_ret
    exact ⟨by simp, G⟩
end Go.Proofs.YtchbefaflhimcaaDoor
namespace Go.Proofs.YtchbefaflhimcaaDoor
open Go.RowKit Mth

/-- Block G holds the bytes xs. -/
def Bts (G : Nat) (xs : List Int) (w : World) : Prop := ∀ i, i < xs.length → w.cell? ⟨G, 0 + i, none⟩ = some (.int .u8 (xs.getD i 0))
theorem Bts.kept {G : Nat} {xs : List Int} {w w1 : World} (h : Bts G xs w) (hg : w.grownBy w1 none) : Bts G xs w1 := fun i hi => hg.cell (h i hi) (by simp)
/-- A block of bytes that '[]byte(s)' has laid. -/
theorem bytes_new (w : World) (T : ByteArray) (cap : Nat) (e : TypeId) (fz : Nat × Nat) (hcap : T.size ≤ cap) (hfz : cap ≤ fz.1) :
    ∀ W1, W1 = w.alloc (.cells (bytesRow T cap) e fz) → (∀ m, m < T.size → (∃ v, W1.cell? ⟨w.heap.size, m, none⟩ = some v) ∧ W1.frozen? ⟨w.heap.size, m, none⟩ = false) ∧
      (∀ i, i < T.size → W1.cell? ⟨w.heap.size, 0 + i, none⟩ = some (.int .u8 ((T.data.toList.map fun b => (b.toNat : Int)).getD i 0))) ∧
      ∀ m (v : Int), m < T.size → ∀ i, i < T.size → (W1.setCell ⟨w.heap.size, m, none⟩ (.int .u8 v)).cell? ⟨w.heap.size, 0 + i, none⟩ = some (.int .u8 (((T.data.toList.map fun b => (b.toNat : Int)).set m v).getD i 0)) := by
  rintro W1 rfl
  have hrow := heap_alloc_new w (.cells (bytesRow T cap) e fz)
  have hsz : (bytesRow T cap).size = cap := by unfold bytesRow; simp; show T.data.size + _ = _; have : T.data.size = T.size := rfl; omega
  have hT : T.data.size = T.size := rfl
  have hat : ∀ i, i < T.size → (bytesRow T cap)[i]? = some (.int .u8 ((T.data.toList.map fun b => (b.toNat : Int)).getD i 0)) := fun i hi => by
    unfold bytesRow
    rw [Array.getElem?_append_left (by simp; omega)]
    have e1 : T.data[i]? = some (T.data[i]'(by omega)) := Array.getElem?_eq_getElem _
    simp [List.getD, e1]
  refine ⟨fun m hm => ⟨?_, ?_⟩, fun i hi => ?_, fun m v hm i hi => ?_⟩
  · rw [cell_of_row _ _ m _ e fz hrow]
    exact ⟨_, Array.getElem?_eq_getElem (by rw [hsz]; omega)⟩
  · simp only [World.frozen?]
    rw [hrow]
    simp; omega
  · rw [Nat.zero_add, cell_of_row _ _ i _ e fz hrow, hat i hi]
  · rw [Nat.zero_add, setCell_eq_setRow _ _ m _ e fz _ hrow, cell_of_row _ _ i _ e fz (setRow_heap _ _ _ _ e fz hrow)]
    rw [Array.getElem?_setIfInBounds]
    by_cases h : m = i
    · subst h
      rw [if_pos rfl, if_pos (by rw [hsz]; omega)]
      simp [List.getD, hT, hm]
    · rw [if_neg h, hat i hi]
      simp [List.getD, List.getElem?_set_ne h]

theorem gr_setN {a b : World} {g i : Nat} {v : Value} (h : a.grownBy b none) (hg : a.heap.size ≤ g) : a.grownBy (b.setCell ⟨g, i, none⟩ v) none :=
  ⟨h.os, h.tape, h.output, by have := h.size; simpa [World.setCell] using this, fun k hk hne => by rw [Below.heap_setCell _ _ _ _ (by show k ≠ g; omega)]; exact h.block k hk hne⟩
set_option maxHeartbeats 16000000 in
set_option maxRecDepth 100000 in
theorem reads_true (n : Int) (raw : ByteArray) (q0 q1 q2 q3 q4 q5 q6 q7 : Int) (w : World) (hd : DV w) (_hn : -9223372036854775808 ≤ n ∧ n ≤ 9223372036854775807) (hraw0 : raw.size ≤ maxLen) (h0 : -9223372036854775808 ≤ q0 ∧ q0 ≤ 9223372036854775807) (h1 : -9223372036854775808 ≤ q1 ∧ q1 ≤ 9223372036854775807) (h2 : -9223372036854775808 ≤ q2 ∧ q2 ≤ 9223372036854775807) (h3 : -9223372036854775808 ≤ q3 ∧ q3 ≤ 9223372036854775807) (h4 : -9223372036854775808 ≤ q4 ∧ q4 ≤ 9223372036854775807) (h5 : -9223372036854775808 ≤ q5 ∧ q5 ≤ 9223372036854775807) (h6 : -9223372036854775808 ≤ q6 ∧ q6 ≤ 9223372036854775807) (h7 : -9223372036854775808 ≤ q7 ∧ q7 ≤ 9223372036854775807) :
    Calls Tryd.prog 11 #[.int .i64 n, .string raw, .agg #[.int .i64 q0, .int .i64 q1, .int .i64 q2, .int .i64 q3, .int .i64 q4, .int .i64 q5, .int .i64 q6, .int .i64 q7]] w fun e w' => e = .returned (.bool true) ∧ w.grownBy w' none := by
  have hraw : raw.size ≤ 9223372036854775807 := hraw0
  have hL1 := fun w => lay_any q0 q1 q2 false w h0 h1 h2
  have hL2 := fun w => lay_any q3 q4 q5 true w h3 h4 h5
  have HL1 := Lib.hid hL1
  have HL2 := Lib.hid hL2
  have HD := Lib.hid hd
  obtain ⟨k, hk⟩ : ∃ k, k = bits .and .i64 n 2097151 := ⟨_, rfl⟩
  have HK := Lib.hid hk
  clear hk hL1 hL2 hd hraw0
  go_enter Tryd.func11, Tryd.ntmps11
  go_wp2_with fail
  have RQ : Row (w.alloc (.cells #[.int .i64 q0, .int .i64 q1, .int .i64 q2, .int .i64 q3, .int .i64 q4, .int .i64 q5, .int .i64 q6, .int .i64 q7] 53)) w.heap.size [.int .i64 q0, .int .i64 q1, .int .i64 q2, .int .i64 q3, .int .i64 q4, .int .i64 q5, .int .i64 q6, .int .i64 q7] 53 := Row.new_at rfl
  have g0 := gr_alloc w (.cells #[.int .i64 q0, .int .i64 q1, .int .i64 q2, .int .i64 q3, .int .i64 q4, .int .i64 q5, .int .i64 q6, .int .i64 q7] 53) none
  refine (sanity_any _ (HD.out.grown g0)).mono ?_
  rintro _ w1 ⟨rfl, g1⟩
  have RQ := RQ.kept g1
  have G := gr_then g0 g1
  clear g0 g1
  go_wp2_with fail
  have hK : ∀ w', w1.grownBy w' none → (w'.cell? ⟨w.heap.size, 0, none⟩ = some (.int .i64 q0) ∧ w'.cell? ⟨w.heap.size, 1, none⟩ = some (.int .i64 q1) ∧ w'.cell? ⟨w.heap.size, 2, none⟩ = some (.int .i64 q2) ∧ w'.cell? ⟨w.heap.size, 3, none⟩ = some (.int .i64 q3) ∧ w'.cell? ⟨w.heap.size, 4, none⟩ = some (.int .i64 q4) ∧ w'.cell? ⟨w.heap.size, 5, none⟩ = some (.int .i64 q5) ∧ w'.cell? ⟨w.heap.size, 6, none⟩ = some (.int .i64 q6) ∧ w'.cell? ⟨w.heap.size, 7, none⟩ = some (.int .i64 q7)) := fun w' h => ⟨(RQ.kept h).cell 0 _ rfl, (RQ.kept h).cell 1 _ rfl, (RQ.kept h).cell 2 _ rfl, (RQ.kept h).cell 3 _ rfl, (RQ.kept h).cell 4 _ rfl, (RQ.kept h).cell 5 _ rfl, (RQ.kept h).cell 6 _ rfl, (RQ.kept h).cell 7 _ rfl⟩
  have hlt0 := RQ.lt
  have HS := Lib.hid hK
  have HG := Lib.hid G
  clear hK G RQ
  go_region_held3 (fun w' => w'.cell? ⟨w.heap.size, 0, none⟩ = some (.int .i64 q0) ∧ w'.cell? ⟨w.heap.size, 1, none⟩ = some (.int .i64 q1) ∧ w'.cell? ⟨w.heap.size, 2, none⟩ = some (.int .i64 q2) ∧ w'.cell? ⟨w.heap.size, 3, none⟩ = some (.int .i64 q3) ∧ w'.cell? ⟨w.heap.size, 4, none⟩ = some (.int .i64 q4) ∧ w'.cell? ⟨w.heap.size, 5, none⟩ = some (.int .i64 q5) ∧ w'.cell? ⟨w.heap.size, 6, none⟩ = some (.int .i64 q6) ∧ w'.cell? ⟨w.heap.size, 7, none⟩ = some (.int .i64 q7))
    ((refine HS.out _ ?_; repeat (first | (with_reducible exact gr_rfl _) | (with_reducible refine gr_al ?_) | (with_reducible refine gr_dr ?_) | (with_reducible refine gr_then ?_ gb) | (with_reducible refine gr_then ?_ ga))))
    (first
    | (go_at_call_of 29 (Value.bool true); refine (HL2.out _).mono ?_; rintro e wb ⟨tb, rfl, hb, -, gb⟩)
    | (go_at_call 29; refine (HL1.out _).mono ?_; rintro e wa ⟨ta, rfl, ha, -, ga⟩))
  all_goals
    have g13 : w1.grownBy wb none := gr_then (gr_then (gr_dr (gr_rfl w1)) ga) gb
    have G := gr_then HG.out g13
    clear ga gb
    have lT := formD_len ta.data.toList k
    have hF := fun w => rformat_any ta k w
    obtain ⟨T, hT⟩ : ∃ T : ByteArray, T = ⟨(formD ta.data.toList k).1.toArray⟩ := ⟨_, rfl⟩
    have hTs : T.size ≤ 160 := by
      have h : T.data.toList.length = T.size := rfl
      have h2 : T.data.toList = (formD ta.data.toList k).1 := by rw [hT]
      rw [h2] at h
      omega
    rw [← hT] at hF
    generalize (formD ta.data.toList k).2 = bk at hF
    have HF := Lib.hid hF
    clear hF hT lT
    go_wp2_with fail
    rw [← HK.out]
    refine (HF.out _).mono ?_
    rintro _ w3 ⟨rfl, g3⟩
    have G := gr_then G g3
    have g13 := gr_then g13 g3
    clear g3
    have hcv := run_bytes_of_string (P := Tryd.prog) w3 9 46 5 T Tryd.underlying9 Tryd.underlying46 Tryd.underlying5
    have hcap := grownCap_ge w3 T.size 0 5
    generalize grownCap w3 T.size 0 5 = cap at hcv hcap
    obtain ⟨fz, hfz⟩ : ∃ fz : Nat × Nat, fz = ((bytesRow T cap).size, (bytesRow T cap).size + 1) := ⟨_, rfl⟩
    have hfz1 : cap ≤ fz.1 := by
      have : (bytesRow T cap).size = cap := by unfold bytesRow; simp; show T.data.size + _ = _; have : T.data.size = T.size := rfl; omega
      rw [hfz]; show cap ≤ (bytesRow T cap).size; omega
    rw [← hfz] at hcv
    obtain ⟨W1, hW1⟩ : ∃ W1 : World, W1 = w3.drew.alloc (.cells (bytesRow T cap) 5 fz) := ⟨_, rfl⟩
    rw [← hW1] at hcv
    have hg1 : w3.grownBy W1 none := by rw [hW1]; exact gr_al (gr_dr (gr_rfl w3))
    obtain ⟨hB1, hB2, hB3⟩ := bytes_new w3.drew T cap 5 fz (by omega) hfz1 W1 hW1
    rw [show w3.drew.heap.size = w3.heap.size from rfl] at hB1 hB2 hB3
    have hge := G.size
    have hlt : w.heap.size < w3.heap.size := Nat.lt_of_lt_of_le hlt0 g13.size
    have G := gr_then G hg1
    have g13 := gr_then g13 hg1
    obtain ⟨hs0, hs1, hs2, hs3, hs4, hs5, hs6, hs7⟩ := HS.out _ g13
    clear hs0 hs1 hs2 hs3 hs4 hs5 g13 hg1 hW1 hfz hfz1 hcap
    generalize w3.heap.size = gB at hcv hB1 hB2 hB3 hge hlt
    have HB1 := Lib.hid hB1
    have HB2 := Lib.hid hB2
    have HB3 := Lib.hid hB3
    clear hB1 hB2 hB3
    go_upto_if 51 with fail
    go_cut [] from 51 to 61 (fun wx => ∃ xs : List Int, xs.length = T.size ∧ Bts gB xs wx ∧ w.grownBy wx none)
    case first =>
      by_cases hz : 0 < T.size
      · have hM := fun w => mod_any q6 (T.size : Int) (by omega) (by omega) w
        have mlt := (modD_lt (n := q6) (m := (T.size : Int)) (by omega)).2
        rw [Int.toNat_natCast] at mlt
        generalize modD q6 (T.size : Int) = m at hM mlt
        have HM := Lib.hid hM
        clear hM
        obtain ⟨⟨old, hold⟩, hfr⟩ := HB1.out m mlt
        have hd6 : W1.drew.cell? ⟨w.heap.size, 6, none⟩ = some (.int .i64 q6) := hs6
        have hd7 : W1.drew.cell? ⟨w.heap.size, 7, none⟩ = some (.int .i64 q7) := hs7
        have hdm : W1.drew.cell? ⟨gB, m, none⟩ = some old := hold
        have hdf : W1.drew.frozen? ⟨gB, m, none⟩ = false := hfr
        have m0 : (0 : Int) ≤ (m : Int) := by omega
        have m1 : (m : Int) < (T.size : Int) := by omega
        obtain ⟨v, hv⟩ : ∃ v : Int, IntKind.u8.wrap q7 = v := ⟨_, rfl⟩
        have hk6 : (W1.setCell ⟨gB, m, none⟩ (.int .u8 v)).drew.cell? ⟨w.heap.size, 6, none⟩ = some (.int .i64 q6) := (World.cell?_setCell_far W1 ⟨gB, m, none⟩ ⟨w.heap.size, 6, none⟩ _ (by show gB ≠ w.heap.size; omega)).trans hs6
        have hk7 : (W1.setCell ⟨gB, m, none⟩ (.int .u8 v)).drew.cell? ⟨w.heap.size, 7, none⟩ = some (.int .i64 q7) := (World.cell?_setCell_far W1 ⟨gB, m, none⟩ ⟨w.heap.size, 7, none⟩ _ (by show gB ≠ w.heap.size; omega)).trans hs7
        go_wp2_with fail
        go_region_held3 (fun w' => w'.cell? ⟨w.heap.size, 6, none⟩ = some (.int .i64 q6) ∧ w'.cell? ⟨w.heap.size, 7, none⟩ = some (.int .i64 q7)) (first | exact ⟨hd6, hd7⟩ | exact ⟨hk6, hk7⟩ | go_keep)
          (first | (go_at_call 32; refine (HM.out _).mono ?_; rintro e w' ⟨rfl, rfl⟩))
        all_goals
          go_wp2_with fail
          go_meet
          refine ⟨(List.map (fun b : UInt8 => (b.toNat : Int)) T.data.toList).set m v, ?_, ?_, gr_dr (gr_setN G hge)⟩
          · first | (simp; done) | (simp; rfl)
          · intro i hi
            have h : T.data.toList.length = T.size := rfl
            rw [List.length_set, List.length_map] at hi
            exact HB3.out m v mlt i (by omega)
      · have hz2 : T.size ≤ 0 := by omega
        go_wp2_with fail
        go_meet
        exact ⟨[], by simp; omega, (fun i hi => by simp at hi), G⟩
    case rest =>
      clear HB1 HB2 HB3 hcv hs6 hs7 hge hlt hlt0 G HS HG HF HK HL1 HL2
      obtain ⟨xs, hxs, HB, G⟩ := hcut
      have key : ∀ (v : World) (ys : Array Value) (j : Nat), (v.alloc (.cells ys 9)).cell? ⟨v.heap.size, j, none⟩ = ys[j]? := fun v ys j => cell_of_row (v.alloc (.cells ys 9)) v.heap.size j ys 9 (0, 0) (heap_alloc_new v _)
      have HKEY := Lib.hid key
      have HC : Texts wc.heap.size 4 (wc.alloc (.cells #[.string ta, .string tb, .string raw, .string ⟨#[]⟩] 9)) := by
        intro i hi
        rcases (show i = 0 ∨ i = 1 ∨ i = 2 ∨ i = 3 by omega) with rfl | rfl | rfl | rfl
        · exact ⟨ta, by rw [key]; rfl, by omega⟩
        · exact ⟨tb, by rw [key]; rfl, by omega⟩
        · exact ⟨raw, by rw [key]; rfl, by omega⟩
        · exact ⟨⟨#[]⟩, by rw [key]; rfl, by decide⟩
      clear key
      have HB := HB.kept (gr_alloc wc (.cells #[.string ta, .string tb, .string raw, .string ⟨#[]⟩] 9) none)
      have G1 := gr_then G (gr_alloc wc (.cells #[.string ta, .string tb, .string raw, .string ⟨#[]⟩] 9) none)
      clear G
      go_wp2_with fail
      generalize wc.heap.size = b8 at HC ⊢
      have e3 : ¬ 9223372036854775807 < T.size + 1 := by omega
      have e4 : ¬ 9223372036854775807 < 1 + T.size := by omega
      have HX := Lib.hid hxs
      have hUs : (strOfNums xs).size = T.size := by rw [← hxs]; unfold strOfNums; show (List.toArray _).size = _; simp
      have HU := Lib.hid hUs
      clear hxs hUs
      go_loopw [67] (fun u wr => ∃ i : Nat, i ≤ 4 ∧ u = .int .i64 i ∧ Texts b8 4 wr ∧ Bts gB xs wr ∧ w.grownBy wr none) (fun u _ => 4 - (intOf u).toNat)
      case atStart => exact ⟨0, by omega, rfl, HC, HB, G1⟩
      case round =>
        clear HC HB G1
        obtain ⟨i, hi, rfl, HCI, HBI, hg⟩ := hrel
        by_cases hlt : i < 4
        · obtain ⟨l, c0, hl⟩ := HCI i hlt
          have hdb : decide ((i : Int) < 4) = true := by rw [decide_eq_true_eq]; omega
          have hcv2 := run_convert_bytes_arg (P := Tryd.prog) wr 46 5 Tryd.underlying46 Tryd.underlying5 gB 0 T.size cap xs HX.out (fun i hi => HBI i (by rw [HX.out]; exact hi)) 9 Tryd.underlying9
          have hUs := HU.out
          generalize strOfNums xs = U at hcv2 hUs
          have HI : Texts wr.heap.size 6 (wr.alloc (.cells #[.string T, .string U, .string raw, .string (T ++ ⟨#[48]⟩), .string (⟨#[48]⟩ ++ T), .string ⟨#[]⟩] 9)) := by
            intro j hj
            rcases (show j = 0 ∨ j = 1 ∨ j = 2 ∨ j = 3 ∨ j = 4 ∨ j = 5 by omega) with rfl | rfl | rfl | rfl | rfl | rfl
            · exact ⟨T, by rw [HKEY.out]; rfl, by omega⟩
            · exact ⟨U, by rw [HKEY.out]; rfl, by omega⟩
            · exact ⟨raw, by rw [HKEY.out]; rfl, by omega⟩
            · exact ⟨_, by rw [HKEY.out]; rfl, by rw [ByteArray.size_append]; show T.size + 1 ≤ _; omega⟩
            · exact ⟨_, by rw [HKEY.out]; rfl, by rw [ByteArray.size_append]; show 1 + T.size ≤ _; omega⟩
            · exact ⟨⟨#[]⟩, by rw [HKEY.out]; rfl, by decide⟩
          have hgI := gr_al (o := (.cells #[.string T, .string U, .string raw, .string (T ++ ⟨#[48]⟩), .string (⟨#[48]⟩ ++ T), .string ⟨#[]⟩] 9)) hg
          have HCI := HCI.kept (gr_alloc wr (.cells #[.string T, .string U, .string raw, .string (T ++ ⟨#[48]⟩), .string (⟨#[48]⟩ ++ T), .string ⟨#[]⟩] 9) none)
          have HBI := HBI.kept (gr_alloc wr (.cells #[.string T, .string U, .string raw, .string (T ++ ⟨#[48]⟩), .string (⟨#[48]⟩ ++ T), .string ⟨#[]⟩] 9) none)
          clear hUs
          go_wp2
          clear c0 hcv2
          generalize wr.heap.size = b2 at HI ⊢
          go_loopw [81] (fun u wq => ∃ j : Nat, j ≤ 6 ∧ u = .int .i64 j ∧ Texts b2 6 wq ∧ Texts b8 4 wq ∧ Bts gB xs wq ∧ w.grownBy wq none) (fun u _ => 6 - (intOf u).toNat)
          case atStart => exact ⟨0, by omega, rfl, HI, HCI, HBI, hgI⟩
          case round =>
            clear HI HCI HBI hgI
            obtain ⟨j, hj, rfl, HI, HCI, HBI, hgI⟩ := hrel
            by_cases hlj : j < 6
            · obtain ⟨x, cx, hx⟩ := HI j hlj
              have p1 := fun w hd => read_any l x w hl hx hd
              have p2 := fun w => rread_any l x w hx
              generalize readL l.data.toList x.data.toList = z at p1 p2
              obtain ⟨z1, z2⟩ := z
              have P1 := Lib.hid p1
              have P2 := Lib.hid p2
              clear p1 p2
              have HCJ := Lib.hid HCI
              have HIJ := Lib.hid HI
              have HBJ := Lib.hid HBI
              clear HCI HI HBI
              go_wp2_with fail
              refine (P1.out _ (HD.out.grown hgI)).mono ?_
              rintro _ w9 ⟨rfl, h9⟩
              go_wp2_with fail
              refine (P2.out _).mono ?_
              rintro _ w10 ⟨rfl, h10⟩
              have hh := gr_then h9 h10
              go_wp2
              exact ⟨⟨j + 1, by omega, by go_num, HIJ.out.kept hh, HCJ.out.kept hh, HBJ.out.kept hh, gr_then hgI hh⟩, by simp [intOf]; omega⟩
            · have hge : ¬ j < 6 := hlj
              go_wp2
              exact ⟨⟨i + 1, by omega, by go_num, HCI, HBI, hgI⟩, by simp [intOf]; omega⟩
        · have hge : ¬ i < 4 := hlt
          go_wp2
          go_ret
          exact ⟨rfl, hg⟩
end Go.Proofs.YtchbefaflhimcaaDoor
namespace Go.Proofs.YtchbefaflhimcaaDoor
open Go.ChangeShapes Go.WideShapes Go.ChangeAt Go.RowKit Mth

set_option maxRecDepth 1000000 in
set_option maxHeartbeats 4000000 in
theorem reads_lifted (os : Os) (started : os.Started) (H : Type) (enc : TypeId × Value → H) :
    ReturnsInHanded {} Tryd.checked os 11 .any (fun w args => (Rows.dateReadsSpec.pre enc Tryd.prog Tryd.f11 Rows.dateReadsRow.domain false w args ∧ laidMet Tryd.prog Rows.dateReadsRow.laid w) ∧ sizedMet enc Tryd.prog Tryd.f11 (OpenSpec.ofChange Rows.dateReadsSpec) false w args)
      (Rows.dateReadsSpec.post enc Tryd.prog Tryd.f11 false true false false) := by
  refine returnsInHanded_of_change_and (C := Tryd.checked) (X := fun w _ => laidMet Tryd.prog Rows.dateReadsRow.laid w) (fun _ _ _ hh h => h.of_heap hh) own0 started (by kernel_rfl) Tryd.func11
    (ChangeSpec.witness_at (enc := enc) (C := Tryd.checked) (os := os) (X := fun w _ => laidMet Tryd.prog Rows.dateReadsRow.laid w) false (laidWorld os) #[.int .i64 0, .string ⟨#[]⟩, .agg #[.int .i64 0, .int .i64 0, .int .i64 0, .int .i64 0, .int .i64 0, .int .i64 0, .int .i64 0, .int .i64 0]] 8 rfl (by kernel_rfl) (by kernel_rfl) (by kernel_rfl) (by kernel_rfl) (by kernel_rfl) (laid_at os _)) ?_
  intro W base args ds gs before hval0 hW hcnd0 _ hL _
  have hval : ∀ (j : Nat) t v, Tryd.f11.params[j]? = some t → args[j]? = some v → Value.okWide Tryd.prog W .any base t v := hval0
  have hW' := hW
  obtain ⟨p, q, hA0, hV, rfl, hfz, hnd⟩ := hW
  have hA : DataW.TrodAll enc Tryd.prog W 0 (fun _ => true) true Tryd.f11.params.toList args.toList ds p := hA0
  rw [Tryd.params11] at hA hval
  obtain ⟨v0, v1, v2, d0, d1, d2, p0, p1, p2, rfl, rfl, rfl, h0, h1, h2⟩ := trodAll_three hA
  obtain ⟨rfl, rfl⟩ := trodVars_none hV
  clear hA0 hval0 hA
  simp only [List.append_nil] at hW'
  have k0 := hval 0 3 v0 rfl rfl
  have k1 := hval 1 9 v1 rfl rfl
  have k2 := hval 2 53 v2 rfl rfl
  obtain ⟨n0, rfl, w0⟩ := int_arg k0 h0
  obtain ⟨n1, rfl, w1⟩ := str_arg k1 h1
  obtain ⟨n2_0, n2_1, n2_2, n2_3, n2_4, n2_5, n2_6, n2_7, rfl, w2_0, w2_1, w2_2, w2_3, w2_4, w2_5, w2_6, w2_7⟩ := arr8_arg Tryd.underlying53 Tryd.underlying3 (by kernel_rfl) (by kernel_rfl) k2 h2
  refine (reads_true n0 n1 n2_0 n2_1 n2_2 n2_3 n2_4 n2_5 n2_6 n2_7 W (dv_of hL) w0 w1 (wf_i64 w2_0) (wf_i64 w2_1) (wf_i64 w2_2) (wf_i64 w2_3) (wf_i64 w2_4) (wf_i64 w2_5) (wf_i64 w2_6) (wf_i64 w2_7)).mono fun e W' ⟨he, hg⟩ => ?_
  subst he
  have hb : Below W.heap.size W W' := gr_low hg
  have hlt : ∀ x ∈ p0 ++ p1 ++ p2, x.block < W.heap.size := fun x hx => by simpa using hW'.lt x hx
  have hl0 : ∀ x ∈ p0, x.block < W.heap.size := fun x hx => hlt x (by simp [hx])
  have hl1 : ∀ x ∈ p1, x.block < W.heap.size := fun x hx => hlt x (by simp [hx])
  have hl2 : ∀ x ∈ p2, x.block < W.heap.size := fun x hx => hlt x (by simp [hx])
  refine ⟨_, rfl, _, _, _, [], p0 ++ p1 ++ p2, [], hW', ?_, ?_, rfl, hb.frame _, fun h => by cases h⟩
  · exact trodAll_mk1 (shut_bool Tryd.underlying4 true)
  · have h3 := trodAll_mk3 (Below.trod laidOut0 (by kernel_rfl) (of_decide_eq_true (by kernel_rfl)) h0 hb hl0) (Below.trod laidOut0 (by kernel_rfl) (of_decide_eq_true (by kernel_rfl)) h1 hb hl1) (Below.trod laidOut0 (by kernel_rfl) (of_decide_eq_true (by kernel_rfl)) h2 hb hl2)
    rw [← List.append_assoc] at h3
    exact h3

theorem reads_row : Rows.DateReadsSaid :=
  OpenClaim.holds_of_wide 11 Tryd.f11 rfl rfl rfl rfl rfl rfl rfl ⟨rfl, rfl, rfl, rfl, rfl⟩ rfl rfl rfl rfl rfl (by kernel_rfl) Tryd.func11 (by kernel_rfl)
    (of_decide_eq_true (by kernel_rfl)) (by unfold Func.isWrapper; first | (rw [if_pos (by decide +kernel)]; kernel_rfl) | (rw [if_neg (by decide +kernel)]; exact ⟨rfl, rfl⟩))
    (fun os started H enc _ => reads_lifted os started H enc)
end Go.Proofs.YtchbefaflhimcaaDoor
