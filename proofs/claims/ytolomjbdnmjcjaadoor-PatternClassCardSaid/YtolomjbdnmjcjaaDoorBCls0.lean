/- The law of the claim at the level of the call, and its row: ClassL, ClassLRow. -/
import Derived.Test.YtolomjbdnmjcjaaDoorBBase
import Derived.LoopN
namespace Go.Proofs.YtolomjbdnmjcjaaDoor
open Go.RowKit Pt

theorem runs_right {n : Nat} (h1 : 1 ≤ n) (h7 : n ≤ 7) : rightL [⟨(n : Int), 1, 1, ⟨#[]⟩⟩] = true := by
  have h : ∀ d : Fin 7, rightL [⟨((d.1 + 1 : Nat) : Int), 1, 1, ⟨#[]⟩⟩] = true := by decide
  have := h ⟨n - 1, by omega⟩
  rwa [show n - 1 + 1 = n from by omega] at this
theorem allD_one (c : UInt8) (k : Int) : allD [c] k = belD c.toNat k := by simp [allD]
theorem one_match {n : Nat} (h1 : 1 ≤ n) (h7 : n ≤ 7) (c : UInt8) : matchL [⟨(n : Int), 1, 1, ⟨#[]⟩⟩] [c] = belD c.toNat n := by
  unfold matchL
  rw [runs_right h1 h7]
  have hst : stp ⟨(n : Int), 1, 1, ⟨#[]⟩⟩ [c] 0 1 = belD c.toNat n := by
    unfold stp
    rw [if_neg (show ¬ (n : Int) = 0 by omega)]
    show (true && true && (true && true && allD [c] (n : Int))) = _
    rw [allD_one]; simp
  have hr : rch [⟨(n : Int), 1, 1, ⟨#[]⟩⟩] [c] 0 1 = belD c.toNat n := by
    rw [Bool.eq_iff_iff, rch_cons]
    constructor
    · rintro ⟨m, h, h'⟩
      obtain ⟨rfl, _⟩ := rch_nil.1 h'
      rwa [hst] at h
    · intro h
      exact ⟨1, by rw [hst]; exact h, rch_nil.2 ⟨rfl, by simp⟩⟩
  show (true && isTextD [c] && rch [⟨(n : Int), 1, 1, ⟨#[]⟩⟩] [c] 0 1) = _
  rw [hr]
  have ht : isTextD [c] = belD c.toNat 7 := by
    unfold isTextD; rw [allD_one]; rfl
  rw [ht]
  have h0 : belD c.toNat 7 = decide (clsD c.toNat ≠ 0) := by
    unfold belD contD; simp
  rw [h0]
  unfold belD
  cases decide (clsD c.toNat ≠ 0) <;> simp
/-- What the law compares with. -/
def inD (k : Nat) (n : Nat) : Bool := decide (n = k) || (decide (n = 7) && decide (0 < k)) || (decide (n = 4) && (decide (k = 2) || decide (k = 3)))
theorem in_bel {k n c : Nat} (hk : clsD c = k) (h1 : 1 ≤ n) : inD k n = belD c n := by
  unfold belD contD inD
  rw [hk, Bool.eq_iff_iff]
  simp
  omega
/-- A byte slice that holds one byte. -/
theorem form_one (w : World) (c : Nat) (hc : c ≤ 255) : Form (w.alloc (.cells #[.int .u8 (c : Int)] 5)) w.heap.size (.slice (some ⟨w.heap.size, 0, none⟩) 1 1) [UInt8.ofNat c] := by
  refine ⟨rfl, .inr ⟨w.heap.size, 1, _, rfl, Nat.le_refl _, heap_alloc_new w _, Nat.le_refl _, by decide, rfl, ?_⟩⟩
  show [Value.int .u8 (c : Int)] = [Value.int .u8 (((UInt8.ofNat c).toNat : Nat) : Int)]
  rw [ofNat_int hc]
theorem pcs_one (w : World) (k a b : Int) (t : ByteArray) : Pcs (w.alloc (.cells #[.int .i64 k, .int .i64 a, .int .i64 b, .string t] 31)) (.slice (some ⟨w.heap.size, 0, none⟩) 1 1) [⟨k, a, b, t⟩] := by
  have r := Row.new w [.int .i64 k, .int .i64 a, .int .i64 b, .string t] 31
  refine .inr ⟨w.heap.size, 0, 1, rfl, r.lt, fun i hi => ?_⟩
  obtain rfl : i = 0 := by simpa using hi
  exact ⟨r.cell 0 _ rfl, r.cell 1 _ rfl, r.cell 2 _ rfl, r.cell 3 _ rfl⟩
/-- One run of one character against one byte. -/
theorem cmatch (w : World) (ht : TabP w) (c n k : Nat) (hk : clsD c = k) (hc : c ≤ 255) (h1 : 1 ≤ n) (h7 : n ≤ 7) : Calls Tryd.prog 21 #[.slice (some ⟨w.heap.size, 0, none⟩) 1 1, .string ⟨#[UInt8.ofNat c]⟩] (w.alloc (.cells #[.int .i64 (n : Int), .int .i64 1, .int .i64 1, .string ⟨#[]⟩] 31)) fun e w' => e = .returned (.bool (inD k n)) ∧ w.grownBy w' none := by
  have h := pmatches_any _ [⟨(n : Int), 1, 1, ⟨#[]⟩⟩] ⟨#[UInt8.ofNat c]⟩ _ (tabis_grown ht (gr_alloc w _ none)) (pcs_one w (n : Int) 1 1 ⟨#[]⟩) (by simp) (show 1 ≤ 1000000000000 by omega) (fun q hq => by rw [List.mem_singleton] at hq; subst hq; show 0 ≤ 1000; omega)
  have e : matchL [⟨(n : Int), 1, 1, ⟨#[]⟩⟩] (⟨#[UInt8.ofNat c]⟩ : ByteArray).data.toList = inD k n := by
    show matchL _ [UInt8.ofNat c] = _
    rw [one_match h1 h7, UInt8.toNat_ofNat_of_lt' (show c < UInt8.size from by show c < 256; omega)]
    exact (in_bel hk h1).symm
  rw [e] at h
  exact h.mono fun e w' hh => ⟨hh.1, gr_then (gr_alloc w _ none) hh.2⟩
set_option maxRecDepth 100000 in
set_option maxHeartbeats 4000000 in
theorem class_true (c : Nat) (w : World) (ht : TabP w) (hc : c ≤ 255) : Calls Tryd.prog 10 #[.int .u8 (c : Int)] w fun e w' => e = .returned (.bool true) ∧ w.grownBy w' none := by
  have HS := Lib.hid (sanity_any w ht)
  obtain ⟨k, hk⟩ : ∃ k, clsD c = k := ⟨_, rfl⟩
  have HC := Lib.hid (fun w => class_any c w hc)
  have HR := Lib.hid (fun w => rclass_any c w hc)
  rw [hk] at HC HR
  have HT := Lib.hid ht
  have HK := Lib.hid hk
  have hk6 : k ≤ 6 := by rw [← hk]; exact (clsD_le c).1
  have hkc : (0 < k) = (32 ≤ c ∧ c ≤ 126) := by
    rw [← hk]
    unfold clsD
    repeat' split
    all_goals (simp only [eq_iff_iff]; omega)
  have HKC := Lib.hid hkc
  clear ht hk hkc
  go_enter Tryd.func10, Tryd.ntmps10
  go_wp2_with fail
  refine HS.out.mono ?_
  rintro e w1 ⟨rfl, g1⟩
  have G1 := Lib.hid g1
  clear g1
  go_wp2_with fail
  refine (HC.out w1).mono ?_
  rintro e w2 ⟨rfl, rfl⟩
  go_wp2_with fail
  refine (HR.out w1).mono ?_
  rintro e w2 ⟨rfl, rfl⟩
  have hcv := (form_one w1 c hc).str
  have TL := Lib.hid (fun (w2 : World) (g : w.grownBy w2 none) (n : Nat) (h1 : 1 ≤ n) (h7 : n ≤ 7) => cmatch w2 (tabis_grown HT.out g) c n k HK.out hc h1 h7)
  have h3 : c < 32 ∨ 126 < c ∨ (32 ≤ c ∧ c ≤ 126) := by omega
  rcases h3 with h3 | h3 | h3
  · have hk0 : k = 0 := by have := HKC.out; have := (eq_iff_iff.1 this); omega
    subst hk0
    have hi1 : decide ((32 : Int) ≤ (c : Int)) = false := decide_eq_false (by omega)
    have hi2 : decide (32 ≤ c) = false := decide_eq_false (by omega)
    clear h3
    go_wp2_with fail
    refine wp_loop_rounds 8 ?_
    have V0 := Lib.hid (gr_then G1.out (gr_alloc w1 (.cells #[.int .u8 (c : Int)] 5) none))
    obtain ⟨v0, hv0⟩ : ∃ v0, w1.alloc (.cells #[.int .u8 (c : Int)] 5) = v0 := ⟨_, rfl⟩
    rw [hv0] at V0 ⊢
    clear hcv hv0
    rw [rounds_succ]
    have T1 := TL.out v0 V0.out 1 (by decide) (by decide)
    rw [show inD 0 1 = false from rfl] at T1
    have U1 := Lib.hid T1
    clear T1
    go_wp2_with fail
    refine U1.out.mono ?_
    rintro e v1 ⟨rfl, g1⟩
    have V1 := Lib.hid (gr_then V0.out g1)
    clear g1 U1 V0
    go_wp2_with fail
    rw [rounds_succ]
    have T2 := TL.out v1 V1.out 2 (by decide) (by decide)
    rw [show inD 0 2 = false from rfl] at T2
    have U2 := Lib.hid T2
    clear T2
    go_wp2_with fail
    refine U2.out.mono ?_
    rintro e v2 ⟨rfl, g2⟩
    have V2 := Lib.hid (gr_then V1.out g2)
    clear g2 U2 V1
    go_wp2_with fail
    rw [rounds_succ]
    have T3 := TL.out v2 V2.out 3 (by decide) (by decide)
    rw [show inD 0 3 = false from rfl] at T3
    have U3 := Lib.hid T3
    clear T3
    go_wp2_with fail
    refine U3.out.mono ?_
    rintro e v3 ⟨rfl, g3⟩
    have V3 := Lib.hid (gr_then V2.out g3)
    clear g3 U3 V2
    go_wp2_with fail
    rw [rounds_succ]
    have T4 := TL.out v3 V3.out 4 (by decide) (by decide)
    rw [show inD 0 4 = false from rfl] at T4
    have U4 := Lib.hid T4
    clear T4
    go_wp2_with fail
    refine U4.out.mono ?_
    rintro e v4 ⟨rfl, g4⟩
    have V4 := Lib.hid (gr_then V3.out g4)
    clear g4 U4 V3
    go_wp2_with fail
    rw [rounds_succ]
    have T5 := TL.out v4 V4.out 5 (by decide) (by decide)
    rw [show inD 0 5 = false from rfl] at T5
    have U5 := Lib.hid T5
    clear T5
    go_wp2_with fail
    refine U5.out.mono ?_
    rintro e v5 ⟨rfl, g5⟩
    have V5 := Lib.hid (gr_then V4.out g5)
    clear g5 U5 V4
    go_wp2_with fail
    rw [rounds_succ]
    have T6 := TL.out v5 V5.out 6 (by decide) (by decide)
    rw [show inD 0 6 = false from rfl] at T6
    have U6 := Lib.hid T6
    clear T6
    go_wp2_with fail
    refine U6.out.mono ?_
    rintro e v6 ⟨rfl, g6⟩
    have V6 := Lib.hid (gr_then V5.out g6)
    clear g6 U6 V5
    go_wp2_with fail
    rw [rounds_succ]
    have T7 := TL.out v6 V6.out 7 (by decide) (by decide)
    rw [show inD 0 7 = false from rfl] at T7
    have U7 := Lib.hid T7
    clear T7
    go_wp2_with fail
    refine U7.out.mono ?_
    rintro e v7 ⟨rfl, g7⟩
    have V7 := Lib.hid (gr_then V6.out g7)
    clear g7 U7 V6
    go_wp2_with fail
    rw [rounds_succ]
    go_wp2
    go_ret
    exact ⟨rfl, V7.out⟩
  · have hk0 : k = 0 := by have := HKC.out; have := (eq_iff_iff.1 this); omega
    subst hk0
    have hi1 : (32 : Int) ≤ (c : Int) := by omega
    have hi2 : decide ((c : Int) ≤ 126) = false := decide_eq_false (by omega)
    have hi3 : decide (c ≤ 126) = false := decide_eq_false (by omega)
    clear h3
    go_wp2_with fail
    refine wp_loop_rounds 8 ?_
    have V0 := Lib.hid (gr_then G1.out (gr_alloc w1 (.cells #[.int .u8 (c : Int)] 5) none))
    obtain ⟨v0, hv0⟩ : ∃ v0, w1.alloc (.cells #[.int .u8 (c : Int)] 5) = v0 := ⟨_, rfl⟩
    rw [hv0] at V0 ⊢
    clear hcv hv0
    rw [rounds_succ]
    have T1 := TL.out v0 V0.out 1 (by decide) (by decide)
    rw [show inD 0 1 = false from rfl] at T1
    have U1 := Lib.hid T1
    clear T1
    go_wp2_with fail
    refine U1.out.mono ?_
    rintro e v1 ⟨rfl, g1⟩
    have V1 := Lib.hid (gr_then V0.out g1)
    clear g1 U1 V0
    go_wp2_with fail
    rw [rounds_succ]
    have T2 := TL.out v1 V1.out 2 (by decide) (by decide)
    rw [show inD 0 2 = false from rfl] at T2
    have U2 := Lib.hid T2
    clear T2
    go_wp2_with fail
    refine U2.out.mono ?_
    rintro e v2 ⟨rfl, g2⟩
    have V2 := Lib.hid (gr_then V1.out g2)
    clear g2 U2 V1
    go_wp2_with fail
    rw [rounds_succ]
    have T3 := TL.out v2 V2.out 3 (by decide) (by decide)
    rw [show inD 0 3 = false from rfl] at T3
    have U3 := Lib.hid T3
    clear T3
    go_wp2_with fail
    refine U3.out.mono ?_
    rintro e v3 ⟨rfl, g3⟩
    have V3 := Lib.hid (gr_then V2.out g3)
    clear g3 U3 V2
    go_wp2_with fail
    rw [rounds_succ]
    have T4 := TL.out v3 V3.out 4 (by decide) (by decide)
    rw [show inD 0 4 = false from rfl] at T4
    have U4 := Lib.hid T4
    clear T4
    go_wp2_with fail
    refine U4.out.mono ?_
    rintro e v4 ⟨rfl, g4⟩
    have V4 := Lib.hid (gr_then V3.out g4)
    clear g4 U4 V3
    go_wp2_with fail
    rw [rounds_succ]
    have T5 := TL.out v4 V4.out 5 (by decide) (by decide)
    rw [show inD 0 5 = false from rfl] at T5
    have U5 := Lib.hid T5
    clear T5
    go_wp2_with fail
    refine U5.out.mono ?_
    rintro e v5 ⟨rfl, g5⟩
    have V5 := Lib.hid (gr_then V4.out g5)
    clear g5 U5 V4
    go_wp2_with fail
    rw [rounds_succ]
    have T6 := TL.out v5 V5.out 6 (by decide) (by decide)
    rw [show inD 0 6 = false from rfl] at T6
    have U6 := Lib.hid T6
    clear T6
    go_wp2_with fail
    refine U6.out.mono ?_
    rintro e v6 ⟨rfl, g6⟩
    have V6 := Lib.hid (gr_then V5.out g6)
    clear g6 U6 V5
    go_wp2_with fail
    rw [rounds_succ]
    have T7 := TL.out v6 V6.out 7 (by decide) (by decide)
    rw [show inD 0 7 = false from rfl] at T7
    have U7 := Lib.hid T7
    clear T7
    go_wp2_with fail
    refine U7.out.mono ?_
    rintro e v7 ⟨rfl, g7⟩
    have V7 := Lib.hid (gr_then V6.out g7)
    clear g7 U7 V6
    go_wp2_with fail
    rw [rounds_succ]
    go_wp2
    go_ret
    exact ⟨rfl, V7.out⟩
  · have hk0 : k = 1 ∨ k = 2 ∨ k = 3 ∨ k = 5 ∨ k = 6 := by
      have := HKC.out; have := (eq_iff_iff.1 this)
      have h4 : k ≠ 4 := by rw [← HK.out]; exact (clsD_le c).2
      omega
    have hi1 : (32 : Int) ≤ (c : Int) := by omega
    have hi2 : (c : Int) ≤ 126 := by omega
    clear h3
    rcases hk0 with rfl | rfl | rfl | rfl | rfl
    · go_wp2_with fail
      refine wp_loop_rounds 8 ?_
      have V0 := Lib.hid (gr_then G1.out (gr_alloc w1 (.cells #[.int .u8 (c : Int)] 5) none))
      obtain ⟨v0, hv0⟩ : ∃ v0, w1.alloc (.cells #[.int .u8 (c : Int)] 5) = v0 := ⟨_, rfl⟩
      rw [hv0] at V0 ⊢
      clear hcv hv0
      rw [rounds_succ]
      have T1 := TL.out v0 V0.out 1 (by decide) (by decide)
      rw [show inD 1 1 = true from rfl] at T1
      have U1 := Lib.hid T1
      clear T1
      go_wp2_with fail
      refine U1.out.mono ?_
      rintro e v1 ⟨rfl, g1⟩
      have V1 := Lib.hid (gr_then V0.out g1)
      clear g1 U1 V0
      go_wp2_with fail
      rw [rounds_succ]
      have T2 := TL.out v1 V1.out 2 (by decide) (by decide)
      rw [show inD 1 2 = false from rfl] at T2
      have U2 := Lib.hid T2
      clear T2
      go_wp2_with fail
      refine U2.out.mono ?_
      rintro e v2 ⟨rfl, g2⟩
      have V2 := Lib.hid (gr_then V1.out g2)
      clear g2 U2 V1
      go_wp2_with fail
      rw [rounds_succ]
      have T3 := TL.out v2 V2.out 3 (by decide) (by decide)
      rw [show inD 1 3 = false from rfl] at T3
      have U3 := Lib.hid T3
      clear T3
      go_wp2_with fail
      refine U3.out.mono ?_
      rintro e v3 ⟨rfl, g3⟩
      have V3 := Lib.hid (gr_then V2.out g3)
      clear g3 U3 V2
      go_wp2_with fail
      rw [rounds_succ]
      have T4 := TL.out v3 V3.out 4 (by decide) (by decide)
      rw [show inD 1 4 = false from rfl] at T4
      have U4 := Lib.hid T4
      clear T4
      go_wp2_with fail
      refine U4.out.mono ?_
      rintro e v4 ⟨rfl, g4⟩
      have V4 := Lib.hid (gr_then V3.out g4)
      clear g4 U4 V3
      go_wp2_with fail
      rw [rounds_succ]
      have T5 := TL.out v4 V4.out 5 (by decide) (by decide)
      rw [show inD 1 5 = false from rfl] at T5
      have U5 := Lib.hid T5
      clear T5
      go_wp2_with fail
      refine U5.out.mono ?_
      rintro e v5 ⟨rfl, g5⟩
      have V5 := Lib.hid (gr_then V4.out g5)
      clear g5 U5 V4
      go_wp2_with fail
      rw [rounds_succ]
      have T6 := TL.out v5 V5.out 6 (by decide) (by decide)
      rw [show inD 1 6 = false from rfl] at T6
      have U6 := Lib.hid T6
      clear T6
      go_wp2_with fail
      refine U6.out.mono ?_
      rintro e v6 ⟨rfl, g6⟩
      have V6 := Lib.hid (gr_then V5.out g6)
      clear g6 U6 V5
      go_wp2_with fail
      rw [rounds_succ]
      have T7 := TL.out v6 V6.out 7 (by decide) (by decide)
      rw [show inD 1 7 = true from rfl] at T7
      have U7 := Lib.hid T7
      clear T7
      go_wp2_with fail
      refine U7.out.mono ?_
      rintro e v7 ⟨rfl, g7⟩
      have V7 := Lib.hid (gr_then V6.out g7)
      clear g7 U7 V6
      go_wp2_with fail
      rw [rounds_succ]
      go_wp2
      go_ret
      exact ⟨rfl, V7.out⟩
    · go_wp2_with fail
      refine wp_loop_rounds 8 ?_
      have V0 := Lib.hid (gr_then G1.out (gr_alloc w1 (.cells #[.int .u8 (c : Int)] 5) none))
      obtain ⟨v0, hv0⟩ : ∃ v0, w1.alloc (.cells #[.int .u8 (c : Int)] 5) = v0 := ⟨_, rfl⟩
      rw [hv0] at V0 ⊢
      clear hcv hv0
      rw [rounds_succ]
      have T1 := TL.out v0 V0.out 1 (by decide) (by decide)
      rw [show inD 2 1 = false from rfl] at T1
      have U1 := Lib.hid T1
      clear T1
      go_wp2_with fail
      refine U1.out.mono ?_
      rintro e v1 ⟨rfl, g1⟩
      have V1 := Lib.hid (gr_then V0.out g1)
      clear g1 U1 V0
      go_wp2_with fail
      rw [rounds_succ]
      have T2 := TL.out v1 V1.out 2 (by decide) (by decide)
      rw [show inD 2 2 = true from rfl] at T2
      have U2 := Lib.hid T2
      clear T2
      go_wp2_with fail
      refine U2.out.mono ?_
      rintro e v2 ⟨rfl, g2⟩
      have V2 := Lib.hid (gr_then V1.out g2)
      clear g2 U2 V1
      go_wp2_with fail
      rw [rounds_succ]
      have T3 := TL.out v2 V2.out 3 (by decide) (by decide)
      rw [show inD 2 3 = false from rfl] at T3
      have U3 := Lib.hid T3
      clear T3
      go_wp2_with fail
      refine U3.out.mono ?_
      rintro e v3 ⟨rfl, g3⟩
      have V3 := Lib.hid (gr_then V2.out g3)
      clear g3 U3 V2
      go_wp2_with fail
      rw [rounds_succ]
      have T4 := TL.out v3 V3.out 4 (by decide) (by decide)
      rw [show inD 2 4 = true from rfl] at T4
      have U4 := Lib.hid T4
      clear T4
      go_wp2_with fail
      refine U4.out.mono ?_
      rintro e v4 ⟨rfl, g4⟩
      have V4 := Lib.hid (gr_then V3.out g4)
      clear g4 U4 V3
      go_wp2_with fail
      rw [rounds_succ]
      have T5 := TL.out v4 V4.out 5 (by decide) (by decide)
      rw [show inD 2 5 = false from rfl] at T5
      have U5 := Lib.hid T5
      clear T5
      go_wp2_with fail
      refine U5.out.mono ?_
      rintro e v5 ⟨rfl, g5⟩
      have V5 := Lib.hid (gr_then V4.out g5)
      clear g5 U5 V4
      go_wp2_with fail
      rw [rounds_succ]
      have T6 := TL.out v5 V5.out 6 (by decide) (by decide)
      rw [show inD 2 6 = false from rfl] at T6
      have U6 := Lib.hid T6
      clear T6
      go_wp2_with fail
      refine U6.out.mono ?_
      rintro e v6 ⟨rfl, g6⟩
      have V6 := Lib.hid (gr_then V5.out g6)
      clear g6 U6 V5
      go_wp2_with fail
      rw [rounds_succ]
      have T7 := TL.out v6 V6.out 7 (by decide) (by decide)
      rw [show inD 2 7 = true from rfl] at T7
      have U7 := Lib.hid T7
      clear T7
      go_wp2_with fail
      refine U7.out.mono ?_
      rintro e v7 ⟨rfl, g7⟩
      have V7 := Lib.hid (gr_then V6.out g7)
      clear g7 U7 V6
      go_wp2_with fail
      rw [rounds_succ]
      go_wp2
      go_ret
      exact ⟨rfl, V7.out⟩
    · go_wp2_with fail
      refine wp_loop_rounds 8 ?_
      have V0 := Lib.hid (gr_then G1.out (gr_alloc w1 (.cells #[.int .u8 (c : Int)] 5) none))
      obtain ⟨v0, hv0⟩ : ∃ v0, w1.alloc (.cells #[.int .u8 (c : Int)] 5) = v0 := ⟨_, rfl⟩
      rw [hv0] at V0 ⊢
      clear hcv hv0
      rw [rounds_succ]
      have T1 := TL.out v0 V0.out 1 (by decide) (by decide)
      rw [show inD 3 1 = false from rfl] at T1
      have U1 := Lib.hid T1
      clear T1
      go_wp2_with fail
      refine U1.out.mono ?_
      rintro e v1 ⟨rfl, g1⟩
      have V1 := Lib.hid (gr_then V0.out g1)
      clear g1 U1 V0
      go_wp2_with fail
      rw [rounds_succ]
      have T2 := TL.out v1 V1.out 2 (by decide) (by decide)
      rw [show inD 3 2 = false from rfl] at T2
      have U2 := Lib.hid T2
      clear T2
      go_wp2_with fail
      refine U2.out.mono ?_
      rintro e v2 ⟨rfl, g2⟩
      have V2 := Lib.hid (gr_then V1.out g2)
      clear g2 U2 V1
      go_wp2_with fail
      rw [rounds_succ]
      have T3 := TL.out v2 V2.out 3 (by decide) (by decide)
      rw [show inD 3 3 = true from rfl] at T3
      have U3 := Lib.hid T3
      clear T3
      go_wp2_with fail
      refine U3.out.mono ?_
      rintro e v3 ⟨rfl, g3⟩
      have V3 := Lib.hid (gr_then V2.out g3)
      clear g3 U3 V2
      go_wp2_with fail
      rw [rounds_succ]
      have T4 := TL.out v3 V3.out 4 (by decide) (by decide)
      rw [show inD 3 4 = true from rfl] at T4
      have U4 := Lib.hid T4
      clear T4
      go_wp2_with fail
      refine U4.out.mono ?_
      rintro e v4 ⟨rfl, g4⟩
      have V4 := Lib.hid (gr_then V3.out g4)
      clear g4 U4 V3
      go_wp2_with fail
      rw [rounds_succ]
      have T5 := TL.out v4 V4.out 5 (by decide) (by decide)
      rw [show inD 3 5 = false from rfl] at T5
      have U5 := Lib.hid T5
      clear T5
      go_wp2_with fail
      refine U5.out.mono ?_
      rintro e v5 ⟨rfl, g5⟩
      have V5 := Lib.hid (gr_then V4.out g5)
      clear g5 U5 V4
      go_wp2_with fail
      rw [rounds_succ]
      have T6 := TL.out v5 V5.out 6 (by decide) (by decide)
      rw [show inD 3 6 = false from rfl] at T6
      have U6 := Lib.hid T6
      clear T6
      go_wp2_with fail
      refine U6.out.mono ?_
      rintro e v6 ⟨rfl, g6⟩
      have V6 := Lib.hid (gr_then V5.out g6)
      clear g6 U6 V5
      go_wp2_with fail
      rw [rounds_succ]
      have T7 := TL.out v6 V6.out 7 (by decide) (by decide)
      rw [show inD 3 7 = true from rfl] at T7
      have U7 := Lib.hid T7
      clear T7
      go_wp2_with fail
      refine U7.out.mono ?_
      rintro e v7 ⟨rfl, g7⟩
      have V7 := Lib.hid (gr_then V6.out g7)
      clear g7 U7 V6
      go_wp2_with fail
      rw [rounds_succ]
      go_wp2
      go_ret
      exact ⟨rfl, V7.out⟩
    · go_wp2_with fail
      refine wp_loop_rounds 8 ?_
      have V0 := Lib.hid (gr_then G1.out (gr_alloc w1 (.cells #[.int .u8 (c : Int)] 5) none))
      obtain ⟨v0, hv0⟩ : ∃ v0, w1.alloc (.cells #[.int .u8 (c : Int)] 5) = v0 := ⟨_, rfl⟩
      rw [hv0] at V0 ⊢
      clear hcv hv0
      rw [rounds_succ]
      have T1 := TL.out v0 V0.out 1 (by decide) (by decide)
      rw [show inD 5 1 = false from rfl] at T1
      have U1 := Lib.hid T1
      clear T1
      go_wp2_with fail
      refine U1.out.mono ?_
      rintro e v1 ⟨rfl, g1⟩
      have V1 := Lib.hid (gr_then V0.out g1)
      clear g1 U1 V0
      go_wp2_with fail
      rw [rounds_succ]
      have T2 := TL.out v1 V1.out 2 (by decide) (by decide)
      rw [show inD 5 2 = false from rfl] at T2
      have U2 := Lib.hid T2
      clear T2
      go_wp2_with fail
      refine U2.out.mono ?_
      rintro e v2 ⟨rfl, g2⟩
      have V2 := Lib.hid (gr_then V1.out g2)
      clear g2 U2 V1
      go_wp2_with fail
      rw [rounds_succ]
      have T3 := TL.out v2 V2.out 3 (by decide) (by decide)
      rw [show inD 5 3 = false from rfl] at T3
      have U3 := Lib.hid T3
      clear T3
      go_wp2_with fail
      refine U3.out.mono ?_
      rintro e v3 ⟨rfl, g3⟩
      have V3 := Lib.hid (gr_then V2.out g3)
      clear g3 U3 V2
      go_wp2_with fail
      rw [rounds_succ]
      have T4 := TL.out v3 V3.out 4 (by decide) (by decide)
      rw [show inD 5 4 = false from rfl] at T4
      have U4 := Lib.hid T4
      clear T4
      go_wp2_with fail
      refine U4.out.mono ?_
      rintro e v4 ⟨rfl, g4⟩
      have V4 := Lib.hid (gr_then V3.out g4)
      clear g4 U4 V3
      go_wp2_with fail
      rw [rounds_succ]
      have T5 := TL.out v4 V4.out 5 (by decide) (by decide)
      rw [show inD 5 5 = true from rfl] at T5
      have U5 := Lib.hid T5
      clear T5
      go_wp2_with fail
      refine U5.out.mono ?_
      rintro e v5 ⟨rfl, g5⟩
      have V5 := Lib.hid (gr_then V4.out g5)
      clear g5 U5 V4
      go_wp2_with fail
      rw [rounds_succ]
      have T6 := TL.out v5 V5.out 6 (by decide) (by decide)
      rw [show inD 5 6 = false from rfl] at T6
      have U6 := Lib.hid T6
      clear T6
      go_wp2_with fail
      refine U6.out.mono ?_
      rintro e v6 ⟨rfl, g6⟩
      have V6 := Lib.hid (gr_then V5.out g6)
      clear g6 U6 V5
      go_wp2_with fail
      rw [rounds_succ]
      have T7 := TL.out v6 V6.out 7 (by decide) (by decide)
      rw [show inD 5 7 = true from rfl] at T7
      have U7 := Lib.hid T7
      clear T7
      go_wp2_with fail
      refine U7.out.mono ?_
      rintro e v7 ⟨rfl, g7⟩
      have V7 := Lib.hid (gr_then V6.out g7)
      clear g7 U7 V6
      go_wp2_with fail
      rw [rounds_succ]
      go_wp2
      go_ret
      exact ⟨rfl, V7.out⟩
    · go_wp2_with fail
      refine wp_loop_rounds 8 ?_
      have V0 := Lib.hid (gr_then G1.out (gr_alloc w1 (.cells #[.int .u8 (c : Int)] 5) none))
      obtain ⟨v0, hv0⟩ : ∃ v0, w1.alloc (.cells #[.int .u8 (c : Int)] 5) = v0 := ⟨_, rfl⟩
      rw [hv0] at V0 ⊢
      clear hcv hv0
      rw [rounds_succ]
      have T1 := TL.out v0 V0.out 1 (by decide) (by decide)
      rw [show inD 6 1 = false from rfl] at T1
      have U1 := Lib.hid T1
      clear T1
      go_wp2_with fail
      refine U1.out.mono ?_
      rintro e v1 ⟨rfl, g1⟩
      have V1 := Lib.hid (gr_then V0.out g1)
      clear g1 U1 V0
      go_wp2_with fail
      rw [rounds_succ]
      have T2 := TL.out v1 V1.out 2 (by decide) (by decide)
      rw [show inD 6 2 = false from rfl] at T2
      have U2 := Lib.hid T2
      clear T2
      go_wp2_with fail
      refine U2.out.mono ?_
      rintro e v2 ⟨rfl, g2⟩
      have V2 := Lib.hid (gr_then V1.out g2)
      clear g2 U2 V1
      go_wp2_with fail
      rw [rounds_succ]
      have T3 := TL.out v2 V2.out 3 (by decide) (by decide)
      rw [show inD 6 3 = false from rfl] at T3
      have U3 := Lib.hid T3
      clear T3
      go_wp2_with fail
      refine U3.out.mono ?_
      rintro e v3 ⟨rfl, g3⟩
      have V3 := Lib.hid (gr_then V2.out g3)
      clear g3 U3 V2
      go_wp2_with fail
      rw [rounds_succ]
      have T4 := TL.out v3 V3.out 4 (by decide) (by decide)
      rw [show inD 6 4 = false from rfl] at T4
      have U4 := Lib.hid T4
      clear T4
      go_wp2_with fail
      refine U4.out.mono ?_
      rintro e v4 ⟨rfl, g4⟩
      have V4 := Lib.hid (gr_then V3.out g4)
      clear g4 U4 V3
      go_wp2_with fail
      rw [rounds_succ]
      have T5 := TL.out v4 V4.out 5 (by decide) (by decide)
      rw [show inD 6 5 = false from rfl] at T5
      have U5 := Lib.hid T5
      clear T5
      go_wp2_with fail
      refine U5.out.mono ?_
      rintro e v5 ⟨rfl, g5⟩
      have V5 := Lib.hid (gr_then V4.out g5)
      clear g5 U5 V4
      go_wp2_with fail
      rw [rounds_succ]
      have T6 := TL.out v5 V5.out 6 (by decide) (by decide)
      rw [show inD 6 6 = true from rfl] at T6
      have U6 := Lib.hid T6
      clear T6
      go_wp2_with fail
      refine U6.out.mono ?_
      rintro e v6 ⟨rfl, g6⟩
      have V6 := Lib.hid (gr_then V5.out g6)
      clear g6 U6 V5
      go_wp2_with fail
      rw [rounds_succ]
      have T7 := TL.out v6 V6.out 7 (by decide) (by decide)
      rw [show inD 6 7 = true from rfl] at T7
      have U7 := Lib.hid T7
      clear T7
      go_wp2_with fail
      refine U7.out.mono ?_
      rintro e v7 ⟨rfl, g7⟩
      have V7 := Lib.hid (gr_then V6.out g7)
      clear g7 U7 V6
      go_wp2_with fail
      rw [rounds_succ]
      go_wp2
      go_ret
      exact ⟨rfl, V7.out⟩
end Go.Proofs.YtolomjbdnmjcjaaDoor
namespace Go.Proofs.YtolomjbdnmjcjaaDoor
open Go.ChangeShapes Go.WideShapes Go.ChangeAt Go.RowKit Pt

set_option maxRecDepth 1000000 in
set_option maxHeartbeats 4000000 in
theorem class_lifted (os : Os) (started : os.Started) (H : Type) (enc : TypeId × Value → H) :
    ReturnsInHanded {} Tryd.checked os 10 .any (fun w args => (Rows.patternClassSpec.pre enc Tryd.prog Tryd.f10 Rows.patternClassRow.domain false w args ∧ laidMet Tryd.prog Rows.patternClassRow.laid w) ∧ sizedMet enc Tryd.prog Tryd.f10 (OpenSpec.ofChange Rows.patternClassSpec) false w args)
      (Rows.patternClassSpec.post enc Tryd.prog Tryd.f10 false true false false) := by
  refine returnsInHanded_of_change_and (C := Tryd.checked) (X := fun w _ => laidMet Tryd.prog Rows.patternClassRow.laid w) (fun _ _ _ hh h => h.of_heap hh) own0 started (by kernel_rfl) Tryd.func10
    (ChangeSpec.witness_at (enc := enc) (C := Tryd.checked) (os := os) (X := fun w _ => laidMet Tryd.prog Rows.patternClassRow.laid w) false (laidWorld os) #[.int .u8 0] 8 rfl (by kernel_rfl) (by kernel_rfl) (by kernel_rfl) (by kernel_rfl) (by kernel_rfl) (laid_at os _)) ?_
  intro W base args ds gs before hval0 hW hcnd0 _ hL _
  have hval : ∀ (j : Nat) t v, Tryd.f10.params[j]? = some t → args[j]? = some v → Value.okWide Tryd.prog W .any base t v := hval0
  have hW' := hW
  obtain ⟨p, q, hA0, hV, rfl, hfz, hnd⟩ := hW
  have hA : DataW.TrodAll enc Tryd.prog W 0 (fun _ => true) true Tryd.f10.params.toList args.toList ds p := hA0
  rw [Tryd.params10] at hA hval
  obtain ⟨v0, d0, rfl, rfl, h0⟩ := trodAll_one hA
  obtain ⟨rfl, rfl⟩ := trodVars_none hV
  clear hA0 hval0 hA
  simp only [List.append_nil] at hW'
  have k0 := hval 0 5 v0 rfl rfl
  obtain ⟨n0, rfl, w0⟩ := byte_arg k0 h0
  refine (class_true n0 W (tab_of hL) w0).mono fun e W' ⟨he, hg⟩ => ?_
  subst he
  have hb : Below W.heap.size W W' := gr_low hg
  have hlt : ∀ x ∈ p, x.block < W.heap.size := fun x hx => by simpa using hW'.lt x hx
  have hl0 : ∀ x ∈ p, x.block < W.heap.size := fun x hx => hlt x (by simp [hx])
  refine ⟨_, rfl, _, _, _, [], p, [], hW', ?_, ?_, rfl, hb.frame _, fun h => by cases h⟩
  · exact trodAll_mk1 (shut_bool Tryd.underlying4 true)
  · have h3 := trodAll_mk1 (Below.trod laidOut0 (by kernel_rfl) (of_decide_eq_true (by kernel_rfl)) h0 hb hl0)
    exact h3

theorem class_row : Rows.PatternClassSaid :=
  OpenClaim.holds_of_wide 10 Tryd.f10 rfl rfl rfl rfl rfl rfl rfl ⟨rfl, rfl, rfl, rfl, rfl⟩ rfl rfl rfl rfl rfl (by kernel_rfl) Tryd.func10 (by kernel_rfl)
    (of_decide_eq_true (by kernel_rfl)) (by unfold Func.isWrapper; first | (rw [if_pos (by decide +kernel)]; kernel_rfl) | (rw [if_neg (by decide +kernel)]; exact ⟨rfl, rfl⟩))
    (fun os started H enc _ => class_lifted os started H enc)
end Go.Proofs.YtolomjbdnmjcjaaDoor
