/- Contracts of the program and of the reference, part 8: Formats, FormatsRow. -/
import Derived.Test.YtchbefaflhimcaaDoorBForm7
import Derived.SizedLaws
namespace Go.Proofs.YtchbefaflhimcaaDoor
open Go.RowKit Mth

/-- N texts in a block. -/
def Texts (B N : Nat) (w : World) : Prop := ∀ i, i < N → ∃ t : ByteArray, w.cell? ⟨B, i, none⟩ = some (.string t) ∧ t.size ≤ 9223372036854775807
theorem Texts.kept {B N : Nat} {w w1 : World} (h : Texts B N w) (hg : w.grownBy w1 none) : Texts B N w1 := fun i hi => by
  obtain ⟨t, h1, h2⟩ := h i hi
  exact ⟨t, hg.cell h1 (by simp), h2⟩
/-- Two numbers in a block. -/
def Ints2 (B : Nat) (w : World) : Prop := ∀ i, i < 2 → ∃ x : Int, w.cell? ⟨B, i, none⟩ = some (.int .i64 x)
theorem Ints2.kept {B : Nat} {w w1 : World} (h : Ints2 B w) (hg : w.grownBy w1 none) : Ints2 B w1 := fun i hi => by
  obtain ⟨t, h1⟩ := h i hi
  exact ⟨t, hg.cell h1 (by simp)⟩
set_option maxHeartbeats 8000000 in
set_option maxRecDepth 100000 in
theorem formats_true (n : Int) (raw : ByteArray) (q0 q1 q2 : Int) (w : World) (hd : DV w) (_hn : -9223372036854775808 ≤ n ∧ n ≤ 9223372036854775807) (hraw : raw.size ≤ 140737488351232) (h0 : -9223372036854775808 ≤ q0 ∧ q0 ≤ 9223372036854775807) (h1 : -9223372036854775808 ≤ q1 ∧ q1 ≤ 9223372036854775807) (h2 : -9223372036854775808 ≤ q2 ∧ q2 ≤ 9223372036854775807) :
    Calls Tryd.prog 10 #[.int .i64 n, .string raw, .agg #[.int .i64 q0, .int .i64 q1, .int .i64 q2]] w fun e w' => e = .returned (.bool true) ∧ w.grownBy w' none := by
  have hwild := fun b w => lay_any q0 q1 q2 b w h0 h1 h2
  have HL := Lib.hid hwild
  have HD := Lib.hid hd
  obtain ⟨k, hk⟩ : ∃ k, k = bits .and .i64 n 2097151 := ⟨_, rfl⟩
  have HK := Lib.hid hk
  clear hk hwild hd
  go_enter Tryd.func10, Tryd.ntmps10
  go_wp2_with fail
  have RQ : Row (w.alloc (.cells #[.int .i64 q0, .int .i64 q1, .int .i64 q2] 22)) w.heap.size [.int .i64 q0, .int .i64 q1, .int .i64 q2] 22 := Row.new_at rfl
  have g0 := gr_alloc w (.cells #[.int .i64 q0, .int .i64 q1, .int .i64 q2] 22) none
  refine (sanity_any _ (HD.out.grown g0)).mono ?_
  rintro _ w1 ⟨rfl, g1⟩
  have RQ := RQ.kept g1
  have G := gr_then g0 g1
  clear g0 g1
  have y1 : ¬ 9223372036854775807 < 4 + raw.size := by omega
  have y2 : ¬ 9223372036854775807 < 4 + raw.size + 5 := by omega
  go_wp2_with fail
  have hK : ∀ w', w1.grownBy w' none → (w'.cell? ⟨w.heap.size, 0, none⟩ = some (.int .i64 q0) ∧ w'.cell? ⟨w.heap.size, 1, none⟩ = some (.int .i64 q1) ∧ w'.cell? ⟨w.heap.size, 2, none⟩ = some (.int .i64 q2)) := fun w' h => ⟨(RQ.kept h).cell 0 _ rfl, (RQ.kept h).cell 1 _ rfl, (RQ.kept h).cell 2 _ rfl⟩
  have HS := Lib.hid hK
  have HG := Lib.hid G
  clear hK G RQ
  go_region_held3 (fun w' => w'.cell? ⟨w.heap.size, 0, none⟩ = some (.int .i64 q0) ∧ w'.cell? ⟨w.heap.size, 1, none⟩ = some (.int .i64 q1) ∧ w'.cell? ⟨w.heap.size, 2, none⟩ = some (.int .i64 q2))
    ((refine HS.out _ ?_; repeat (first | (with_reducible exact gr_rfl _) | (with_reducible refine gr_al ?_) | (with_reducible refine gr_dr ?_) | (with_reducible refine gr_then ?_ gb) | (with_reducible refine gr_then ?_ ga))))
    (first
    | (go_at_call_of 29 (Value.bool true); refine (HL.out true _).mono ?_; rintro e wb ⟨tb, rfl, hb, -, gb⟩)
    | (go_at_call 29; refine (HL.out false _).mono ?_; rintro e wa ⟨ta, rfl, ha, -, ga⟩))
  all_goals
    have G := gr_then (gr_then (gr_dr HG.out) ga) gb
    go_wp2
    rw [← HK.out]
    have HC : Texts wb.heap.size 4 (wb.alloc (.cells #[.string raw, .string ta, .string tb, .string ((⟨#[89, 89, 89, 89]⟩ : ByteArray) ++ raw ++ ⟨#[77, 77, 46, 68, 68]⟩)] 9)) := by
      have key : ∀ (ys : Array Value) (j : Nat), (wb.alloc (.cells ys 9)).cell? ⟨wb.heap.size, j, none⟩ = ys[j]? := fun ys j => cell_of_row (wb.alloc (.cells ys 9)) wb.heap.size j ys 9 (0, 0) (heap_alloc_new wb _)
      intro i hi
      rcases (show i = 0 ∨ i = 1 ∨ i = 2 ∨ i = 3 by omega) with rfl | rfl | rfl | rfl
      · exact ⟨raw, by rw [key]; rfl, by omega⟩
      · exact ⟨ta, by rw [key]; rfl, by omega⟩
      · exact ⟨tb, by rw [key]; rfl, by omega⟩
      · refine ⟨_, by rw [key]; rfl, ?_⟩
        rw [ByteArray.size_append, ByteArray.size_append]
        show 4 + raw.size + 5 ≤ _
        omega
    have G1 := gr_then G (gr_alloc wb (.cells #[.string raw, .string ta, .string tb, .string ((⟨#[89, 89, 89, 89]⟩ : ByteArray) ++ raw ++ ⟨#[77, 77, 46, 68, 68]⟩)] 9) none)
    clear G ga gb ha hb
    generalize wb.heap.size = bs at HC ⊢
    go_loopw [30] (fun u wr => ∃ i : Nat, i ≤ 4 ∧ u = .int .i64 i ∧ Texts bs 4 wr ∧ w.grownBy wr none) (fun u _ => 4 - (intOf u).toNat)
    case atStart => exact ⟨0, by omega, rfl, HC, G1⟩
    case round =>
      obtain ⟨i, hi, rfl, HCI, hg⟩ := hrel
      clear HC G1
      by_cases hlt : i < 4
      · obtain ⟨t, c0, ht⟩ := HCI i hlt
        have hdb : decide ((i : Int) < 4) = true := by rw [decide_eq_true_eq]; omega
        have HI : Ints2 wr.heap.size (wr.alloc (.cells #[.int .i64 k, .int .i64 n] 3)) := by
          have key : ∀ (ys : Array Value) (j : Nat), (wr.alloc (.cells ys 3)).cell? ⟨wr.heap.size, j, none⟩ = ys[j]? := fun ys j => cell_of_row (wr.alloc (.cells ys 3)) wr.heap.size j ys 3 (0, 0) (heap_alloc_new wr _)
          intro j hj
          rcases (show j = 0 ∨ j = 1 by omega) with rfl | rfl
          · exact ⟨k, by rw [key]; rfl⟩
          · exact ⟨n, by rw [key]; rfl⟩
        have hgI := gr_al (o := .cells #[.int .i64 k, .int .i64 n] 3) hg
        have HCI := HCI.kept (gr_alloc wr (.cells #[.int .i64 k, .int .i64 n] 3) none)
        go_wp2
        clear c0
        generalize wr.heap.size = b2 at HI ⊢
        go_loopw [38] (fun u wq => ∃ j : Nat, j ≤ 2 ∧ u = .int .i64 j ∧ Ints2 b2 wq ∧ Texts bs 4 wq ∧ w.grownBy wq none) (fun u _ => 2 - (intOf u).toNat)
        case atStart => exact ⟨0, by omega, rfl, HI, HCI, hgI⟩
        case round =>
          clear HI HCI hgI
          obtain ⟨j, hj, rfl, HI, HCI, hgI⟩ := hrel
          by_cases hlj : j < 2
          · obtain ⟨x, cx⟩ := HI j hlj
            have p1 := fun w hd => format_any t x w ht hd
            have p2 := fun w => rformat_any t x w
            generalize formD t.data.toList x = z at p1 p2
            obtain ⟨z1, z2⟩ := z
            have P1 := Lib.hid p1
            have P2 := Lib.hid p2
            clear p1 p2
            have HCJ := Lib.hid HCI
            have HIJ := Lib.hid HI
            clear HCI HI
            go_wp2_with fail
            refine (P1.out _ (HD.out.grown hgI)).mono ?_
            rintro _ w9 ⟨rfl, h9⟩
            go_wp2_with fail
            refine (P2.out _).mono ?_
            rintro _ w10 ⟨rfl, h10⟩
            have hh := gr_then h9 h10
            go_wp2
            exact ⟨⟨j + 1, by omega, by go_num, HIJ.out.kept hh, HCJ.out.kept hh, gr_then hgI hh⟩, by simp [intOf]; omega⟩
          · have hge : ¬ j < 2 := hlj
            go_wp2
            exact ⟨⟨i + 1, by omega, by go_num, HCI, hgI⟩, by simp [intOf]; omega⟩
      · have hge : ¬ i < 4 := hlt
        go_wp2
        go_ret
        exact ⟨rfl, hg⟩
end Go.Proofs.YtchbefaflhimcaaDoor
namespace Go.Proofs.YtchbefaflhimcaaDoor
open Go.ChangeShapes Go.WideShapes Go.ChangeAt Go.RowKit Mth

set_option maxRecDepth 100000 in
theorem str_lit {H : Type} {enc : TypeId × Value → H} {W : World} {base : Nat} {v : Value} {d : DataW H} {p : List MemPlace} (hok : Value.okWide Tryd.prog W .any base 9 v) (h : DataW.Trod enc Tryd.prog W 0 (fun _ => true) true 9 v d p) : ∃ s : ByteArray, v = .string s ∧ s.size ≤ maxLen ∧ d = .lit (.string s.data.toList) := by
  obtain ⟨s, rfl⟩ := okWide_string Tryd.underlying9 hok
  obtain ⟨fuel, hf⟩ := h
  refine ⟨s, rfl, ?_⟩
  cases fuel with
  | zero => simp [DataW.trod] at hf
  | succ n =>
    simp [DataW.trod, Value.cells, Tryd.underlying9] at hf
    exact ⟨hf.1, hf.2.1.symm⟩
set_option maxRecDepth 1000000 in
set_option maxHeartbeats 4000000 in
theorem formats_lifted (os : Os) (started : os.Started) (H : Type) (enc : TypeId × Value → H) :
    ReturnsInHanded {} Tryd.checked os 10 .any (fun w args => (Rows.dateFormatsSpec.pre enc Tryd.prog Tryd.f10 Rows.dateFormatsRow.domain false w args ∧ laidMet Tryd.prog Rows.dateFormatsRow.laid w) ∧ sizedMet enc Tryd.prog Tryd.f10 (OpenSpec.ofChange Rows.dateFormatsSpec) false w args)
      (Rows.dateFormatsSpec.post enc Tryd.prog Tryd.f10 false true false false) := by
  refine returnsInHanded_of_change_and (C := Tryd.checked) (X := fun w _ => laidMet Tryd.prog Rows.dateFormatsRow.laid w) (fun _ _ _ hh h => h.of_heap hh) own0 started (by kernel_rfl) Tryd.func10
    (ChangeSpec.witness_at (enc := enc) (C := Tryd.checked) (os := os) (X := fun w _ => laidMet Tryd.prog Rows.dateFormatsRow.laid w) false (laidWorld os) #[.int .i64 0, .string ⟨#[]⟩, .agg #[.int .i64 0, .int .i64 0, .int .i64 0]] 8 rfl (by kernel_rfl) (by kernel_rfl) (by kernel_rfl) (by kernel_rfl) (by kernel_rfl) (laid_at os _)) ?_
  intro W base args ds gs before hval0 hW hcnd0 hsz0 hL _
  have hval : ∀ (j : Nat) t v, Tryd.f10.params[j]? = some t → args[j]? = some v → Value.okWide Tryd.prog W .any base t v := hval0
  have hW' := hW
  obtain ⟨p, q, hA0, hV, rfl, hfz, hnd⟩ := hW
  have hA : DataW.TrodAll enc Tryd.prog W 0 (fun _ => true) true Tryd.f10.params.toList args.toList ds p := hA0
  rw [Tryd.params10] at hA hval
  obtain ⟨v0, v1, v2, d0, d1, d2, p0, p1, p2, rfl, rfl, rfl, h0, h1, h2⟩ := trodAll_three hA
  obtain ⟨rfl, rfl⟩ := trodVars_none hV
  clear hA0 hval0 hA
  simp only [List.append_nil] at hW'
  have k0 := hval 0 3 v0 rfl rfl
  have k1 := hval 1 9 v1 rfl rfl
  have k2 := hval 2 22 v2 rfl rfl
  obtain ⟨n0, rfl, w0⟩ := int_arg k0 h0
  obtain ⟨n1, rfl, _, rfl⟩ := str_lit k1 h1
  have z1 : n1.size ≤ 140737488351232 := sized_string hsz0 (j := 1) (t := 9) (by kernel_rfl) rfl
  obtain ⟨n2_0, n2_1, n2_2, rfl, w2_0, w2_1, w2_2⟩ := arr3_arg Tryd.underlying22 Tryd.underlying3 (by kernel_rfl) (by kernel_rfl) k2 h2
  refine (formats_true n0 n1 n2_0 n2_1 n2_2 W (dv_of hL) w0 z1 (wf_i64 w2_0) (wf_i64 w2_1) (wf_i64 w2_2)).mono fun e W' ⟨he, hg⟩ => ?_
  subst he
  have hb : Below W.heap.size W W' := gr_low hg
  have hlt : ∀ x ∈ p0 ++ p1 ++ p2, x.block < W.heap.size := fun x hx => by simpa using hW'.lt x hx
  have hl0 : ∀ x ∈ p0, x.block < W.heap.size := fun x hx => hlt x (by simp [hx])
  have hl1 : ∀ x ∈ p1, x.block < W.heap.size := fun x hx => hlt x (by simp [hx])
  have hl2 : ∀ x ∈ p2, x.block < W.heap.size := fun x hx => hlt x (by simp [hx])
  refine ⟨_, rfl, _, _, _, [], p0 ++ p1 ++ p2, [], hW', ?_, ?_, rfl, hb.frame _, fun h => by cases h⟩
  · exact trodAll_mk1 (shut_bool Tryd.underlying4 true)
  · have h3 := trodAll_mk3 (Below.trod laidOut0 (by kernel_rfl) (of_decide_eq_true (by kernel_rfl)) h0 hb hl0) (Below.trod laidOut0 (by kernel_rfl) (of_decide_eq_true (by kernel_rfl)) h1 hb hl1) (Below.trod laidOut0 (by kernel_rfl) (of_decide_eq_true (by kernel_rfl)) h2 hb hl2)
    rw [← List.append_assoc] at h3
    exact h3

theorem formats_row : Rows.DateFormatsSaid :=
  OpenClaim.holds_of_wide 10 Tryd.f10 rfl rfl rfl rfl rfl rfl rfl ⟨rfl, rfl, rfl, rfl, rfl⟩ rfl rfl rfl rfl rfl (by kernel_rfl) Tryd.func10 (by kernel_rfl)
    (of_decide_eq_true (by kernel_rfl)) (by unfold Func.isWrapper; first | (rw [if_pos (by decide +kernel)]; kernel_rfl) | (rw [if_neg (by decide +kernel)]; exact ⟨rfl, rfl⟩))
    (fun os started H enc _ => formats_lifted os started H enc)
end Go.Proofs.YtchbefaflhimcaaDoor
