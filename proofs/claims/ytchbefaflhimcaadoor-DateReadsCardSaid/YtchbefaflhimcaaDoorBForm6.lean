/- Contracts of the program and of the reference, part 6: RRead, Mod. -/
import Derived.Test.YtchbefaflhimcaaDoorBForm5
namespace Go.Proofs.YtchbefaflhimcaaDoor
open Go.RowKit Mth

/-- One part is read by the reference; the place may be behind the end. -/
def stR (L : List UInt8) (p : Option (Nat × (Nat × Nat × Nat))) (t : Tok) : Option (Nat × (Nat × Nat × Nat)) :=
  match p with
  | none => none
  | some (a, v) => match t with
    | .y4 => if L.length < a then none else some (L.length - (lead 4 0 (L.drop a)).2.length, ((lead 4 0 (L.drop a)).1, v.2))
    | .m2 => if L.length < a then none else some (L.length - (lead 2 0 (L.drop a)).2.length, (v.1, (lead 2 0 (L.drop a)).1, v.2.2))
    | .m1 => if L.length < a then none else some (L.length - (lead 2 0 (L.drop a)).2.length, (v.1, (lead 2 0 (L.drop a)).1, v.2.2))
    | .d2 => if L.length < a then none else some (L.length - (lead 2 0 (L.drop a)).2.length, (v.1, v.2.1, (lead 2 0 (L.drop a)).1))
    | .d1 => if L.length < a then none else some (L.length - (lead 2 0 (L.drop a)).2.length, (v.1, v.2.1, (lead 2 0 (L.drop a)).1))
    | .ch _ => some (a + 1, v)
theorem stR_none (L : List UInt8) (ts : List Tok) : ts.foldl (stR L) none = none := by
  induction ts with
  | nil => rfl
  | cons t ts ih => exact ih
theorem rdR_st (L : List UInt8) (ts : List Tok) (a : Nat) (v : Nat × Nat × Nat) : rdR L ts a v = (ts.foldl (stR L) (some (a, v))).map (·.2) := by
  induction ts generalizing a v with
  | nil => rfl
  | cons t ts ih =>
    rw [List.foldl_cons]
    cases t
    case ch c => exact ih _ _
    all_goals
      simp only [rdR, stR]
      split
      · rw [stR_none]; rfl
      · exact ih _ _
theorem rdR_take {L : List UInt8} {ts : List Tok} {i : Nat} (h : (ts.take i).foldl (stR L) (some (0, (0, 0, 0))) = none) : rdR L ts 0 (0, 0, 0) = none := by
  rw [rdR_st, ← List.take_append_drop i ts, List.foldl_append, h, stR_none]
  rfl
/-- The digits that are read from a place on: j of them so far. -/
theorem lead_at {s : ByteArray} {a j f : Nat} (ha : a ≤ s.size) (hj : a + j ≤ s.size) (hf : j ≤ f) (hd : ∀ c ∈ (s.data.toList.drop a).take j, isDg c = true) (he : j = f ∨ a + j = s.size ∨ ∃ h : a + j < s.size, isDg s[a + j] = false) :
    lead f 0 (s.data.toList.drop a) = (dval 0 ((s.data.toList.drop a).take j), s.data.toList.drop (a + j)) := by
  conv => lhs; rw [← List.take_append_drop j (s.data.toList.drop a)]
  have hl : ((s.data.toList.drop a).take j).length = j := by rw [List.length_take, List.length_drop, len_toList]; omega
  rw [List.drop_drop]
  rw [lead_digits _ _ _ _ hd (by omega)]
  rcases he with rfl | h | ⟨hlt, h⟩
  · exact .inl hl
  · right; left
    rw [List.drop_eq_nil_of_le]
    rw [len_toList]; omega
  · right; right
    refine ⟨s[a + j], s.data.toList.drop (a + j + 1), ?_, h⟩
    rw [List.drop_eq_getElem_cons (by simpa using hlt)]
    rfl
set_option maxRecDepth 100000 in
set_option maxHeartbeats 8000000 in
theorem rread_any (lay s : ByteArray) (w : World) (hs : s.size ≤ 9223372036854775807) :
    Calls Tryd.prog 34 #[.string lay, .string s] w fun e w' => e = .returned (.tuple #[.int .i64 ((readL lay.data.toList s.data.toList).1 : Nat), .bool (readL lay.data.toList s.data.toList).2]) ∧ w.grownBy w' none := by
  cases hr : isRightL lay.data.toList with
  | false =>
    have hf : readL lay.data.toList s.data.toList = (0, false) := by unfold readL; rw [hr]; rfl
    rw [hf]
    have HR := Lib.hid hr
    clear hf hr
    go_enter Tryd.func34, Tryd.ntmps34
    go_wp2_with fail
    refine (rright_l lay w).mono ?_
    rintro e w1 ⟨rfl, hg1⟩
    rw [HR.out]
    go_wp2
    go_ret2
    exact ⟨rfl, hg1⟩
  | true =>
    have hf : readL lay.data.toList s.data.toList = readR (toks lay.data.toList) s.data.toList := by unfold readL; rw [hr, read_same (full_of hr)]; rfl
    rw [hf]
    have HR := Lib.hid hr
    have hl40 : lay.size ≤ 40 := right_len hr
    obtain ⟨ht0, ht40⟩ := right_toks hr
    have HREAL := Lib.hid (toks_real lay.data.toList)
    have HRT := Lib.hid hr
    clear hf hr
    go_enter Tryd.func34, Tryd.ntmps34
    go_wp2_with fail
    refine (rright_l lay w).mono ?_
    rintro e w1 ⟨rfl, hg1⟩
    rw [HR.out]
    go_wp2_with fail
    have hg2 := gr_then hg1 (gr_alloc w1 (.cells #[.int .i64 0, .int .i64 0, .int .i64 0] 22) none)
    have hbox : CN (w1.alloc (.cells #[.int .i64 0, .int .i64 0, .int .i64 0] 22)) w1.heap.size 0 0 0 := heap_alloc_new w1 _
    refine (rparts_any lay _ hl40).mono ?_
    rintro e w3 ⟨⟨v, rfl, hown⟩, hg3⟩
    obtain ⟨g, cap, rfl, hgb, hcap1, hcap2, hcell⟩ := parts_slice hown ht0
    rw [World.size_alloc] at hgb
    have hbox3 : CN w3 w1.heap.size 0 0 0 := own_block hbox hg3 no_row
    have hg := gr_then hg2 hg3
    have hBw : w.heap.size ≤ w1.heap.size := hg1.size
    generalize hts : toks lay.data.toList = ts at *
    have HTS := Lib.hid hts
    obtain ⟨nn, hnn⟩ : ∃ nn, nn = ts.length := ⟨_, rfl⟩
    rw [← hnn] at ht0 ht40 hcap1 ⊢
    have HN := Lib.hid hnn
    have HC0 := Lib.hid hcell
    have hgB : g ≠ w1.heap.size := by omega
    generalize w1.heap.size = B at *
    clear hown hcell hg1 hg2 hg3 hgb hnn HR hts hbox
    go_wp2
    go_loopw [8, 10] (fun o u wr => ∃ (k a : Nat) (v : Nat × Nat × Nat), k ≤ nn ∧ o = .int .i64 (a : Int) ∧ u = .int .i64 (k : Int) ∧ a ≤ 4 * k ∧ Hid ((ts.take k).foldl (stR s.data.toList) (some (0, (0, 0, 0))) = some (a, v)) ∧ Hid (CN wr B v.1 v.2.1 v.2.2) ∧ Hid (∀ j (hj : j < ts.length), wr.cell? ⟨g, j, none⟩ = some (.string ⟨ts[j].txt.toArray⟩)) ∧ w.grownBy wr none) (fun _ u _ => nn - (intOf u).toNat)
    case atStart => exact ⟨0, 0, (0, 0, 0), by omega, by simp, by simp, by omega, Lib.hid (by simp), Lib.hid hbox3, HC0, hg⟩
    case round =>
      obtain ⟨k, a, ⟨v1, v2, v3⟩, hk, rfl, rfl, hak, HS, HCN, HCC, hgr⟩ := hrel
      by_cases hlt : k < nn
      · have hkl : k < ts.length := by rw [← HN.out]; exact hlt
        obtain ⟨x, hx⟩ : ∃ x, x = ts[k] := ⟨_, rfl⟩
        have hck := HCC.out k hkl
        rw [← hx] at hck
        have hxr : Tok_real x = true := by rw [hx]; exact HREAL.out _ (List.getElem_mem _)
        have htk : ts.take (k + 1) = ts.take k ++ [x] := by rw [List.take_add_one, List.getElem?_eq_getElem hkl, hx]; rfl
        have hkz : (k : Int) < (nn : Int) := by omega
        have hnz : (nn : Int) ≤ (cap : Int) := by omega
        have hI : ∀ (a' : Nat) (v' : Nat × Nat × Nat) (W' : World), stR s.data.toList (some (a, (v1, v2, v3))) x = some (a', v') → a' ≤ a + 4 → CN W' B v'.1 v'.2.1 v'.2.2 → wr.grownBy W' (some B) → ∃ (k' a : Nat) (v : Nat × Nat × Nat), k' ≤ nn ∧ Value.int .i64 (a' : Int) = .int .i64 (a : Int) ∧ Value.int .i64 ((k : Int) + 1) = .int .i64 (k' : Int) ∧ a ≤ 4 * k' ∧ Hid ((ts.take k').foldl (stR s.data.toList) (some (0, (0, 0, 0))) = some (a, v)) ∧ Hid (CN W' B v.1 v.2.1 v.2.2) ∧ Hid (∀ j (hj : j < ts.length), W'.cell? ⟨g, j, none⟩ = some (.string ⟨ts[j].txt.toArray⟩)) ∧ w.grownBy W' none := by
          intro a' v' W' h1 h2 h3 h4
          refine ⟨k + 1, a', v', by omega, rfl, by simp, by omega, Lib.hid ?_, Lib.hid h3, Lib.hid (fun j hj => h4.cell (HCC.out j hj) (by simp; omega)), gr_own hgr h4 (fun z e => by cases e; exact hBw)⟩
          rw [htk, List.foldl_append, HS.out]
          exact h1
        have hX : stR s.data.toList (some (a, (v1, v2, v3))) x = none → readR (toks lay.data.toList) s.data.toList = (0, false) := fun h => by
          unfold readR
          rw [HTS.out, rdR_take (i := k + 1) (by rw [htk, List.foldl_append, HS.out]; exact h)]
        have HI := Lib.hid hI
        have HX := Lib.hid hX
        obtain ⟨c0, c1, c2⟩ := HCN.out.cell
        have f0 := HCN.out.froz 0
        have f1 := HCN.out.froz 1
        have f2 := HCN.out.froz 2
        have ha160 : a ≤ 160 := by omega
        clear hx htk hI hX hkl
        cases x
        case y4 =>
          replace hck : wr.cell? ⟨g, k, none⟩ = some (.string ⟨#[89, 89, 89, 89]⟩) := hck
          have haF : wrap64 ((a : Int) + 4) = (a : Int) + 4 := by unfold wrap64; omega
          by_cases hal : a ≤ s.size
          · have hal2 : ¬ ((s.size : Int) < (a : Int)) := by omega
            go_wp2
            go_loopw [12] (fun e wr2 => ∃ j : Nat, j ≤ 4 ∧ a + j ≤ s.size ∧ e = .int .i64 ((a + j : Nat) : Int) ∧ wr = wr2 ∧ Hid (∀ c ∈ (s.data.toList.drop a).take j, isDg c = true)) (fun e _ => 4 + a - (intOf e).toNat)
            case atStart => exact ⟨0, by omega, by omega, by simp, rfl, Lib.hid (by simp)⟩
            case round =>
              obtain ⟨j, hj, haj, rfl, rfl, HDG⟩ := hrel
              by_cases hgo : j < 4 ∧ ∃ h : a + j < s.size, isDg s[a + j] = true
              · obtain ⟨hj4, hjs, hdg⟩ := hgo
                have hv1 : (48 : Int) ≤ (s[a + j].toNat : Int) := by simp only [isDg, Bool.and_eq_true, decide_eq_true_eq] at hdg; omega
                have hv2 : (s[a + j].toNat : Int) ≤ 57 := by simp only [isDg, Bool.and_eq_true, decide_eq_true_eq] at hdg; omega
                have hnew : ∀ c ∈ (s.data.toList.drop a).take (j + 1), isDg c = true := by
                  intro c hc
                  rw [List.take_add_one, List.mem_append] at hc
                  rcases hc with hc | hc
                  · exact HDG.out c hc
                  · rw [List.getElem?_drop, List.getElem?_eq_getElem (by simpa using hjs)] at hc
                    simp only [Option.toList_some, List.mem_singleton] at hc
                    rw [hc]
                    exact hdg
                have HNEW := Lib.hid hnew
                have hz : ((a + j : Nat) : Int) < (s.size : Int) := by omega
                have hz2 : ((a + j : Nat) : Int) < (a : Int) + 4 := by omega
                clear hdg hnew
                go_wp2
                refine ⟨⟨j + 1, by omega, by omega, by congr 1, trivial, HNEW⟩, ?_⟩
                simp only [intOf]
                omega
              · have hstop : j = 4 ∨ a + j = s.size ∨ ∃ h : a + j < s.size, isDg s[a + j] = false := by
                  rcases Nat.lt_or_ge j 4 with h1 | h1
                  · right
                    rcases Nat.lt_or_ge (a + j) s.size with h2 | h2
                    · right
                      refine ⟨h2, ?_⟩
                      cases h3 : isDg s[a + j] with
                      | false => rfl
                      | true => exact absurd ⟨h1, h2, h3⟩ hgo
                    · left; omega
                  · left; omega
                have hl := lead_at hal haj hj HDG.out hstop
                have hst : stR s.data.toList (some (a, (v1, v2, v3))) .y4 = some (a + j, (dval 0 ((s.data.toList.drop a).take j), v2, v3)) := by
                  simp only [stR]
                  rw [if_neg (by rw [len_toList]; omega), hl]
                  simp only [List.length_drop, len_toList]
                  congr 2
                  omega
                have hsz : (s.extract a (a + j)).size ≤ 10 := by rw [ByteArray.size_extract]; omega
                have hnum := rnum_any (s.extract a (a + j)) hsz wr
                rw [ext_list, Nat.add_sub_cancel_left] at hnum
                have hn1 : (numR ((s.data.toList.drop a).take j)).1 = dval 0 ((s.data.toList.drop a).take j) := by unfold numR; rw [if_pos (List.all_eq_true.2 HDG.out)]
                rw [hn1] at hnum
                generalize (numR ((s.data.toList.drop a).take j)).2 = fl at hnum
                generalize dval 0 ((s.data.toList.drop a).take j) = D at *
                have HNUM := Lib.hid hnum
                have HST := Lib.hid hst
                have hz0 : (0 : Int) ≤ (a : Int) := by omega
                have hz1 : (a : Int) ≤ ((a + j : Nat) : Int) := by omega
                have hz3 : ((a + j : Nat) : Int) ≤ (s.size : Int) := by omega
                clear hl hst hnum hn1 hgo HDG hsz
                rcases Nat.lt_or_ge (a + j) s.size with hlt1 | hge1
                · have hy1 : ((a + j : Nat) : Int) < (s.size : Int) := by omega
                  rcases Nat.lt_or_ge j 4 with hlt2 | hge2
                  · have hy2 : ((a + j : Nat) : Int) < (a : Int) + 4 := by omega
                    have hd : isDg s[a + j] = false := by
                      rcases hstop with h | h | ⟨h, h'⟩
                      · omega
                      · omega
                      · exact h'
                    have hd2 : (s[a + j].toNat : Int) < 48 ∨ (48 ≤ (s[a + j].toNat : Int) ∧ ¬ (s[a + j].toNat : Int) ≤ 57) := by
                      simp only [isDg, Bool.and_eq_false_iff, decide_eq_false_iff_not] at hd
                      omega
                    clear hstop hd
                    rcases hd2 with hd2 | ⟨hd2, hd3⟩
                    · have hd3 : ¬ 48 ≤ (s[a + j].toNat : Int) := by omega
                      go_wp2_with fail
                      refine HNUM.out.mono ?_
                      rintro e w5 ⟨rfl, h5⟩
                      have hcn5 := own_block HCN.out h5 no_row
                      have hcn6 : CN (w5.setCell ⟨B, 0, none⟩ (.int .i64 (D : Int))) B D v2 v3 := CN.set hcn5 0 _ rfl
                      have HC6 := Lib.hid hcn6
                      have f0' := CN.froz hcn5 0
                      obtain ⟨c0', c1', c2'⟩ := CN.cell hcn5
                      clear hcn5 hcn6
                      go_wp2
                      refine ⟨HI.out (a + j) (D, v2, v3) _ HST.out (by omega) HC6.out (gr_then h5 (gr_set _ _ _ _)), ?_⟩
                      simp only [intOf]
                      omega
                    · go_wp2_with fail
                      refine HNUM.out.mono ?_
                      rintro e w5 ⟨rfl, h5⟩
                      have hcn5 := own_block HCN.out h5 no_row
                      have hcn6 : CN (w5.setCell ⟨B, 0, none⟩ (.int .i64 (D : Int))) B D v2 v3 := CN.set hcn5 0 _ rfl
                      have HC6 := Lib.hid hcn6
                      have f0' := CN.froz hcn5 0
                      obtain ⟨c0', c1', c2'⟩ := CN.cell hcn5
                      clear hcn5 hcn6
                      go_wp2
                      refine ⟨HI.out (a + j) (D, v2, v3) _ HST.out (by omega) HC6.out (gr_then h5 (gr_set _ _ _ _)), ?_⟩
                      simp only [intOf]
                      omega
                  · have hy2 : ¬ ((a + j : Nat) : Int) < (a : Int) + 4 := by omega
                    clear hstop
                    go_wp2_with fail
                    refine HNUM.out.mono ?_
                    rintro e w5 ⟨rfl, h5⟩
                    have hcn5 := own_block HCN.out h5 no_row
                    have hcn6 : CN (w5.setCell ⟨B, 0, none⟩ (.int .i64 (D : Int))) B D v2 v3 := CN.set hcn5 0 _ rfl
                    have HC6 := Lib.hid hcn6
                    have f0' := CN.froz hcn5 0
                    obtain ⟨c0', c1', c2'⟩ := CN.cell hcn5
                    clear hcn5 hcn6
                    go_wp2
                    refine ⟨HI.out (a + j) (D, v2, v3) _ HST.out (by omega) HC6.out (gr_then h5 (gr_set _ _ _ _)), ?_⟩
                    simp only [intOf]
                    omega
                · have hy1 : ¬ ((a + j : Nat) : Int) < (s.size : Int) := by omega
                  clear hstop
                  go_wp2_with fail
                  refine HNUM.out.mono ?_
                  rintro e w5 ⟨rfl, h5⟩
                  have hcn5 := own_block HCN.out h5 no_row
                  have hcn6 : CN (w5.setCell ⟨B, 0, none⟩ (.int .i64 (D : Int))) B D v2 v3 := CN.set hcn5 0 _ rfl
                  have HC6 := Lib.hid hcn6
                  have f0' := CN.froz hcn5 0
                  obtain ⟨c0', c1', c2'⟩ := CN.cell hcn5
                  clear hcn5 hcn6
                  go_wp2
                  refine ⟨HI.out (a + j) (D, v2, v3) _ HST.out (by omega) HC6.out (gr_then h5 (gr_set _ _ _ _)), ?_⟩
                  simp only [intOf]
                  omega
          · have hal1 : ¬ ((a : Int) < (s.size : Int)) := by omega
            have hal2 : (s.size : Int) < (a : Int) := by omega
            go_wp2
            go_loopw [12] (fun e wr2 => e = .int .i64 (a : Int) ∧ wr = wr2) (fun _ _ => 0)
            case atStart => exact ⟨rfl, rfl⟩
            case round =>
              obtain ⟨rfl, rfl⟩ := hrel
              go_wp2
              go_ret2
              rw [HX.out (by simp only [stR]; rw [if_pos (by rw [len_toList]; omega)])]
              exact ⟨rfl, hgr⟩
        case m2 =>
          replace hck : wr.cell? ⟨g, k, none⟩ = some (.string ⟨#[77, 77]⟩) := hck
          have haF : wrap64 ((a : Int) + 2) = (a : Int) + 2 := by unfold wrap64; omega
          by_cases hal : a ≤ s.size
          · have hal2 : ¬ ((s.size : Int) < (a : Int)) := by omega
            go_wp2
            go_loopw [12] (fun e wr2 => ∃ j : Nat, j ≤ 2 ∧ a + j ≤ s.size ∧ e = .int .i64 ((a + j : Nat) : Int) ∧ wr = wr2 ∧ Hid (∀ c ∈ (s.data.toList.drop a).take j, isDg c = true)) (fun e _ => 2 + a - (intOf e).toNat)
            case atStart => exact ⟨0, by omega, by omega, by simp, rfl, Lib.hid (by simp)⟩
            case round =>
              obtain ⟨j, hj, haj, rfl, rfl, HDG⟩ := hrel
              by_cases hgo : j < 2 ∧ ∃ h : a + j < s.size, isDg s[a + j] = true
              · obtain ⟨hj4, hjs, hdg⟩ := hgo
                have hv1 : (48 : Int) ≤ (s[a + j].toNat : Int) := by simp only [isDg, Bool.and_eq_true, decide_eq_true_eq] at hdg; omega
                have hv2 : (s[a + j].toNat : Int) ≤ 57 := by simp only [isDg, Bool.and_eq_true, decide_eq_true_eq] at hdg; omega
                have hnew : ∀ c ∈ (s.data.toList.drop a).take (j + 1), isDg c = true := by
                  intro c hc
                  rw [List.take_add_one, List.mem_append] at hc
                  rcases hc with hc | hc
                  · exact HDG.out c hc
                  · rw [List.getElem?_drop, List.getElem?_eq_getElem (by simpa using hjs)] at hc
                    simp only [Option.toList_some, List.mem_singleton] at hc
                    rw [hc]
                    exact hdg
                have HNEW := Lib.hid hnew
                have hz : ((a + j : Nat) : Int) < (s.size : Int) := by omega
                have hz2 : ((a + j : Nat) : Int) < (a : Int) + 2 := by omega
                clear hdg hnew
                go_wp2
                refine ⟨⟨j + 1, by omega, by omega, by congr 1, trivial, HNEW⟩, ?_⟩
                simp only [intOf]
                omega
              · have hstop : j = 2 ∨ a + j = s.size ∨ ∃ h : a + j < s.size, isDg s[a + j] = false := by
                  rcases Nat.lt_or_ge j 2 with h1 | h1
                  · right
                    rcases Nat.lt_or_ge (a + j) s.size with h2 | h2
                    · right
                      refine ⟨h2, ?_⟩
                      cases h3 : isDg s[a + j] with
                      | false => rfl
                      | true => exact absurd ⟨h1, h2, h3⟩ hgo
                    · left; omega
                  · left; omega
                have hl := lead_at hal haj hj HDG.out hstop
                have hst : stR s.data.toList (some (a, (v1, v2, v3))) .m2 = some (a + j, (v1, dval 0 ((s.data.toList.drop a).take j), v3)) := by
                  simp only [stR]
                  rw [if_neg (by rw [len_toList]; omega), hl]
                  simp only [List.length_drop, len_toList]
                  congr 2
                  omega
                have hsz : (s.extract a (a + j)).size ≤ 10 := by rw [ByteArray.size_extract]; omega
                have hnum := rnum_any (s.extract a (a + j)) hsz wr
                rw [ext_list, Nat.add_sub_cancel_left] at hnum
                have hn1 : (numR ((s.data.toList.drop a).take j)).1 = dval 0 ((s.data.toList.drop a).take j) := by unfold numR; rw [if_pos (List.all_eq_true.2 HDG.out)]
                rw [hn1] at hnum
                generalize (numR ((s.data.toList.drop a).take j)).2 = fl at hnum
                generalize dval 0 ((s.data.toList.drop a).take j) = D at *
                have HNUM := Lib.hid hnum
                have HST := Lib.hid hst
                have hz0 : (0 : Int) ≤ (a : Int) := by omega
                have hz1 : (a : Int) ≤ ((a + j : Nat) : Int) := by omega
                have hz3 : ((a + j : Nat) : Int) ≤ (s.size : Int) := by omega
                clear hl hst hnum hn1 hgo HDG hsz
                rcases Nat.lt_or_ge (a + j) s.size with hlt1 | hge1
                · have hy1 : ((a + j : Nat) : Int) < (s.size : Int) := by omega
                  rcases Nat.lt_or_ge j 2 with hlt2 | hge2
                  · have hy2 : ((a + j : Nat) : Int) < (a : Int) + 2 := by omega
                    have hd : isDg s[a + j] = false := by
                      rcases hstop with h | h | ⟨h, h'⟩
                      · omega
                      · omega
                      · exact h'
                    have hd2 : (s[a + j].toNat : Int) < 48 ∨ (48 ≤ (s[a + j].toNat : Int) ∧ ¬ (s[a + j].toNat : Int) ≤ 57) := by
                      simp only [isDg, Bool.and_eq_false_iff, decide_eq_false_iff_not] at hd
                      omega
                    clear hstop hd
                    rcases hd2 with hd2 | ⟨hd2, hd3⟩
                    · have hd3 : ¬ 48 ≤ (s[a + j].toNat : Int) := by omega
                      go_wp2_with fail
                      refine HNUM.out.mono ?_
                      rintro e w5 ⟨rfl, h5⟩
                      have hcn5 := own_block HCN.out h5 no_row
                      have hcn6 : CN (w5.setCell ⟨B, 1, none⟩ (.int .i64 (D : Int))) B v1 D v3 := CN.set hcn5 1 _ rfl
                      have HC6 := Lib.hid hcn6
                      have f0' := CN.froz hcn5 1
                      obtain ⟨c0', c1', c2'⟩ := CN.cell hcn5
                      clear hcn5 hcn6
                      go_wp2
                      refine ⟨HI.out (a + j) (v1, D, v3) _ HST.out (by omega) HC6.out (gr_then h5 (gr_set _ _ _ _)), ?_⟩
                      simp only [intOf]
                      omega
                    · go_wp2_with fail
                      refine HNUM.out.mono ?_
                      rintro e w5 ⟨rfl, h5⟩
                      have hcn5 := own_block HCN.out h5 no_row
                      have hcn6 : CN (w5.setCell ⟨B, 1, none⟩ (.int .i64 (D : Int))) B v1 D v3 := CN.set hcn5 1 _ rfl
                      have HC6 := Lib.hid hcn6
                      have f0' := CN.froz hcn5 1
                      obtain ⟨c0', c1', c2'⟩ := CN.cell hcn5
                      clear hcn5 hcn6
                      go_wp2
                      refine ⟨HI.out (a + j) (v1, D, v3) _ HST.out (by omega) HC6.out (gr_then h5 (gr_set _ _ _ _)), ?_⟩
                      simp only [intOf]
                      omega
                  · have hy2 : ¬ ((a + j : Nat) : Int) < (a : Int) + 2 := by omega
                    clear hstop
                    go_wp2_with fail
                    refine HNUM.out.mono ?_
                    rintro e w5 ⟨rfl, h5⟩
                    have hcn5 := own_block HCN.out h5 no_row
                    have hcn6 : CN (w5.setCell ⟨B, 1, none⟩ (.int .i64 (D : Int))) B v1 D v3 := CN.set hcn5 1 _ rfl
                    have HC6 := Lib.hid hcn6
                    have f0' := CN.froz hcn5 1
                    obtain ⟨c0', c1', c2'⟩ := CN.cell hcn5
                    clear hcn5 hcn6
                    go_wp2
                    refine ⟨HI.out (a + j) (v1, D, v3) _ HST.out (by omega) HC6.out (gr_then h5 (gr_set _ _ _ _)), ?_⟩
                    simp only [intOf]
                    omega
                · have hy1 : ¬ ((a + j : Nat) : Int) < (s.size : Int) := by omega
                  clear hstop
                  go_wp2_with fail
                  refine HNUM.out.mono ?_
                  rintro e w5 ⟨rfl, h5⟩
                  have hcn5 := own_block HCN.out h5 no_row
                  have hcn6 : CN (w5.setCell ⟨B, 1, none⟩ (.int .i64 (D : Int))) B v1 D v3 := CN.set hcn5 1 _ rfl
                  have HC6 := Lib.hid hcn6
                  have f0' := CN.froz hcn5 1
                  obtain ⟨c0', c1', c2'⟩ := CN.cell hcn5
                  clear hcn5 hcn6
                  go_wp2
                  refine ⟨HI.out (a + j) (v1, D, v3) _ HST.out (by omega) HC6.out (gr_then h5 (gr_set _ _ _ _)), ?_⟩
                  simp only [intOf]
                  omega
          · have hal1 : ¬ ((a : Int) < (s.size : Int)) := by omega
            have hal2 : (s.size : Int) < (a : Int) := by omega
            go_wp2
            go_loopw [12] (fun e wr2 => e = .int .i64 (a : Int) ∧ wr = wr2) (fun _ _ => 0)
            case atStart => exact ⟨rfl, rfl⟩
            case round =>
              obtain ⟨rfl, rfl⟩ := hrel
              go_wp2
              go_ret2
              rw [HX.out (by simp only [stR]; rw [if_pos (by rw [len_toList]; omega)])]
              exact ⟨rfl, hgr⟩
        case m1 =>
          replace hck : wr.cell? ⟨g, k, none⟩ = some (.string ⟨#[77]⟩) := hck
          have haF : wrap64 ((a : Int) + 2) = (a : Int) + 2 := by unfold wrap64; omega
          by_cases hal : a ≤ s.size
          · have hal2 : ¬ ((s.size : Int) < (a : Int)) := by omega
            go_wp2
            go_loopw [12] (fun e wr2 => ∃ j : Nat, j ≤ 2 ∧ a + j ≤ s.size ∧ e = .int .i64 ((a + j : Nat) : Int) ∧ wr = wr2 ∧ Hid (∀ c ∈ (s.data.toList.drop a).take j, isDg c = true)) (fun e _ => 2 + a - (intOf e).toNat)
            case atStart => exact ⟨0, by omega, by omega, by simp, rfl, Lib.hid (by simp)⟩
            case round =>
              obtain ⟨j, hj, haj, rfl, rfl, HDG⟩ := hrel
              by_cases hgo : j < 2 ∧ ∃ h : a + j < s.size, isDg s[a + j] = true
              · obtain ⟨hj4, hjs, hdg⟩ := hgo
                have hv1 : (48 : Int) ≤ (s[a + j].toNat : Int) := by simp only [isDg, Bool.and_eq_true, decide_eq_true_eq] at hdg; omega
                have hv2 : (s[a + j].toNat : Int) ≤ 57 := by simp only [isDg, Bool.and_eq_true, decide_eq_true_eq] at hdg; omega
                have hnew : ∀ c ∈ (s.data.toList.drop a).take (j + 1), isDg c = true := by
                  intro c hc
                  rw [List.take_add_one, List.mem_append] at hc
                  rcases hc with hc | hc
                  · exact HDG.out c hc
                  · rw [List.getElem?_drop, List.getElem?_eq_getElem (by simpa using hjs)] at hc
                    simp only [Option.toList_some, List.mem_singleton] at hc
                    rw [hc]
                    exact hdg
                have HNEW := Lib.hid hnew
                have hz : ((a + j : Nat) : Int) < (s.size : Int) := by omega
                have hz2 : ((a + j : Nat) : Int) < (a : Int) + 2 := by omega
                clear hdg hnew
                go_wp2
                refine ⟨⟨j + 1, by omega, by omega, by congr 1, trivial, HNEW⟩, ?_⟩
                simp only [intOf]
                omega
              · have hstop : j = 2 ∨ a + j = s.size ∨ ∃ h : a + j < s.size, isDg s[a + j] = false := by
                  rcases Nat.lt_or_ge j 2 with h1 | h1
                  · right
                    rcases Nat.lt_or_ge (a + j) s.size with h2 | h2
                    · right
                      refine ⟨h2, ?_⟩
                      cases h3 : isDg s[a + j] with
                      | false => rfl
                      | true => exact absurd ⟨h1, h2, h3⟩ hgo
                    · left; omega
                  · left; omega
                have hl := lead_at hal haj hj HDG.out hstop
                have hst : stR s.data.toList (some (a, (v1, v2, v3))) .m1 = some (a + j, (v1, dval 0 ((s.data.toList.drop a).take j), v3)) := by
                  simp only [stR]
                  rw [if_neg (by rw [len_toList]; omega), hl]
                  simp only [List.length_drop, len_toList]
                  congr 2
                  omega
                have hsz : (s.extract a (a + j)).size ≤ 10 := by rw [ByteArray.size_extract]; omega
                have hnum := rnum_any (s.extract a (a + j)) hsz wr
                rw [ext_list, Nat.add_sub_cancel_left] at hnum
                have hn1 : (numR ((s.data.toList.drop a).take j)).1 = dval 0 ((s.data.toList.drop a).take j) := by unfold numR; rw [if_pos (List.all_eq_true.2 HDG.out)]
                rw [hn1] at hnum
                generalize (numR ((s.data.toList.drop a).take j)).2 = fl at hnum
                generalize dval 0 ((s.data.toList.drop a).take j) = D at *
                have HNUM := Lib.hid hnum
                have HST := Lib.hid hst
                have hz0 : (0 : Int) ≤ (a : Int) := by omega
                have hz1 : (a : Int) ≤ ((a + j : Nat) : Int) := by omega
                have hz3 : ((a + j : Nat) : Int) ≤ (s.size : Int) := by omega
                clear hl hst hnum hn1 hgo HDG hsz
                rcases Nat.lt_or_ge (a + j) s.size with hlt1 | hge1
                · have hy1 : ((a + j : Nat) : Int) < (s.size : Int) := by omega
                  rcases Nat.lt_or_ge j 2 with hlt2 | hge2
                  · have hy2 : ((a + j : Nat) : Int) < (a : Int) + 2 := by omega
                    have hd : isDg s[a + j] = false := by
                      rcases hstop with h | h | ⟨h, h'⟩
                      · omega
                      · omega
                      · exact h'
                    have hd2 : (s[a + j].toNat : Int) < 48 ∨ (48 ≤ (s[a + j].toNat : Int) ∧ ¬ (s[a + j].toNat : Int) ≤ 57) := by
                      simp only [isDg, Bool.and_eq_false_iff, decide_eq_false_iff_not] at hd
                      omega
                    clear hstop hd
                    rcases hd2 with hd2 | ⟨hd2, hd3⟩
                    · have hd3 : ¬ 48 ≤ (s[a + j].toNat : Int) := by omega
                      go_wp2_with fail
                      refine HNUM.out.mono ?_
                      rintro e w5 ⟨rfl, h5⟩
                      have hcn5 := own_block HCN.out h5 no_row
                      have hcn6 : CN (w5.setCell ⟨B, 1, none⟩ (.int .i64 (D : Int))) B v1 D v3 := CN.set hcn5 1 _ rfl
                      have HC6 := Lib.hid hcn6
                      have f0' := CN.froz hcn5 1
                      obtain ⟨c0', c1', c2'⟩ := CN.cell hcn5
                      clear hcn5 hcn6
                      go_wp2
                      refine ⟨HI.out (a + j) (v1, D, v3) _ HST.out (by omega) HC6.out (gr_then h5 (gr_set _ _ _ _)), ?_⟩
                      simp only [intOf]
                      omega
                    · go_wp2_with fail
                      refine HNUM.out.mono ?_
                      rintro e w5 ⟨rfl, h5⟩
                      have hcn5 := own_block HCN.out h5 no_row
                      have hcn6 : CN (w5.setCell ⟨B, 1, none⟩ (.int .i64 (D : Int))) B v1 D v3 := CN.set hcn5 1 _ rfl
                      have HC6 := Lib.hid hcn6
                      have f0' := CN.froz hcn5 1
                      obtain ⟨c0', c1', c2'⟩ := CN.cell hcn5
                      clear hcn5 hcn6
                      go_wp2
                      refine ⟨HI.out (a + j) (v1, D, v3) _ HST.out (by omega) HC6.out (gr_then h5 (gr_set _ _ _ _)), ?_⟩
                      simp only [intOf]
                      omega
                  · have hy2 : ¬ ((a + j : Nat) : Int) < (a : Int) + 2 := by omega
                    clear hstop
                    go_wp2_with fail
                    refine HNUM.out.mono ?_
                    rintro e w5 ⟨rfl, h5⟩
                    have hcn5 := own_block HCN.out h5 no_row
                    have hcn6 : CN (w5.setCell ⟨B, 1, none⟩ (.int .i64 (D : Int))) B v1 D v3 := CN.set hcn5 1 _ rfl
                    have HC6 := Lib.hid hcn6
                    have f0' := CN.froz hcn5 1
                    obtain ⟨c0', c1', c2'⟩ := CN.cell hcn5
                    clear hcn5 hcn6
                    go_wp2
                    refine ⟨HI.out (a + j) (v1, D, v3) _ HST.out (by omega) HC6.out (gr_then h5 (gr_set _ _ _ _)), ?_⟩
                    simp only [intOf]
                    omega
                · have hy1 : ¬ ((a + j : Nat) : Int) < (s.size : Int) := by omega
                  clear hstop
                  go_wp2_with fail
                  refine HNUM.out.mono ?_
                  rintro e w5 ⟨rfl, h5⟩
                  have hcn5 := own_block HCN.out h5 no_row
                  have hcn6 : CN (w5.setCell ⟨B, 1, none⟩ (.int .i64 (D : Int))) B v1 D v3 := CN.set hcn5 1 _ rfl
                  have HC6 := Lib.hid hcn6
                  have f0' := CN.froz hcn5 1
                  obtain ⟨c0', c1', c2'⟩ := CN.cell hcn5
                  clear hcn5 hcn6
                  go_wp2
                  refine ⟨HI.out (a + j) (v1, D, v3) _ HST.out (by omega) HC6.out (gr_then h5 (gr_set _ _ _ _)), ?_⟩
                  simp only [intOf]
                  omega
          · have hal1 : ¬ ((a : Int) < (s.size : Int)) := by omega
            have hal2 : (s.size : Int) < (a : Int) := by omega
            go_wp2
            go_loopw [12] (fun e wr2 => e = .int .i64 (a : Int) ∧ wr = wr2) (fun _ _ => 0)
            case atStart => exact ⟨rfl, rfl⟩
            case round =>
              obtain ⟨rfl, rfl⟩ := hrel
              go_wp2
              go_ret2
              rw [HX.out (by simp only [stR]; rw [if_pos (by rw [len_toList]; omega)])]
              exact ⟨rfl, hgr⟩
        case d2 =>
          replace hck : wr.cell? ⟨g, k, none⟩ = some (.string ⟨#[68, 68]⟩) := hck
          have haF : wrap64 ((a : Int) + 2) = (a : Int) + 2 := by unfold wrap64; omega
          by_cases hal : a ≤ s.size
          · have hal2 : ¬ ((s.size : Int) < (a : Int)) := by omega
            go_wp2
            go_loopw [12] (fun e wr2 => ∃ j : Nat, j ≤ 2 ∧ a + j ≤ s.size ∧ e = .int .i64 ((a + j : Nat) : Int) ∧ wr = wr2 ∧ Hid (∀ c ∈ (s.data.toList.drop a).take j, isDg c = true)) (fun e _ => 2 + a - (intOf e).toNat)
            case atStart => exact ⟨0, by omega, by omega, by simp, rfl, Lib.hid (by simp)⟩
            case round =>
              obtain ⟨j, hj, haj, rfl, rfl, HDG⟩ := hrel
              by_cases hgo : j < 2 ∧ ∃ h : a + j < s.size, isDg s[a + j] = true
              · obtain ⟨hj4, hjs, hdg⟩ := hgo
                have hv1 : (48 : Int) ≤ (s[a + j].toNat : Int) := by simp only [isDg, Bool.and_eq_true, decide_eq_true_eq] at hdg; omega
                have hv2 : (s[a + j].toNat : Int) ≤ 57 := by simp only [isDg, Bool.and_eq_true, decide_eq_true_eq] at hdg; omega
                have hnew : ∀ c ∈ (s.data.toList.drop a).take (j + 1), isDg c = true := by
                  intro c hc
                  rw [List.take_add_one, List.mem_append] at hc
                  rcases hc with hc | hc
                  · exact HDG.out c hc
                  · rw [List.getElem?_drop, List.getElem?_eq_getElem (by simpa using hjs)] at hc
                    simp only [Option.toList_some, List.mem_singleton] at hc
                    rw [hc]
                    exact hdg
                have HNEW := Lib.hid hnew
                have hz : ((a + j : Nat) : Int) < (s.size : Int) := by omega
                have hz2 : ((a + j : Nat) : Int) < (a : Int) + 2 := by omega
                clear hdg hnew
                go_wp2
                refine ⟨⟨j + 1, by omega, by omega, by congr 1, trivial, HNEW⟩, ?_⟩
                simp only [intOf]
                omega
              · have hstop : j = 2 ∨ a + j = s.size ∨ ∃ h : a + j < s.size, isDg s[a + j] = false := by
                  rcases Nat.lt_or_ge j 2 with h1 | h1
                  · right
                    rcases Nat.lt_or_ge (a + j) s.size with h2 | h2
                    · right
                      refine ⟨h2, ?_⟩
                      cases h3 : isDg s[a + j] with
                      | false => rfl
                      | true => exact absurd ⟨h1, h2, h3⟩ hgo
                    · left; omega
                  · left; omega
                have hl := lead_at hal haj hj HDG.out hstop
                have hst : stR s.data.toList (some (a, (v1, v2, v3))) .d2 = some (a + j, (v1, v2, dval 0 ((s.data.toList.drop a).take j))) := by
                  simp only [stR]
                  rw [if_neg (by rw [len_toList]; omega), hl]
                  simp only [List.length_drop, len_toList]
                  congr 2
                  omega
                have hsz : (s.extract a (a + j)).size ≤ 10 := by rw [ByteArray.size_extract]; omega
                have hnum := rnum_any (s.extract a (a + j)) hsz wr
                rw [ext_list, Nat.add_sub_cancel_left] at hnum
                have hn1 : (numR ((s.data.toList.drop a).take j)).1 = dval 0 ((s.data.toList.drop a).take j) := by unfold numR; rw [if_pos (List.all_eq_true.2 HDG.out)]
                rw [hn1] at hnum
                generalize (numR ((s.data.toList.drop a).take j)).2 = fl at hnum
                generalize dval 0 ((s.data.toList.drop a).take j) = D at *
                have HNUM := Lib.hid hnum
                have HST := Lib.hid hst
                have hz0 : (0 : Int) ≤ (a : Int) := by omega
                have hz1 : (a : Int) ≤ ((a + j : Nat) : Int) := by omega
                have hz3 : ((a + j : Nat) : Int) ≤ (s.size : Int) := by omega
                clear hl hst hnum hn1 hgo HDG hsz
                rcases Nat.lt_or_ge (a + j) s.size with hlt1 | hge1
                · have hy1 : ((a + j : Nat) : Int) < (s.size : Int) := by omega
                  rcases Nat.lt_or_ge j 2 with hlt2 | hge2
                  · have hy2 : ((a + j : Nat) : Int) < (a : Int) + 2 := by omega
                    have hd : isDg s[a + j] = false := by
                      rcases hstop with h | h | ⟨h, h'⟩
                      · omega
                      · omega
                      · exact h'
                    have hd2 : (s[a + j].toNat : Int) < 48 ∨ (48 ≤ (s[a + j].toNat : Int) ∧ ¬ (s[a + j].toNat : Int) ≤ 57) := by
                      simp only [isDg, Bool.and_eq_false_iff, decide_eq_false_iff_not] at hd
                      omega
                    clear hstop hd
                    rcases hd2 with hd2 | ⟨hd2, hd3⟩
                    · have hd3 : ¬ 48 ≤ (s[a + j].toNat : Int) := by omega
                      go_wp2_with fail
                      refine HNUM.out.mono ?_
                      rintro e w5 ⟨rfl, h5⟩
                      have hcn5 := own_block HCN.out h5 no_row
                      have hcn6 : CN (w5.setCell ⟨B, 2, none⟩ (.int .i64 (D : Int))) B v1 v2 D := CN.set hcn5 2 _ rfl
                      have HC6 := Lib.hid hcn6
                      have f0' := CN.froz hcn5 2
                      obtain ⟨c0', c1', c2'⟩ := CN.cell hcn5
                      clear hcn5 hcn6
                      go_wp2
                      refine ⟨HI.out (a + j) (v1, v2, D) _ HST.out (by omega) HC6.out (gr_then h5 (gr_set _ _ _ _)), ?_⟩
                      simp only [intOf]
                      omega
                    · go_wp2_with fail
                      refine HNUM.out.mono ?_
                      rintro e w5 ⟨rfl, h5⟩
                      have hcn5 := own_block HCN.out h5 no_row
                      have hcn6 : CN (w5.setCell ⟨B, 2, none⟩ (.int .i64 (D : Int))) B v1 v2 D := CN.set hcn5 2 _ rfl
                      have HC6 := Lib.hid hcn6
                      have f0' := CN.froz hcn5 2
                      obtain ⟨c0', c1', c2'⟩ := CN.cell hcn5
                      clear hcn5 hcn6
                      go_wp2
                      refine ⟨HI.out (a + j) (v1, v2, D) _ HST.out (by omega) HC6.out (gr_then h5 (gr_set _ _ _ _)), ?_⟩
                      simp only [intOf]
                      omega
                  · have hy2 : ¬ ((a + j : Nat) : Int) < (a : Int) + 2 := by omega
                    clear hstop
                    go_wp2_with fail
                    refine HNUM.out.mono ?_
                    rintro e w5 ⟨rfl, h5⟩
                    have hcn5 := own_block HCN.out h5 no_row
                    have hcn6 : CN (w5.setCell ⟨B, 2, none⟩ (.int .i64 (D : Int))) B v1 v2 D := CN.set hcn5 2 _ rfl
                    have HC6 := Lib.hid hcn6
                    have f0' := CN.froz hcn5 2
                    obtain ⟨c0', c1', c2'⟩ := CN.cell hcn5
                    clear hcn5 hcn6
                    go_wp2
                    refine ⟨HI.out (a + j) (v1, v2, D) _ HST.out (by omega) HC6.out (gr_then h5 (gr_set _ _ _ _)), ?_⟩
                    simp only [intOf]
                    omega
                · have hy1 : ¬ ((a + j : Nat) : Int) < (s.size : Int) := by omega
                  clear hstop
                  go_wp2_with fail
                  refine HNUM.out.mono ?_
                  rintro e w5 ⟨rfl, h5⟩
                  have hcn5 := own_block HCN.out h5 no_row
                  have hcn6 : CN (w5.setCell ⟨B, 2, none⟩ (.int .i64 (D : Int))) B v1 v2 D := CN.set hcn5 2 _ rfl
                  have HC6 := Lib.hid hcn6
                  have f0' := CN.froz hcn5 2
                  obtain ⟨c0', c1', c2'⟩ := CN.cell hcn5
                  clear hcn5 hcn6
                  go_wp2
                  refine ⟨HI.out (a + j) (v1, v2, D) _ HST.out (by omega) HC6.out (gr_then h5 (gr_set _ _ _ _)), ?_⟩
                  simp only [intOf]
                  omega
          · have hal1 : ¬ ((a : Int) < (s.size : Int)) := by omega
            have hal2 : (s.size : Int) < (a : Int) := by omega
            go_wp2
            go_loopw [12] (fun e wr2 => e = .int .i64 (a : Int) ∧ wr = wr2) (fun _ _ => 0)
            case atStart => exact ⟨rfl, rfl⟩
            case round =>
              obtain ⟨rfl, rfl⟩ := hrel
              go_wp2
              go_ret2
              rw [HX.out (by simp only [stR]; rw [if_pos (by rw [len_toList]; omega)])]
              exact ⟨rfl, hgr⟩
        case d1 =>
          replace hck : wr.cell? ⟨g, k, none⟩ = some (.string ⟨#[68]⟩) := hck
          have haF : wrap64 ((a : Int) + 2) = (a : Int) + 2 := by unfold wrap64; omega
          by_cases hal : a ≤ s.size
          · have hal2 : ¬ ((s.size : Int) < (a : Int)) := by omega
            go_wp2
            go_loopw [12] (fun e wr2 => ∃ j : Nat, j ≤ 2 ∧ a + j ≤ s.size ∧ e = .int .i64 ((a + j : Nat) : Int) ∧ wr = wr2 ∧ Hid (∀ c ∈ (s.data.toList.drop a).take j, isDg c = true)) (fun e _ => 2 + a - (intOf e).toNat)
            case atStart => exact ⟨0, by omega, by omega, by simp, rfl, Lib.hid (by simp)⟩
            case round =>
              obtain ⟨j, hj, haj, rfl, rfl, HDG⟩ := hrel
              by_cases hgo : j < 2 ∧ ∃ h : a + j < s.size, isDg s[a + j] = true
              · obtain ⟨hj4, hjs, hdg⟩ := hgo
                have hv1 : (48 : Int) ≤ (s[a + j].toNat : Int) := by simp only [isDg, Bool.and_eq_true, decide_eq_true_eq] at hdg; omega
                have hv2 : (s[a + j].toNat : Int) ≤ 57 := by simp only [isDg, Bool.and_eq_true, decide_eq_true_eq] at hdg; omega
                have hnew : ∀ c ∈ (s.data.toList.drop a).take (j + 1), isDg c = true := by
                  intro c hc
                  rw [List.take_add_one, List.mem_append] at hc
                  rcases hc with hc | hc
                  · exact HDG.out c hc
                  · rw [List.getElem?_drop, List.getElem?_eq_getElem (by simpa using hjs)] at hc
                    simp only [Option.toList_some, List.mem_singleton] at hc
                    rw [hc]
                    exact hdg
                have HNEW := Lib.hid hnew
                have hz : ((a + j : Nat) : Int) < (s.size : Int) := by omega
                have hz2 : ((a + j : Nat) : Int) < (a : Int) + 2 := by omega
                clear hdg hnew
                go_wp2
                refine ⟨⟨j + 1, by omega, by omega, by congr 1, trivial, HNEW⟩, ?_⟩
                simp only [intOf]
                omega
              · have hstop : j = 2 ∨ a + j = s.size ∨ ∃ h : a + j < s.size, isDg s[a + j] = false := by
                  rcases Nat.lt_or_ge j 2 with h1 | h1
                  · right
                    rcases Nat.lt_or_ge (a + j) s.size with h2 | h2
                    · right
                      refine ⟨h2, ?_⟩
                      cases h3 : isDg s[a + j] with
                      | false => rfl
                      | true => exact absurd ⟨h1, h2, h3⟩ hgo
                    · left; omega
                  · left; omega
                have hl := lead_at hal haj hj HDG.out hstop
                have hst : stR s.data.toList (some (a, (v1, v2, v3))) .d1 = some (a + j, (v1, v2, dval 0 ((s.data.toList.drop a).take j))) := by
                  simp only [stR]
                  rw [if_neg (by rw [len_toList]; omega), hl]
                  simp only [List.length_drop, len_toList]
                  congr 2
                  omega
                have hsz : (s.extract a (a + j)).size ≤ 10 := by rw [ByteArray.size_extract]; omega
                have hnum := rnum_any (s.extract a (a + j)) hsz wr
                rw [ext_list, Nat.add_sub_cancel_left] at hnum
                have hn1 : (numR ((s.data.toList.drop a).take j)).1 = dval 0 ((s.data.toList.drop a).take j) := by unfold numR; rw [if_pos (List.all_eq_true.2 HDG.out)]
                rw [hn1] at hnum
                generalize (numR ((s.data.toList.drop a).take j)).2 = fl at hnum
                generalize dval 0 ((s.data.toList.drop a).take j) = D at *
                have HNUM := Lib.hid hnum
                have HST := Lib.hid hst
                have hz0 : (0 : Int) ≤ (a : Int) := by omega
                have hz1 : (a : Int) ≤ ((a + j : Nat) : Int) := by omega
                have hz3 : ((a + j : Nat) : Int) ≤ (s.size : Int) := by omega
                clear hl hst hnum hn1 hgo HDG hsz
                rcases Nat.lt_or_ge (a + j) s.size with hlt1 | hge1
                · have hy1 : ((a + j : Nat) : Int) < (s.size : Int) := by omega
                  rcases Nat.lt_or_ge j 2 with hlt2 | hge2
                  · have hy2 : ((a + j : Nat) : Int) < (a : Int) + 2 := by omega
                    have hd : isDg s[a + j] = false := by
                      rcases hstop with h | h | ⟨h, h'⟩
                      · omega
                      · omega
                      · exact h'
                    have hd2 : (s[a + j].toNat : Int) < 48 ∨ (48 ≤ (s[a + j].toNat : Int) ∧ ¬ (s[a + j].toNat : Int) ≤ 57) := by
                      simp only [isDg, Bool.and_eq_false_iff, decide_eq_false_iff_not] at hd
                      omega
                    clear hstop hd
                    rcases hd2 with hd2 | ⟨hd2, hd3⟩
                    · have hd3 : ¬ 48 ≤ (s[a + j].toNat : Int) := by omega
                      go_wp2_with fail
                      refine HNUM.out.mono ?_
                      rintro e w5 ⟨rfl, h5⟩
                      have hcn5 := own_block HCN.out h5 no_row
                      have hcn6 : CN (w5.setCell ⟨B, 2, none⟩ (.int .i64 (D : Int))) B v1 v2 D := CN.set hcn5 2 _ rfl
                      have HC6 := Lib.hid hcn6
                      have f0' := CN.froz hcn5 2
                      obtain ⟨c0', c1', c2'⟩ := CN.cell hcn5
                      clear hcn5 hcn6
                      go_wp2
                      refine ⟨HI.out (a + j) (v1, v2, D) _ HST.out (by omega) HC6.out (gr_then h5 (gr_set _ _ _ _)), ?_⟩
                      simp only [intOf]
                      omega
                    · go_wp2_with fail
                      refine HNUM.out.mono ?_
                      rintro e w5 ⟨rfl, h5⟩
                      have hcn5 := own_block HCN.out h5 no_row
                      have hcn6 : CN (w5.setCell ⟨B, 2, none⟩ (.int .i64 (D : Int))) B v1 v2 D := CN.set hcn5 2 _ rfl
                      have HC6 := Lib.hid hcn6
                      have f0' := CN.froz hcn5 2
                      obtain ⟨c0', c1', c2'⟩ := CN.cell hcn5
                      clear hcn5 hcn6
                      go_wp2
                      refine ⟨HI.out (a + j) (v1, v2, D) _ HST.out (by omega) HC6.out (gr_then h5 (gr_set _ _ _ _)), ?_⟩
                      simp only [intOf]
                      omega
                  · have hy2 : ¬ ((a + j : Nat) : Int) < (a : Int) + 2 := by omega
                    clear hstop
                    go_wp2_with fail
                    refine HNUM.out.mono ?_
                    rintro e w5 ⟨rfl, h5⟩
                    have hcn5 := own_block HCN.out h5 no_row
                    have hcn6 : CN (w5.setCell ⟨B, 2, none⟩ (.int .i64 (D : Int))) B v1 v2 D := CN.set hcn5 2 _ rfl
                    have HC6 := Lib.hid hcn6
                    have f0' := CN.froz hcn5 2
                    obtain ⟨c0', c1', c2'⟩ := CN.cell hcn5
                    clear hcn5 hcn6
                    go_wp2
                    refine ⟨HI.out (a + j) (v1, v2, D) _ HST.out (by omega) HC6.out (gr_then h5 (gr_set _ _ _ _)), ?_⟩
                    simp only [intOf]
                    omega
                · have hy1 : ¬ ((a + j : Nat) : Int) < (s.size : Int) := by omega
                  clear hstop
                  go_wp2_with fail
                  refine HNUM.out.mono ?_
                  rintro e w5 ⟨rfl, h5⟩
                  have hcn5 := own_block HCN.out h5 no_row
                  have hcn6 : CN (w5.setCell ⟨B, 2, none⟩ (.int .i64 (D : Int))) B v1 v2 D := CN.set hcn5 2 _ rfl
                  have HC6 := Lib.hid hcn6
                  have f0' := CN.froz hcn5 2
                  obtain ⟨c0', c1', c2'⟩ := CN.cell hcn5
                  clear hcn5 hcn6
                  go_wp2
                  refine ⟨HI.out (a + j) (v1, v2, D) _ HST.out (by omega) HC6.out (gr_then h5 (gr_set _ _ _ _)), ?_⟩
                  simp only [intOf]
                  omega
          · have hal1 : ¬ ((a : Int) < (s.size : Int)) := by omega
            have hal2 : (s.size : Int) < (a : Int) := by omega
            go_wp2
            go_loopw [12] (fun e wr2 => e = .int .i64 (a : Int) ∧ wr = wr2) (fun _ _ => 0)
            case atStart => exact ⟨rfl, rfl⟩
            case round =>
              obtain ⟨rfl, rfl⟩ := hrel
              go_wp2
              go_ret2
              rw [HX.out (by simp only [stR]; rw [if_pos (by rw [len_toList]; omega)])]
              exact ⟨rfl, hgr⟩
        case ch c =>
          obtain ⟨f3, f4, f5, f6, f7⟩ := ch_tests hxr
          go_wp2
          refine ⟨HI.out (a + 1) (v1, v2, v3) wr rfl (by omega) HCN.out (gr_alloc0 _ _), ?_⟩
          simp only [intOf]
          omega
      · have hkn : k = nn := by omega
        have hkz : ¬ (k : Int) < (nn : Int) := by omega
        have hall : ts.take k = ts := by rw [List.take_of_length_le]; have := HN.out; omega
        have hfin : readR (toks lay.data.toList) s.data.toList = ans (v1, v2, v3) ts s.data.toList := by
          have h := HS.out
          rw [hall] at h
          unfold readR
          rw [HTS.out, rdR_st, h]
          rfl
        have HF := Lib.hid hfin
        obtain ⟨c0, c1, c2⟩ := HCN.out.cell
        have hnum := rnumber_any (v1 : Nat) (v2 : Nat) (v3 : Nat) wr
        by_cases hval : validC (v1, v2, v3)
        · rw [show numD ((v1 : Nat) : Int) ((v2 : Nat) : Int) ((v3 : Nat) : Int) = (((numC (v1, v2, v3) : Nat) : Int), true) from numD_ok hval] at hnum
          have hle : numC (v1, v2, v3) ≤ 3652058 := numOf_le hval
          have hciv : civ (numC (v1, v2, v3)) = (v1, v2, v3) := Civ.eq ⟨hval, rfl⟩ hle
          have hform : formD lay.data.toList ((numC (v1, v2, v3) : Nat) : Int) = (fmt (v1, v2, v3) ts, true) := by
            unfold formD
            rw [isN_true (by omega), HRT.out, Int.toNat_natCast, hciv, HTS.out]
            rfl
          generalize hNN : numC (v1, v2, v3) = N at *
          have hfmt := fun w => rformat_any lay ((N : Nat) : Int) w
          rw [hform] at hfmt
          have HNUM := Lib.hid hnum
          have HFMT := Lib.hid hfmt
          by_cases hq : fmt (v1, v2, v3) ts = s.data.toList
          · have ha : ans (v1, v2, v3) ts s.data.toList = (N, true) := by unfold ans; rw [if_pos ⟨hval, hq⟩, hNN]
            have hq2 : (⟨(fmt (v1, v2, v3) ts).toArray⟩ : ByteArray) = s := toArray_eq s hq
            have HA := Lib.hid (hfin.trans ha)
            have HQ := Lib.hid hq2
            clear hkn hlt hfin hall hbox3 ha hq hq2 hval hnum hfmt hform hciv hNN
            go_wp2_with fail
            refine HNUM.out.mono ?_
            rintro e w' ⟨rfl, rfl⟩
            go_wp2_with fail
            refine (HFMT.out _).mono ?_
            rintro e w5 ⟨rfl, h5⟩
            rw [HQ.out]
            go_wp2
            go_ret2
            rw [HA.out]
            exact ⟨rfl, gr_then hgr h5⟩
          · have ha : ans (v1, v2, v3) ts s.data.toList = (0, false) := by unfold ans; rw [if_neg (fun h => hq h.2)]
            obtain ⟨q, hqq⟩ : ∃ q : ByteArray, q = ⟨(fmt (v1, v2, v3) ts).toArray⟩ := ⟨_, rfl⟩
            have hne : (q.toList == s.toList) = false := by
              rw [beq_eq_false_iff_ne]
              intro e
              rw [ByteArray.toList_eq, ByteArray.toList_eq, hqq] at e
              exact hq e
            have HA := Lib.hid (hfin.trans ha)
            have HQ := Lib.hid hqq
            clear hkn hlt hfin hall hbox3 ha hq hqq hval hnum hfmt hform hciv hNN
            go_wp2_with fail
            refine HNUM.out.mono ?_
            rintro e w' ⟨rfl, rfl⟩
            go_wp2_with fail
            refine (HFMT.out _).mono ?_
            rintro e w5 ⟨rfl, h5⟩
            rw [← HQ.out]
            go_wp2
            go_ret2
            rw [HA.out]
            exact ⟨rfl, gr_then hgr h5⟩
        · rw [show numD ((v1 : Nat) : Int) ((v2 : Nat) : Int) ((v3 : Nat) : Int) = (0, false) from numD_no hval] at hnum
          have ha : ans (v1, v2, v3) ts s.data.toList = (0, false) := by unfold ans; rw [if_neg (fun h => hval h.1)]
          have HA := Lib.hid (hfin.trans ha)
          have HNUM := Lib.hid hnum
          clear hkn hlt hfin hall hbox3 ha hval hnum
          go_wp2_with fail
          refine HNUM.out.mono ?_
          rintro e w' ⟨rfl, rfl⟩
          go_wp2
          go_ret2
          rw [HA.out]
          exact ⟨rfl, hgr⟩
end Go.Proofs.YtchbefaflhimcaaDoor
namespace Go.Proofs.YtchbefaflhimcaaDoor
open Go.RowKit Mth

/-- The remainder from 0 on. -/
def modD (n m : Int) : Nat := ((n.tmod m + m) % m).toNat
theorem modD_lt {n m : Int} (h : 0 < m) : ((modD n m : Nat) : Int) = (n.tmod m + m) % m ∧ modD n m < m.toNat := by
  have h1 : -m < n.tmod m := Int.lt_tmod_of_pos n h
  have h2 : 0 ≤ (n.tmod m + m) % m := Int.emod_nonneg _ (by omega)
  have h3 : (n.tmod m + m) % m < m := Int.emod_lt_of_pos _ h
  unfold modD
  omega
set_option maxRecDepth 100000 in
set_option maxHeartbeats 1000000 in
theorem mod_any (n m : Int) (h : 0 < m) (h2 : m ≤ 1000000) (w : World) :
    Calls Tryd.prog 32 #[.int .i64 n, .int .i64 m] w fun e w' => e = .returned (.int .i64 (modD n m : Nat)) ∧ w = w' := by
  have e := (modD_lt (n := n) h).1
  rw [e]
  have h0 : (m == 0) = false := by rw [beq_eq_false_iff_ne]; omega
  have hm : ¬ m = 0 := by omega
  have l1 : -m < n.tmod m := Int.lt_tmod_of_pos n h
  have l2 : n.tmod m < m := Int.tmod_lt_of_pos n h
  have l3 : 0 ≤ (n.tmod m + m) % m := Int.emod_nonneg _ (by omega)
  have l4 : (n.tmod m + m) % m < m := Int.emod_lt_of_pos _ h
  have u1 : wrap64 (n.tmod m) = n.tmod m := by unfold wrap64; omega
  have u2 : wrap64 (n.tmod m + m) = n.tmod m + m := by unfold wrap64; omega
  have u3 : wrap64 ((n.tmod m + m) % m) = (n.tmod m + m) % m := by unfold wrap64; omega
  go_enter Tryd.func32, Tryd.ntmps32
  go_wp2
  go_ret
  exact ⟨rfl, rfl⟩
end Go.Proofs.YtchbefaflhimcaaDoor
