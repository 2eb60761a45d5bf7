/- The law of the claim at the level of the call, and its row: Nb, CoversL, CoversLRow. -/
import Derived.Test.YtolomjbdnmjcjaaDoorBRwo0
namespace Go.Proofs.YtolomjbdnmjcjaaDoor
open Go.RowKit Pt

theorem pcs_form {w : World} {v : Value} {ps : List Pc} (h : Pcs w v ps) : ∃ a c, v = .slice a ps.length c ∧ (ps.length = 0 ∨ ∃ g o, a = some ⟨g, o, none⟩ ∧ g < w.heap.size ∧ PcsAt w g o ps) := by
  rcases h with ⟨rfl, rfl⟩ | ⟨g, o, c, rfl, hb, hp⟩
  · exact ⟨none, 0, rfl, .inl rfl⟩
  · exact ⟨_, c, rfl, .inr ⟨g, o, rfl, hb, hp⟩⟩
theorem lenD_lit {a : Int} {t : ByteArray} : lenD 0 a t = (t.size : Int) := rfl
theorem lenD_run {k a : Int} {t : ByteArray} (h : k ≠ 0) : lenD k a t = a := if_neg h
theorem stays_lit {t : ByteArray} {c : Int} : staysD 0 t c = allD t.data.toList c := rfl
theorem stays_run {k : Int} {t : ByteArray} {c : Int} (h : k ≠ 0) : staysD k t c = contD k c := if_neg h
set_option maxRecDepth 100000 in
set_option maxHeartbeats 8000000 in
theorem rcovers_any (w : World) (v u : Value) (ps qs : List Pc) (hp : Pcs w v ps) (hq : Pcs w u qs) (hn : ps.length ≤ 1000000) (hn' : qs.length ≤ 1000000) (hs : ∀ q ∈ ps, q.t.size ≤ 1000) (hs' : ∀ q ∈ qs, q.t.size ≤ 1000) :
    Calls Tryd.prog 29 #[v, u] w fun e w' => e = .returned (.bool (coversL ps qs)) ∧ w.grownBy w' none := by
  have H1 := Lib.hid (rright_any v ps w hp hn hs)
  have H2 := Lib.hid (fun (w1 : World) (g : w.grownBy w1 none) => rright_any u qs w1 (hq.kept g) hn' hs')
  have HPS := Lib.hid hs
  have HQS := Lib.hid hs'
  have HRR := Lib.hid (fun (h : rightL qs = true) => right_all h)
  obtain ⟨pa, pc, rfl, hpf⟩ := pcs_form hp
  obtain ⟨qa, qc, rfl, hqf⟩ := pcs_form hq
  have HPF := Lib.hid hpf
  have HQF := Lib.hid hqf
  unfold coversL
  have HELEN := Lib.hid (fun (h : ¬ ps.length = qs.length) => each_len h)
  have HENO := Lib.hid (fun (i : Nat) (h : i < ps.length) (hc : covAt ps qs i = false) => each_no (qs := qs) h hc)
  have HEYES := Lib.hid (fun (h : ps.length = qs.length) (hc : ∀ i, i < ps.length → covAt ps qs i = true) => each_yes h hc)
  have HD := Lib.hid (fun (h : ps.length ≠ 1) => allD1_ne (qs := qs) h)
  obtain ⟨n, hnn⟩ : ∃ n, ps.length = n := ⟨_, rfl⟩
  obtain ⟨m, hmm⟩ : ∃ m, qs.length = m := ⟨_, rfl⟩
  have HN := Lib.hid hnn
  have HM := Lib.hid hmm
  rw [hnn] at hn H1 HPF ⊢
  rw [hmm] at hn' H2 HQF ⊢
  generalize hE : eachD ps qs = E at *
  generalize hDD : allD1 ps qs = D at *
  have HDD := Lib.hid hDD
  generalize rightL ps = r at *
  generalize rightL qs = r' at *
  clear hp hq hs hs' hpf hqf hnn hmm hE hDD
  go_enter Tryd.func29, Tryd.ntmps29
  go_wp2_with fail
  refine H1.out.mono ?_
  rintro e w1 ⟨rfl, g1⟩
  cases r
  · go_wp2
    go_ret
    exact ⟨rfl, g1⟩
  have K2 := Lib.hid (H2.out w1 g1)
  have G1 := Lib.hid g1
  clear g1
  go_wp2_with fail
  refine K2.out.mono ?_
  rintro e w2 ⟨rfl, g2⟩
  have G2 := gr_then G1.out g2
  clear g2
  cases r'
  · go_wp2
    go_ret
    exact ⟨rfl, G2⟩
  have HG2 := Lib.hid G2
  have HR := Lib.hid (HRR.out (by first | rfl | trivial))
  clear G2 H1 H2 K2 HRR G1
  have hb0 : ((n : Int) == (m : Int)) = decide (n = m) := by
    rw [Bool.eq_iff_iff, beq_iff_eq, decide_eq_true_eq]; omega
  obtain ⟨b0, hb1⟩ : ∃ b0, decide (n = m) = b0 := ⟨_, rfl⟩
  rw [hb1] at hb0
  have hb2 : decide ((n : Int) = (m : Int)) = b0 := by rw [← hb1]; exact decide_eq_decide.2 (by omega)
  have HB1 := Lib.hid hb1
  go_wp2_with fail
  go_loopw [5, 6] (fun s i wr => ∃ (j : Nat) (b : Bool), j ≤ n ∧ i = .int .i64 (j : Int) ∧ s = .bool b ∧ w2.grownBy wr none ∧ Hid (b = true → n = m ∧ ∀ k, k < j → covAt ps qs k = true) ∧ Hid (b = false → E = false)) (fun _ i _ => n - (intOf i).toNat)
  case atStart => exact ⟨0, b0, Nat.zero_le _, rfl, rfl, gr_rfl w2, Lib.hid (fun h => ⟨by have := HB1.out; rw [h] at this; simpa using this, fun k hk => by omega⟩), Lib.hid (fun h => HELEN.out (by rw [HN.out, HM.out]; have := HB1.out; rw [h] at this; simpa using this))⟩
  case round =>
    obtain ⟨j, b, hj, rfl, rfl, Gj, HT1, HT2⟩ := hrel
    clear hb0 hb1 hb2
    have GG := Lib.hid (gr_then HG2.out Gj)
    cases b
    · have hE : E = false := HT2.out rfl
      subst hE
      by_cases hlt : j < n
      · have hlti : (j : Int) < (n : Int) := by omega
        by_cases h1 : n = 1
        · have hb1 : ((n : Int) != 1) = false := by rw [h1]; rfl
          have hn0 : (0 : Int) < (n : Int) := by omega
          have hn00 : 0 < n := by omega
          obtain ⟨⟨p0, p1, p2, p3⟩, rfl⟩ : ∃ p, ps = [p] := List.length_eq_one_iff.1 (HN.out.trans h1)
          obtain ⟨g, o, rfl, hb, hpa⟩ := HPF.out.resolve_left (by omega)
          have hcell := hpa 0 (by simp)
          simp only [List.getElem_cons_zero, Nat.zero_mul, Nat.add_zero] at hcell
          have HC := Lib.hid hcell
          obtain ⟨c0, c1, c2, c3⟩ := cells4 hb GG.out hcell
          have HDA := Lib.hid (show allCov ⟨p0, p1, p2, p3⟩ qs = D from HDD.out)
          clear hcell hpa h1
          by_cases hk : p0 = 0
          · have hkb : (p0 == 0) = true := by rw [hk]; rfl
            have hD : D = false := by rw [← HDA.out]; exact allCov_lit hk
            subst hD
            clear hk
            go_wp2
            go_ret
            exact ⟨rfl, GG.out⟩
          · have hkb : (p0 == 0) = false := by rw [beq_eq_false_iff_ne]; exact hk
            have HK := Lib.hid hk
            clear hk
            go_wp2_with fail
            go_loopw [7, 8, 9] (fun a b i wx => ∃ x : Nat, x ≤ m ∧ i = .int .i64 (x : Int) ∧ a = .int .i64 (leastL (qs.take x)) ∧ b = .int .i64 (mostL (qs.take x)) ∧ (0 ≤ leastL (qs.take x) ∧ leastL (qs.take x) ≤ 1000 * (x : Int)) ∧ (0 ≤ mostL (qs.take x) ∧ mostL (qs.take x) ≤ 1000 * (x : Int)) ∧ w.grownBy wx none ∧ Hid (∀ k (h : k < qs.length), k < x → staysD qs[k].k qs[k].t p0 = true)) (fun _ _ i _ => m - (intOf i).toNat)
            case atStart => exact ⟨0, Nat.zero_le _, rfl, rfl, rfl, ⟨Int.le_refl _, Int.le_refl _⟩, ⟨Int.le_refl _, Int.le_refl _⟩, GG.out, Lib.hid (fun k h h' => by omega)⟩
            case round =>
              clear c0 c1 c2 c3 hkb hb1
              obtain ⟨x, hx, rfl, rfl, rfl, hA, hB, Gx, HA⟩ := hrel
              by_cases hlt : x < m
              · have hb1 : (x : Int) < (m : Int) := by omega
                have hlr : x < qs.length := by rw [HM.out]; exact hlt
                have hst := HQS.out _ (List.getElem_mem hlr)
                have hl := len_le (HR.out _ (List.getElem_mem hlr)) hst
                have HNX := Lib.hid (And.intro (least_next hlr) (most_next hlr))
                have HNO2 := Lib.hid (fun h => show D = false by rw [← HDA.out]; exact allCov_no (p := ⟨p0, p1, p2, p3⟩) hlr h)
                have HST := Lib.hid (fun (h : staysD qs[x].k qs[x].t p0 = true) (k : Nat) (hk : k < qs.length) (hkj : k < x + 1) => show staysD qs[k].k qs[k].t p0 = true from by
                  rcases Nat.lt_or_ge k x with h' | h'
                  · exact HA.out k hk h'
                  · obtain rfl : k = x := by omega
                    exact h)
                obtain ⟨g', o', rfl, hb', hqa⟩ := HQF.out.resolve_left (by omega)
                have HQC := Lib.hid (fun (wy : World) (gy : w.grownBy wy none) => (hqa.kept hb' gy) x hlr)
                clear hqa
                generalize qs[x].k = qk at *
                generalize qs[x].a = qa at *
                generalize qs[x].b = qb at *
                generalize qs[x].t = qt at *
                obtain ⟨d0, d1, d2, d3⟩ := HQC.out wr Gx
                obtain ⟨c0, c1, c2, c3⟩ := cells4 hb Gx HC.out
                have h1 := HNX.out.1
                have h2 := HNX.out.2
                obtain ⟨⟨a0, a1⟩, b0, b1⟩ := hl
                obtain ⟨A, eA⟩ : ∃ A, leastL (qs.take x) = A := ⟨_, rfl⟩
                obtain ⟨B, eB⟩ : ∃ B, mostL (qs.take x) = B := ⟨_, rfl⟩
                rw [eA] at hA ⊢
                rw [eB] at hB ⊢
                have HE := Lib.hid (And.intro eA eB)
                have hA0 := hA.1
                have hB0 := hB.1
                have hA1 : A ≤ 1000000000 := by omega
                have hB1 : B ≤ 1000000000 := by omega
                have HAB := Lib.hid (And.intro hA hB)
                have HGX := Lib.hid Gx
                have GXd := Lib.hid (gr_dr Gx)
                clear eA eB hA hB h1 h2 Gx
                by_cases hq0 : qk = 0
                · subst hq0
                  rw [lenD_lit] at a0 a1 b0 b1
                  rw [lenD_lit, lenD_lit] at HNX
                  rw [stays_lit] at HNO2 HST
                  have HLA := Lib.hid (fun w => rall_any qt p0 w (by omega))
                  go_wp2_with fail
                  go_region_with (go_at_call 45; refine (HLA.out _).mono ?_; rintro e w5 ⟨rfl, rfl⟩)
                  all_goals (
                    clear c0 c1 c2 c3 d0 d1 d2 d3 hb1
                    obtain ⟨d0, d1, d2, d3⟩ := HQC.out wr HGX.out
                    cases hs : allD qt.data.toList p0
                    · have hD : D = false := HNO2.out hs
                      subst hD
                      clear hs d0 d1 d2 d3
                      go_wp2
                      go_ret
                      exact ⟨rfl, GXd.out⟩
                    · have HS := Lib.hid (HST.out hs)
                      clear hs
                      obtain ⟨J, hJ⟩ : ∃ J, (x : Int) = J := ⟨_, rfl⟩
                      have hJ0 : 0 ≤ J := by omega
                      have hJ1 : J + 1 ≤ 9223372036854775807 := by omega
                      have hJm : J < (m : Int) := by omega
                      have hxJ : x = J.toNat := by omega
                      rw [hJ]
                      rw [hxJ] at d0 d1 d2 d3
                      have HJ := Lib.hid hJ
                      clear hJ hxJ
                      go_wp2
                      exact ⟨⟨x + 1, by omega, by rw [← HJ.out]; go_num, by rw [HNX.out.1, HE.out.1], by rw [HNX.out.2, HE.out.2], by have := HAB.out; rw [HNX.out.1, HE.out.1]; omega, by have := HAB.out; rw [HNX.out.2, HE.out.2]; omega, GXd.out, Lib.hid HS.out⟩, by have hq := HJ.out; simp only [intOf]; omega⟩)
                · have hq0b : (qk == 0) = false := by rw [beq_eq_false_iff_ne]; exact hq0
                  rw [lenD_run hq0] at a0 a1 b0 b1
                  rw [lenD_run hq0, lenD_run hq0] at HNX
                  rw [stays_run hq0] at HNO2 HST
                  have HCO := Lib.hid (fun w => rcont_any p0 qk w)
                  clear hq0
                  go_wp2_with fail
                  go_region_with (go_at_call 49; refine (HCO.out _).mono ?_; rintro e w5 ⟨rfl, rfl⟩)
                  all_goals (
                    clear c0 c1 c2 c3 d0 d1 d2 d3 hb1
                    obtain ⟨d0, d1, d2, d3⟩ := HQC.out wr HGX.out
                    cases hs : contD qk p0
                    · have hD : D = false := HNO2.out hs
                      subst hD
                      clear hs d0 d1 d2 d3
                      go_wp2
                      go_ret
                      exact ⟨rfl, GXd.out⟩
                    · have HS := Lib.hid (HST.out hs)
                      clear hs
                      obtain ⟨J, hJ⟩ : ∃ J, (x : Int) = J := ⟨_, rfl⟩
                      have hJ0 : 0 ≤ J := by omega
                      have hJ1 : J + 1 ≤ 9223372036854775807 := by omega
                      have hJm : J < (m : Int) := by omega
                      have hxJ : x = J.toNat := by omega
                      rw [hJ]
                      rw [hxJ] at d0 d1 d2 d3
                      have HJ := Lib.hid hJ
                      clear hJ hxJ
                      go_wp2
                      exact ⟨⟨x + 1, by omega, by rw [← HJ.out]; go_num, by rw [HNX.out.1, HE.out.1], by rw [HNX.out.2, HE.out.2], by have := HAB.out; rw [HNX.out.1, HE.out.1]; omega, by have := HAB.out; rw [HNX.out.2, HE.out.2]; omega, GXd.out, Lib.hid HS.out⟩, by have hq := HJ.out; simp only [intOf]; omega⟩)
              · obtain rfl : x = m := by omega
                have hfull : qs.take x = qs := List.take_of_length_le (by rw [HM.out]; exact Nat.le_refl _)
                rw [hfull] at hA hB ⊢
                have HY := Lib.hid (show D = _ from HDA.out.symm.trans (allCov_yes (p := ⟨p0, p1, p2, p3⟩) (qs := qs) HK.out (fun i hi => HA.out i hi (by rw [← HM.out]; exact hi))))
                obtain ⟨c0, c1, c2, c3⟩ := cells4 hb Gx HC.out
                generalize leastL qs = A at *
                generalize mostL qs = B at *
                have hmin : min B 200 = B ∨ min B 200 = 200 := by omega
                by_cases h1 : p1 ≤ A
                · by_cases h2 : min B 200 ≤ p2
                  · have hd2 : decide (min B 200 ≤ p2) = true := decide_eq_true h2
                    go_wp2
                    go_ret
                    exact ⟨by rw [HY.out, decide_eq_true h1, decide_eq_true h2]; rfl, Gx⟩
                  · have hd2 : decide (min B 200 ≤ p2) = false := decide_eq_false h2
                    have HD2 := Lib.hid hd2
                    go_wp2
                    go_ret
                    exact ⟨by rw [HY.out, decide_eq_true h1, HD2.out]; rfl, Gx⟩
                · go_wp2
                  go_ret
                  exact ⟨by rw [HY.out, decide_eq_false (by omega : ¬ p1 ≤ A)]; rfl, Gx⟩
        · have hb1 : ((n : Int) != 1) = true := by rw [bne_iff_ne]; omega
          have hD : D = false := HD.out (by rw [HN.out]; exact h1)
          subst hD
          clear h1
          go_wp2
          go_ret
          exact ⟨rfl, GG.out⟩
      · have hlti : ¬ (j : Int) < (n : Int) := by omega
        by_cases h1 : n = 1
        · have hb1 : ((n : Int) != 1) = false := by rw [h1]; rfl
          have hn0 : (0 : Int) < (n : Int) := by omega
          have hn00 : 0 < n := by omega
          obtain ⟨⟨p0, p1, p2, p3⟩, rfl⟩ : ∃ p, ps = [p] := List.length_eq_one_iff.1 (HN.out.trans h1)
          obtain ⟨g, o, rfl, hb, hpa⟩ := HPF.out.resolve_left (by omega)
          have hcell := hpa 0 (by simp)
          simp only [List.getElem_cons_zero, Nat.zero_mul, Nat.add_zero] at hcell
          have HC := Lib.hid hcell
          obtain ⟨c0, c1, c2, c3⟩ := cells4 hb GG.out hcell
          have HDA := Lib.hid (show allCov ⟨p0, p1, p2, p3⟩ qs = D from HDD.out)
          clear hcell hpa h1
          by_cases hk : p0 = 0
          · have hkb : (p0 == 0) = true := by rw [hk]; rfl
            have hD : D = false := by rw [← HDA.out]; exact allCov_lit hk
            subst hD
            clear hk
            go_wp2
            go_ret
            exact ⟨rfl, GG.out⟩
          · have hkb : (p0 == 0) = false := by rw [beq_eq_false_iff_ne]; exact hk
            have HK := Lib.hid hk
            clear hk
            go_wp2_with fail
            go_loopw [7, 8, 9] (fun a b i wx => ∃ x : Nat, x ≤ m ∧ i = .int .i64 (x : Int) ∧ a = .int .i64 (leastL (qs.take x)) ∧ b = .int .i64 (mostL (qs.take x)) ∧ (0 ≤ leastL (qs.take x) ∧ leastL (qs.take x) ≤ 1000 * (x : Int)) ∧ (0 ≤ mostL (qs.take x) ∧ mostL (qs.take x) ≤ 1000 * (x : Int)) ∧ w.grownBy wx none ∧ Hid (∀ k (h : k < qs.length), k < x → staysD qs[k].k qs[k].t p0 = true)) (fun _ _ i _ => m - (intOf i).toNat)
            case atStart => exact ⟨0, Nat.zero_le _, rfl, rfl, rfl, ⟨Int.le_refl _, Int.le_refl _⟩, ⟨Int.le_refl _, Int.le_refl _⟩, GG.out, Lib.hid (fun k h h' => by omega)⟩
            case round =>
              clear c0 c1 c2 c3 hkb hb1
              obtain ⟨x, hx, rfl, rfl, rfl, hA, hB, Gx, HA⟩ := hrel
              by_cases hlt : x < m
              · have hb1 : (x : Int) < (m : Int) := by omega
                have hlr : x < qs.length := by rw [HM.out]; exact hlt
                have hst := HQS.out _ (List.getElem_mem hlr)
                have hl := len_le (HR.out _ (List.getElem_mem hlr)) hst
                have HNX := Lib.hid (And.intro (least_next hlr) (most_next hlr))
                have HNO2 := Lib.hid (fun h => show D = false by rw [← HDA.out]; exact allCov_no (p := ⟨p0, p1, p2, p3⟩) hlr h)
                have HST := Lib.hid (fun (h : staysD qs[x].k qs[x].t p0 = true) (k : Nat) (hk : k < qs.length) (hkj : k < x + 1) => show staysD qs[k].k qs[k].t p0 = true from by
                  rcases Nat.lt_or_ge k x with h' | h'
                  · exact HA.out k hk h'
                  · obtain rfl : k = x := by omega
                    exact h)
                obtain ⟨g', o', rfl, hb', hqa⟩ := HQF.out.resolve_left (by omega)
                have HQC := Lib.hid (fun (wy : World) (gy : w.grownBy wy none) => (hqa.kept hb' gy) x hlr)
                clear hqa
                generalize qs[x].k = qk at *
                generalize qs[x].a = qa at *
                generalize qs[x].b = qb at *
                generalize qs[x].t = qt at *
                obtain ⟨d0, d1, d2, d3⟩ := HQC.out wr Gx
                obtain ⟨c0, c1, c2, c3⟩ := cells4 hb Gx HC.out
                have h1 := HNX.out.1
                have h2 := HNX.out.2
                obtain ⟨⟨a0, a1⟩, b0, b1⟩ := hl
                obtain ⟨A, eA⟩ : ∃ A, leastL (qs.take x) = A := ⟨_, rfl⟩
                obtain ⟨B, eB⟩ : ∃ B, mostL (qs.take x) = B := ⟨_, rfl⟩
                rw [eA] at hA ⊢
                rw [eB] at hB ⊢
                have HE := Lib.hid (And.intro eA eB)
                have hA0 := hA.1
                have hB0 := hB.1
                have hA1 : A ≤ 1000000000 := by omega
                have hB1 : B ≤ 1000000000 := by omega
                have HAB := Lib.hid (And.intro hA hB)
                have HGX := Lib.hid Gx
                have GXd := Lib.hid (gr_dr Gx)
                clear eA eB hA hB h1 h2 Gx
                by_cases hq0 : qk = 0
                · subst hq0
                  rw [lenD_lit] at a0 a1 b0 b1
                  rw [lenD_lit, lenD_lit] at HNX
                  rw [stays_lit] at HNO2 HST
                  have HLA := Lib.hid (fun w => rall_any qt p0 w (by omega))
                  go_wp2_with fail
                  go_region_with (go_at_call 45; refine (HLA.out _).mono ?_; rintro e w5 ⟨rfl, rfl⟩)
                  all_goals (
                    clear c0 c1 c2 c3 d0 d1 d2 d3 hb1
                    obtain ⟨d0, d1, d2, d3⟩ := HQC.out wr HGX.out
                    cases hs : allD qt.data.toList p0
                    · have hD : D = false := HNO2.out hs
                      subst hD
                      clear hs d0 d1 d2 d3
                      go_wp2
                      go_ret
                      exact ⟨rfl, GXd.out⟩
                    · have HS := Lib.hid (HST.out hs)
                      clear hs
                      obtain ⟨J, hJ⟩ : ∃ J, (x : Int) = J := ⟨_, rfl⟩
                      have hJ0 : 0 ≤ J := by omega
                      have hJ1 : J + 1 ≤ 9223372036854775807 := by omega
                      have hJm : J < (m : Int) := by omega
                      have hxJ : x = J.toNat := by omega
                      rw [hJ]
                      rw [hxJ] at d0 d1 d2 d3
                      have HJ := Lib.hid hJ
                      clear hJ hxJ
                      go_wp2
                      exact ⟨⟨x + 1, by omega, by rw [← HJ.out]; go_num, by rw [HNX.out.1, HE.out.1], by rw [HNX.out.2, HE.out.2], by have := HAB.out; rw [HNX.out.1, HE.out.1]; omega, by have := HAB.out; rw [HNX.out.2, HE.out.2]; omega, GXd.out, Lib.hid HS.out⟩, by have hq := HJ.out; simp only [intOf]; omega⟩)
                · have hq0b : (qk == 0) = false := by rw [beq_eq_false_iff_ne]; exact hq0
                  rw [lenD_run hq0] at a0 a1 b0 b1
                  rw [lenD_run hq0, lenD_run hq0] at HNX
                  rw [stays_run hq0] at HNO2 HST
                  have HCO := Lib.hid (fun w => rcont_any p0 qk w)
                  clear hq0
                  go_wp2_with fail
                  go_region_with (go_at_call 49; refine (HCO.out _).mono ?_; rintro e w5 ⟨rfl, rfl⟩)
                  all_goals (
                    clear c0 c1 c2 c3 d0 d1 d2 d3 hb1
                    obtain ⟨d0, d1, d2, d3⟩ := HQC.out wr HGX.out
                    cases hs : contD qk p0
                    · have hD : D = false := HNO2.out hs
                      subst hD
                      clear hs d0 d1 d2 d3
                      go_wp2
                      go_ret
                      exact ⟨rfl, GXd.out⟩
                    · have HS := Lib.hid (HST.out hs)
                      clear hs
                      obtain ⟨J, hJ⟩ : ∃ J, (x : Int) = J := ⟨_, rfl⟩
                      have hJ0 : 0 ≤ J := by omega
                      have hJ1 : J + 1 ≤ 9223372036854775807 := by omega
                      have hJm : J < (m : Int) := by omega
                      have hxJ : x = J.toNat := by omega
                      rw [hJ]
                      rw [hxJ] at d0 d1 d2 d3
                      have HJ := Lib.hid hJ
                      clear hJ hxJ
                      go_wp2
                      exact ⟨⟨x + 1, by omega, by rw [← HJ.out]; go_num, by rw [HNX.out.1, HE.out.1], by rw [HNX.out.2, HE.out.2], by have := HAB.out; rw [HNX.out.1, HE.out.1]; omega, by have := HAB.out; rw [HNX.out.2, HE.out.2]; omega, GXd.out, Lib.hid HS.out⟩, by have hq := HJ.out; simp only [intOf]; omega⟩)
              · obtain rfl : x = m := by omega
                have hfull : qs.take x = qs := List.take_of_length_le (by rw [HM.out]; exact Nat.le_refl _)
                rw [hfull] at hA hB ⊢
                have HY := Lib.hid (show D = _ from HDA.out.symm.trans (allCov_yes (p := ⟨p0, p1, p2, p3⟩) (qs := qs) HK.out (fun i hi => HA.out i hi (by rw [← HM.out]; exact hi))))
                obtain ⟨c0, c1, c2, c3⟩ := cells4 hb Gx HC.out
                generalize leastL qs = A at *
                generalize mostL qs = B at *
                have hmin : min B 200 = B ∨ min B 200 = 200 := by omega
                by_cases h1 : p1 ≤ A
                · by_cases h2 : min B 200 ≤ p2
                  · have hd2 : decide (min B 200 ≤ p2) = true := decide_eq_true h2
                    go_wp2
                    go_ret
                    exact ⟨by rw [HY.out, decide_eq_true h1, decide_eq_true h2]; rfl, Gx⟩
                  · have hd2 : decide (min B 200 ≤ p2) = false := decide_eq_false h2
                    have HD2 := Lib.hid hd2
                    go_wp2
                    go_ret
                    exact ⟨by rw [HY.out, decide_eq_true h1, HD2.out]; rfl, Gx⟩
                · go_wp2
                  go_ret
                  exact ⟨by rw [HY.out, decide_eq_false (by omega : ¬ p1 ≤ A)]; rfl, Gx⟩
        · have hb1 : ((n : Int) != 1) = true := by rw [bne_iff_ne]; omega
          have hD : D = false := HD.out (by rw [HN.out]; exact h1)
          subst hD
          clear h1
          go_wp2
          go_ret
          exact ⟨rfl, GG.out⟩
    · obtain ⟨hnm, hall⟩ := HT1.out rfl
      by_cases hlt : j < n
      · have hlti : (j : Int) < (n : Int) := by omega
        have hjm : (j : Int) < (m : Int) := by omega
        have hk1 : IntKind.i64.wrap ((j : Int) + 1) = (j : Int) + 1 := IntWalk.i64_in _ (by omega)
        have hjp : j < ps.length := by rw [HN.out]; exact hlt
        have hjq : j < qs.length := by rw [HM.out]; omega
        obtain ⟨g, o, rfl, hb, hpa⟩ := HPF.out.resolve_left (by omega)
        obtain ⟨g', o', rfl, hb', hqa⟩ := HQF.out.resolve_left (by omega)
        obtain ⟨c0, c1, c2, c3⟩ := (hpa.kept hb GG.out) j hjp
        obtain ⟨d0, d1, d2, d3⟩ := (hqa.kept hb' GG.out) j hjq
        have hqt := HQS.out _ (List.getElem_mem hjq)
        have HC := Lib.hid (fun w => rcov_any ps[j].k ps[j].a ps[j].b ps[j].t qs[j].k qs[j].a qs[j].b qs[j].t w (by omega))
        have hcov := covAt_some hjp hjq
        have HALL := Lib.hid hall
        have HNM := Lib.hid hnm
        have HNO := Lib.hid (HENO.out j hjp)
        have HCV := Lib.hid hcov
        rw [hcov] at HNO
        clear hqt hpa hqa hcov hall hnm HT1 HT2
        generalize covD ps[j].k ps[j].a ps[j].b ps[j].t qs[j].k qs[j].a qs[j].b qs[j].t = cv at *
        go_wp2_with fail
        go_region_with (go_at_call 48; refine (HC.out _).mono ?_; rintro e w3 ⟨rfl, g3⟩)
        all_goals (
          have G3 := gr_then (gr_dr Gj) g3
          clear c0 c1 c2 c3 d0 d1 d2 d3 g3
          go_wp2
          refine ⟨⟨j + 1, cv, by omega, rfl, rfl, G3, Lib.hid (fun h => ⟨HNM.out, fun k hk => ?_⟩), Lib.hid (fun h => HNO.out h)⟩, by simp only [intOf]; omega⟩
          rcases Nat.lt_or_ge k j with h' | h'
          · exact HALL.out k h'
          · obtain rfl : k = j := by omega
            rw [HCV.out]; exact h)
      · have hlti : ¬ (j : Int) < (n : Int) := by omega
        obtain rfl : j = n := by omega
        have hE : E = true := HEYES.out (by rw [HN.out, HM.out]; exact hnm) (by rw [HN.out]; exact hall)
        clear hall
        subst hE
        go_wp2
        go_ret
        exact ⟨rfl, GG.out⟩
end Go.Proofs.YtolomjbdnmjcjaaDoor
namespace Go.Proofs.YtolomjbdnmjcjaaDoor
open Go.RowKit Pt

theorem cov_self (p : Pc) : covD p.k p.a p.b p.t p.k p.a p.b p.t = true := by
  unfold covD
  by_cases h : p.k = 0
  · rw [if_pos h, decide_eq_true h]; simp
  · rw [if_neg h, lenD_run h, lenD_run h, stays_run h]
    unfold contD
    simp
theorem covers_self (ps : List Pc) : coversL ps ps = rightL ps := by
  have h : eachD ps ps = true := each_yes rfl (fun i hi => by rw [covAt_some hi hi]; exact cov_self _)
  unfold coversL
  rw [h]
  cases rightL ps <;> rfl
set_option maxRecDepth 100000 in
set_option maxHeartbeats 4000000 in
theorem covers_true (l0 l1 raw : Value) (w : World) (ht : TabP w) (hl : IntsA w l0) (hl' : IntsA w l1) (hraw : RawA w raw) : Calls Tryd.prog 8 #[.agg #[l0, l1], raw] w fun e w' => e = .returned (.bool true) ∧ w.grownBy w' none := by
  obtain ⟨wb, hwb⟩ : ∃ wb, w.alloc (.cells #[l0, l1] 36) = wb := ⟨_, rfl⟩
  have gb : w.grownBy wb none := by rw [← hwb]; exact gr_alloc _ _ _
  have RB := Row.new w [l0, l1] 36
  simp only [List.toArray] at RB
  rw [hwb] at RB
  have HRB := Lib.hid RB
  have GB := Lib.hid gb
  have HS := Lib.hid (sanity_any wb (tabis_grown ht gb))
  have HT := Lib.hid ht
  have HM := Lib.hid (fun (w1 : World) (g : w.grownBy w1 none) => made_any w1 l0 (hl.kept g))
  have HM' := Lib.hid (fun (w1 : World) (g : w.grownBy w1 none) => made_any w1 l1 (hl'.kept g))
  obtain ⟨ra, n, rc, rfl, hF⟩ := hraw
  have HF := Lib.hid hF
  have HWB := Lib.hid hwb
  clear ht hl hl' hF gb RB hwb
  go_enter Tryd.func8, Tryd.ntmps8
  go_wp2_with fail
  rw [HWB.out]
  refine HS.out.mono ?_
  rintro e w1 ⟨rfl, g1⟩
  have R1 := HRB.out.kept g1
  have b0 := R1.cell 0 _ rfl
  have b1 := R1.cell 1 _ rfl
  have HR1 := Lib.hid R1
  have G1 := Lib.hid (gr_then GB.out g1)
  clear g1 HS R1
  go_wp2_with fail
  refine (HM.out w1 G1.out).mono ?_
  rintro e w2 ⟨u, ps, rfl, hu, hlen, hgood, g2⟩
  have R2 := HR1.out.kept g2
  clear b0 b1
  have b1 := R2.cell 1 _ rfl
  have G2 := Lib.hid (gr_then G1.out g2)
  have HU := Lib.hid (fun (w3 : World) (g : w2.grownBy w3 none) => hu.kept g)
  have hsz : ∀ p ∈ ps, p.t.size ≤ 1000 := fun p hp => by have := (hgood p hp).t; omega
  have HSZ := Lib.hid (And.intro (show ps.length ≤ 1000000 by omega) hsz)
  clear g2 G1 hu hgood hlen hsz HM R2
  go_wp2_with fail
  refine (HM'.out w2 G2.out).mono ?_
  rintro e w4 ⟨v, qs, rfl, hv, hlen, hgood, g4⟩
  have G24 := Lib.hid g4
  have G4 := Lib.hid (gr_then G2.out g4)
  have HV := Lib.hid (fun (w3 : World) (g : w4.grownBy w3 none) => hv.kept g)
  have hsz : ∀ p ∈ qs, p.t.size ≤ 1000 := fun p hp => by have := (hgood p hp).t; omega
  have HSV := Lib.hid (And.intro (show qs.length ≤ 1000000 by omega) hsz)
  clear g4 hv hgood hlen hsz HM' b1
  go_wp2_with fail
  go_loopw [8, 9] (fun u i wr => ∃ (m : Nat) (acc : List Pc), m ≤ 4 ∧ i = .int .i64 (m : Int) ∧ acc.length = m ∧ (∀ p ∈ acc, p.t.size ≤ 20) ∧ Hid (PF wr w4.heap.size u acc) ∧ Hid (w4.grownBy wr none)) (fun _ i _ => 7 - (intOf i).toNat)
  case atStart => exact ⟨0, [], by omega, rfl, rfl, by simp, Lib.hid (World.ownsRow_nil _ _ _ _), Lib.hid (gr_rfl w4)⟩
  case round =>
    obtain ⟨m, acc, hm, rfl, hacc, hsm, HA, G0⟩ := hrel
    by_cases hc : m < n ∧ m < 4
    · obtain ⟨h1, h2⟩ := hc
      have h1i : (m : Int) < (n : Int) := by omega
      have h2i : (m : Int) < 4 := by omega
      obtain ⟨g, o, F, rfl, hb, _, hFF⟩ := HF.out.resolve_left (by omega)
      have G5 := Lib.hid (gr_then G4.out G0.out)
      obtain ⟨c0, c1, c2, c3, c4⟩ := hFF m h1
      replace c0 := G5.out.cell c0 (by simp)
      replace c1 := G5.out.cell c1 (by simp)
      replace c2 := G5.out.cell c2 (by simp)
      replace c3 := G5.out.cell c3 (by simp)
      generalize F m = p at *
      have HC : Hid (∀ w0 : World, Calls Tryd.prog 15 #[.string p.t, .int .i64 20] w0 fun e w' => e = .returned (.string (p.t.extract 0 (min p.t.size 20))) ∧ w0.grownBy w' none) := Lib.hid (fun w0 => cut_any p.t 20 w0 c4)
      have hcut := cut_le p.t 20
      clear hFF
      obtain ⟨X, hX⟩ : ∃ X, wr.heap.size = X := ⟨_, rfl⟩
      obtain ⟨wx, hwx⟩ : ∃ wx, wr.alloc (.cells #[.int .i64 p.k, .int .i64 p.a, .int .i64 p.b, .string p.t] 31) = wx := ⟨_, rfl⟩
      have gx : wr.grownBy wx none := by rw [← hwx]; exact gr_alloc _ _ _
      have R0 := Row.new wr [.int .i64 p.k, .int .i64 p.a, .int .i64 p.b, .string p.t] 31
      simp only [List.toArray] at R0
      rw [hwx, hX] at R0
      have HGX := Lib.hid gx
      have HXX := Lib.hid hX
      have HXL := Lib.hid (show w4.heap.size ≤ X by have := G0.out.size; omega)
      have HWX := Lib.hid hwx
      clear gx hwx
      go_wp2_with fail
      rw [HWX.out]
      generalize p.t.extract 0 (min p.t.size 20) = tx at *
      refine (HC.out wx).mono ?_
      rintro e w5 ⟨rfl, g5⟩
      have R1 := R0.kept g5
      have f3 := R1.fr 3
      have d3 := R1.cell 3 _ rfl
      have R2 := R1.set 3 (.string tx)
      obtain ⟨wz, hwz⟩ : ∃ wz, w5.setCell ⟨X, 3, none⟩ (.string tx) = wz := ⟨_, rfl⟩
      rw [hwz] at R2
      have GZ : wr.grownBy wz (some X) := by rw [← hwz]; exact gr_trans (gr_trans (gr_b HGX.out X) (gr_b g5 X) (.inr rfl) (.inr (.inl rfl))) (gr_set w5 X 3 (.string tx)) (.inr rfl) (.inr (.inl rfl))
      have t0 := R2.cell 0 _ rfl
      have t1 := R2.cell 1 _ rfl
      have t2 := R2.cell 2 _ rfl
      have t3 := R2.cell 3 _ rfl
      have GZN := gr_new G0.out GZ HXL.out
      obtain ⟨v5, w6, r5, f5, g6, _⟩ := app_p0 w4 wz u8 acc ⟨p.k, p.a, p.b, tx⟩ (HA.out.keptX GZ HXX.out) (by omega) GZN
      have F5 := Lib.hid f5
      have G6 := Lib.hid g6
      clear f5 g6 g5 R0 R1 R2 GZ c0 c1 c2 c3
      simp only at r5
      go_wp2_with (at_builtin; refine wpList_call_append rfl (.tmp 37) (.tmp 39) 23 rfl _ _ rfl rfl _ _ r5 ?_)
      refine ⟨⟨m + 1, acc ++ [⟨p.k, p.a, p.b, tx⟩], by omega, rfl, by rw [List.length_append, List.length_singleton]; omega, fun x hx => ?_, F5, G6⟩, by simp only [intOf]; omega⟩
      rcases List.mem_append.1 hx with h | h
      · exact hsm x h
      · obtain rfl := List.mem_singleton.1 h
        exact hcut
    · have hsm2 : ∀ p ∈ acc, p.t.size ≤ 1000 := fun p hp => by have := hsm p hp; omega
      have hal : acc.length ≤ 1000000 := by omega
      have G5 := Lib.hid (gr_then G4.out G0.out)
      have HTB := Lib.hid (fun (w0 : World) (g : wr.grownBy w0 none) => tabis_grown HT.out (gr_then G5.out g))
      have HPP := Lib.hid (fun (w0 : World) (g : wr.grownBy w0 none) => HU.out w0 (gr_then G24.out (gr_then G0.out g)))
      have HPQ := Lib.hid (fun (w0 : World) (g : wr.grownBy w0 none) => HV.out w0 (gr_then G0.out g))
      have HPO := Lib.hid (fun (w0 : World) (g : wr.grownBy w0 none) => HA.out.pcs.kept g)
      have A1 := Lib.hid (fun (w0 : World) (g : wr.grownBy w0 none) => pcovers_any w0 u v ps qs (HTB.out w0 g) (HPP.out w0 g) (HPQ.out w0 g) HSZ.out.1 HSV.out.1 HSZ.out.2 HSV.out.2)
      have B1 := Lib.hid (fun (w0 : World) (g : wr.grownBy w0 none) => rcovers_any w0 u v ps qs (HPP.out w0 g) (HPQ.out w0 g) HSZ.out.1 HSV.out.1 HSZ.out.2 HSV.out.2)
      have A2 := Lib.hid (fun (w0 : World) (g : wr.grownBy w0 none) => pcovers_any w0 v u qs ps (HTB.out w0 g) (HPQ.out w0 g) (HPP.out w0 g) HSV.out.1 HSZ.out.1 HSV.out.2 HSZ.out.2)
      have B2 := Lib.hid (fun (w0 : World) (g : wr.grownBy w0 none) => rcovers_any w0 v u qs ps (HPQ.out w0 g) (HPP.out w0 g) HSV.out.1 HSZ.out.1 HSV.out.2 HSZ.out.2)
      have A3 := Lib.hid (fun (w0 : World) (g : wr.grownBy w0 none) => pcovers_any w0 u8 v acc qs (HTB.out w0 g) (HPO.out w0 g) (HPQ.out w0 g) hal HSV.out.1 hsm2 HSV.out.2)
      have B3 := Lib.hid (fun (w0 : World) (g : wr.grownBy w0 none) => rcovers_any w0 u8 v acc qs (HPO.out w0 g) (HPQ.out w0 g) hal HSV.out.1 hsm2 HSV.out.2)
      have A4 := Lib.hid (fun (w0 : World) (g : wr.grownBy w0 none) => pcovers_any w0 v u8 qs acc (HTB.out w0 g) (HPQ.out w0 g) (HPO.out w0 g) HSV.out.1 hal HSV.out.2 hsm2)
      have B4 := Lib.hid (fun (w0 : World) (g : wr.grownBy w0 none) => rcovers_any w0 v u8 qs acc (HPQ.out w0 g) (HPO.out w0 g) HSV.out.1 hal HSV.out.2 hsm2)
      have A5 := Lib.hid (fun (w0 : World) (g : wr.grownBy w0 none) => (covers_self ps) ▸ pcovers_any w0 u u ps ps (HTB.out w0 g) (HPP.out w0 g) (HPP.out w0 g) HSZ.out.1 HSZ.out.1 HSZ.out.2 HSZ.out.2)
      have B5 := Lib.hid (fun (w0 : World) (g : wr.grownBy w0 none) => rright_any u ps w0 (HPP.out w0 g) HSZ.out.1 HSZ.out.2)
      have GR := Lib.hid (gr_rfl wr)
      generalize coversL ps qs = k1 at *
      generalize coversL qs ps = k2 at *
      generalize coversL acc qs = k3 at *
      generalize coversL qs acc = k4 at *
      generalize rightL ps = k5 at *
      clear hm hacc hsm hsm2 hal HTB HPP HPQ HPO
      by_cases h1 : m < n
      · have h1i : (m : Int) < (n : Int) := by omega
        have h2i : decide ((m : Int) < 4) = false := decide_eq_false (by omega)
        have h2n : decide (m < 4) = false := decide_eq_false (by omega)
        clear hc
        go_wp2_with fail
        refine (A1.out wr GR.out).mono ?_
        rintro e w10 ⟨rfl, g10⟩
        have H10 := Lib.hid (gr_then GR.out g10)
        clear g10
        go_wp2_with fail
        refine (B1.out w10 H10.out).mono ?_
        rintro e w11 ⟨rfl, g11⟩
        have H11 := Lib.hid (gr_then H10.out g11)
        clear g11
        go_wp2_with fail
        refine (A2.out w11 H11.out).mono ?_
        rintro e w12 ⟨rfl, g12⟩
        have H12 := Lib.hid (gr_then H11.out g12)
        clear g12
        go_wp2_with fail
        refine (B2.out w12 H12.out).mono ?_
        rintro e w13 ⟨rfl, g13⟩
        have H13 := Lib.hid (gr_then H12.out g13)
        clear g13
        go_wp2_with fail
        refine (A3.out w13 H13.out).mono ?_
        rintro e w14 ⟨rfl, g14⟩
        have H14 := Lib.hid (gr_then H13.out g14)
        clear g14
        go_wp2_with fail
        refine (B3.out w14 H14.out).mono ?_
        rintro e w15 ⟨rfl, g15⟩
        have H15 := Lib.hid (gr_then H14.out g15)
        clear g15
        go_wp2_with fail
        refine (A4.out w15 H15.out).mono ?_
        rintro e w16 ⟨rfl, g16⟩
        have H16 := Lib.hid (gr_then H15.out g16)
        clear g16
        go_wp2_with fail
        refine (B4.out w16 H16.out).mono ?_
        rintro e w17 ⟨rfl, g17⟩
        have H17 := Lib.hid (gr_then H16.out g17)
        clear g17
        go_wp2_with fail
        refine (A5.out w17 H17.out).mono ?_
        rintro e w18 ⟨rfl, g18⟩
        have H18 := Lib.hid (gr_then H17.out g18)
        clear g18
        go_wp2_with fail
        refine (B5.out w18 H18.out).mono ?_
        rintro e w19 ⟨rfl, g19⟩
        have H19 := Lib.hid (gr_then H18.out g19)
        clear g19
        go_wp2
        go_ret
        exact ⟨rfl, gr_then G5.out H19.out⟩
      · have h1i : ¬ (m : Int) < (n : Int) := by omega
        clear hc
        go_wp2_with fail
        refine (A1.out wr GR.out).mono ?_
        rintro e w10 ⟨rfl, g10⟩
        have H10 := Lib.hid (gr_then GR.out g10)
        clear g10
        go_wp2_with fail
        refine (B1.out w10 H10.out).mono ?_
        rintro e w11 ⟨rfl, g11⟩
        have H11 := Lib.hid (gr_then H10.out g11)
        clear g11
        go_wp2_with fail
        refine (A2.out w11 H11.out).mono ?_
        rintro e w12 ⟨rfl, g12⟩
        have H12 := Lib.hid (gr_then H11.out g12)
        clear g12
        go_wp2_with fail
        refine (B2.out w12 H12.out).mono ?_
        rintro e w13 ⟨rfl, g13⟩
        have H13 := Lib.hid (gr_then H12.out g13)
        clear g13
        go_wp2_with fail
        refine (A3.out w13 H13.out).mono ?_
        rintro e w14 ⟨rfl, g14⟩
        have H14 := Lib.hid (gr_then H13.out g14)
        clear g14
        go_wp2_with fail
        refine (B3.out w14 H14.out).mono ?_
        rintro e w15 ⟨rfl, g15⟩
        have H15 := Lib.hid (gr_then H14.out g15)
        clear g15
        go_wp2_with fail
        refine (A4.out w15 H15.out).mono ?_
        rintro e w16 ⟨rfl, g16⟩
        have H16 := Lib.hid (gr_then H15.out g16)
        clear g16
        go_wp2_with fail
        refine (B4.out w16 H16.out).mono ?_
        rintro e w17 ⟨rfl, g17⟩
        have H17 := Lib.hid (gr_then H16.out g17)
        clear g17
        go_wp2_with fail
        refine (A5.out w17 H17.out).mono ?_
        rintro e w18 ⟨rfl, g18⟩
        have H18 := Lib.hid (gr_then H17.out g18)
        clear g18
        go_wp2_with fail
        refine (B5.out w18 H18.out).mono ?_
        rintro e w19 ⟨rfl, g19⟩
        have H19 := Lib.hid (gr_then H18.out g19)
        clear g19
        go_wp2
        go_ret
        exact ⟨rfl, gr_then G5.out H19.out⟩
end Go.Proofs.YtolomjbdnmjcjaaDoor
namespace Go.Proofs.YtolomjbdnmjcjaaDoor
open Go.ChangeShapes Go.WideShapes Go.ChangeAt Go.RowKit Pt

set_option maxRecDepth 1000000 in
set_option maxHeartbeats 4000000 in
theorem covers_lifted (os : Os) (started : os.Started) (H : Type) (enc : TypeId × Value → H) :
    ReturnsInHanded {} Tryd.checked os 8 .any (fun w args => (Rows.patternCoversSpec.pre enc Tryd.prog Tryd.f8 Rows.patternCoversRow.domain false w args ∧ laidMet Tryd.prog Rows.patternCoversRow.laid w) ∧ sizedMet enc Tryd.prog Tryd.f8 (OpenSpec.ofChange Rows.patternCoversSpec) false w args)
      (Rows.patternCoversSpec.post enc Tryd.prog Tryd.f8 false true false false) := by
  refine returnsInHanded_of_change_and (C := Tryd.checked) (X := fun w _ => laidMet Tryd.prog Rows.patternCoversRow.laid w) (fun _ _ _ hh h => h.of_heap hh) own0 started (by kernel_rfl) Tryd.func8
    (ChangeSpec.witness_at (enc := enc) (C := Tryd.checked) (os := os) (X := fun w _ => laidMet Tryd.prog Rows.patternCoversRow.laid w) false (laidWorld os) #[.agg #[.slice none 0 0, .slice none 0 0], .slice none 0 0] 8 rfl (by kernel_rfl) (by kernel_rfl) (by kernel_rfl) (by kernel_rfl) (by kernel_rfl) (laid_at os _)) ?_
  intro W base args ds gs before hval0 hW hcnd0 _ hL _
  have hval : ∀ (j : Nat) t v, Tryd.f8.params[j]? = some t → args[j]? = some v → Value.okWide Tryd.prog W .any base t v := hval0
  have hW' := hW
  obtain ⟨p, q, hA0, hV, rfl, hfz, hnd⟩ := hW
  have hA : DataW.TrodAll enc Tryd.prog W 0 (fun _ => true) true Tryd.f8.params.toList args.toList ds p := hA0
  rw [Tryd.params8] at hA hval
  obtain ⟨v0, v1, d0, d1, p0, p1, rfl, rfl, rfl, h0, h1⟩ := trodAll_two hA
  obtain ⟨rfl, rfl⟩ := trodVars_none hV
  clear hA0 hval0 hA
  simp only [List.append_nil] at hW'
  have k0 := hval 0 36 v0 rfl rfl
  have k1 := hval 1 23 v1 rfl rfl
  obtain ⟨u0_0, u0_1, rfl, w0_0, w0_1⟩ := ints2_arg k0 h0
  have w1 := pcs_arg k1 h1
  refine (covers_true u0_0 u0_1 v1 W (tab_of hL) w0_0 w0_1 w1).mono fun e W' ⟨he, hg⟩ => ?_
  subst he
  have hb : Below W.heap.size W W' := gr_low hg
  have hlt : ∀ x ∈ p0 ++ p1, x.block < W.heap.size := fun x hx => by simpa using hW'.lt x hx
  have hl0 : ∀ x ∈ p0, x.block < W.heap.size := fun x hx => hlt x (by simp [hx])
  have hl1 : ∀ x ∈ p1, x.block < W.heap.size := fun x hx => hlt x (by simp [hx])
  refine ⟨_, rfl, _, _, _, [], p0 ++ p1, [], hW', ?_, ?_, rfl, hb.frame _, fun h => by cases h⟩
  · exact trodAll_mk1 (shut_bool Tryd.underlying4 true)
  · have h3 := trodAll_mk2 (Below.trod laidOut0 (by kernel_rfl) (of_decide_eq_true (by kernel_rfl)) h0 hb hl0) (Below.trod laidOut0 (by kernel_rfl) (of_decide_eq_true (by kernel_rfl)) h1 hb hl1)
    exact h3

theorem covers_row : Rows.PatternCoversSaid :=
  OpenClaim.holds_of_wide 8 Tryd.f8 rfl rfl rfl rfl rfl rfl rfl ⟨rfl, rfl, rfl, rfl, rfl⟩ rfl rfl rfl rfl rfl (by kernel_rfl) Tryd.func8 (by kernel_rfl)
    (of_decide_eq_true (by kernel_rfl)) (by unfold Func.isWrapper; first | (rw [if_pos (by decide +kernel)]; kernel_rfl) | (rw [if_neg (by decide +kernel)]; exact ⟨rfl, rfl⟩))
    (fun os started H enc _ => covers_lifted os started H enc)
end Go.Proofs.YtolomjbdnmjcjaaDoor
