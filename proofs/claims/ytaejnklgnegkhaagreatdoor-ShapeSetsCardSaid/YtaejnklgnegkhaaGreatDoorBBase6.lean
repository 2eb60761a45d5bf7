/- Contracts of the program and of the reference, part 6: Pk, Pl, Pr, Pn. -/
import Derived.Test.YtaejnklgnegkhaaGreatDoorBBase5
import Derived.Laws.BytesArg
import Derived.OwnWalk
namespace Go.Proofs.YtaejnklgnegkhaaGreatDoor
open Go.RowKit Pt

/-- What written gives. -/
def Wrote (W : World) (ps : List Pc) (f : Nat) (args : Array Value) (w : World) : Prop := Calls Tryz.prog f args w fun e w' => ∃ v' l, e = .returned (.tuple #[v', .bool (rightL ps)]) ∧ (rightL ps = true → l = wrL ps) ∧ Form w' W.heap.size v' l ∧ W.grownBy w' none
set_option maxRecDepth 100000 in
set_option maxHeartbeats 8000000 in
theorem pwritten_some (W w : World) (v : Value) (g o c : Nat) (ps : List Pc) (hf : Form w W.heap.size v []) (hg : W.grownBy w none) (ht : TabP W) (hb : g < W.heap.size) (hp : PcsAt W g o ps) (hn : ps.length ≤ 1000000) (hsz : ∀ p ∈ ps, p.t.size ≤ 1000) : Wrote W ps 96 #[v, .slice (some ⟨g, o, none⟩) ps.length c] w := by
  obtain ⟨n, hnn⟩ : ∃ n, ps.length = n := ⟨_, rfl⟩
  have HN := Lib.hid hnn
  have HP := Lib.hid hp
  have HSZ := Lib.hid hsz
  have HT := Lib.hid ht
  have HF := Lib.hid hf
  rw [hnn] at hn ⊢
  clear hnn hp hsz ht hf
  unfold Wrote
  go_enter Tryz.func96, Tryz.ntmps96
  go_wp2_with fail
  go_loopw [0, 10] (fun u i wr => ∃ j : Nat, j ≤ n ∧ i = .int .i64 (j : Int) ∧ Form wr W.heap.size u (wrL (ps.take j)) ∧ (wrL (ps.take j)).length ≤ 60 ∧ W.grownBy wr none ∧ Hid (∀ k, k < j → goodAt ps k = true)) (fun _ i _ => n - (intOf i).toNat)
  case atStart => exact ⟨0, Nat.zero_le _, rfl, HF.out, by simp [wrL], hg, Lib.hid (fun k h => by omega)⟩
  case round =>
    clear HF hg
    obtain ⟨j, hj, rfl, hfj, hl60, Gj, HA⟩ := hrel
    by_cases hlt : j < n
    · have hlq : j < ps.length := by rw [HN.out]; exact hlt
      have hb1 : (j : Int) < (n : Int) := by omega
      have hk1 : (j : Int) + 1 ≤ 9223372036854775807 := by omega
      obtain ⟨c0, c1, c2, c3⟩ := (HP.out.kept hb Gj) j hlq
      have hpc := ppiece_any ps[j].k ps[j].a ps[j].b ps[j].t
      have hpl := plit_any ps[j].k ps[j].a ps[j].b ps[j].t
      have hap := fun (w : World) (u : Value) (h1 : Form w W.heap.size u (wrL (ps.take j))) (h2 : W.grownBy w none) (h3 : rightQ ps[j].k ps[j].a ps[j].b ps[j].t = true) => pappend_any W w u (wrL (ps.take j)) ps[j] h1 h2 HT.out h3 (by omega)
      rw [← wr_next hlq] at hap
      have HQF := Lib.hid (fun h => right_q (ps := ps) (j := j) hlq h)
      have hgd := good_some hlq
      have hrp : rightQ ps[j].k ps[j].a ps[j].b ps[j].t = true → rightP ps[j].k ps[j].a ps[j].b ps[j].t = true := fun h => by
        unfold rightQ at h
        rw [Bool.and_eq_true] at h
        exact h.1
      have HGD := Lib.hid hgd
      have HRP := Lib.hid hrp
      have HAP := Lib.hid hap
      have hst := HSZ.out ps[j] (List.getElem_mem _)
      have HPC := Lib.hid (fun w => hpc w (by omega))
      have HPL := Lib.hid hpl
      clear hpc hpl hap hgd hrp hst
      obtain ⟨pk, epk⟩ : ∃ z, ps[j].k = z := ⟨_, rfl⟩
      have HEK := Lib.hid epk
      obtain ⟨pa, epa⟩ : ∃ z, ps[j].a = z := ⟨_, rfl⟩
      obtain ⟨pb, epb⟩ : ∃ z, ps[j].b = z := ⟨_, rfl⟩
      obtain ⟨pt, ept⟩ : ∃ z, ps[j].t = z := ⟨_, rfl⟩
      rw [epk] at c0
      rw [epa] at c1
      rw [epb] at c2
      rw [ept] at c3
      rw [epk, epa, epb, ept] at HPC HPL HAP HQF HGD HRP
      clear epk epa epb ept
      have HFJ := Lib.hid hfj
      have R0 := Row.new wr [.int .i64 pk, .int .i64 pa, .int .i64 pb, .string pt] 52
      have G0 := gr_then Gj (gr_alloc wr (.cells ([.int .i64 pk, .int .i64 pa, .int .i64 pb, .string pt] : List Value).toArray 52) none)
      have g0 := gr_alloc wr (.cells ([.int .i64 pk, .int .i64 pa, .int .i64 pb, .string pt] : List Value).toArray 52) none
      have HF0 := Lib.hid (HFJ.out.kept g0)
      clear hfj HFJ Gj g0
      obtain ⟨x0, x1, x2, x3⟩ : _ ∧ _ ∧ _ ∧ _ := ⟨R0.cell 0 _ rfl, R0.cell 1 _ rfl, R0.cell 2 _ rfl, R0.cell 3 _ rfl⟩
      go_wp2_with fail
      refine (HPC.out _).mono ?_
      rintro e w1 ⟨rfl, g1⟩
      have R1 := R0.kept g1
      have G1 := gr_then G0 g1
      have HF1 := Lib.hid (HF0.out.kept g1)
      clear c0 c1 c2 c3 x0 x1 x2 x3 R0 G0 g1 HF0
      generalize wr.heap.size = B at *
      cases hq : rightQ pk pa pb pt
      · have hr := HQF.out hq
        have HR := Lib.hid hr
        clear hr
        go_wp2
        go_ret2
        exact ⟨_, _, by rw [HR.out]; rfl, (fun h => by rw [HR.out] at h; cases h), HF1.out, G1⟩
      · have HQ := Lib.hid hq
        clear hq
        have x0 := R1.cell 0 _ rfl
        have x1 := R1.cell 1 _ rfl
        have x2 := R1.cell 2 _ rfl
        have x3 := R1.cell 3 _ rfl
        rcases (show j = 0 ∨ ∃ m, j = m + 1 from by cases j; exact .inl rfl; exact .inr ⟨_, rfl⟩) with h0 | ⟨m, hm⟩
        · subst h0
          have R2 := R1
          have G2 := G1
          have HF2 := HF1
          obtain ⟨w2, hw2⟩ : ∃ w2, w2 = w1 := ⟨_, rfl⟩
          subst hw2
          have hgj : goodAt ps 0 = true := by rw [HGD.out, HRP.out HQ.out, two_zero]; rfl
          have HGJ := Lib.hid hgj
          have hgo := HAP.out w2 u0 HF2.out G2 HQ.out
          unfold Goes at hgo
          have HGO := Lib.hid hgo
          clear hgj hgo
          have z0 := R2.cell 0 _ rfl
          have z1 := R2.cell 1 _ rfl
          have z2 := R2.cell 2 _ rfl
          have z3 := R2.cell 3 _ rfl
          go_wp2_with fail
          refine HGO.out.mono ?_
          rintro e w3 ⟨v3, rfl, f3, g3, _⟩
          obtain ⟨p3, k3, rfl⟩ := form_slice f3
          obtain ⟨n3, hn3⟩ : ∃ n3, (wrL (ps.take (0 + 1))).length = n3 := ⟨_, rfl⟩
          rw [hn3] at f3 ⊢
          have HN3 := Lib.hid hn3
          have HF3 := Lib.hid f3
          clear hn3 f3 z0 z1 z2 z3
          by_cases h60 : 60 < n3
          · have hb60 : (60 : Int) < (n3 : Int) := by omega
            have HR := Lib.hid (right_long (ps := ps) (j := 0 + 1) (by rw [HN3.out]; exact h60))
            go_wp2
            go_ret2
            exact ⟨_, _, by rw [HR.out]; rfl, (fun h => by rw [HR.out] at h; cases h), HF3.out, g3⟩
          · have hb60 : ¬ (60 : Int) < (n3 : Int) := by omega
            skip
            go_wp2
            refine ⟨?_, ?_⟩
            · refine ⟨0 + 1, ?_⟩
              refine ⟨by omega, ?_⟩
              refine ⟨?_, ?_⟩
              · go_num
              · refine ⟨HF3.out, by rw [HN3.out]; omega, g3, Lib.hid (fun k hk => ?_)⟩
                rcases Nat.lt_or_ge k 0 with h | h
                · exact HA.out k h
                · obtain rfl : k = 0 := by omega
                  exact HGJ.out
            · simp [intOf]; omega
        · subst hm
          have hmq : m < ps.length := by omega
          have hj0 : (0 : Int) < ((m + 1 : Nat) : Int) := by omega
          have hjs : ((m + 1 : Nat) : Int) - 1 = (m : Int) := by omega
          go_wp2_with fail
          refine (HPL.out _).mono ?_
          rintro e w2 ⟨rfl, g2⟩
          have R2 := R1.kept g2
          have G2 := gr_then G1 g2
          have HF2 := Lib.hid (HF1.out.kept g2)
          clear x0 x1 x2 x3 R1 G1 g2 HF1
          cases hz : (pk == 0)
          · have HZ := Lib.hid hz
            clear hz
            have hgj : goodAt ps (m + 1) = true := by rw [HGD.out, HRP.out HQ.out, two_succ hlq, HEK.out, show decide (pk = 0) = false from by have h := HZ.out; rw [beq_eq_false_iff_ne] at h; exact decide_eq_false h]; rfl
            have HGJ := Lib.hid hgj
            have hgo := HAP.out w2 u0 HF2.out G2 HQ.out
            unfold Goes at hgo
            have HGO := Lib.hid hgo
            clear hgj hgo
            have z0 := R2.cell 0 _ rfl
            have z1 := R2.cell 1 _ rfl
            have z2 := R2.cell 2 _ rfl
            have z3 := R2.cell 3 _ rfl
            go_wp2_with fail
            refine HGO.out.mono ?_
            rintro e w3 ⟨v3, rfl, f3, g3, _⟩
            obtain ⟨p3, k3, rfl⟩ := form_slice f3
            obtain ⟨n3, hn3⟩ : ∃ n3, (wrL (ps.take (m + 1 + 1))).length = n3 := ⟨_, rfl⟩
            rw [hn3] at f3 ⊢
            have HN3 := Lib.hid hn3
            have HF3 := Lib.hid f3
            clear hn3 f3 z0 z1 z2 z3
            by_cases h60 : 60 < n3
            · have hb60 : (60 : Int) < (n3 : Int) := by omega
              have HR := Lib.hid (right_long (ps := ps) (j := m + 1 + 1) (by rw [HN3.out]; exact h60))
              go_wp2
              go_ret2
              exact ⟨_, _, by rw [HR.out]; rfl, (fun h => by rw [HR.out] at h; cases h), HF3.out, g3⟩
            · have hb60 : ¬ (60 : Int) < (n3 : Int) := by omega
              obtain ⟨J, hJ⟩ : ∃ J, (m : Int) + 1 = J := ⟨_, rfl⟩; have hJ0 : 0 ≤ J := (by omega); have hJ1 : J + 1 ≤ 9223372036854775807 := (by omega); clear hjs hj0 hb1 hk1; rw [hJ]; have HJ := Lib.hid hJ; clear hJ
              go_wp2
              refine ⟨?_, ?_⟩
              · refine ⟨m + 1 + 1, ?_⟩
                refine ⟨by omega, ?_⟩
                refine ⟨?_, ?_⟩
                · rw [← HJ.out]; go_num
                · refine ⟨HF3.out, by rw [HN3.out]; omega, g3, Lib.hid (fun k hk => ?_)⟩
                  rcases Nat.lt_or_ge k (m + 1) with h | h
                  · exact HA.out k h
                  · obtain rfl : k = m + 1 := by omega
                    exact HGJ.out
              · have hq := HJ.out; simp only [intOf]; omega
          · obtain rfl : pk = 0 := by simpa using hz
            clear hz
            obtain ⟨d0, d1, d2, d3⟩ := (HP.out.kept hb G2) m hmq
            have HPM := Lib.hid (plit_any ps[m].k ps[m].a ps[m].b ps[m].t)
            obtain ⟨mk, emk⟩ : ∃ z, ps[m].k = z := ⟨_, rfl⟩
            have HEM := Lib.hid emk
            rw [emk] at d0 HPM
            clear emk
            generalize ps[m].a = ma at *
            generalize ps[m].b = mb at *
            generalize ps[m].t = mt at *
            have hbm : (m : Int) < (n : Int) := by omega
            go_wp2_with fail
            refine (HPM.out _).mono ?_
            rintro e w4 ⟨rfl, g4⟩
            have R4 := R2.kept g4
            have G4 := gr_then G2 g4
            have HF4 := Lib.hid (HF2.out.kept g4)
            clear d0 d1 d2 d3 R2 G2 HF2 g4
            cases hz : (mk == 0)
            · have HZ := Lib.hid hz
              have R2 := R4
              have G2 := G4
              have HF2 := HF4
              obtain ⟨w2, hw2⟩ : ∃ w2, w2 = w4 := ⟨_, rfl⟩
              subst hw2
              clear hz R4 G4 HF4
              have hgj : goodAt ps (m + 1) = true := by rw [HGD.out, HRP.out HQ.out, two_succ hlq, HEM.out, show decide (mk = 0) = false from by have h := HZ.out; rw [beq_eq_false_iff_ne] at h; exact decide_eq_false h, Bool.and_false]; rfl
              have HGJ := Lib.hid hgj
              have hgo := HAP.out w2 u0 HF2.out G2 HQ.out
              unfold Goes at hgo
              have HGO := Lib.hid hgo
              clear hgj hgo
              have z0 := R2.cell 0 _ rfl
              have z1 := R2.cell 1 _ rfl
              have z2 := R2.cell 2 _ rfl
              have z3 := R2.cell 3 _ rfl
              go_wp2_with fail
              refine HGO.out.mono ?_
              rintro e w3 ⟨v3, rfl, f3, g3, _⟩
              obtain ⟨p3, k3, rfl⟩ := form_slice f3
              obtain ⟨n3, hn3⟩ : ∃ n3, (wrL (ps.take (m + 1 + 1))).length = n3 := ⟨_, rfl⟩
              rw [hn3] at f3 ⊢
              have HN3 := Lib.hid hn3
              have HF3 := Lib.hid f3
              clear hn3 f3 z0 z1 z2 z3
              by_cases h60 : 60 < n3
              · have hb60 : (60 : Int) < (n3 : Int) := by omega
                have HR := Lib.hid (right_long (ps := ps) (j := m + 1 + 1) (by rw [HN3.out]; exact h60))
                go_wp2
                go_ret2
                exact ⟨_, _, by rw [HR.out]; rfl, (fun h => by rw [HR.out] at h; cases h), HF3.out, g3⟩
              · have hb60 : ¬ (60 : Int) < (n3 : Int) := by omega
                obtain ⟨J, hJ⟩ : ∃ J, (m : Int) + 1 = J := ⟨_, rfl⟩; have hJ0 : 0 ≤ J := (by omega); have hJ1 : J + 1 ≤ 9223372036854775807 := (by omega); clear hjs hj0 hb1 hk1; rw [hJ]; have HJ := Lib.hid hJ; clear hJ
                go_wp2
                refine ⟨?_, ?_⟩
                · refine ⟨m + 1 + 1, ?_⟩
                  refine ⟨by omega, ?_⟩
                  refine ⟨?_, ?_⟩
                  · rw [← HJ.out]; go_num
                  · refine ⟨HF3.out, by rw [HN3.out]; omega, g3, Lib.hid (fun k hk => ?_)⟩
                    rcases Nat.lt_or_ge k (m + 1) with h | h
                    · exact HA.out k h
                    · obtain rfl : k = m + 1 := by omega
                      exact HGJ.out
                · have hq := HJ.out; simp only [intOf]; omega
            · have hr : rightL ps = false := right_false hlq (by rw [HGD.out, two_succ hlq, HEK.out, HEM.out, show mk = 0 from by simpa using hz]; simp)
              have HR := Lib.hid hr
              clear hr
              go_wp2
              go_ret2
              exact ⟨_, _, by rw [HR.out]; rfl, (fun h => by rw [HR.out] at h; cases h), HF4.out, G4⟩
    · obtain rfl : j = n := by omega
      have hfull : ps.take j = ps := List.take_of_length_le (by rw [HN.out]; exact Nat.le_refl _)
      rw [hfull] at hfj hl60
      have HR := Lib.hid (right_yes (fun i hi => HA.out i (by rw [← HN.out]; exact hi)) hl60)
      have HFJ := Lib.hid hfj
      clear hfj
      go_wp2
      go_ret2
      exact ⟨_, _, by rw [HR.out]; rfl, (fun _ => rfl), HFJ.out, Gj⟩
end Go.Proofs.YtaejnklgnegkhaaGreatDoor
namespace Go.Proofs.YtaejnklgnegkhaaGreatDoor
open Go.RowKit Pt

set_option maxRecDepth 100000 in
theorem pwritten_nil (W w : World) (v : Value) (hf : Form w W.heap.size v []) (hg : W.grownBy w none) : Wrote W [] 96 #[v, .slice none 0 0] w := by
  have HF := Lib.hid hf
  clear hf
  unfold Wrote
  go_enter Tryz.func96, Tryz.ntmps96
  go_wp2_with fail
  go_loopw [0, 10] (fun u i wr => u = v ∧ i = .int .i64 0 ∧ w = wr) (fun _ _ _ => 0)
  case atStart => exact ⟨rfl, rfl, rfl⟩
  case round =>
    obtain ⟨rfl, rfl, rfl⟩ := hrel
    go_wp2
    go_ret2
    exact ⟨_, [], by rfl, (fun _ => rfl), HF.out, hg⟩
theorem pwritten_any (W w : World) (v p : Value) (ps : List Pc) (hf : Form w W.heap.size v []) (hg : W.grownBy w none) (ht : TabP W) (hp : Pcs W p ps) (hn : ps.length ≤ 1000000) (hsz : ∀ p ∈ ps, p.t.size ≤ 1000) : Wrote W ps 96 #[v, p] w := by
  rcases hp with ⟨rfl, rfl⟩ | ⟨g, o, c, rfl, hb, hp⟩
  · exact pwritten_nil W w v hf hg
  · exact pwritten_some W w v g o c ps hf hg ht hb hp hn hsz
/-- Bytes that the call owns, as a string. -/
theorem Form.str {w : World} {base : Nat} {v : Value} {l : List UInt8} (h : Form w base v l) : Sem.run Tryz.prog (convert 70 9 v) w = .ok (.string ⟨l.toArray⟩) w := by
  have hn : strOfNums (l.map fun c => (c.toNat : Int)) = ⟨l.toArray⟩ := by
    simp [strOfNums, Function.comp_def]
  obtain ⟨_, ⟨rfl, h0⟩ | ⟨g, cap, cur, rfl, _, hc, hle, _, hs, hx⟩⟩ := h
  · obtain rfl := List.eq_nil_of_length_eq_zero h0
    exact run_convert_bytes_nil (P := Tryz.prog) w 70 5 Tryz.underlying70 Tryz.underlying5 0 0 9 Tryz.underlying9
  · rw [run_convert_bytes_arg (P := Tryz.prog) w 70 5 Tryz.underlying70 Tryz.underlying5 g 0 l.length cap (l.map fun c => (c.toNat : Int)) (by simp) (fun i hi => by
      rw [Nat.zero_add, cell_of_row _ _ i _ 5 (0, 0) hc]
      rw [Nat.mul_one] at hx
      have h1 : (cur.toList.take l.length)[i]? = (byV l)[i]? := by rw [hx]
      rw [List.getElem?_take_of_lt hi, Array.getElem?_toList] at h1
      rw [h1]
      simp [byV, List.getD, hi]) 9 Tryz.underlying9, hn]
set_option maxRecDepth 100000 in
theorem pright_any (w : World) (p : Value) (ps : List Pc) (ht : TabP w) (hp : Pcs w p ps) (hn : ps.length ≤ 1000000) (hsz : ∀ p ∈ ps, p.t.size ≤ 1000) :
    Calls Tryz.prog 65 #[p] w fun e w' => e = .returned (.bool (rightL ps)) ∧ w.grownBy w' none := by
  have HW := Lib.hid (fun (w1 : World) (v : Value) (hf : Form w1 w.heap.size v []) (hg : w.grownBy w1 none) => pwritten_any w w1 v p ps hf hg ht hp hn hsz)
  clear ht hp hn hsz
  obtain ⟨i, h2, h3, h4, h5⟩ := info_parts infoY
  have HI := Lib.hid (And.intro h2 (And.intro h3 (And.intro h4 h5)))
  clear h2 h3 h4 h5
  go_enter Tryz.func65, Tryz.ntmps65
  go_wp2_with (at_make; refine wpList_make_own w rfl _ _ _ rfl w.heap.size 5 i (.int .u8 0) 1 Tryz.underlying70 HI.out.1 HI.out.2.1 HI.out.2.2.1 .i64 .i64 60 60 rfl rfl rfl (by rw [HI.out.2.2.2]; decide) (by decide) (Nat.le_refl _) ?_; intro w1 f1 g1)
  have h := HW.out w1 _ f1 g1
  unfold Wrote at h
  have H := Lib.hid h
  clear h f1
  go_wp2_with fail
  refine H.out.mono ?_
  rintro e w2 ⟨v1, l, rfl, _, hf, g2⟩
  clear hf
  go_wp2
  go_ret
  exact ⟨rfl, g2⟩
end Go.Proofs.YtaejnklgnegkhaaGreatDoor
namespace Go.Proofs.YtaejnklgnegkhaaGreatDoor
namespace Pt

--BEGIN
theorem stp_iff {p : Pc} {s : List UInt8} {i j : Nat} : stp p s i j = true ↔ i ≤ j ∧ j ≤ s.length ∧ (if p.k = 0 then prt s i j = p.t.data.toList else p.a ≤ ((j - i : Nat) : Int) ∧ ((j - i : Nat) : Int) ≤ p.b ∧ allD (prt s i j) p.k = true) := by
  unfold stp
  rw [Bool.and_eq_true, Bool.and_eq_true, decide_eq_true_eq, decide_eq_true_eq, and_assoc]
  by_cases h : p.k = 0
  · rw [if_pos h, if_pos h, beq_iff_eq]
  · rw [if_neg h, if_neg h, Bool.and_eq_true, Bool.and_eq_true, decide_eq_true_eq, decide_eq_true_eq, and_assoc]
/-- A class that is in another one. -/
theorem belD_cont {c : Nat} {k k' : Int} (h : contD k' k = true) (hb : belD c k' = true) : belD c k = true := by
  unfold belD at *
  rw [Bool.and_eq_true] at *
  refine ⟨hb.1, ?_⟩
  have h1 := hb.2
  unfold contD at *
  simp only [Bool.or_eq_true, Bool.and_eq_true, beq_iff_eq] at *
  have h2 := clsD_le c
  omega
theorem allD_cont {l : List UInt8} {k k' : Int} (h : contD k' k = true) (ha : allD l k' = true) : allD l k = true := by
  unfold allD at *
  rw [List.all_eq_true] at *
  exact fun x hx => belD_cont h (ha x hx)
/-- What a piece contains. -/
theorem stp_stays {q : Pc} {c : Int} {s : List UInt8} {i j : Nat} (hs : staysD q.k q.t c = true) (h : stp q s i j = true) : allD (prt s i j) c = true := by
  obtain ⟨_, _, h3⟩ := stp_iff.1 h
  unfold staysD at hs
  by_cases hk : q.k = 0
  · rw [if_pos hk] at h3 hs
    rw [h3]; exact hs
  · rw [if_neg hk] at h3 hs
    exact allD_cont hs h3.2.2
theorem stp_lens {q : Pc} {s : List UInt8} {i j : Nat} (h : stp q s i j = true) : lenD q.k q.a q.t ≤ ((j - i : Nat) : Int) ∧ ((j - i : Nat) : Int) ≤ lenD q.k q.b q.t := by
  obtain ⟨h1, h2, h3⟩ := stp_iff.1 h
  unfold lenD
  by_cases hk : q.k = 0
  · rw [if_pos hk] at h3 ⊢
    have := congrArg List.length h3
    rw [prt_len h2] at this
    have e : q.t.data.toList.length = q.t.size := rfl
    rw [if_pos hk]
    omega
  · rw [if_neg hk] at h3 ⊢
    rw [if_neg hk]
    omega
/-- A piece that covers another one matches what that one matches. -/
theorem stp_cov {p q : Pc} {s : List UInt8} {i j : Nat} (hc : covD p.k p.a p.b p.t q.k q.a q.b q.t = true) (h : stp q s i j = true) : stp p s i j = true := by
  obtain ⟨h1, h2, h3⟩ := stp_iff.1 h
  rw [stp_iff]
  refine ⟨h1, h2, ?_⟩
  unfold covD at hc
  by_cases hk : p.k = 0
  · rw [if_pos hk, Bool.and_eq_true, decide_eq_true_eq, decide_eq_true_eq] at hc
    rw [if_pos hk]
    rw [if_pos hc.1, ← hc.2] at h3
    exact h3
  · rw [if_neg hk, Bool.and_eq_true, Bool.and_eq_true, decide_eq_true_eq, decide_eq_true_eq] at hc
    rw [if_neg hk]
    have hl := stp_lens h
    exact ⟨by omega, by omega, stp_stays hc.1.1 h⟩
theorem rch_each : ∀ {ps qs : List Pc} {s : List UInt8} {i j : Nat}, ps.length = qs.length → (∀ n (h1 : n < ps.length) (h2 : n < qs.length), covD ps[n].k ps[n].a ps[n].b ps[n].t qs[n].k qs[n].a qs[n].b qs[n].t = true) → rch qs s i j = true → rch ps s i j = true
  | [], [], _, _, _, _, _, h => h
  | p :: ps, q :: qs, s, i, j, hl, hc, h => by
    obtain ⟨m, h1, h2⟩ := rch_cons.1 h
    refine rch_cons.2 ⟨m, stp_cov (hc 0 (by simp) (by simp)) h1, rch_each (by simpa using hl) (fun n a b => ?_) h2⟩
    have := hc (n + 1) (by simp; omega) (by simp; omega)
    exact this
  | [], _ :: _, _, _, _, hl, _, _ => by simp at hl
  | _ :: _, [], _, _, _, hl, _, _ => by simp at hl
/-- The sums of the lengths. -/
def leastL (qs : List Pc) : Int := qs.foldl (fun n q => n + lenD q.k q.a q.t) 0
def mostL (qs : List Pc) : Int := qs.foldl (fun n q => n + lenD q.k q.b q.t) 0
theorem fold_add (f : Pc → Int) : ∀ (qs : List Pc) (a : Int), qs.foldl (fun n q => n + f q) a = a + qs.foldl (fun n q => n + f q) 0
  | [], a => by simp
  | q :: qs, a => by
    rw [List.foldl_cons, List.foldl_cons, fold_add f qs (a + f q), fold_add f qs (0 + f q)]
    omega
theorem rch_lens : ∀ {qs : List Pc} {s : List UInt8} {i j : Nat}, rch qs s i j = true → leastL qs ≤ ((j - i : Nat) : Int) ∧ ((j - i : Nat) : Int) ≤ mostL qs
  | [], s, i, j, h => by
    obtain ⟨rfl, _⟩ := rch_nil.1 h
    unfold leastL mostL; simp
  | q :: qs, s, i, j, h => by
    obtain ⟨m, h1, h2⟩ := rch_cons.1 h
    have a := stp_lens h1
    have b := rch_lens h2
    have c := stp_le h1
    have d := rch_le h2
    have e1 : leastL (q :: qs) = lenD q.k q.a q.t + leastL qs := by
      unfold leastL; rw [List.foldl_cons, fold_add (fun q => lenD q.k q.a q.t)]; omega
    have e2 : mostL (q :: qs) = lenD q.k q.b q.t + mostL qs := by
      unfold mostL; rw [List.foldl_cons, fold_add (fun q => lenD q.k q.b q.t)]; omega
    rw [e1, e2]
    omega
theorem rch_stays : ∀ {qs : List Pc} {c : Int} {s : List UInt8} {i j : Nat}, (∀ q ∈ qs, staysD q.k q.t c = true) → rch qs s i j = true → allD (prt s i j) c = true
  | [], c, s, i, j, _, h => by
    obtain ⟨rfl, _⟩ := rch_nil.1 h
    unfold prt allD; simp
  | q :: qs, c, s, i, j, hs, h => by
    obtain ⟨m, h1, h2⟩ := rch_cons.1 h
    rw [prt_cat (stp_le h1).1 (rch_le h2).1, allD_cat, stp_stays (hs q (by simp)) h1, rch_stays (fun q' hq => hs q' (by simp [hq])) h2]; rfl
/-- A run that covers all pieces of a pattern matches what that one matches. -/
theorem rch_all {p : Pc} {qs : List Pc} {s : List UInt8} {i j : Nat} (hk : p.k ≠ 0) (hs : ∀ q ∈ qs, staysD q.k q.t p.k = true) (h1 : p.a ≤ leastL qs) (h2 : min (mostL qs) 200 ≤ p.b) (hl : s.length ≤ 200) (h : rch qs s i j = true) : rch [p] s i j = true := by
  have a := rch_lens h
  have b := rch_le h
  refine rch_cons.2 ⟨j, stp_iff.2 ⟨b.1, b.2, ?_⟩, rch_nil.2 ⟨rfl, b.2⟩⟩
  rw [if_neg hk]
  refine ⟨by omega, ?_, rch_stays hs h⟩
  have : ((j - i : Nat) : Int) ≤ 200 := by omega
  omega

/-- The finds that the program takes: for each place in order its greatest end, if it lies behind the last find. -/
def findsP (g : Nat → Int) : Nat → Nat → Nat → List (Nat × Nat)
  | 0, _, _ => []
  | fuel + 1, b, place => if (b : Int) < place ∨ g b ≤ b then findsP g fuel (b + 1) place else (b, (g b).toNat) :: findsP g fuel (b + 1) (g b).toNat
/-- The finds that the reference takes: from place to place. -/
def findsR (g : Nat → Int) (n : Nat) : Nat → Nat → List (Nat × Nat)
  | 0, _ => []
  | fuel + 1, at_ => if n ≤ at_ then [] else if (at_ : Int) < g at_ then (at_, (g at_).toNat) :: findsR g n fuel (g at_).toNat else findsR g n fuel (at_ + 1)
/-- Places before the last find's end are passed over. -/
theorem findsP_skip (g : Nat → Int) : ∀ (d fuel b place : Nat), b + d = place → d ≤ fuel → findsP g fuel b place = findsP g (fuel - d) place place
  | 0, fuel, b, place, h, _ => by
    obtain rfl : b = place := by omega
    rfl
  | d + 1, fuel, b, place, h, hd => by
    obtain ⟨f, rfl⟩ : ∃ f, fuel = f + 1 := ⟨fuel - 1, by omega⟩
    have e : findsP g (f + 1) b place = findsP g f (b + 1) place := by
      show (if (b : Int) < place ∨ g b ≤ b then findsP g f (b + 1) place else _) = _
      rw [if_pos (.inl (by omega))]
    rw [e, findsP_skip g d f (b + 1) place (by omega) (by omega)]
    congr 1
    omega
theorem findsR_fuel (g : Nat → Int) (n : Nat) (hg : ∀ i, i ≤ n → g i ≤ n) : ∀ (d f1 f2 a : Nat), n - a ≤ d → d ≤ f1 → d ≤ f2 → findsR g n (f1 + 1) a = findsR g n (f2 + 1) a
  | d, f1, f2, a, hd, h1, h2 => by
    unfold findsR
    by_cases h : n ≤ a
    · rw [if_pos h, if_pos h]
    · rw [if_neg h, if_neg h]
      obtain ⟨d', rfl⟩ : ∃ d', d = d' + 1 := ⟨d - 1, by omega⟩
      obtain ⟨e1, rfl⟩ : ∃ e, f1 = e + 1 := ⟨f1 - 1, by omega⟩
      obtain ⟨e2, rfl⟩ : ∃ e, f2 = e + 1 := ⟨f2 - 1, by omega⟩
      have hga := hg a (by omega)
      by_cases h3 : (a : Int) < g a
      · rw [if_pos h3, if_pos h3, findsR_fuel g n hg d' e1 e2 (g a).toNat (by omega) (by omega) (by omega)]
      · rw [if_neg h3, if_neg h3, findsR_fuel g n hg d' e1 e2 (a + 1) (by omega) (by omega) (by omega)]
/-- Both take the same finds. -/
theorem finds_same (g : Nat → Int) (n : Nat) (hg : ∀ i, i ≤ n → g i ≤ n) : ∀ (d a : Nat), a + d = n → findsP g (d + 1) a a = findsR g n (d + 1) a
  | 0, a, h => by
    have hga := hg a (by omega)
    show (if (a : Int) < a ∨ g a ≤ a then findsP g 0 (a + 1) a else _) = (if n ≤ a then [] else _)
    rw [if_pos (.inr (by omega)), if_pos (by omega)]; rfl
  | d + 1, a, h => by
    have hga := hg a (by omega)
    show (if (a : Int) < a ∨ g a ≤ a then findsP g (d + 1) (a + 1) a else (a, (g a).toNat) :: findsP g (d + 1) (a + 1) (g a).toNat) = (if n ≤ a then [] else if (a : Int) < g a then (a, (g a).toNat) :: findsR g n (d + 1) (g a).toNat else findsR g n (d + 1) (a + 1))
    rw [if_neg (show ¬ n ≤ a by omega)]
    by_cases h3 : (a : Int) < g a
    · rw [if_neg (by omega), if_pos h3]
      have hs := findsP_skip g ((g a).toNat - (a + 1)) (d + 1) (a + 1) (g a).toNat (by omega) (by omega)
      rw [hs]
      have e : d + 1 - ((g a).toNat - (a + 1)) = (n - (g a).toNat) + 1 := by omega
      rw [e, finds_same g n hg (n - (g a).toNat) (g a).toNat (by omega), findsR_fuel g n hg (n - (g a).toNat) (n - (g a).toNat) d (g a).toNat (by omega) (by omega) (by omega)]
    · rw [if_pos (by omega), if_neg h3]
      have e : findsP g (d + 1) (a + 1) a = findsP g (d + 1) (a + 1) (a + 1) := by
        have hx : ∀ (f b p q : Nat), p ≤ b → q ≤ b → findsP g f b p = findsP g f b q := by
          intro f
          induction f with
          | zero => intro b p q _ _; rfl
          | succ f ih =>
            intro b p q hp hq
            show (if (b : Int) < p ∨ g b ≤ b then findsP g f (b + 1) p else (b, (g b).toNat) :: findsP g f (b + 1) (g b).toNat) = (if (b : Int) < q ∨ g b ≤ b then findsP g f (b + 1) q else (b, (g b).toNat) :: findsP g f (b + 1) (g b).toNat)
            by_cases h5 : g b ≤ b
            · rw [if_pos (.inr h5), if_pos (.inr h5)]
              exact ih (b + 1) p q (by omega) (by omega)
            · rw [if_neg (by omega), if_neg (by omega)]
        exact hx _ _ _ _ (by omega) (by omega)
      rw [e, finds_same g n hg d (a + 1) (by omega)]
termination_by d => d
decreasing_by all_goals omega
--END
end Pt
end Go.Proofs.YtaejnklgnegkhaaGreatDoor
namespace Go.Proofs.YtaejnklgnegkhaaGreatDoor
open Go.RowKit Pt

def covAt (ps qs : List Pc) (i : Nat) : Bool := match ps[i]?, qs[i]? with
  | some p, some q => covD p.k p.a p.b p.t q.k q.a q.b q.t
  | _, _ => false
theorem covAt_some {ps qs : List Pc} {i : Nat} (h : i < ps.length) (h' : i < qs.length) : covAt ps qs i = covD ps[i].k ps[i].a ps[i].b ps[i].t qs[i].k qs[i].a qs[i].b qs[i].t := by
  unfold covAt; rw [List.getElem?_eq_getElem h, List.getElem?_eq_getElem h']
/-- Each piece covers the piece at its place. -/
def eachD (ps qs : List Pc) : Bool := decide (ps.length = qs.length) && (List.range ps.length).all (covAt ps qs)
theorem each_len {ps qs : List Pc} (h : ¬ ps.length = qs.length) : eachD ps qs = false := by
  unfold eachD; rw [decide_eq_false h]; rfl
theorem each_no {ps qs : List Pc} {i : Nat} (h : i < ps.length) (hc : covAt ps qs i = false) : eachD ps qs = false := by
  unfold eachD
  rw [Bool.and_eq_false_iff]
  refine .inr (Bool.eq_false_iff.2 fun ha => ?_)
  rw [List.all_eq_true] at ha
  have := ha i (List.mem_range.2 h)
  rw [hc] at this; cases this
theorem each_yes {ps qs : List Pc} (h : ps.length = qs.length) (hc : ∀ i, i < ps.length → covAt ps qs i = true) : eachD ps qs = true := by
  unfold eachD
  rw [decide_eq_true h, Bool.true_and, List.all_eq_true]
  exact fun i hi => hc i (List.mem_range.1 hi)
theorem cells4 {W w : World} {g a : Nat} {v0 v1 v2 v3 : Value} (hb : g < W.heap.size) (hg : W.grownBy w none) (h : W.cell? ⟨g, a, none⟩ = some v0 ∧ W.cell? ⟨g, a + 1, none⟩ = some v1 ∧ W.cell? ⟨g, a + 2, none⟩ = some v2 ∧ W.cell? ⟨g, a + 3, none⟩ = some v3) : w.cell? ⟨g, a, none⟩ = some v0 ∧ w.cell? ⟨g, a + 1, none⟩ = some v1 ∧ w.cell? ⟨g, a + 2, none⟩ = some v2 ∧ w.cell? ⟨g, a + 3, none⟩ = some v3 := by
  have := (gcell hg).1
  rw [this _ _ hb, this _ _ hb, this _ _ hb, this _ _ hb]
  exact h
abbrev EqF (v u : Value) (w : World) (b : Bool) : Prop := Calls Tryz.prog 112 #[v, u, .func (Fn.func 113) #[] #[]] w fun e w' => e = .returned (.bool b) ∧ w.grownBy w' none
set_option maxRecDepth 100000 in
set_option maxHeartbeats 8000000 in
theorem eq_some (w : World) (g o c g' o' c' : Nat) (ps qs : List Pc) (hb : g < w.heap.size) (hp : PcsAt w g o ps) (hb' : g' < w.heap.size) (hq : PcsAt w g' o' qs) (hn : ps.length ≤ 1000000) (hsz : ∀ q ∈ qs, q.t.size ≤ 1000)
    (hz : ∀ p ∈ ps, ∀ q ∈ qs, p.k = 0 → q.k = 0 → p.a = q.a ∧ p.b = q.b) : EqF (.slice (some ⟨g, o, none⟩) ps.length c) (.slice (some ⟨g', o', none⟩) qs.length c') w (eachD ps qs) := by
  unfold EqF
  by_cases hl : ps.length = qs.length
  case neg =>
    have HE := Lib.hid (each_len hl)
    have hl1 : ¬ (ps.length : Int) = (qs.length : Int) := by omega
    clear hp hq hsz hz
    generalize ps.length = n at *
    generalize qs.length = m at *
    go_enter Tryz.func112, Tryz.ntmps112
    go_wp2
    go_ret
    exact ⟨by rw [HE.out]; rfl, gr_rfl w⟩
  obtain ⟨n, hnn⟩ : ∃ n, ps.length = n := ⟨_, rfl⟩
  have hnm : qs.length = n := by omega
  have HN := Lib.hid hnn
  have HM := Lib.hid hnm
  have HP := Lib.hid hp
  have HQ := Lib.hid hq
  have HSZ := Lib.hid hsz
  have HZ := Lib.hid hz
  rw [hnn] at hn ⊢
  rw [hnm]
  clear hnn hp hsz hz hq hl hnm
  go_enter Tryz.func112, Tryz.ntmps112
  go_wp2_with fail
  go_loopw [17] (fun i wr => ∃ j : Nat, j ≤ n ∧ i = .int .i64 (j : Int) ∧ w.grownBy wr none ∧ Hid (∀ k, k < j → covAt ps qs k = true)) (fun i _ => n - (intOf i).toNat)
  case atStart => exact ⟨0, Nat.zero_le _, rfl, gr_rfl w, Lib.hid (fun k h => by omega)⟩
  case round =>
    obtain ⟨j, hj, rfl, Gj, HA⟩ := hrel
    by_cases hlt : j < n
    · have hlq : j < ps.length := by rw [HN.out]; exact hlt
      have hlr : j < qs.length := by rw [HM.out]; exact hlt
      have hb1 : (j : Int) < (n : Int) := by omega
      have hk1 : (j : Int) + 1 ≤ 9223372036854775807 := by omega
      obtain ⟨c0, c1, c2, c3⟩ := (HP.out.kept hb Gj) j hlq
      have hpc := fun w => pcov_any ps[j].k ps[j].a ps[j].b ps[j].t qs[j].k qs[j].a qs[j].b qs[j].t w (by have := HSZ.out _ (List.getElem_mem hlr); omega) (HZ.out _ (List.getElem_mem hlq) _ (List.getElem_mem hlr))
      rw [← covAt_some hlq hlr] at hpc
      have HPC := Lib.hid hpc
      have HD := Lib.hid ((HQ.out.kept hb' Gj) j hlr)
      clear hpc
      generalize ps[j].k = pk at *
      generalize ps[j].a = pa at *
      generalize ps[j].b = pb at *
      generalize ps[j].t = pt at *
      generalize qs[j].k = qk at *
      generalize qs[j].a = qa at *
      generalize qs[j].b = qb at *
      generalize qs[j].t = qt at *
      have hbr : g' < wr.heap.size := Nat.lt_of_lt_of_le hb' Gj.size
      have G1 := gr_al (o := .cells ([.int .i64 qk, .int .i64 qa, .int .i64 qb, .string qt] : List Value).toArray 52) (gr_al (o := .cells ([.int .i64 pk, .int .i64 pa, .int .i64 pb, .string pt] : List Value).toArray 52) Gj)
      have R0 := (Row.new wr [.int .i64 pk, .int .i64 pa, .int .i64 pb, .string pt] 52).al (o := .cells ([.int .i64 qk, .int .i64 qa, .int .i64 qb, .string qt] : List Value).toArray 52)
      have R1 := Row.new (wr.alloc (.cells ([.int .i64 pk, .int .i64 pa, .int .i64 pb, .string pt] : List Value).toArray 52)) [.int .i64 qk, .int .i64 qa, .int .i64 qb, .string qt] 52
      obtain ⟨d0, d1, d2, d3⟩ := cells4 hbr (gr_alloc wr (.cells ([.int .i64 pk, .int .i64 pa, .int .i64 pb, .string pt] : List Value).toArray 52) none) HD.out
      have GG := Lib.hid G1
      obtain ⟨x0, x1, x2, x3⟩ : _ ∧ _ ∧ _ ∧ _ := ⟨R0.cell 0 _ rfl, R0.cell 1 _ rfl, R0.cell 2 _ rfl, R0.cell 3 _ rfl⟩
      obtain ⟨y0, y1, y2, y3⟩ : _ ∧ _ ∧ _ ∧ _ := ⟨R1.cell 0 _ rfl, R1.cell 1 _ rfl, R1.cell 2 _ rfl, R1.cell 3 _ rfl⟩
      clear G1 R0 R1
      go_wp2_with fail
      refine (HPC.out _).mono ?_
      rintro e w1 ⟨rfl, g1⟩
      have G2 := gr_then GG.out g1
      clear c0 c1 c2 c3 d0 d1 d2 d3 x0 x1 x2 x3 y0 y1 y2 y3 g1
      cases hq : covAt ps qs j
      · have HR := Lib.hid (each_no hlq hq)
        clear hq
        go_wp2
        go_ret
        exact ⟨by rw [HR.out]; rfl, G2⟩
      · have HC := Lib.hid hq
        clear hq
        go_wp2
        exact ⟨⟨j + 1, by omega, by go_num, G2, Lib.hid (fun k hk => by
          rcases Nat.lt_or_ge k j with h | h
          · exact HA.out k h
          · obtain rfl : k = j := by omega
            exact HC.out)⟩, by simp [intOf]; omega⟩
    · obtain rfl : j = n := by omega
      have HR := Lib.hid (each_yes (ps := ps) (qs := qs) (by rw [HN.out, HM.out]) (fun i hi => HA.out i (by rw [← HN.out]; exact hi)))
      go_wp2
      go_ret
      exact ⟨by rw [HR.out]; rfl, Gj⟩
set_option maxRecDepth 100000 in
theorem eq_nil_some (w : World) (g o c : Nat) (qs : List Pc) (h : 0 < qs.length) : EqF (.slice none 0 0) (.slice (some ⟨g, o, none⟩) qs.length c) w (eachD [] qs) := by
  unfold EqF
  have HE := Lib.hid (each_len (ps := []) (qs := qs) (by simp only [List.length_nil]; omega))
  generalize qs.length = m at *
  have hl1 : ¬ (0 : Int) = (m : Int) := by omega
  go_enter Tryz.func112, Tryz.ntmps112
  go_wp2
  go_ret
  exact ⟨by rw [HE.out]; rfl, gr_rfl w⟩
set_option maxRecDepth 100000 in
theorem eq_some_nil (w : World) (g o c : Nat) (ps : List Pc) (h : 0 < ps.length) : EqF (.slice (some ⟨g, o, none⟩) ps.length c) (.slice none 0 0) w (eachD ps []) := by
  unfold EqF
  have HE := Lib.hid (each_len (ps := ps) (qs := []) (by simp only [List.length_nil]; omega))
  generalize ps.length = m at *
  have hl1 : ¬ (m : Int) = 0 := by omega
  go_enter Tryz.func112, Tryz.ntmps112
  go_wp2
  go_ret
  exact ⟨by rw [HE.out]; rfl, gr_rfl w⟩
set_option maxRecDepth 100000 in
theorem eq_zero (w : World) (v u : Value) (hv : v = .slice none 0 0 ∨ ∃ a c, v = .slice a 0 c) (hu : u = .slice none 0 0 ∨ ∃ a c, u = .slice a 0 c) : EqF v u w true := by
  obtain ⟨a, c, rfl⟩ : ∃ a c, v = .slice a 0 c := by rcases hv with h | h; exact ⟨_, _, h⟩; exact h
  obtain ⟨a', c', rfl⟩ : ∃ a c, u = .slice a 0 c := by rcases hu with h | h; exact ⟨_, _, h⟩; exact h
  clear hv hu
  unfold EqF
  go_enter Tryz.func112, Tryz.ntmps112
  go_wp2_with fail
  go_loopw [17] (fun i wr => i = .int .i64 0 ∧ w = wr) (fun _ _ => 0)
  case atStart => exact ⟨rfl, rfl⟩
  case round =>
    obtain ⟨rfl, rfl⟩ := hrel
    go_wp2
    go_ret
    exact ⟨rfl, gr_rfl w⟩
theorem eq_any (w : World) (v u : Value) (ps qs : List Pc) (hp : Pcs w v ps) (hq : Pcs w u qs) (hn : ps.length ≤ 1000000) (hsz : ∀ q ∈ qs, q.t.size ≤ 1000)
    (hz : ∀ p ∈ ps, ∀ q ∈ qs, p.k = 0 → q.k = 0 → p.a = q.a ∧ p.b = q.b) : EqF v u w (eachD ps qs) := by
  rcases hp with ⟨rfl, rfl⟩ | ⟨g, o, c, rfl, hb, hp⟩
  · rcases hq with ⟨rfl, rfl⟩ | ⟨g', o', c', rfl, hb', hq⟩
    · exact eq_zero w _ _ (.inl rfl) (.inl rfl)
    · rcases Nat.eq_zero_or_pos qs.length with h | h
      · obtain rfl := List.eq_nil_of_length_eq_zero h
        exact eq_zero w _ _ (.inl rfl) (.inr ⟨_, _, rfl⟩)
      · exact eq_nil_some w g' o' c' qs h
  · rcases hq with ⟨rfl, rfl⟩ | ⟨g', o', c', rfl, hb', hq⟩
    · rcases Nat.eq_zero_or_pos ps.length with h | h
      · obtain rfl := List.eq_nil_of_length_eq_zero h
        exact eq_zero w _ _ (.inr ⟨_, _, rfl⟩) (.inl rfl)
      · exact eq_some_nil w g o c ps h
    · exact eq_some w g o c g' o' c' ps qs hb hp hb' hq hn hsz hz
set_option maxRecDepth 100000 in
theorem peach_any (w : World) (v u : Value) (ps qs : List Pc) (hp : Pcs w v ps) (hq : Pcs w u qs) (hn : ps.length ≤ 1000000) (hsz : ∀ q ∈ qs, q.t.size ≤ 1000)
    (hz : ∀ p ∈ ps, ∀ q ∈ qs, p.k = 0 → q.k = 0 → p.a = q.a ∧ p.b = q.b) : Calls Tryz.prog 91 #[v, u] w fun e w' => e = .returned (.bool (eachD ps qs)) ∧ w.grownBy w' none := by
  have hw := eq_any w v u ps qs hp hq hn hsz hz
  unfold EqF at hw
  have HW := Lib.hid hw
  clear hw hp hq hn hsz hz
  go_enter Tryz.func91, Tryz.ntmps91
  go_wp2_with fail
  refine HW.out.mono ?_
  rintro e w1 ⟨rfl, g1⟩
  go_wp2
  go_ret
  exact ⟨rfl, g1⟩
end Go.Proofs.YtaejnklgnegkhaaGreatDoor
