/- The law of the claim at the level of the call, and its row: Nc, Nd. -/
import Derived.Test.YtgkegbcdiadkdaaDoorBRwo0
namespace Go.Proofs.YtgkegbcdiadkdaaDoor
namespace Pt

def fit (p : Pc) (x : List UInt8) : Prop := if p.k = 0 then x = p.t.data.toList else p.a ≤ (x.length : Int) ∧ (x.length : Int) ≤ p.b ∧ allD x p.k = true
inductive Fits : List Pc → List UInt8 → Prop
  | nil : Fits [] []
  | snoc {ps : List Pc} {l : List UInt8} {p : Pc} {x : List UInt8} : Fits ps l → fit p x → Fits (ps ++ [p]) (l ++ x)
theorem prt_mid (l x r : List UInt8) : prt (l ++ (x ++ r)) l.length (l.length + x.length) = x := by
  unfold prt
  rw [List.drop_left, show l.length + x.length - l.length = x.length from by omega, List.take_left]
theorem Fits.rch {ps : List Pc} {l : List UInt8} (h : Fits ps l) : ∀ r, Pt.rch ps (l ++ r) 0 l.length = true := by
  induction h with
  | nil => intro r; exact rch_nil.2 ⟨rfl, Nat.zero_le _⟩
  | @snoc ps l p x _ hf ih =>
    intro r
    rw [rch_snoc]
    refine ⟨l.length, by rw [List.append_assoc]; exact ih _, ?_⟩
    rw [stp_iff, List.append_assoc, List.length_append]
    refine ⟨by omega, by rw [List.length_append, List.length_append]; omega, ?_⟩
    rw [prt_mid]
    unfold fit at hf
    rw [show l.length + x.length - l.length = x.length from by omega]
    exact hf
theorem bel_any {c : Nat} {k : Int} (h : belD c k = true) : belD c 7 = true := by
  unfold belD at *
  rw [Bool.and_eq_true] at *
  refine ⟨h.1, ?_⟩
  unfold contD
  simp
theorem all_any {l : List UInt8} {k : Int} (h : allD l k = true) : allD l 7 = true := by
  unfold allD at *
  rw [List.all_eq_true] at *
  exact fun c hc => bel_any (h c hc)
theorem Fits.text {ps : List Pc} {l : List UInt8} (h : Fits ps l) : (∀ p ∈ ps, p.k = 0 → allD p.t.data.toList 7 = true) → allD l 7 = true := by
  induction h with
  | nil => intro _; rfl
  | @snoc ps l p x _ hf ih =>
    intro hp
    rw [allD_cat, ih (fun q hq => hp q (by simp [hq])), Bool.true_and]
    unfold fit at hf
    by_cases hk : p.k = 0
    · rw [if_pos hk] at hf
      rw [hf]; exact hp p (by simp) hk
    · rw [if_neg hk] at hf
      exact all_any hf.2.2
/-- A text that is made of parts for each piece is matched. -/
theorem Fits.matched {ps : List Pc} {l : List UInt8} (h : Fits ps l) (hr : rightL ps = true) (hl : l.length ≤ 200) (ht : ∀ p ∈ ps, p.k = 0 → allD p.t.data.toList 7 = true) : matchL ps l = true := by
  have h1 := h.rch []
  rw [List.append_nil] at h1
  unfold matchL
  rw [hr, h1]
  unfold isTextD
  rw [decide_eq_true hl, h.text ht]
  rfl
/-- The characters of each class. -/
def chS : Nat → ByteArray | 0 => ⟨#[]⟩ | 1 => ⟨#[48, 49, 56, 57]⟩ | 2 => ⟨#[65, 90, 81]⟩ | 3 => ⟨#[97, 122, 113]⟩ | 4 => ⟨#[65, 90, 97, 122]⟩ | 5 => ⟨#[32]⟩ | 6 => ⟨#[45, 46, 43, 123]⟩ | _ => ⟨#[97, 48, 32, 90, 126]⟩
theorem chS_all {k : Nat} (h1 : 1 ≤ k) (h7 : k ≤ 7) : allD (chS k).data.toList k = true ∧ 0 < (chS k).size ∧ (chS k).size ≤ 5 := by
  have h : ∀ d : Fin 7, allD (chS (d.1 + 1)).data.toList ((d.1 + 1 : Nat) : Int) = true ∧ 0 < (chS (d.1 + 1)).size ∧ (chS (d.1 + 1)).size ≤ 5 := by decide
  have := h ⟨k - 1, by omega⟩
  rwa [show k - 1 + 1 = k from by omega] at this
end Pt
end Go.Proofs.YtgkegbcdiadkdaaDoor
namespace Go.Proofs.YtgkegbcdiadkdaaDoor
open Go.RowKit Pt

theorem pcs_cells {w : World} {v : Value} {ps : List Pc} (h : Pcs w v ps) : ∃ a c, v = .slice a ps.length c ∧ (ps.length = 0 ∨ ∃ g o, a = some ⟨g, o, none⟩ ∧ g < w.heap.size ∧ PcsAt w g o ps) := by
  rcases h with ⟨rfl, rfl⟩ | ⟨g, o, c, rfl, hb, hp⟩
  · exact ⟨none, 0, rfl, .inl rfl⟩
  · exact ⟨_, c, rfl, .inr ⟨g, o, rfl, hb, hp⟩⟩
abbrev chL' : List Value := [.string ⟨#[]⟩, .string ⟨#[48, 49, 56, 57]⟩, .string ⟨#[65, 90, 81]⟩, .string ⟨#[97, 122, 113]⟩, .string ⟨#[65, 90, 97, 122]⟩, .string ⟨#[32]⟩, .string ⟨#[45, 46, 43, 123]⟩, .string ⟨#[97, 48, 32, 90, 126]⟩]
theorem chL_get {k : Nat} (h : k ≤ 7) : chL'[k]? = some (.string (chS k)) := by
  have h7 : k = 0 ∨ k = 1 ∨ k = 2 ∨ k = 3 ∨ k = 4 ∨ k = 5 ∨ k = 6 ∨ k = 7 := by omega
  rcases h7 with rfl | rfl | rfl | rfl | rfl | rfl | rfl | rfl <;> rfl
theorem ext_one {s : ByteArray} {r : Nat} {k : Int} (hr : r < s.size) (ha : allD s.data.toList k = true) : ∃ b, (s.extract r (r + 1)).data.toList = [b] ∧ allD [b] k = true := by
  have hl : r < s.data.toList.length := hr
  refine ⟨s.data.toList[r], ?_, ?_⟩
  · rw [ext_list, show r + 1 - r = 1 by omega, List.drop_eq_getElem_cons hl]
    rfl
  · unfold allD at *
    rw [List.all_eq_true] at ha
    simpa using ha _ (List.getElem_mem hl)
theorem fit_lit {p : Pc} (h : p.k = 0) : fit p p.t.data.toList := by unfold fit; rw [if_pos h]
theorem fit_run {p : Pc} {x : List UInt8} (h : p.k ≠ 0) (h1 : p.a ≤ (x.length : Int)) (h2 : (x.length : Int) ≤ p.b) (h3 : allD x p.k = true) : fit p x := by unfold fit; rw [if_neg h]; exact ⟨h1, h2, h3⟩
set_option maxRecDepth 100000 in
set_option maxHeartbeats 8000000 in
theorem rsample_any (w : World) (v l : Value) (ps : List Pc) (hv : Pcs w v ps) (hl : IntsA w l) (hn : ps.length ≤ 5) (hg : ∀ p ∈ ps, GoodM 5 p) :
    Calls Tryd.prog 19 #[v, l] w fun e w' => ∃ s : ByteArray, e = .returned (.string s) ∧ Fits ps s.data.toList ∧ s.size ≤ 100 ∧ w.grownBy w' none := by
  obtain ⟨pa, pc, rfl, hpf⟩ := pcs_cells hv
  obtain ⟨la, m, lc, rfl, hlf⟩ := hl
  have HPF := Lib.hid hpf
  have HLF := Lib.hid hlf
  obtain ⟨n, hnn⟩ : ∃ n, ps.length = n := ⟨_, rfl⟩
  rw [hnn] at hn HPF ⊢
  have HN := Lib.hid hnn
  have HG := Lib.hid hg
  obtain ⟨wb, hwb⟩ : ∃ wb, w.alloc (.cells #[.string ⟨#[]⟩, .string ⟨#[48, 49, 56, 57]⟩, .string ⟨#[65, 90, 81]⟩, .string ⟨#[97, 122, 113]⟩, .string ⟨#[65, 90, 97, 122]⟩, .string ⟨#[32]⟩, .string ⟨#[45, 46, 43, 123]⟩, .string ⟨#[97, 48, 32, 90, 126]⟩] 9) = wb := ⟨_, rfl⟩
  have GB := Lib.hid (show w.grownBy wb none by rw [← hwb]; exact gr_alloc _ _ _)
  have RB := Row.new w chL' 9
  simp only [List.toArray] at RB
  rw [hwb] at RB
  obtain ⟨X, hX⟩ : ∃ X, w.heap.size = X := ⟨_, rfl⟩
  rw [hX] at RB
  have HRB := Lib.hid RB
  have HWB := Lib.hid hwb
  have HXX := Lib.hid hX
  clear hv hpf hlf hnn hg hwb RB
  go_enter Tryd.func19, Tryd.ntmps19
  go_wp2_with fail
  rw [HWB.out]
  clear hX
  go_loopw [6, 7, 8] (fun at_ s i wr => ∃ (x q : Nat) (t : ByteArray), x ≤ n ∧ q ≤ x ∧ at_ = .int .i64 (q : Int) ∧ s = .string t ∧ i = .int .i64 (x : Int) ∧ t.size ≤ 20 * x ∧ Hid (Fits (ps.take x) t.data.toList) ∧ Hid (wb.grownBy wr none)) (fun _ _ i _ => n - (intOf i).toNat)
  case atStart => exact ⟨0, 0, ⟨#[]⟩, Nat.zero_le _, Nat.le_refl _, rfl, rfl, rfl, Nat.zero_le _, Lib.hid Fits.nil, Lib.hid (gr_rfl wb)⟩
  case round =>
    obtain ⟨x, q, t, hx, hq, rfl, rfl, rfl, ht, HFT, G0⟩ := hrel
    have G1 := Lib.hid (gr_then GB.out G0.out)
    have ht100 : t.size ≤ 100 := by omega
    by_cases hlt : x < n
    · have hlti : (x : Int) < (n : Int) := by omega
      have hxp : x < ps.length := by rw [HN.out]; exact hlt
      obtain ⟨g, o, rfl, hb, hpa⟩ := HPF.out.resolve_left (by omega)
      have HPC := Lib.hid (fun (w0 : World) (g0 : w.grownBy w0 none) => (hpa.kept hb g0) x hxp)
      have hgood := HG.out _ (List.getElem_mem hxp)
      have HTK := Lib.hid (List.take_append_getElem hxp)
      obtain ⟨p, hp⟩ : ∃ p, ps[x] = p := ⟨_, rfl⟩
      rw [hp] at HPC hgood HTK
      clear hp hpa
      obtain ⟨c0, c1, c2, c3⟩ := HPC.out wr G1.out
      by_cases hk0 : p.k = 0
      · have hkb : (p.k == 0) = true := by rw [hk0]; rfl
        have hpt := hgood.t
        have hcat : (t ++ p.t).size = t.size + p.t.size := ByteArray.size_append
        have hcatl : (t ++ p.t).data.toList = t.data.toList ++ p.t.data.toList := cat_list t p.t
        have HF2 := Lib.hid (show Fits (ps.take (x + 1)) (t ++ p.t).data.toList by rw [← HTK.out, hcatl]; exact Fits.snoc HFT.out (fit_lit hk0))
        have h5 : ¬ (9223372036854775807 : Int) < (t.size : Int) + (p.t.size : Int) := by omega
        have h6 : ¬ 9223372036854775807 < t.size + p.t.size := by omega
        clear hk0 hcatl
        go_wp2
        exact ⟨⟨x + 1, q, t ++ p.t, by omega, by omega, rfl, rfl, rfl, by rw [hcat]; omega, HF2, G0⟩, by simp only [intOf]; omega⟩
      · have hkb : (p.k == 0) = false := by rw [beq_eq_false_iff_ne]; exact hk0
        obtain ⟨k, hk⟩ : ∃ k : Nat, p.k = (k : Int) := ⟨p.k.toNat, by have := hgood.k; omega⟩
        obtain ⟨A, hA⟩ : ∃ A : Nat, p.a = (A : Int) := ⟨p.a.toNat, by have := hgood.a; omega⟩
        obtain ⟨B, hB⟩ : ∃ B : Nat, p.b = (B : Int) := ⟨p.b.toNat, by have := hgood.a; have := hgood.b; omega⟩
        have hk17 : 1 ≤ k ∧ k ≤ 7 := by have := hgood.k; omega
        have hAB : A ≤ 2 ∧ A ≤ B ∧ B ≤ 200 := by have := hgood.a; have := hgood.b; omega
        have HFR := Lib.hid (fun (y : List UInt8) (h1 : A ≤ y.length) (h2 : y.length ≤ B) (h3 : allD y (k : Int) = true) => fit_run (p := p) (x := y) hk0 (by omega) (by omega) (by rw [hk]; exact h3))
        rw [hk] at c0 hkb HPC
        rw [hA] at c1 HPC
        rw [hB] at c2 HPC
        have HK := Lib.hid hk17
        have hcs := chS_all hk17.1 hk17.2
        have HCS := Lib.hid hcs
        clear hgood hk0 hk hA hB hcs
        by_cases hqm : q < m
        · have hqi : (q : Int) < (m : Int) := by omega
          obtain ⟨g', o', F, rfl, hb', _, hFF⟩ := HLF.out.resolve_left (by omega)
          have HLC := Lib.hid (fun (w0 : World) (g0 : w.grownBy w0 none) (j : Nat) (hj : j < m) => And.intro (g0.cell (hFF j hj).1 (by simp)) (hFF j hj).2)
          clear hFF
          obtain ⟨d0, d1, d2⟩ := HLC.out wr G1.out q hqm
          have M1 := Lib.hid (fun w => rmod_any (F q) 3 w (by decide) (by decide) d1 d2)
          have hz := mod_le (z := F q) (show (0 : Int) < 3 by decide)
          generalize F q % 3 = z at *
          obtain ⟨Z, rfl⟩ : ∃ Z : Nat, z = (Z : Int) := ⟨z.toNat, by omega⟩
          obtain ⟨N, hN⟩ : ∃ N, min (A + Z) B = N := ⟨_, rfl⟩
          have hmin : min (((A + Z : Nat) : Int)) (B : Int) = (N : Int) := by omega
          have hmin2 : min ((A : Int) + (Z : Int)) (B : Int) = (N : Int) := by omega
          have hNb : A ≤ N ∧ N ≤ B ∧ N ≤ 4 := by omega
          clear hN
          have hsum : IntKind.i64.wrap ((A : Int) + (Z : Int)) = ((A + Z : Nat) : Int) := by rw [IntWalk.i64_in _ (by omega)]; omega
          clear d1 d2
          go_wp2_with fail
          go_region_with (go_at_call 20; refine (M1.out _).mono ?_; rintro e' w2 ⟨rfl, rfl⟩)
          all_goals (
            clear hsum hmin hmin2
            go_wp2_with fail
            go_loopw [7, 10] (fun s k' wi => ∃ (y : Nat) (t' : ByteArray) (xs : List UInt8), y ≤ N ∧ k' = .int .i64 (y : Int) ∧ s = .string t' ∧ t'.size = t.size + y ∧ Hid (t'.data.toList = t.data.toList ++ xs) ∧ Hid (xs.length = y ∧ allD xs (k : Int) = true) ∧ Hid (wb.grownBy wi none)) (fun _ k' _ => N - (intOf k').toNat)
            case atStart => exact ⟨0, t, [], Nat.zero_le _, rfl, rfl, rfl, Lib.hid (by simp), Lib.hid ⟨rfl, rfl⟩, Lib.hid (gr_dr G0.out)⟩
            case round =>
              obtain ⟨y, t', xs, hy, rfl, rfl, ht', HT', HXS, GI⟩ := hrel
              have GI1 := Lib.hid (gr_then GB.out GI.out)
              have t100 : t'.size ≤ 400 := by omega
              by_cases hyN : y < N
              · have hyi : (y : Int) < (N : Int) := by omega
                obtain ⟨c0, c1, c2, c3⟩ := HPC.out _ GI1.out
                have RC := HRB.out.kept GI.out
                have rk := RC.cell k _ (chL_get HK.out.2)
                clear RC
                have hkb8 : (k : Int) < 8 := by have := HK.out; omega
                have hcl := HCS.out.2
                have HCA := Lib.hid HCS.out.1
                generalize chS k = cs at *
                have hcs1 : (cs.size == 0) = false := by rw [beq_eq_false_iff_ne]; omega
                have hcs2 : ((cs.size : Int) == 0) = false := by rw [beq_eq_false_iff_ne]; omega
                have hcs3 : ¬ (cs.size : Int) = 0 := by omega
                by_cases hq2 : q + 1 < m
                · have hq2i : (q : Int) + 1 < (m : Int) := by omega
                  obtain ⟨d0, d1, d2⟩ := HLC.out _ GI1.out (q + 1) hq2
                  have M2 := Lib.hid (fun w => rmod_any (F (q + 1)) 97 w (by decide) (by decide) d1 d2)
                  have hz2 := mod_le (z := F (q + 1)) (show (0 : Int) < 97 by decide)
                  generalize F (q + 1) % 97 = z2 at *
                  obtain ⟨Z2, rfl⟩ : ∃ Z2 : Nat, z2 = (Z2 : Int) := ⟨z2.toNat, by omega⟩
                  obtain ⟨xx, hxx⟩ : ∃ xx, Z2 + y = xx := ⟨_, rfl⟩
                  have hxi : IntKind.i64.wrap ((Z2 : Int) + (y : Int)) = (xx : Int) := by rw [IntWalk.i64_in _ (by omega)]; omega
                  have hxi2 : (Z2 : Int) + (y : Int) = (xx : Int) := by omega
                  have hxb : xx ≤ 100000 := by omega
                  clear d1 d2 hxx
                  go_wp2_with fail
                  refine (M2.out _).mono ?_
                  rintro e' w2 ⟨rfl, rfl⟩
                  obtain ⟨r, hr⟩ : ∃ r, xx % cs.size = r := ⟨_, rfl⟩
                  have hrl : r < cs.size := by rw [← hr]; exact Nat.mod_lt _ hcl.1
                  obtain ⟨b, hb1, hb2⟩ := ext_one hrl HCA.out
                  have hes : (cs.extract r (r + 1)).size = 1 := by rw [← len_toList, hb1]; rfl
                  have hrl1 : r + 1 ≤ cs.size := hrl
                  have hrli : (r : Int) + 1 ≤ (cs.size : Int) := by omega
                  have HT2 := Lib.hid (show (t' ++ cs.extract r (r + 1)).data.toList = t.data.toList ++ (xs ++ [b]) by rw [cat_list, HT'.out, hb1, List.append_assoc])
                  have HS2 := Lib.hid (show (t' ++ cs.extract r (r + 1)).size = t'.size + 1 by rw [ByteArray.size_append, hes])
                  have HXS2 := Lib.hid (show (xs ++ [b]).length = y + 1 ∧ allD (xs ++ [b]) (k : Int) = true from ⟨by rw [List.length_append, HXS.out.1]; rfl, by rw [allD_cat, HXS.out.2, hb2]; rfl⟩)
                  have hr5 : (r : Int) ≤ 5 := by omega
                  have r4 : IntKind.i64.wrap ((r : Int) + 1) = (r : Int) + 1 := IntWalk.i64_in _ (by omega)
                  have r1 : Int.tmod (xx : Int) (cs.size : Int) = (r : Int) := by rw [← hr]; rfl
                  clear hb1 hb2 hr hr5
                  go_wp2_with fail
                  go_region
                  all_goals (
                    go_wp2
                    exact ⟨⟨y + 1, t' ++ cs.extract r (r + 1), xs ++ [b], by omega, rfl, rfl, by rw [HS2.out]; omega, HT2, HXS2, Lib.hid (gr_dr GI.out)⟩, by simp only [intOf]; omega⟩)
                · have hq2i : ¬ (q : Int) + 1 < (m : Int) := by omega
                  obtain ⟨xx, hxx⟩ : ∃ xx, y = xx := ⟨_, rfl⟩
                  have hxb : xx ≤ 100000 := by omega
                  rw [hxx] at hyi ht' HXS ⊢
                  obtain ⟨r, hr⟩ : ∃ r, xx % cs.size = r := ⟨_, rfl⟩
                  have hrl : r < cs.size := by rw [← hr]; exact Nat.mod_lt _ hcl.1
                  obtain ⟨b, hb1, hb2⟩ := ext_one hrl HCA.out
                  have hes : (cs.extract r (r + 1)).size = 1 := by rw [← len_toList, hb1]; rfl
                  have hrl1 : r + 1 ≤ cs.size := hrl
                  have hrli : (r : Int) + 1 ≤ (cs.size : Int) := by omega
                  have HT2 := Lib.hid (show (t' ++ cs.extract r (r + 1)).data.toList = t.data.toList ++ (xs ++ [b]) by rw [cat_list, HT'.out, hb1, List.append_assoc])
                  have HS2 := Lib.hid (show (t' ++ cs.extract r (r + 1)).size = t'.size + 1 by rw [ByteArray.size_append, hes])
                  have HXS2 := Lib.hid (show (xs ++ [b]).length = xx + 1 ∧ allD (xs ++ [b]) (k : Int) = true from ⟨by rw [List.length_append, HXS.out.1]; rfl, by rw [allD_cat, HXS.out.2, hb2]; rfl⟩)
                  have hr5 : (r : Int) ≤ 5 := by omega
                  have r4 : IntKind.i64.wrap ((r : Int) + 1) = (r : Int) + 1 := IntWalk.i64_in _ (by omega)
                  have r1 : Int.tmod (xx : Int) (cs.size : Int) = (r : Int) := by rw [← hr]; rfl
                  clear hb1 hb2 hr hr5
                  go_wp2_with fail
                  go_region
                  all_goals (
                    go_wp2
                    exact ⟨⟨xx + 1, t' ++ cs.extract r (r + 1), xs ++ [b], by omega, rfl, rfl, by rw [HS2.out]; omega, HT2, HXS2, Lib.hid (gr_dr GI.out)⟩, by simp only [intOf]; omega⟩)
              · obtain rfl : y = N := by omega
                have hyi : ¬ (y : Int) < (y : Int) := by omega
                have HF2 := Lib.hid (show Fits (ps.take (x + 1)) t'.data.toList by rw [← HTK.out, HT'.out]; exact Fits.snoc HFT.out (HFR.out xs (by have := HXS.out.1; omega) (by have := HXS.out.1; omega) HXS.out.2))
                go_wp2
                exact ⟨⟨x + 1, q + 1, t', by omega, by omega, rfl, rfl, rfl, by omega, HF2, GI⟩, by simp only [intOf]; omega⟩)
        · have hqi : ¬ (q : Int) < (m : Int) := by omega
          obtain ⟨N, hN⟩ : ∃ N, A = N := ⟨_, rfl⟩
          rw [hN] at c1 hAB HPC HFR
          have hNb : N ≤ N ∧ N ≤ B ∧ N ≤ 4 := by omega
          clear hN
          go_wp2_with fail
          go_loopw [7, 10] (fun s k' wi => ∃ (y : Nat) (t' : ByteArray) (xs : List UInt8), y ≤ N ∧ k' = .int .i64 (y : Int) ∧ s = .string t' ∧ t'.size = t.size + y ∧ Hid (t'.data.toList = t.data.toList ++ xs) ∧ Hid (xs.length = y ∧ allD xs (k : Int) = true) ∧ Hid (wb.grownBy wi none)) (fun _ k' _ => N - (intOf k').toNat)
          case atStart => exact ⟨0, t, [], Nat.zero_le _, rfl, rfl, rfl, Lib.hid (by simp), Lib.hid ⟨rfl, rfl⟩, Lib.hid G0.out⟩
          case round =>
            obtain ⟨y, t', xs, hy, rfl, rfl, ht', HT', HXS, GI⟩ := hrel
            have GI1 := Lib.hid (gr_then GB.out GI.out)
            have t100 : t'.size ≤ 400 := by omega
            by_cases hyN : y < N
            · have hyi : (y : Int) < (N : Int) := by omega
              obtain ⟨c0, c1, c2, c3⟩ := HPC.out _ GI1.out
              have RC := HRB.out.kept GI.out
              have rk := RC.cell k _ (chL_get HK.out.2)
              clear RC
              have hkb8 : (k : Int) < 8 := by have := HK.out; omega
              have hcl := HCS.out.2
              have HCA := Lib.hid HCS.out.1
              generalize chS k = cs at *
              have hcs1 : (cs.size == 0) = false := by rw [beq_eq_false_iff_ne]; omega
              have hcs2 : ((cs.size : Int) == 0) = false := by rw [beq_eq_false_iff_ne]; omega
              have hcs3 : ¬ (cs.size : Int) = 0 := by omega
              by_cases hq2 : q + 1 < m
              · have hq2i : (q : Int) + 1 < (m : Int) := by omega
                exact absurd hq2 (by omega)
              · have hq2i : ¬ (q : Int) + 1 < (m : Int) := by omega
                obtain ⟨xx, hxx⟩ : ∃ xx, y = xx := ⟨_, rfl⟩
                have hxb : xx ≤ 100000 := by omega
                rw [hxx] at hyi ht' HXS ⊢
                obtain ⟨r, hr⟩ : ∃ r, xx % cs.size = r := ⟨_, rfl⟩
                have hrl : r < cs.size := by rw [← hr]; exact Nat.mod_lt _ hcl.1
                obtain ⟨b, hb1, hb2⟩ := ext_one hrl HCA.out
                have hes : (cs.extract r (r + 1)).size = 1 := by rw [← len_toList, hb1]; rfl
                have hrl1 : r + 1 ≤ cs.size := hrl
                have hrli : (r : Int) + 1 ≤ (cs.size : Int) := by omega
                have HT2 := Lib.hid (show (t' ++ cs.extract r (r + 1)).data.toList = t.data.toList ++ (xs ++ [b]) by rw [cat_list, HT'.out, hb1, List.append_assoc])
                have HS2 := Lib.hid (show (t' ++ cs.extract r (r + 1)).size = t'.size + 1 by rw [ByteArray.size_append, hes])
                have HXS2 := Lib.hid (show (xs ++ [b]).length = xx + 1 ∧ allD (xs ++ [b]) (k : Int) = true from ⟨by rw [List.length_append, HXS.out.1]; rfl, by rw [allD_cat, HXS.out.2, hb2]; rfl⟩)
                have hr5 : (r : Int) ≤ 5 := by omega
                have r4 : IntKind.i64.wrap ((r : Int) + 1) = (r : Int) + 1 := IntWalk.i64_in _ (by omega)
                have r1 : Int.tmod (xx : Int) (cs.size : Int) = (r : Int) := by rw [← hr]; rfl
                clear hb1 hb2 hr hr5
                go_wp2_with fail
                go_region
                all_goals (
                  go_wp2
                  exact ⟨⟨xx + 1, t' ++ cs.extract r (r + 1), xs ++ [b], by omega, rfl, rfl, by rw [HS2.out]; omega, HT2, HXS2, Lib.hid (gr_dr GI.out)⟩, by simp only [intOf]; omega⟩)
            · obtain rfl : y = N := by omega
              have hyi : ¬ (y : Int) < (y : Int) := by omega
              have HF2 := Lib.hid (show Fits (ps.take (x + 1)) t'.data.toList by rw [← HTK.out, HT'.out]; exact Fits.snoc HFT.out (HFR.out xs (by have := HXS.out.1; omega) (by have := HXS.out.1; omega) HXS.out.2))
              go_wp2
              exact ⟨⟨x + 1, q + 1, t', by omega, by omega, rfl, rfl, rfl, by omega, HF2, GI⟩, by simp only [intOf]; omega⟩
    · obtain rfl : x = n := by omega
      have hlti : ¬ (x : Int) < (x : Int) := by omega
      have hfull : ps.take x = ps := List.take_of_length_le (by rw [HN.out]; exact Nat.le_refl _)
      rw [hfull] at HFT
      clear hfull
      go_wp2
      go_ret
      exact ⟨t, rfl, HFT.out, by omega, G1.out⟩
end Go.Proofs.YtgkegbcdiadkdaaDoor
