/- The law of the claim at the level of the call, and its row: SingL, SingLRow. -/
import Derived.Test.YtaejnklgnegkhaaDoorBBase
namespace Go.Proofs.YtaejnklgnegkhaaDoor
open Go.RowKit Pt Sh

theorem in_full {s : List UInt8} (h : s.length ≤ 30) : inD full5 s ↔ isTextD s = true := by
  constructor
  · exact fun h => h.1
  · intro ht
    have h1 : (0 : Int) ≤ (s.length : Int) := by omega
    have h2 : (s.length : Int) ≤ 200 := by omega
    exact ⟨ht, h1, h2, text_sub.2 (text_iff.1 ht).2, List.nil_prefix, List.nil_suffix⟩
theorem cell5 {w : World} {b i : Nat} {cs : List Value} {t : TypeId} {v : Value} (h : Row w b cs t) (hv : cs[i]? = some v) : w.cell? ⟨b, i, none⟩ = some v := h.cell i v hv
set_option maxRecDepth 100000 in
set_option maxHeartbeats 8000000 in
theorem single_true (va vb : Value) (a : S5) (s o : ByteArray) (w : World) (ht : TabP w) (hc : CaseA w va vb a s) (ho : o.size ≤ maxLen) : Calls Tryd.prog 11 #[vCase va vb a s, .string o] w fun e w' => e = .returned (.bool true) ∧ w.grownBy w' none := by
  have HS := Lib.hid (fun (w0 : World) (g : w.grownBy w0 none) => sanity8_any w0 (tabis_grown ht g))
  have HSH := Lib.hid (fun (w0 : World) (g : w.grownBy w0 none) => shapes_any va vb a s w0 ⟨hc.1.kept g, hc.2.1.kept g, hc.2.2⟩)
  have hs : s.size ≤ 9223372036854775807 := by have := hc.2.2.2.2.2.2.2; unfold maxLen at this; omega
  have ho' : o.size ≤ 9223372036854775807 := by unfold maxLen at ho; omega
  obtain ⟨k, hk⟩ : ∃ k, min s.size 30 = k := ⟨_, rfl⟩
  obtain ⟨j, hj⟩ : ∃ j, min o.size 30 = j := ⟨_, rfl⟩
  have hki : min (s.size : Int) 30 = (k : Int) := by omega
  have hji : min (o.size : Int) 30 = (j : Int) := by omega
  have hkl : k ≤ s.size := by omega
  have hjl : j ≤ o.size := by omega
  have sk := cut_size hk
  have sj := cut_size hj
  obtain ⟨x, hx⟩ : ∃ x, s.extract 0 k = x := ⟨_, rfl⟩
  obtain ⟨y, hy⟩ : ∃ y, o.extract 0 j = y := ⟨_, rfl⟩
  rw [hx] at sk
  rw [hy] at sj
  have HOF := Lib.hid (fun w0 => of_any x w0 (by omega))
  have HFU := Lib.hid (fun w0 => (show full5 = mk5 0 200 110 [] [] from rfl) ▸ full_any w0)
  have HCF := Lib.hid (fun w0 => contains_any (mk5 0 200 110 [] []) x w0 (by omega))
  have HCX := Lib.hid (fun w0 => contains_any (ofD x) x w0 (by omega))
  have HCY := Lib.hid (fun w0 => contains_any (ofD x) y w0 (by omega))
  have hosz := of_size (s := x) (by omega)
  have HEX := Lib.hid (fun w0 => empty_any (ofD x) w0 (by omega) (by omega))
  have HCL := Lib.hid (fun (z : S5) w0 => contains_any z x w0 (by omega))
  have F1 := Lib.hid (show inD (mk5 0 200 110 [] []) x.data.toList ↔ isTextD x.data.toList = true from in_full (show x.size ≤ 30 from sk))
  have F2 := Lib.hid (show inD (ofD x) x.data.toList ↔ isTextD x.data.toList = true from ⟨fun h => (of_only h).2, fun h => in_of h⟩)
  have F3 := Lib.hid (show ∀ _ : y ≠ x, ¬ inD (ofD x) y.data.toList from fun hn h => hn (by
    have h1 := (of_only h).1
    apply ByteArray.ext
    exact Array.toList_inj.1 h1))
  have F4 := Lib.hid (show emptyD (ofD x) ↔ ¬ isTextD x.data.toList = true from empty_of)
  generalize hOF : ofD x = f at *
  have HOFE := Lib.hid hOF
  obtain ⟨fl, fm, fc, fb, fe⟩ := f
  obtain ⟨l, m, c, b, e⟩ := a
  have RC := Row.new w [va, vb, .int .i64 l, .int .i64 m, .int .i64 c, .string b, .string e, .string s] 60
  simp only [List.toArray] at RC
  have HRC := Lib.hid RC
  have G0 := Lib.hid (gr_alloc w (.cells #[va, vb, .int .i64 l, .int .i64 m, .int .i64 c, .string b, .string e, .string s] 60) none)
  have HSJ := Lib.hid (And.intro sk sj)
  clear ht hc ho RC hk hj sk sj hosz hOF
  go_enter Tryd.func11, Tryd.ntmps11
  go_wp2_with fail
  refine (HS.out _ G0.out).mono ?_
  rintro e1 w1 ⟨rfl, g1⟩
  have HRC1 := Lib.hid (HRC.out.kept g1)
  have c7 := HRC1.out.cell 7 _ rfl
  have G1 := Lib.hid (gr_then G0.out g1)
  clear g1 G0 HRC HS
  go_wp2_with fail
  refine (HOF.out _).mono ?_
  rintro e2 w2 ⟨rfl, g2⟩
  obtain ⟨X, hX⟩ : ∃ X, w2.heap.size = X := ⟨_, rfl⟩
  obtain ⟨w3, hw3⟩ : ∃ w3, w2.alloc (.cells #[.int .i64 fl, .int .i64 fm, .int .i64 fc, .string fb, .string fe] 58) = w3 := ⟨_, rfl⟩
  have g3 : w1.grownBy w3 none := by rw [← hw3]; exact gr_then g2 (gr_alloc _ _ _)
  have RX : Row w3 X (five ⟨fl, fm, fc, fb, fe⟩) 58 := by rw [← hw3]; exact Row.at5 hX
  have HX := Lib.hid RX
  have HC3 := Lib.hid (HRC1.out.kept g3)
  have G3 := Lib.hid (gr_then G1.out g3)
  have HW3 := Lib.hid hw3
  have HXX := Lib.hid hX
  clear hX hw3 g2 g3 RX c7 HRC1 G1
  go_wp2_with fail
  rw [HW3.out, HXX.out]
  refine (HFU.out _).mono ?_
  rintro e3 w4 ⟨rfl, g4⟩
  have G34 := Lib.hid g4
  clear g4
  go_wp2_with fail
  refine (HCF.out _).mono ?_
  rintro e4 w5 ⟨r, rfl, hr, g5⟩
  have HR := Lib.hid (hr.trans F1.out)
  have HX5 := Lib.hid (HX.out.kept (gr_then G34.out g5))
  have HC5 := Lib.hid (HC3.out.kept (gr_then G34.out g5))
  have G5 := Lib.hid (gr_then G3.out (gr_then G34.out g5))
  clear hr g5 G34 HC3 HX G3
  have x0 := HX5.out.cell 0 _ rfl
  have x1 := HX5.out.cell 1 _ rfl
  have x2 := HX5.out.cell 2 _ rfl
  have x3 := HX5.out.cell 3 _ rfl
  have x4 := HX5.out.cell 4 _ rfl
  go_wp2_with fail
  refine (HCX.out _).mono ?_
  rintro e5 w6 ⟨r2, rfl, hr2, g6⟩
  have hrr : r2 = r := by rw [Bool.eq_iff_iff, hr2, F2.out, HR.out]
  subst hrr
  have HX6 := Lib.hid (HX5.out.kept g6)
  have HC6 := Lib.hid (HC5.out.kept g6)
  have G6 := Lib.hid (gr_then G5.out g6)
  clear hr2 g6 HX5 HC5 G5 x0 x1 x2 x3 x4
  have x0 := HX6.out.cell 0 _ rfl
  have x1 := HX6.out.cell 1 _ rfl
  have x2 := HX6.out.cell 2 _ rfl
  have x3 := HX6.out.cell 3 _ rfl
  have x4 := HX6.out.cell 4 _ rfl
  have hcut : ∀ (u : World), True := fun _ => trivial
  clear hcut
  have hxb : (r2 == r2) = true := beq_self_eq_true r2
  have hxn : (r2 != r2) = false := by rw [bne, hxb]; rfl
  have HPART : ∀ (P : Prop), (y ≠ x → P) → (y = x → P) → P := fun P h1 h2 => (Classical.em (y = x)).elim h2 h1
  clear HPART
  by_cases hyx : y = x
  · have hyb : (y.toList == x.toList) = true := by rw [hyx]; exact beq_self_eq_true _
    have hyn : (y.toList != x.toList) = false := by rw [bne, hyb]; rfl
    clear hyx
    go_wp2_with fail
    refine (HEX.out _).mono ?_
    rintro e7 w8 ⟨r4, rfl, hr4, g8⟩
    have hr4' : r4 = !r2 := by
      rw [Bool.eq_iff_iff, hr4, F4.out, Bool.not_eq_true', ← HR.out]
      cases r2 <;> simp
    subst hr4'
    have HC8 := Lib.hid (HC6.out.kept g8)
    have G8 := Lib.hid (gr_then G6.out g8)
    have hqb : ((!r2) == r2) = false := by cases r2 <;> rfl
    clear hr4 g8 x0 x1 x2 x3 x4
    have c0 := HC8.out.cell 0 _ rfl
    have c1 := HC8.out.cell 1 _ rfl
    have c2 := HC8.out.cell 2 _ rfl
    have c3 := HC8.out.cell 3 _ rfl
    have c4 := HC8.out.cell 4 _ rfl
    have c5 := HC8.out.cell 5 _ rfl
    have c6 := HC8.out.cell 6 _ rfl
    have c7 := HC8.out.cell 7 _ rfl
    go_wp2_with fail
    refine (HSH.out _ G8.out).mono ?_
    rintro e2 w9 ⟨a0, a1, a2, a3, h0, h1, h2, h3, rfl, g2⟩
    have HG := Lib.hid (fun i => pick_good h0 h1 h2 h3 i)
    obtain ⟨L, hL⟩ : ∃ L, w9.heap.size = L := ⟨_, rfl⟩
    have G9 := Lib.hid (gr_then G8.out g2)
    have RA := Row.new w9 [.int .i64 0, .int .i64 0, .int .i64 0, .string ⟨#[]⟩, .string ⟨#[]⟩, .int .i64 0, .int .i64 0, .int .i64 0, .string ⟨#[]⟩, .string ⟨#[]⟩, .int .i64 0, .int .i64 0, .int .i64 0, .string ⟨#[]⟩, .string ⟨#[]⟩, .int .i64 0, .int .i64 0, .int .i64 0, .string ⟨#[]⟩, .string ⟨#[]⟩] 65
    simp only [List.toArray, hL] at RA
    obtain ⟨wa, hwa⟩ : ∃ wa, w9.alloc (.cells #[.int .i64 0, .int .i64 0, .int .i64 0, .string ⟨#[]⟩, .string ⟨#[]⟩, .int .i64 0, .int .i64 0, .int .i64 0, .string ⟨#[]⟩, .string ⟨#[]⟩, .int .i64 0, .int .i64 0, .int .i64 0, .string ⟨#[]⟩, .string ⟨#[]⟩, .int .i64 0, .int .i64 0, .int .i64 0, .string ⟨#[]⟩, .string ⟨#[]⟩] 65) = wa := ⟨_, rfl⟩
    rw [hwa] at RA
    have HWA := Lib.hid hwa
    have HRA := Lib.hid RA
    have GA := Lib.hid (show w.grownBy wa none from by rw [← hwa]; exact gr_then G9.out (gr_alloc _ _ _))
    have hLw : w.heap.size ≤ L := by rw [← hL]; exact G9.out.size
    have HLL := Lib.hid hL
    clear h0 h1 h2 h3 g2 G9 RA c0 c1 c2 c3 c4 c5 c6 c7 hL hwa HC8
    go_wp2_with ((refine wpList_store_row rfl 65 (.tmp 10) (.tmp 52) rfl w9.heap.size rfl (four a0 a1 a2 a3) rfl 65 [.int .i64 0, .int .i64 0, .int .i64 0, .string ⟨#[]⟩, .string ⟨#[]⟩, .int .i64 0, .int .i64 0, .int .i64 0, .string ⟨#[]⟩, .string ⟨#[]⟩, .int .i64 0, .int .i64 0, .int .i64 0, .string ⟨#[]⟩, .string ⟨#[]⟩, .int .i64 0, .int .i64 0, .int .i64 0, .string ⟨#[]⟩, .string ⟨#[]⟩] ?hstore (by kernel_rfl) rfl (by rfl) ?_))
    case hstore =>
      rw [HWA.out, HLL.out]
      exact HRA.out
    rw [HWA.out, HLL.out]
    have RL := HRA.out.put (cs' := four a0 a1 a2 a3)
    have GL := gr_put (cs' := (four a0 a1 a2 a3).toArray) GA.out hLw
    obtain ⟨w3, hw3⟩ : ∃ w3, wa.setRow L (four a0 a1 a2 a3).toArray = w3 := ⟨_, rfl⟩
    rw [hw3] at RL GL ⊢
    have HRL := Lib.hid RL
    have GL3 := Lib.hid GL
    clear RL GL hw3 GA HRA HWA HLL
    cases r2
    · (try simp only [Bool.not_false])
      go_loopw [11] (fun i wr => ∃ I : Nat, i = .int .i64 (I : Int) ∧ I ≤ 4 ∧ Hid (Row wr L (four a0 a1 a2 a3) 65) ∧ Hid (w.grownBy wr none)) (fun i _ => 4 - (intOf i).toNat)
      case atStart => exact ⟨0, rfl, by omega, HRL, GL3⟩
      case round =>
        obtain ⟨I, rfl, hI, HR0, GR0⟩ := hrel
        by_cases hI3 : I < 4
        rotate_left
        · have hIi : ¬ (I : Int) < 4 := by omega
          go_wp2
          go_ret
          exact ⟨rfl, GR0.out⟩
        have hIi : (I : Int) < 4 := by omega
        obtain ⟨i0, i1, i2, i3, i4⟩ := at4 HR0.out hI3
        have gz := HG.out I
        have KIN := Lib.hid (fun w0 => HCL.out (pick4 a0 a1 a2 a3 I) w0)
        have KEM := Lib.hid (fun w0 => empty_any (pick4 a0 a1 a2 a3 I) w0 (Nat.le_trans gz.b (by decide)) (Nat.le_trans gz.e (by decide)))
        have HNE := Lib.hid (fun (h : inD (pick4 a0 a1 a2 a3 I) x.data.toList) => And.intro (show ¬ emptyD (pick4 a0 a1 a2 a3 I) from in_not_none h) (HR.out.2 h.1))
        have HAT := Lib.hid (fun (w0 : World) (g : wr.grownBy w0 none) => at4 (HR0.out.kept g) hI3)
        generalize pick4 a0 a1 a2 a3 I = z at *
        obtain ⟨zl, zm, zc, zb, ze⟩ := z
        simp only at i0 i1 i2 i3 i4
        clear gz
        go_wp2_with fail
        refine (KIN.out _).mono ?_
        rintro e9 wb ⟨q, rfl, hq, gq⟩
        have HQ := Lib.hid hq
        have HRb := Lib.hid (HR0.out.kept gq)
        have GRb := Lib.hid (gr_then GR0.out gq)
        obtain ⟨k0, k1, k2, k3, k4⟩ := HAT.out wb gq
        simp only at k0 k1 k2 k3 k4
        clear hq gq i0 i1 i2 i3 i4
        cases q
        · go_wp2
          exact ⟨⟨I + 1, by simp, by omega, HRb, GRb⟩, by simp only [intOf]; omega⟩
        · have hne := HNE.out (HQ.out.1 (by first | rfl | trivial))
          exact absurd hne.2 (by simp)
    · (try simp only [Bool.not_true])
      go_loopw [11] (fun i wr => ∃ I : Nat, i = .int .i64 (I : Int) ∧ I ≤ 4 ∧ Hid (Row wr L (four a0 a1 a2 a3) 65) ∧ Hid (w.grownBy wr none)) (fun i _ => 4 - (intOf i).toNat)
      case atStart => exact ⟨0, rfl, by omega, HRL, GL3⟩
      case round =>
        obtain ⟨I, rfl, hI, HR0, GR0⟩ := hrel
        by_cases hI3 : I < 4
        rotate_left
        · have hIi : ¬ (I : Int) < 4 := by omega
          go_wp2
          go_ret
          exact ⟨rfl, GR0.out⟩
        have hIi : (I : Int) < 4 := by omega
        obtain ⟨i0, i1, i2, i3, i4⟩ := at4 HR0.out hI3
        have gz := HG.out I
        have KIN := Lib.hid (fun w0 => HCL.out (pick4 a0 a1 a2 a3 I) w0)
        have KEM := Lib.hid (fun w0 => empty_any (pick4 a0 a1 a2 a3 I) w0 (Nat.le_trans gz.b (by decide)) (Nat.le_trans gz.e (by decide)))
        have HNE := Lib.hid (fun (h : inD (pick4 a0 a1 a2 a3 I) x.data.toList) => And.intro (show ¬ emptyD (pick4 a0 a1 a2 a3 I) from in_not_none h) (HR.out.2 h.1))
        have HAT := Lib.hid (fun (w0 : World) (g : wr.grownBy w0 none) => at4 (HR0.out.kept g) hI3)
        generalize pick4 a0 a1 a2 a3 I = z at *
        obtain ⟨zl, zm, zc, zb, ze⟩ := z
        simp only at i0 i1 i2 i3 i4
        clear gz
        go_wp2_with fail
        refine (KIN.out _).mono ?_
        rintro e9 wb ⟨q, rfl, hq, gq⟩
        have HQ := Lib.hid hq
        have HRb := Lib.hid (HR0.out.kept gq)
        have GRb := Lib.hid (gr_then GR0.out gq)
        obtain ⟨k0, k1, k2, k3, k4⟩ := HAT.out wb gq
        simp only at k0 k1 k2 k3 k4
        clear hq gq i0 i1 i2 i3 i4
        cases q
        · go_wp2
          exact ⟨⟨I + 1, by simp, by omega, HRb, GRb⟩, by simp only [intOf]; omega⟩
        · have hne := HNE.out (HQ.out.1 (by first | rfl | trivial))
          have HNEE := Lib.hid hne.1
          clear hne
          go_wp2_with fail
          refine (KEM.out _).mono ?_
          rintro e10 wd ⟨q2, rfl, hq2, gq⟩
          have hq0 : q2 = false := Bool.eq_false_iff.2 (fun h => HNEE.out (hq2.1 h))
          subst hq0
          have HRc := Lib.hid (HRb.out.kept gq)
          have GRc := Lib.hid (gr_then GRb.out gq)
          clear hq2 gq k0 k1 k2 k3 k4
          go_wp2
          exact ⟨⟨I + 1, by simp, by omega, HRc, GRc⟩, by simp only [intOf]; omega⟩
  · have hyb : (y.toList == x.toList) = false := by
      rw [beq_eq_false_iff_ne, ByteArray.toList_eq, ByteArray.toList_eq]
      exact fun h => hyx (by apply ByteArray.ext; exact Array.toList_inj.1 h)
    have hyn : (y.toList != x.toList) = true := by rw [bne, hyb]; rfl
    have HN := Lib.hid (F3.out hyx)
    clear hyx
    go_wp2_with fail
    refine (HCY.out _).mono ?_
    rintro e6 w7 ⟨r3, rfl, hr3, g7⟩
    have hr30 : r3 = false := Bool.eq_false_iff.2 (fun h => HN.out (hr3.1 h))
    subst hr30
    have HX6 := Lib.hid (HX6.out.kept g7)
    have HC6 := Lib.hid (HC6.out.kept g7)
    have G6 := Lib.hid (gr_then G6.out g7)
    clear hr3 g7 x0 x1 x2 x3 x4
    have x0 := HX6.out.cell 0 _ rfl
    have x1 := HX6.out.cell 1 _ rfl
    have x2 := HX6.out.cell 2 _ rfl
    have x3 := HX6.out.cell 3 _ rfl
    have x4 := HX6.out.cell 4 _ rfl
    go_wp2_with fail
    refine (HEX.out _).mono ?_
    rintro e7 w8 ⟨r4, rfl, hr4, g8⟩
    have hr4' : r4 = !r2 := by
      rw [Bool.eq_iff_iff, hr4, F4.out, Bool.not_eq_true', ← HR.out]
      cases r2 <;> simp
    subst hr4'
    have HC8 := Lib.hid (HC6.out.kept g8)
    have G8 := Lib.hid (gr_then G6.out g8)
    have hqb : ((!r2) == r2) = false := by cases r2 <;> rfl
    clear hr4 g8 x0 x1 x2 x3 x4
    have c0 := HC8.out.cell 0 _ rfl
    have c1 := HC8.out.cell 1 _ rfl
    have c2 := HC8.out.cell 2 _ rfl
    have c3 := HC8.out.cell 3 _ rfl
    have c4 := HC8.out.cell 4 _ rfl
    have c5 := HC8.out.cell 5 _ rfl
    have c6 := HC8.out.cell 6 _ rfl
    have c7 := HC8.out.cell 7 _ rfl
    go_wp2_with fail
    refine (HSH.out _ G8.out).mono ?_
    rintro e2 w9 ⟨a0, a1, a2, a3, h0, h1, h2, h3, rfl, g2⟩
    have HG := Lib.hid (fun i => pick_good h0 h1 h2 h3 i)
    obtain ⟨L, hL⟩ : ∃ L, w9.heap.size = L := ⟨_, rfl⟩
    have G9 := Lib.hid (gr_then G8.out g2)
    have RA := Row.new w9 [.int .i64 0, .int .i64 0, .int .i64 0, .string ⟨#[]⟩, .string ⟨#[]⟩, .int .i64 0, .int .i64 0, .int .i64 0, .string ⟨#[]⟩, .string ⟨#[]⟩, .int .i64 0, .int .i64 0, .int .i64 0, .string ⟨#[]⟩, .string ⟨#[]⟩, .int .i64 0, .int .i64 0, .int .i64 0, .string ⟨#[]⟩, .string ⟨#[]⟩] 65
    simp only [List.toArray, hL] at RA
    obtain ⟨wa, hwa⟩ : ∃ wa, w9.alloc (.cells #[.int .i64 0, .int .i64 0, .int .i64 0, .string ⟨#[]⟩, .string ⟨#[]⟩, .int .i64 0, .int .i64 0, .int .i64 0, .string ⟨#[]⟩, .string ⟨#[]⟩, .int .i64 0, .int .i64 0, .int .i64 0, .string ⟨#[]⟩, .string ⟨#[]⟩, .int .i64 0, .int .i64 0, .int .i64 0, .string ⟨#[]⟩, .string ⟨#[]⟩] 65) = wa := ⟨_, rfl⟩
    rw [hwa] at RA
    have HWA := Lib.hid hwa
    have HRA := Lib.hid RA
    have GA := Lib.hid (show w.grownBy wa none from by rw [← hwa]; exact gr_then G9.out (gr_alloc _ _ _))
    have hLw : w.heap.size ≤ L := by rw [← hL]; exact G9.out.size
    have HLL := Lib.hid hL
    clear h0 h1 h2 h3 g2 G9 RA c0 c1 c2 c3 c4 c5 c6 c7 hL hwa HC8
    go_wp2_with ((refine wpList_store_row rfl 65 (.tmp 10) (.tmp 52) rfl w9.heap.size rfl (four a0 a1 a2 a3) rfl 65 [.int .i64 0, .int .i64 0, .int .i64 0, .string ⟨#[]⟩, .string ⟨#[]⟩, .int .i64 0, .int .i64 0, .int .i64 0, .string ⟨#[]⟩, .string ⟨#[]⟩, .int .i64 0, .int .i64 0, .int .i64 0, .string ⟨#[]⟩, .string ⟨#[]⟩, .int .i64 0, .int .i64 0, .int .i64 0, .string ⟨#[]⟩, .string ⟨#[]⟩] ?hstore (by kernel_rfl) rfl (by rfl) ?_))
    case hstore =>
      rw [HWA.out, HLL.out]
      exact HRA.out
    rw [HWA.out, HLL.out]
    have RL := HRA.out.put (cs' := four a0 a1 a2 a3)
    have GL := gr_put (cs' := (four a0 a1 a2 a3).toArray) GA.out hLw
    obtain ⟨w3, hw3⟩ : ∃ w3, wa.setRow L (four a0 a1 a2 a3).toArray = w3 := ⟨_, rfl⟩
    rw [hw3] at RL GL ⊢
    have HRL := Lib.hid RL
    have GL3 := Lib.hid GL
    clear RL GL hw3 GA HRA HWA HLL
    cases r2
    · (try simp only [Bool.not_false])
      go_loopw [11] (fun i wr => ∃ I : Nat, i = .int .i64 (I : Int) ∧ I ≤ 4 ∧ Hid (Row wr L (four a0 a1 a2 a3) 65) ∧ Hid (w.grownBy wr none)) (fun i _ => 4 - (intOf i).toNat)
      case atStart => exact ⟨0, rfl, by omega, HRL, GL3⟩
      case round =>
        obtain ⟨I, rfl, hI, HR0, GR0⟩ := hrel
        by_cases hI3 : I < 4
        rotate_left
        · have hIi : ¬ (I : Int) < 4 := by omega
          go_wp2
          go_ret
          exact ⟨rfl, GR0.out⟩
        have hIi : (I : Int) < 4 := by omega
        obtain ⟨i0, i1, i2, i3, i4⟩ := at4 HR0.out hI3
        have gz := HG.out I
        have KIN := Lib.hid (fun w0 => HCL.out (pick4 a0 a1 a2 a3 I) w0)
        have KEM := Lib.hid (fun w0 => empty_any (pick4 a0 a1 a2 a3 I) w0 (Nat.le_trans gz.b (by decide)) (Nat.le_trans gz.e (by decide)))
        have HNE := Lib.hid (fun (h : inD (pick4 a0 a1 a2 a3 I) x.data.toList) => And.intro (show ¬ emptyD (pick4 a0 a1 a2 a3 I) from in_not_none h) (HR.out.2 h.1))
        have HAT := Lib.hid (fun (w0 : World) (g : wr.grownBy w0 none) => at4 (HR0.out.kept g) hI3)
        generalize pick4 a0 a1 a2 a3 I = z at *
        obtain ⟨zl, zm, zc, zb, ze⟩ := z
        simp only at i0 i1 i2 i3 i4
        clear gz
        go_wp2_with fail
        refine (KIN.out _).mono ?_
        rintro e9 wb ⟨q, rfl, hq, gq⟩
        have HQ := Lib.hid hq
        have HRb := Lib.hid (HR0.out.kept gq)
        have GRb := Lib.hid (gr_then GR0.out gq)
        obtain ⟨k0, k1, k2, k3, k4⟩ := HAT.out wb gq
        simp only at k0 k1 k2 k3 k4
        clear hq gq i0 i1 i2 i3 i4
        cases q
        · go_wp2
          exact ⟨⟨I + 1, by simp, by omega, HRb, GRb⟩, by simp only [intOf]; omega⟩
        · have hne := HNE.out (HQ.out.1 (by first | rfl | trivial))
          exact absurd hne.2 (by simp)
    · (try simp only [Bool.not_true])
      go_loopw [11] (fun i wr => ∃ I : Nat, i = .int .i64 (I : Int) ∧ I ≤ 4 ∧ Hid (Row wr L (four a0 a1 a2 a3) 65) ∧ Hid (w.grownBy wr none)) (fun i _ => 4 - (intOf i).toNat)
      case atStart => exact ⟨0, rfl, by omega, HRL, GL3⟩
      case round =>
        obtain ⟨I, rfl, hI, HR0, GR0⟩ := hrel
        by_cases hI3 : I < 4
        rotate_left
        · have hIi : ¬ (I : Int) < 4 := by omega
          go_wp2
          go_ret
          exact ⟨rfl, GR0.out⟩
        have hIi : (I : Int) < 4 := by omega
        obtain ⟨i0, i1, i2, i3, i4⟩ := at4 HR0.out hI3
        have gz := HG.out I
        have KIN := Lib.hid (fun w0 => HCL.out (pick4 a0 a1 a2 a3 I) w0)
        have KEM := Lib.hid (fun w0 => empty_any (pick4 a0 a1 a2 a3 I) w0 (Nat.le_trans gz.b (by decide)) (Nat.le_trans gz.e (by decide)))
        have HNE := Lib.hid (fun (h : inD (pick4 a0 a1 a2 a3 I) x.data.toList) => And.intro (show ¬ emptyD (pick4 a0 a1 a2 a3 I) from in_not_none h) (HR.out.2 h.1))
        have HAT := Lib.hid (fun (w0 : World) (g : wr.grownBy w0 none) => at4 (HR0.out.kept g) hI3)
        generalize pick4 a0 a1 a2 a3 I = z at *
        obtain ⟨zl, zm, zc, zb, ze⟩ := z
        simp only at i0 i1 i2 i3 i4
        clear gz
        go_wp2_with fail
        refine (KIN.out _).mono ?_
        rintro e9 wb ⟨q, rfl, hq, gq⟩
        have HQ := Lib.hid hq
        have HRb := Lib.hid (HR0.out.kept gq)
        have GRb := Lib.hid (gr_then GR0.out gq)
        obtain ⟨k0, k1, k2, k3, k4⟩ := HAT.out wb gq
        simp only at k0 k1 k2 k3 k4
        clear hq gq i0 i1 i2 i3 i4
        cases q
        · go_wp2
          exact ⟨⟨I + 1, by simp, by omega, HRb, GRb⟩, by simp only [intOf]; omega⟩
        · have hne := HNE.out (HQ.out.1 (by first | rfl | trivial))
          have HNEE := Lib.hid hne.1
          clear hne
          go_wp2_with fail
          refine (KEM.out _).mono ?_
          rintro e10 wd ⟨q2, rfl, hq2, gq⟩
          have hq0 : q2 = false := Bool.eq_false_iff.2 (fun h => HNEE.out (hq2.1 h))
          subst hq0
          have HRc := Lib.hid (HRb.out.kept gq)
          have GRc := Lib.hid (gr_then GRb.out gq)
          clear hq2 gq k0 k1 k2 k3 k4
          go_wp2
          exact ⟨⟨I + 1, by simp, by omega, HRc, GRc⟩, by simp only [intOf]; omega⟩
end Go.Proofs.YtaejnklgnegkhaaDoor
namespace Go.Proofs.YtaejnklgnegkhaaDoor
open Go.ChangeShapes Go.WideShapes Go.ChangeAt Go.RowKit Pt Sh

set_option maxRecDepth 1000000 in
set_option maxHeartbeats 4000000 in
theorem single_lifted (os : Os) (started : os.Started) (H : Type) (enc : TypeId × Value → H) :
    ReturnsInHanded {} Tryd.checked os 11 .any (fun w args => (Rows.shapeSingleSpec.pre enc Tryd.prog Tryd.f11 Rows.shapeSingleRow.domain false w args ∧ laidMet Tryd.prog Rows.shapeSingleRow.laid w) ∧ sizedMet enc Tryd.prog Tryd.f11 (OpenSpec.ofChange Rows.shapeSingleSpec) false w args)
      (Rows.shapeSingleSpec.post enc Tryd.prog Tryd.f11 false true false false) := by
  refine returnsInHanded_of_change_and (C := Tryd.checked) (X := fun w _ => laidMet Tryd.prog Rows.shapeSingleRow.laid w) (fun _ _ _ hh h => h.of_heap hh) own0 started (by kernel_rfl) Tryd.func11
    (ChangeSpec.witness_at (enc := enc) (C := Tryd.checked) (os := os) (X := fun w _ => laidMet Tryd.prog Rows.shapeSingleRow.laid w) false (laidWorld os) #[.agg #[.slice none 0 0, .slice none 0 0, .int .i64 0, .int .i64 0, .int .i64 0, .string ⟨#[]⟩, .string ⟨#[]⟩, .string ⟨#[]⟩], .string ⟨#[]⟩] 8 rfl (by kernel_rfl) (by kernel_rfl) (by kernel_rfl) (by kernel_rfl) (by kernel_rfl) (laid_at os _)) ?_
  intro W base args ds gs before hval0 hW hcnd0 _ hL _
  have hval : ∀ (j : Nat) t v, Tryd.f11.params[j]? = some t → args[j]? = some v → Value.okWide Tryd.prog W .any base t v := hval0
  have hW' := hW
  obtain ⟨p, q, hA0, hV, rfl, hfz, hnd⟩ := hW
  have hA : DataW.TrodAll enc Tryd.prog W 0 (fun _ => true) true Tryd.f11.params.toList args.toList ds p := hA0
  rw [Tryd.params11] at hA hval
  obtain ⟨v0, v1, d0, d1, p0, p1, rfl, rfl, rfl, h0, h1⟩ := trodAll_two hA
  obtain ⟨rfl, rfl⟩ := trodVars_none hV
  clear hA0 hval0 hA
  simp only [List.append_nil] at hW'
  have k0 := hval 0 60 v0 rfl rfl
  have k1 := hval 1 9 v1 rfl rfl
  obtain ⟨va0, vb0, ra0, sa0, rfl, w0⟩ := case_arg k0 h0
  obtain ⟨n1, rfl, w1⟩ := str_arg k1 h1
  refine (single_true va0 vb0 ra0 sa0 n1 W (tab_of hL) w0 w1).mono fun e W' ⟨he, hg⟩ => ?_
  subst he
  have hb : Below W.heap.size W W' := gr_low hg
  have hlt : ∀ x ∈ p0 ++ p1, x.block < W.heap.size := fun x hx => by simpa using hW'.lt x hx
  have hl0 : ∀ x ∈ p0, x.block < W.heap.size := fun x hx => hlt x (by simp [hx])
  have hl1 : ∀ x ∈ p1, x.block < W.heap.size := fun x hx => hlt x (by simp [hx])
  refine ⟨_, rfl, _, _, _, [], p0 ++ p1, [], hW', ?_, ?_, rfl, hb.frame _, fun h => by cases h⟩
  · exact trodAll_mk1 (shut_bool Tryd.underlying4 true)
  · have h3 := trodAll_mk2 (Below.trod laidOut0 (by kernel_rfl) (of_decide_eq_true (by kernel_rfl)) h0 hb hl0) (Below.trod laidOut0 (by kernel_rfl) (of_decide_eq_true (by kernel_rfl)) h1 hb hl1)
    exact h3

theorem single_row : Rows.ShapeSingleSaid :=
  OpenClaim.holds_of_wide 11 Tryd.f11 rfl rfl rfl rfl rfl rfl rfl ⟨rfl, rfl, rfl, rfl, rfl⟩ rfl rfl rfl rfl rfl (by kernel_rfl) Tryd.func11 (by kernel_rfl)
    (of_decide_eq_true (by kernel_rfl)) (by unfold Func.isWrapper; first | (rw [if_pos (by decide +kernel)]; kernel_rfl) | (rw [if_neg (by decide +kernel)]; exact ⟨rfl, rfl⟩))
    (fun os started H enc _ => single_lifted os started H enc)
end Go.Proofs.YtaejnklgnegkhaaDoor
