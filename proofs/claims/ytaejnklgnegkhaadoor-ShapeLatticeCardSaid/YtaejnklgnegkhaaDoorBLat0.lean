/- The law of the claim at the level of the call, and its row: LattL, LattLRow. -/
import Derived.Test.YtaejnklgnegkhaaDoorBSw0
namespace Go.Proofs.YtaejnklgnegkhaaDoor
open Go.RowKit Pt Sh

theorem join_small {a b : S5} (hb : a.b.size ≤ 20) (he : a.e.size ≤ 20) (hb2 : b.b.size ≤ 20) (he2 : b.e.size ≤ 20) : (joinD a b).b.size ≤ 1000000 ∧ (joinD a b).e.size ≤ 1000000 := by
  unfold joinD
  have l1 := cpre_len (canonD a).b.data.toList (canonD b).b.data.toList
  have l2 := csuf_len (canonD a).e.data.toList (canonD b).e.data.toList
  have s1 : (BA (cpre (canonD a).b.data.toList (canonD b).b.data.toList)).size = (cpre (canonD a).b.data.toList (canonD b).b.data.toList).length := rfl
  have s2 : (BA (csuf (canonD a).e.data.toList (canonD b).e.data.toList)).size = (csuf (canonD a).e.data.toList (canonD b).e.data.toList).length := rfl
  have e1 : (canonD a).b.data.toList.length = (canonD a).b.size := rfl
  have e2 : (canonD a).e.data.toList.length = (canonD a).e.size := rfl
  have hc := canon_200 a
  split
  · split
    · exact ⟨Nat.zero_le _, Nat.zero_le _⟩
    · exact ⟨by omega, by omega⟩
  · split
    · exact ⟨by omega, by omega⟩
    · exact ⟨by rw [s1]; omega, by rw [s2]; omega⟩
theorem meet_small (a b : S5) : (meetD a b).b.size ≤ 1000000 ∧ (meetD a b).e.size ≤ 1000000 := by
  unfold meetD
  split
  · have := canon_200 ⟨max a.l b.l, min a.m b.m, bits .and .i64 a.c b.c, longB a.b b.b, longB a.e b.e⟩
    exact ⟨by omega, by omega⟩
  · exact ⟨Nat.zero_le _, Nat.zero_le _⟩
set_option maxRecDepth 100000 in
set_option maxHeartbeats 8000000 in
theorem lattice_true (va vb : Value) (a : S5) (s : ByteArray) (w : World) (ht : TabP w) (hc : CaseA w va vb a s) : Calls Tryd.prog 12 #[vCase va vb a s] w fun e w' => e = .returned (.bool true) ∧ w.grownBy w' none := by
  have HS := Lib.hid (fun (w0 : World) (g : w.grownBy w0 none) => sanity8_any w0 (tabis_grown ht g))
  have HSH := Lib.hid (fun (w0 : World) (g : w.grownBy w0 none) => shapes_any va vb a s w0 ⟨hc.1.kept g, hc.2.1.kept g, hc.2.2⟩)
  obtain ⟨l, m, c, b, e⟩ := a
  have RC := Row.new w [va, vb, .int .i64 l, .int .i64 m, .int .i64 c, .string b, .string e, .string s] 60
  simp only [List.toArray] at RC
  have HRC := Lib.hid RC
  have G0 := Lib.hid (gr_alloc w (.cells #[va, vb, .int .i64 l, .int .i64 m, .int .i64 c, .string b, .string e, .string s] 60) none)
  clear ht hc RC
  go_enter Tryd.func12, Tryd.ntmps12
  go_wp2_with fail
  refine (HS.out _ G0.out).mono ?_
  rintro e1 w1 ⟨rfl, g1⟩
  have RC1 := HRC.out.kept g1
  have c0 := RC1.cell 0 _ rfl
  have c1 := RC1.cell 1 _ rfl
  have c2 := RC1.cell 2 _ rfl
  have c3 := RC1.cell 3 _ rfl
  have c4 := RC1.cell 4 _ rfl
  have c5 := RC1.cell 5 _ rfl
  have c6 := RC1.cell 6 _ rfl
  have c7 := RC1.cell 7 _ rfl
  have G1 := Lib.hid (gr_then G0.out g1)
  clear g1 G0 HRC RC1 HS
  go_wp2_with fail
  refine (HSH.out _ G1.out).mono ?_
  rintro e2 w2 ⟨a0, a1, a2, a3, h0, h1, h2, h3, rfl, g2⟩
  have G2 := Lib.hid (gr_then G1.out g2)
  have HG := Lib.hid (fun i => pick_good h0 h1 h2 h3 i)
  obtain ⟨L, hL⟩ : ∃ L, w2.heap.size = L := ⟨_, rfl⟩
  have RA := Row.new w2 [.int .i64 0, .int .i64 0, .int .i64 0, .string ⟨#[]⟩, .string ⟨#[]⟩, .int .i64 0, .int .i64 0, .int .i64 0, .string ⟨#[]⟩, .string ⟨#[]⟩, .int .i64 0, .int .i64 0, .int .i64 0, .string ⟨#[]⟩, .string ⟨#[]⟩, .int .i64 0, .int .i64 0, .int .i64 0, .string ⟨#[]⟩, .string ⟨#[]⟩] 65
  simp only [List.toArray, hL] at RA
  obtain ⟨wa, hwa⟩ : ∃ wa, w2.alloc (.cells #[.int .i64 0, .int .i64 0, .int .i64 0, .string ⟨#[]⟩, .string ⟨#[]⟩, .int .i64 0, .int .i64 0, .int .i64 0, .string ⟨#[]⟩, .string ⟨#[]⟩, .int .i64 0, .int .i64 0, .int .i64 0, .string ⟨#[]⟩, .string ⟨#[]⟩, .int .i64 0, .int .i64 0, .int .i64 0, .string ⟨#[]⟩, .string ⟨#[]⟩] 65) = wa := ⟨_, rfl⟩
  rw [hwa] at RA
  have HWA := Lib.hid hwa
  have HRA := Lib.hid RA
  have GA := Lib.hid (show w.grownBy wa none from by rw [← hwa]; exact gr_then G2.out (gr_alloc _ _ _))
  have hLw : w.heap.size ≤ L := by rw [← hL]; exact G2.out.size
  have HLL := Lib.hid hL
  clear h0 h1 h2 h3 g2 G1 G2 RA HSH c0 c1 c2 c3 c4 c5 c6 c7 hL hwa
  go_wp2_with ((refine wpList_store_row rfl 65 (.tmp 4) (.tmp 13) rfl w2.heap.size rfl (four a0 a1 a2 a3) rfl 65 [.int .i64 0, .int .i64 0, .int .i64 0, .string ⟨#[]⟩, .string ⟨#[]⟩, .int .i64 0, .int .i64 0, .int .i64 0, .string ⟨#[]⟩, .string ⟨#[]⟩, .int .i64 0, .int .i64 0, .int .i64 0, .string ⟨#[]⟩, .string ⟨#[]⟩, .int .i64 0, .int .i64 0, .int .i64 0, .string ⟨#[]⟩, .string ⟨#[]⟩] ?hstore (by kernel_rfl) rfl (by rfl) ?_))
  case hstore =>
    rw [HWA.out, HLL.out]
    exact HRA.out
  rw [HWA.out, HLL.out]
  have RL := HRA.out.put (cs' := four a0 a1 a2 a3)
  have GL := gr_put (cs' := (four a0 a1 a2 a3).toArray) GA.out hLw
  obtain ⟨w3, hw3⟩ : ∃ w3, wa.setRow L (four a0 a1 a2 a3).toArray = w3 := ⟨_, rfl⟩
  rw [hw3] at RL GL ⊢
  have HRL := Lib.hid RL
  have G3 := Lib.hid GL
  clear RL GL hw3 GA HRA HWA HLL
  go_loopw [5] (fun i wr => ∃ I : Nat, i = .int .i64 (I : Int) ∧ I ≤ 3 ∧ Hid (Row wr L (four a0 a1 a2 a3) 65) ∧ Hid (w.grownBy wr none)) (fun i _ => 3 - (intOf i).toNat)
  case atStart => exact ⟨0, rfl, by omega, HRL, G3⟩
  case round =>
    obtain ⟨I, rfl, hI, HR0, GR0⟩ := hrel
    by_cases hI3 : I < 3
    rotate_left
    · have hIi : ¬ (I : Int) < 3 := by omega
      go_wp2
      go_ret
      exact ⟨rfl, GR0.out⟩
    have hIi : (I : Int) < 3 := by omega
    obtain ⟨wo, hwo⟩ : ∃ wo, wr = wo := ⟨_, rfl⟩
    rw [hwo] at HR0 GR0 ⊢
    clear hwo
    go_wp2_with fail
    go_loopw [6] (fun k wr => ∃ K : Nat, k = .int .i64 (K : Int) ∧ K ≤ 3 ∧ Hid (Row wr L (four a0 a1 a2 a3) 65) ∧ Hid (w.grownBy wr none)) (fun k _ => 3 - (intOf k).toNat)
    case atStart => exact ⟨0, rfl, by omega, HR0, GR0⟩
    case round =>
      obtain ⟨K, rfl, hK, HR, GR⟩ := hrel
      by_cases hK3 : K < 3
      rotate_left
      · have hKi : ¬ (K : Int) < 3 := by omega
        go_wp2
        exact ⟨⟨I + 1, by simp, by omega, HR, GR⟩, by simp only [intOf]; omega⟩
      have hKi : (K : Int) < 3 := by omega
      have hI0 : (0 : Int) ≤ (I : Int) := by omega
      have hI4 : (I : Int) < 4 := by omega
      have hK4 : (K : Int) < 4 := by omega
      obtain ⟨i0, i1, i2, i3, i4⟩ := at4 HR.out (show I < 4 by omega)
      obtain ⟨k0, k1, k2, k3, k4⟩ := at4 (HR.out.al (o := .cells #[.int .i64 (pick4 a0 a1 a2 a3 I).l, .int .i64 (pick4 a0 a1 a2 a3 I).m, .int .i64 (pick4 a0 a1 a2 a3 I).c, .string (pick4 a0 a1 a2 a3 I).b, .string (pick4 a0 a1 a2 a3 I).e] 58)) (show K < 4 by omega)
      have gx := HG.out I
      have gy := HG.out K
      generalize pick4 a0 a1 a2 a3 I = x at *
      generalize pick4 a0 a1 a2 a3 K = y at *
      have KEX := Lib.hid (fun w0 => empty_any x w0 (Nat.le_trans gx.b (by decide)) (Nat.le_trans gx.e (by decide)))
      have KEY := Lib.hid (fun w0 => empty_any y w0 (Nat.le_trans gy.b (by decide)) (Nat.le_trans gy.e (by decide)))
      have KJ := Lib.hid (fun w0 => join_any x y w0 (Nat.le_trans gx.b (by decide)) (Nat.le_trans gx.e (by decide)) (Nat.le_trans gy.b (by decide)) (Nat.le_trans gy.e (by decide)))
      have KJ2 := Lib.hid (fun (h1 : ¬ emptyD x) (h2 : ¬ emptyD y) w0 => (join_comm h1 h2).symm ▸ join_any y x w0 (Nat.le_trans gy.b (by decide)) (Nat.le_trans gy.e (by decide)) (Nat.le_trans gx.b (by decide)) (Nat.le_trans gx.e (by decide)))
      have KM := Lib.hid (fun w0 => meet_any x y w0 (Nat.le_trans gx.b (by decide)) (Nat.le_trans gx.e (by decide)) (Nat.le_trans gy.b (by decide)) (Nat.le_trans gy.e (by decide)))
      have KM2 := Lib.hid (fun w0 => (meet_comm x y).symm ▸ meet_any y x w0 (Nat.le_trans gy.b (by decide)) (Nat.le_trans gy.e (by decide)) (Nat.le_trans gx.b (by decide)) (Nat.le_trans gx.e (by decide)))
      have js := join_small gx.b gx.e gy.b gy.e
      have ms := meet_small x y
      have KW1 := Lib.hid (fun w0 => within_any x (joinD x y) w0 (Nat.le_trans gx.b (by decide)) (Nat.le_trans gx.e (by decide)) js.1 js.2)
      have KW2 := Lib.hid (fun w0 => within_any (meetD x y) x w0 ms.1 ms.2 (Nat.le_trans gx.b (by decide)) (Nat.le_trans gx.e (by decide)))
      have KW3 := Lib.hid (fun w0 => within_any (meetD x y) y w0 ms.1 ms.2 (Nat.le_trans gy.b (by decide)) (Nat.le_trans gy.e (by decide)))
      have KW4 := Lib.hid (fun w0 => within_any x x w0 (Nat.le_trans gx.b (by decide)) (Nat.le_trans gx.e (by decide)) (Nat.le_trans gx.b (by decide)) (Nat.le_trans gx.e (by decide)))
      have W1 := Lib.hid (fun (h1 : ¬ emptyD x) (h2 : ¬ emptyD y) => with_join h1 h2)
      have W2 := Lib.hid (with_meet x y)
      have W3 := Lib.hid (show withD (meetD x y) y from by rw [meet_comm]; exact with_meet y x)
      have W4 := Lib.hid (with_refl x)
      clear js ms gx gy
      generalize joinD x y = jn at *
      generalize meetD x y = mt at *
      obtain ⟨xl, xm, xc, xb, xe⟩ := x
      obtain ⟨yl, ym, yc, yb, ye⟩ := y
      obtain ⟨jl, jm, jc, jb, je⟩ := jn
      obtain ⟨ml, mm, mc, mb, me⟩ := mt
      simp only at i0 i1 i2 i3 i4 k0 k1 k2 k3 k4
      obtain ⟨X, hX⟩ : ∃ X, wr.heap.size = X := ⟨_, rfl⟩
      have hwX : w.heap.size ≤ X := by rw [← hX]; exact GR.out.size
      have RX := (Row.at5 (w := wr) (v0 := .int .i64 xl) (v1 := .int .i64 xm) (v2 := .int .i64 xc) (v3 := .string xb) (v4 := .string xe) (t := 58) hX).al (o := .cells #[.int .i64 yl, .int .i64 ym, .int .i64 yc, .string yb, .string ye] 58)
      have RY := Row.at5 (w := wr.alloc (.cells #[.int .i64 xl, .int .i64 xm, .int .i64 xc, .string xb, .string xe] 58)) (b := X + 1) (v0 := .int .i64 yl) (v1 := .int .i64 ym) (v2 := .int .i64 yc) (v3 := .string yb) (v4 := .string ye) (t := 58) (by rw [World.size_alloc, hX])
      have RL := (HR.out.al (o := .cells #[.int .i64 xl, .int .i64 xm, .int .i64 xc, .string xb, .string xe] 58)).al (o := .cells #[.int .i64 yl, .int .i64 ym, .int .i64 yc, .string yb, .string ye] 58)
      obtain ⟨wz, hwz⟩ : ∃ wz, (wr.alloc (.cells #[.int .i64 xl, .int .i64 xm, .int .i64 xc, .string xb, .string xe] 58)).alloc (.cells #[.int .i64 yl, .int .i64 ym, .int .i64 yc, .string yb, .string ye] 58) = wz := ⟨_, rfl⟩
      have GZ : wr.grownBy wz none := by rw [← hwz]; exact gr_then (gr_alloc _ _ _) (gr_alloc _ _ _)
      rw [hwz] at RX RY RL
      have HX := Lib.hid RX
      have HY := Lib.hid RY
      have HL := Lib.hid RL
      have HGZ := Lib.hid (gr_then GR.out GZ)
      have HWZ := Lib.hid hwz
      have HXX := Lib.hid hX
      clear RX RY RL GZ hwz hX
      go_wp2_with fail
      rw [HWZ.out]
      refine (KEX.out _).mono ?_
      rintro e1 w4 ⟨r1, rfl, hr1, g1⟩
      have HR1 := Lib.hid hr1
      have HX1 := Lib.hid (HX.out.kept g1)
      have HY1 := Lib.hid (HY.out.kept g1)
      have HL1 := Lib.hid (HL.out.kept g1)
      have HG1 := Lib.hid (gr_then HGZ.out g1)
      clear hr1 g1 i0 i1 i2 i3 i4 k0 k1 k2 k3 k4 HX HY HL HGZ HWZ
      cases r1
      rotate_left
      · go_wp2
        exact ⟨⟨K + 1, by simp, by omega, HL1, HG1⟩, by simp only [intOf]; omega⟩
      have y0 := HY1.out.cell 0 _ rfl
      have y1 := HY1.out.cell 1 _ rfl
      have y2 := HY1.out.cell 2 _ rfl
      have y3 := HY1.out.cell 3 _ rfl
      have y4 := HY1.out.cell 4 _ rfl
      have hXe := HXX.out
      go_wp2_with fail
      refine (KEY.out _).mono ?_
      rintro e1 w5 ⟨r2, rfl, hr2, g2⟩
      have HR2 := Lib.hid hr2
      have HX2 := Lib.hid (HX1.out.kept g2)
      have HY2 := Lib.hid (HY1.out.kept g2)
      have HL2 := Lib.hid (HL1.out.kept g2)
      have HG2 := Lib.hid (gr_then HG1.out g2)
      clear hr2 g2 y0 y1 y2 y3 y4 HX1 HY1 HL1 HG1
      cases r2
      rotate_left
      · go_wp2
        exact ⟨⟨K + 1, by simp, by omega, HL2, HG2⟩, by simp only [intOf]; omega⟩
      have HNX := Lib.hid (show ¬ emptyD ⟨xl, xm, xc, xb, xe⟩ from fun h => by have := HR1.out.2 h; cases this)
      have HNY := Lib.hid (show ¬ emptyD ⟨yl, ym, yc, yb, ye⟩ from fun h => by have := HR2.out.2 h; cases this)
      have x0 := HX2.out.cell 0 _ rfl
      have x1 := HX2.out.cell 1 _ rfl
      have x2 := HX2.out.cell 2 _ rfl
      have x3 := HX2.out.cell 3 _ rfl
      have x4 := HX2.out.cell 4 _ rfl
      have y0 := HY2.out.cell 0 _ rfl
      have y1 := HY2.out.cell 1 _ rfl
      have y2 := HY2.out.cell 2 _ rfl
      have y3 := HY2.out.cell 3 _ rfl
      have y4 := HY2.out.cell 4 _ rfl
      go_wp2_with fail
      refine (KJ.out _).mono ?_
      rintro e1 w6 ⟨rfl, g3⟩
      obtain ⟨J, hJ⟩ : ∃ J, w6.heap.size = J := ⟨_, rfl⟩
      obtain ⟨w7, hw7⟩ : ∃ w7, w6.alloc (.cells #[.int .i64 jl, .int .i64 jm, .int .i64 jc, .string jb, .string je] 58) = w7 := ⟨_, rfl⟩
      have g4 : w5.grownBy w7 none := by rw [← hw7]; exact gr_then g3 (gr_alloc _ _ _)
      have RJ : Row w7 J (five ⟨jl, jm, jc, jb, je⟩) 58 := by rw [← hw7]; exact Row.at5 hJ
      have HJ3 := Lib.hid RJ
      have HX3 := Lib.hid (HX2.out.kept g4)
      have HY3 := Lib.hid (HY2.out.kept g4)
      have HL3 := Lib.hid (HL2.out.kept g4)
      have HG3 := Lib.hid (gr_then HG2.out g4)
      have HW7 := Lib.hid hw7
      have HJJ := Lib.hid hJ
      clear x0 x1 x2 x3 x4 y0 y1 y2 y3 y4
      have hx7 := HX3.out
      have hy7 := HY3.out
      rw [← hw7] at hx7 hy7
      have x0 := hx7.cell 0 _ rfl
      have x1 := hx7.cell 1 _ rfl
      have x2 := hx7.cell 2 _ rfl
      have x3 := hx7.cell 3 _ rfl
      have x4 := hx7.cell 4 _ rfl
      have y0 := hy7.cell 0 _ rfl
      have y1 := hy7.cell 1 _ rfl
      have y2 := hy7.cell 2 _ rfl
      have y3 := hy7.cell 3 _ rfl
      have y4 := hy7.cell 4 _ rfl
      clear hJ hw7 g3 g4 RJ HX2 HY2 HL2 HG2 hx7 hy7
      go_wp2_with fail
      rw [HW7.out, HJJ.out]
      refine (KM.out _).mono ?_
      rintro e1 w8 ⟨rfl, g5⟩
      obtain ⟨M, hM⟩ : ∃ M, w8.heap.size = M := ⟨_, rfl⟩
      obtain ⟨w9, hw9⟩ : ∃ w9, w8.alloc (.cells #[.int .i64 ml, .int .i64 mm, .int .i64 mc, .string mb, .string me] 58) = w9 := ⟨_, rfl⟩
      have g6 : w7.grownBy w9 none := by rw [← hw9]; exact gr_then g5 (gr_alloc _ _ _)
      have RM : Row w9 M (five ⟨ml, mm, mc, mb, me⟩) 58 := by rw [← hw9]; exact Row.at5 hM
      have HM4 := Lib.hid RM
      have HJ4 := Lib.hid (HJ3.out.kept g6)
      have HX4 := Lib.hid (HX3.out.kept g6)
      have HY4 := Lib.hid (HY3.out.kept g6)
      have HL4 := Lib.hid (HL3.out.kept g6)
      have HG4 := Lib.hid (gr_then HG3.out g6)
      have HW9 := Lib.hid hw9
      have HMM := Lib.hid hM
      clear hM hw9 g5 g6 RM x0 x1 x2 x3 x4 y0 y1 y2 y3 y4 HX3 HY3 HL3 HG3 HJ3
      go_wp2_with fail
      rw [HW9.out, HMM.out]
      have HK := Lib.hid (show ∀ w', w9.grownBy w' none → (w'.cell? ⟨X, 0, none⟩ = some (.int .i64 xl) ∧ w'.cell? ⟨X, 1, none⟩ = some (.int .i64 xm) ∧ w'.cell? ⟨X, 2, none⟩ = some (.int .i64 xc) ∧ w'.cell? ⟨X, 3, none⟩ = some (.string xb) ∧ w'.cell? ⟨X, 4, none⟩ = some (.string xe) ∧ w'.cell? ⟨X + 1, 0, none⟩ = some (.int .i64 yl) ∧ w'.cell? ⟨X + 1, 1, none⟩ = some (.int .i64 ym) ∧ w'.cell? ⟨X + 1, 2, none⟩ = some (.int .i64 yc) ∧ w'.cell? ⟨X + 1, 3, none⟩ = some (.string yb) ∧ w'.cell? ⟨X + 1, 4, none⟩ = some (.string ye) ∧ w'.cell? ⟨J, 0, none⟩ = some (.int .i64 jl) ∧ w'.cell? ⟨J, 1, none⟩ = some (.int .i64 jm) ∧ w'.cell? ⟨J, 2, none⟩ = some (.int .i64 jc) ∧ w'.cell? ⟨J, 3, none⟩ = some (.string jb) ∧ w'.cell? ⟨J, 4, none⟩ = some (.string je) ∧ w'.cell? ⟨M, 0, none⟩ = some (.int .i64 ml) ∧ w'.cell? ⟨M, 1, none⟩ = some (.int .i64 mm) ∧ w'.cell? ⟨M, 2, none⟩ = some (.int .i64 mc) ∧ w'.cell? ⟨M, 3, none⟩ = some (.string mb) ∧ w'.cell? ⟨M, 4, none⟩ = some (.string me)) from fun w' h => ⟨(HX4.out.kept h).cell 0 _ rfl, (HX4.out.kept h).cell 1 _ rfl, (HX4.out.kept h).cell 2 _ rfl, (HX4.out.kept h).cell 3 _ rfl, (HX4.out.kept h).cell 4 _ rfl, (HY4.out.kept h).cell 0 _ rfl, (HY4.out.kept h).cell 1 _ rfl, (HY4.out.kept h).cell 2 _ rfl, (HY4.out.kept h).cell 3 _ rfl, (HY4.out.kept h).cell 4 _ rfl, (HJ4.out.kept h).cell 0 _ rfl, (HJ4.out.kept h).cell 1 _ rfl, (HJ4.out.kept h).cell 2 _ rfl, (HJ4.out.kept h).cell 3 _ rfl, (HJ4.out.kept h).cell 4 _ rfl, (HM4.out.kept h).cell 0 _ rfl, (HM4.out.kept h).cell 1 _ rfl, (HM4.out.kept h).cell 2 _ rfl, (HM4.out.kept h).cell 3 _ rfl, (HM4.out.kept h).cell 4 _ rfl⟩)
      refine wp_region_held_drew (S := (fun w' => w'.cell? ⟨X, 0, none⟩ = some (.int .i64 xl) ∧ w'.cell? ⟨X, 1, none⟩ = some (.int .i64 xm) ∧ w'.cell? ⟨X, 2, none⟩ = some (.int .i64 xc) ∧ w'.cell? ⟨X, 3, none⟩ = some (.string xb) ∧ w'.cell? ⟨X, 4, none⟩ = some (.string xe) ∧ w'.cell? ⟨X + 1, 0, none⟩ = some (.int .i64 yl) ∧ w'.cell? ⟨X + 1, 1, none⟩ = some (.int .i64 ym) ∧ w'.cell? ⟨X + 1, 2, none⟩ = some (.int .i64 yc) ∧ w'.cell? ⟨X + 1, 3, none⟩ = some (.string yb) ∧ w'.cell? ⟨X + 1, 4, none⟩ = some (.string ye) ∧ w'.cell? ⟨J, 0, none⟩ = some (.int .i64 jl) ∧ w'.cell? ⟨J, 1, none⟩ = some (.int .i64 jm) ∧ w'.cell? ⟨J, 2, none⟩ = some (.int .i64 jc) ∧ w'.cell? ⟨J, 3, none⟩ = some (.string jb) ∧ w'.cell? ⟨J, 4, none⟩ = some (.string je) ∧ w'.cell? ⟨M, 0, none⟩ = some (.int .i64 ml) ∧ w'.cell? ⟨M, 1, none⟩ = some (.int .i64 mm) ∧ w'.cell? ⟨M, 2, none⟩ = some (.int .i64 mc) ∧ w'.cell? ⟨M, 3, none⟩ = some (.string mb) ∧ w'.cell? ⟨M, 4, none⟩ = some (.string me))) (by kernel_rfl) ?_ (fun hHeld => ?_)
      · refine HK.out _ ?_; (repeat (first | (with_reducible refine gr_dr ?_) | (with_reducible refine gr_then ?_ q6) | (with_reducible refine gr_then ?_ q5) | (with_reducible refine gr_then ?_ q4) | (with_reducible refine gr_then ?_ q3) | (with_reducible refine gr_then ?_ q2) | (with_reducible refine gr_then ?_ q1) | (with_reducible exact gr_rfl _)))
      refine wpAnyH_take (i := 0) (oi := _) (v := ?v1) rfl (by kernel_rfl) (by kernel_rfl) (by kernel_rfl) (fun _ _ _ h => h) (Or.inl ⟨by rfl, ?hy1⟩) (by assumption) ?rest1
      case hy1 => ((intro w hSw; (try dsimp only at hSw); go_simp); try (with_reducible rfl))
      ((try dsimp only [List.getElem_toArray, List.getElem_cons_succ, List.getElem_cons_zero]); try simp only [Act.put, List.setIfInBounds_toArray, List.set_cons_zero, List.set_cons_succ])
      refine wpAnyH_take (i := 1) (oi := _) (v := ?v2) rfl (by kernel_rfl) (by kernel_rfl) (by kernel_rfl) (fun _ _ _ h => h) (Or.inl ⟨by rfl, ?hy2⟩) (by assumption) ?rest2
      case hy2 => ((intro w hSw; (try dsimp only at hSw); go_simp); try (with_reducible rfl))
      ((try dsimp only [List.getElem_toArray, List.getElem_cons_succ, List.getElem_cons_zero]); try simp only [Act.put, List.setIfInBounds_toArray, List.set_cons_zero, List.set_cons_succ])
      refine wpAnyH_take (i := 2) (oi := _) (v := ?v3) rfl (by kernel_rfl) (by kernel_rfl) (by kernel_rfl) (fun _ _ _ h => h) (Or.inl ⟨by rfl, ?hy3⟩) (by assumption) ?rest3
      case hy3 => ((intro w hSw; (try dsimp only at hSw); go_simp); try (with_reducible rfl))
      ((try dsimp only [List.getElem_toArray, List.getElem_cons_succ, List.getElem_cons_zero]); try simp only [Act.put, List.setIfInBounds_toArray, List.set_cons_zero, List.set_cons_succ])
      refine wpAnyH_ready (rs := [3]) (by kernel_rfl) (by simp) ?_
      refine AllReadyH.cons (o := _) rfl (fun K hK => ?_) AllReadyH.nil
      go_simp
      go_at_call 40; (with_reducible refine (KJ2.out HNX.out HNY.out _).mono ?_); rintro e1 u1 ⟨rfl, q1⟩
      refine hK.out _ _ ?_ (fun hHeld => ?_)
      · (try dsimp only); refine HK.out _ ?_; (repeat (first | (with_reducible refine gr_dr ?_) | (with_reducible refine gr_then ?_ q6) | (with_reducible refine gr_then ?_ q5) | (with_reducible refine gr_then ?_ q4) | (with_reducible refine gr_then ?_ q3) | (with_reducible refine gr_then ?_ q2) | (with_reducible refine gr_then ?_ q1) | (with_reducible exact gr_rfl _)))
      clear hK K
      ((try dsimp only [List.getElem_toArray, List.getElem_cons_succ, List.getElem_cons_zero]); try simp only [Act.put, List.setIfInBounds_toArray, List.set_cons_zero, List.set_cons_succ])
      refine wpAnyH_take (i := 4) (oi := _) (v := ?v4) rfl (by kernel_rfl) (by kernel_rfl) (by kernel_rfl) (fun _ _ _ h => h) (Or.inl ⟨by rfl, ?hy4⟩) (by assumption) ?rest4
      case hy4 => ((intro w hSw; (try dsimp only at hSw); go_simp); try (with_reducible rfl))
      ((try dsimp only [List.getElem_toArray, List.getElem_cons_succ, List.getElem_cons_zero]); try simp only [Act.put, List.setIfInBounds_toArray, List.set_cons_zero, List.set_cons_succ])
      refine wpAnyH_take (i := 5) (oi := _) (v := ?v5) rfl (by kernel_rfl) (by kernel_rfl) (by kernel_rfl) (fun _ _ _ h => h) (Or.inl ⟨by rfl, ?hy5⟩) (by assumption) ?rest5
      case hy5 => ((intro w hSw; (try dsimp only at hSw); go_simp); try (with_reducible rfl))
      ((try dsimp only [List.getElem_toArray, List.getElem_cons_succ, List.getElem_cons_zero]); try simp only [Act.put, List.setIfInBounds_toArray, List.set_cons_zero, List.set_cons_succ])
      refine wpAnyH_take (i := 6) (oi := _) (v := ?v6) rfl (by kernel_rfl) (by kernel_rfl) (by kernel_rfl) (fun _ _ _ h => h) (Or.inl ⟨by rfl, ?hy6⟩) (by assumption) ?rest6
      case hy6 => ((intro w hSw; (try dsimp only at hSw); go_simp); try (with_reducible rfl))
      ((try dsimp only [List.getElem_toArray, List.getElem_cons_succ, List.getElem_cons_zero]); try simp only [Act.put, List.setIfInBounds_toArray, List.set_cons_zero, List.set_cons_succ])
      refine wpAnyH_take (i := 7) (oi := _) (v := ?v7) rfl (by kernel_rfl) (by kernel_rfl) (by kernel_rfl) (fun _ _ _ h => h) (Or.inl ⟨by rfl, ?hy7⟩) (by assumption) ?rest7
      case hy7 => ((intro w hSw; (try dsimp only at hSw); go_simp); try (with_reducible rfl))
      ((try dsimp only [List.getElem_toArray, List.getElem_cons_succ, List.getElem_cons_zero]); try simp only [Act.put, List.setIfInBounds_toArray, List.set_cons_zero, List.set_cons_succ])
      refine wpAnyH_take (i := 8) (oi := _) (v := ?v8) rfl (by kernel_rfl) (by kernel_rfl) (by kernel_rfl) (fun _ _ _ h => h) (Or.inl ⟨by rfl, ?hy8⟩) (by assumption) ?rest8
      case hy8 => ((intro w hSw; (try dsimp only at hSw); go_simp); try (with_reducible rfl))
      ((try dsimp only [List.getElem_toArray, List.getElem_cons_succ, List.getElem_cons_zero]); try simp only [Act.put, List.setIfInBounds_toArray, List.set_cons_zero, List.set_cons_succ])
      refine wpAnyH_ready (rs := [9]) (by kernel_rfl) (by simp) ?_
      refine AllReadyH.cons (o := _) rfl (fun K hK => ?_) AllReadyH.nil
      go_simp
      go_at_call 41; (with_reducible refine (KM2.out _).mono ?_); rintro e2 u2 ⟨rfl, q2⟩
      refine hK.out _ _ ?_ (fun hHeld => ?_)
      · (try dsimp only); refine HK.out _ ?_; (repeat (first | (with_reducible refine gr_dr ?_) | (with_reducible refine gr_then ?_ q6) | (with_reducible refine gr_then ?_ q5) | (with_reducible refine gr_then ?_ q4) | (with_reducible refine gr_then ?_ q3) | (with_reducible refine gr_then ?_ q2) | (with_reducible refine gr_then ?_ q1) | (with_reducible exact gr_rfl _)))
      clear hK K
      ((try dsimp only [List.getElem_toArray, List.getElem_cons_succ, List.getElem_cons_zero]); try simp only [Act.put, List.setIfInBounds_toArray, List.set_cons_zero, List.set_cons_succ])
      refine wpAnyH_take (i := 10) (oi := _) (v := ?v9) rfl (by kernel_rfl) (by kernel_rfl) (by kernel_rfl) (fun _ _ _ h => h) (Or.inl ⟨by rfl, ?hy9⟩) (by assumption) ?rest9
      case hy9 => ((intro w hSw; (try dsimp only at hSw); go_simp); try (with_reducible rfl))
      ((try dsimp only [List.getElem_toArray, List.getElem_cons_succ, List.getElem_cons_zero]); try simp only [Act.put, List.setIfInBounds_toArray, List.set_cons_zero, List.set_cons_succ])
      refine wpAnyH_take (i := 11) (oi := _) (v := ?v10) rfl (by kernel_rfl) (by kernel_rfl) (by kernel_rfl) (fun _ _ _ h => h) (Or.inl ⟨by rfl, ?hy10⟩) (by assumption) ?rest10
      case hy10 => ((intro w hSw; (try dsimp only at hSw); go_simp); try (with_reducible rfl))
      ((try dsimp only [List.getElem_toArray, List.getElem_cons_succ, List.getElem_cons_zero]); try simp only [Act.put, List.setIfInBounds_toArray, List.set_cons_zero, List.set_cons_succ])
      refine wpAnyH_take (i := 12) (oi := _) (v := ?v11) rfl (by kernel_rfl) (by kernel_rfl) (by kernel_rfl) (fun _ _ _ h => h) (Or.inl ⟨by rfl, ?hy11⟩) (by assumption) ?rest11
      case hy11 => ((intro w hSw; (try dsimp only at hSw); go_simp); try (with_reducible rfl))
      ((try dsimp only [List.getElem_toArray, List.getElem_cons_succ, List.getElem_cons_zero]); try simp only [Act.put, List.setIfInBounds_toArray, List.set_cons_zero, List.set_cons_succ])
      refine wpAnyH_take (i := 13) (oi := _) (v := ?v12) rfl (by kernel_rfl) (by kernel_rfl) (by kernel_rfl) (fun _ _ _ h => h) (Or.inl ⟨by rfl, ?hy12⟩) (by assumption) ?rest12
      case hy12 => ((intro w hSw; (try dsimp only at hSw); go_simp); try (with_reducible rfl))
      ((try dsimp only [List.getElem_toArray, List.getElem_cons_succ, List.getElem_cons_zero]); try simp only [Act.put, List.setIfInBounds_toArray, List.set_cons_zero, List.set_cons_succ])
      refine wpAnyH_take (i := 14) (oi := _) (v := ?v13) rfl (by kernel_rfl) (by kernel_rfl) (by kernel_rfl) (fun _ _ _ h => h) (Or.inl ⟨by rfl, ?hy13⟩) (by assumption) ?rest13
      case hy13 => ((intro w hSw; (try dsimp only at hSw); go_simp); try (with_reducible rfl))
      ((try dsimp only [List.getElem_toArray, List.getElem_cons_succ, List.getElem_cons_zero]); try simp only [Act.put, List.setIfInBounds_toArray, List.set_cons_zero, List.set_cons_succ])
      refine wpAnyH_ready (rs := [15]) (by kernel_rfl) (by simp) ?_
      refine AllReadyH.cons (o := _) rfl (fun K hK => ?_) AllReadyH.nil
      go_simp
      go_at_call 42; (with_reducible refine (KW1.out _).mono ?_); rintro e3 u3 ⟨r3, rfl, hr3, q3⟩; have hv3 : r3 = true := hr3.2 (W1.out HNX.out HNY.out); subst hv3; clear hr3
      refine hK.out _ _ ?_ (fun hHeld => ?_)
      · (try dsimp only); refine HK.out _ ?_; (repeat (first | (with_reducible refine gr_dr ?_) | (with_reducible refine gr_then ?_ q6) | (with_reducible refine gr_then ?_ q5) | (with_reducible refine gr_then ?_ q4) | (with_reducible refine gr_then ?_ q3) | (with_reducible refine gr_then ?_ q2) | (with_reducible refine gr_then ?_ q1) | (with_reducible exact gr_rfl _)))
      clear hK K
      ((try dsimp only [List.getElem_toArray, List.getElem_cons_succ, List.getElem_cons_zero]); try simp only [Act.put, List.setIfInBounds_toArray, List.set_cons_zero, List.set_cons_succ])
      refine wpAnyH_take (i := 16) (oi := _) (v := ?v14) rfl (by kernel_rfl) (by kernel_rfl) (by kernel_rfl) (fun _ _ _ h => h) (Or.inl ⟨by rfl, ?hy14⟩) (by assumption) ?rest14
      case hy14 => ((intro w hSw; (try dsimp only at hSw); go_simp); try (with_reducible rfl))
      ((try dsimp only [List.getElem_toArray, List.getElem_cons_succ, List.getElem_cons_zero]); try simp only [Act.put, List.setIfInBounds_toArray, List.set_cons_zero, List.set_cons_succ])
      refine wpAnyH_take (i := 17) (oi := _) (v := ?v15) rfl (by kernel_rfl) (by kernel_rfl) (by kernel_rfl) (fun _ _ _ h => h) (Or.inl ⟨by rfl, ?hy15⟩) (by assumption) ?rest15
      case hy15 => ((intro w hSw; (try dsimp only at hSw); go_simp); try (with_reducible rfl))
      ((try dsimp only [List.getElem_toArray, List.getElem_cons_succ, List.getElem_cons_zero]); try simp only [Act.put, List.setIfInBounds_toArray, List.set_cons_zero, List.set_cons_succ])
      refine wpAnyH_take (i := 18) (oi := _) (v := ?v16) rfl (by kernel_rfl) (by kernel_rfl) (by kernel_rfl) (fun _ _ _ h => h) (Or.inl ⟨by rfl, ?hy16⟩) (by assumption) ?rest16
      case hy16 => ((intro w hSw; (try dsimp only at hSw); go_simp); try (with_reducible rfl))
      ((try dsimp only [List.getElem_toArray, List.getElem_cons_succ, List.getElem_cons_zero]); try simp only [Act.put, List.setIfInBounds_toArray, List.set_cons_zero, List.set_cons_succ])
      refine wpAnyH_take (i := 19) (oi := _) (v := ?v17) rfl (by kernel_rfl) (by kernel_rfl) (by kernel_rfl) (fun _ _ _ h => h) (Or.inl ⟨by rfl, ?hy17⟩) (by assumption) ?rest17
      case hy17 => ((intro w hSw; (try dsimp only at hSw); go_simp); try (with_reducible rfl))
      ((try dsimp only [List.getElem_toArray, List.getElem_cons_succ, List.getElem_cons_zero]); try simp only [Act.put, List.setIfInBounds_toArray, List.set_cons_zero, List.set_cons_succ])
      refine wpAnyH_take (i := 20) (oi := _) (v := ?v18) rfl (by kernel_rfl) (by kernel_rfl) (by kernel_rfl) (fun _ _ _ h => h) (Or.inl ⟨by rfl, ?hy18⟩) (by assumption) ?rest18
      case hy18 => ((intro w hSw; (try dsimp only at hSw); go_simp); try (with_reducible rfl))
      ((try dsimp only [List.getElem_toArray, List.getElem_cons_succ, List.getElem_cons_zero]); try simp only [Act.put, List.setIfInBounds_toArray, List.set_cons_zero, List.set_cons_succ])
      refine wpAnyH_ready (rs := [21]) (by kernel_rfl) (by simp) ?_
      refine AllReadyH.cons (o := _) rfl (fun K hK => ?_) AllReadyH.nil
      go_simp
      go_at_call 42; (with_reducible refine (KW2.out _).mono ?_); rintro e4 u4 ⟨r4, rfl, hr4, q4⟩; have hv4 : r4 = true := hr4.2 (W2.out); subst hv4; clear hr4
      refine hK.out _ _ ?_ (fun hHeld => ?_)
      · (try dsimp only); refine HK.out _ ?_; (repeat (first | (with_reducible refine gr_dr ?_) | (with_reducible refine gr_then ?_ q6) | (with_reducible refine gr_then ?_ q5) | (with_reducible refine gr_then ?_ q4) | (with_reducible refine gr_then ?_ q3) | (with_reducible refine gr_then ?_ q2) | (with_reducible refine gr_then ?_ q1) | (with_reducible exact gr_rfl _)))
      clear hK K
      ((try dsimp only [List.getElem_toArray, List.getElem_cons_succ, List.getElem_cons_zero]); try simp only [Act.put, List.setIfInBounds_toArray, List.set_cons_zero, List.set_cons_succ])
      refine wpAnyH_take (i := 22) (oi := _) (v := ?v19) rfl (by kernel_rfl) (by kernel_rfl) (by kernel_rfl) (fun _ _ _ h => h) (Or.inl ⟨by rfl, ?hy19⟩) (by assumption) ?rest19
      case hy19 => ((intro w hSw; (try dsimp only at hSw); go_simp); try (with_reducible rfl))
      ((try dsimp only [List.getElem_toArray, List.getElem_cons_succ, List.getElem_cons_zero]); try simp only [Act.put, List.setIfInBounds_toArray, List.set_cons_zero, List.set_cons_succ])
      refine wpAnyH_take (i := 23) (oi := _) (v := ?v20) rfl (by kernel_rfl) (by kernel_rfl) (by kernel_rfl) (fun _ _ _ h => h) (Or.inl ⟨by rfl, ?hy20⟩) (by assumption) ?rest20
      case hy20 => ((intro w hSw; (try dsimp only at hSw); go_simp); try (with_reducible rfl))
      ((try dsimp only [List.getElem_toArray, List.getElem_cons_succ, List.getElem_cons_zero]); try simp only [Act.put, List.setIfInBounds_toArray, List.set_cons_zero, List.set_cons_succ])
      refine wpAnyH_take (i := 24) (oi := _) (v := ?v21) rfl (by kernel_rfl) (by kernel_rfl) (by kernel_rfl) (fun _ _ _ h => h) (Or.inl ⟨by rfl, ?hy21⟩) (by assumption) ?rest21
      case hy21 => ((intro w hSw; (try dsimp only at hSw); go_simp); try (with_reducible rfl))
      ((try dsimp only [List.getElem_toArray, List.getElem_cons_succ, List.getElem_cons_zero]); try simp only [Act.put, List.setIfInBounds_toArray, List.set_cons_zero, List.set_cons_succ])
      refine wpAnyH_take (i := 25) (oi := _) (v := ?v22) rfl (by kernel_rfl) (by kernel_rfl) (by kernel_rfl) (fun _ _ _ h => h) (Or.inl ⟨by rfl, ?hy22⟩) (by assumption) ?rest22
      case hy22 => ((intro w hSw; (try dsimp only at hSw); go_simp); try (with_reducible rfl))
      ((try dsimp only [List.getElem_toArray, List.getElem_cons_succ, List.getElem_cons_zero]); try simp only [Act.put, List.setIfInBounds_toArray, List.set_cons_zero, List.set_cons_succ])
      refine wpAnyH_take (i := 26) (oi := _) (v := ?v23) rfl (by kernel_rfl) (by kernel_rfl) (by kernel_rfl) (fun _ _ _ h => h) (Or.inl ⟨by rfl, ?hy23⟩) (by assumption) ?rest23
      case hy23 => ((intro w hSw; (try dsimp only at hSw); go_simp); try (with_reducible rfl))
      ((try dsimp only [List.getElem_toArray, List.getElem_cons_succ, List.getElem_cons_zero]); try simp only [Act.put, List.setIfInBounds_toArray, List.set_cons_zero, List.set_cons_succ])
      refine wpAnyH_ready (rs := [27]) (by kernel_rfl) (by simp) ?_
      refine AllReadyH.cons (o := _) rfl (fun K hK => ?_) AllReadyH.nil
      go_simp
      go_at_call 42; (with_reducible refine (KW3.out _).mono ?_); rintro e5 u5 ⟨r5, rfl, hr5, q5⟩; have hv5 : r5 = true := hr5.2 (W3.out); subst hv5; clear hr5
      refine hK.out _ _ ?_ (fun hHeld => ?_)
      · (try dsimp only); refine HK.out _ ?_; (repeat (first | (with_reducible refine gr_dr ?_) | (with_reducible refine gr_then ?_ q6) | (with_reducible refine gr_then ?_ q5) | (with_reducible refine gr_then ?_ q4) | (with_reducible refine gr_then ?_ q3) | (with_reducible refine gr_then ?_ q2) | (with_reducible refine gr_then ?_ q1) | (with_reducible exact gr_rfl _)))
      clear hK K
      ((try dsimp only [List.getElem_toArray, List.getElem_cons_succ, List.getElem_cons_zero]); try simp only [Act.put, List.setIfInBounds_toArray, List.set_cons_zero, List.set_cons_succ])
      refine wpAnyH_take (i := 28) (oi := _) (v := ?v24) rfl (by kernel_rfl) (by kernel_rfl) (by kernel_rfl) (fun _ _ _ h => h) (Or.inl ⟨by rfl, ?hy24⟩) (by assumption) ?rest24
      case hy24 => ((intro w hSw; (try dsimp only at hSw); go_simp); try (with_reducible rfl))
      ((try dsimp only [List.getElem_toArray, List.getElem_cons_succ, List.getElem_cons_zero]); try simp only [Act.put, List.setIfInBounds_toArray, List.set_cons_zero, List.set_cons_succ])
      refine wpAnyH_take (i := 29) (oi := _) (v := ?v25) rfl (by kernel_rfl) (by kernel_rfl) (by kernel_rfl) (fun _ _ _ h => h) (Or.inl ⟨by rfl, ?hy25⟩) (by assumption) ?rest25
      case hy25 => ((intro w hSw; (try dsimp only at hSw); go_simp); try (with_reducible rfl))
      ((try dsimp only [List.getElem_toArray, List.getElem_cons_succ, List.getElem_cons_zero]); try simp only [Act.put, List.setIfInBounds_toArray, List.set_cons_zero, List.set_cons_succ])
      refine wpAnyH_take (i := 30) (oi := _) (v := ?v26) rfl (by kernel_rfl) (by kernel_rfl) (by kernel_rfl) (fun _ _ _ h => h) (Or.inl ⟨by rfl, ?hy26⟩) (by assumption) ?rest26
      case hy26 => ((intro w hSw; (try dsimp only at hSw); go_simp); try (with_reducible rfl))
      ((try dsimp only [List.getElem_toArray, List.getElem_cons_succ, List.getElem_cons_zero]); try simp only [Act.put, List.setIfInBounds_toArray, List.set_cons_zero, List.set_cons_succ])
      refine wpAnyH_take (i := 31) (oi := _) (v := ?v27) rfl (by kernel_rfl) (by kernel_rfl) (by kernel_rfl) (fun _ _ _ h => h) (Or.inl ⟨by rfl, ?hy27⟩) (by assumption) ?rest27
      case hy27 => ((intro w hSw; (try dsimp only at hSw); go_simp); try (with_reducible rfl))
      ((try dsimp only [List.getElem_toArray, List.getElem_cons_succ, List.getElem_cons_zero]); try simp only [Act.put, List.setIfInBounds_toArray, List.set_cons_zero, List.set_cons_succ])
      refine wpAnyH_take (i := 32) (oi := _) (v := ?v28) rfl (by kernel_rfl) (by kernel_rfl) (by kernel_rfl) (fun _ _ _ h => h) (Or.inl ⟨by rfl, ?hy28⟩) (by assumption) ?rest28
      case hy28 => ((intro w hSw; (try dsimp only at hSw); go_simp); try (with_reducible rfl))
      ((try dsimp only [List.getElem_toArray, List.getElem_cons_succ, List.getElem_cons_zero]); try simp only [Act.put, List.setIfInBounds_toArray, List.set_cons_zero, List.set_cons_succ])
      refine wpAnyH_ready (rs := [33]) (by kernel_rfl) (by simp) ?_
      refine AllReadyH.cons (o := _) rfl (fun K hK => ?_) AllReadyH.nil
      go_simp
      go_at_call 42; (with_reducible refine (KW4.out _).mono ?_); rintro e6 u6 ⟨r6, rfl, hr6, q6⟩; have hv6 : r6 = true := hr6.2 (W4.out); subst hv6; clear hr6
      refine hK.out _ _ ?_ (fun hHeld => ?_)
      · (try dsimp only); refine HK.out _ ?_; (repeat (first | (with_reducible refine gr_dr ?_) | (with_reducible refine gr_then ?_ q6) | (with_reducible refine gr_then ?_ q5) | (with_reducible refine gr_then ?_ q4) | (with_reducible refine gr_then ?_ q3) | (with_reducible refine gr_then ?_ q2) | (with_reducible refine gr_then ?_ q1) | (with_reducible exact gr_rfl _)))
      clear hK K
      ((try dsimp only [List.getElem_toArray, List.getElem_cons_succ, List.getElem_cons_zero]); try simp only [Act.put, List.setIfInBounds_toArray, List.set_cons_zero, List.set_cons_succ])
      refine wpAnyH_take (i := 34) (oi := _) (v := ?v29) rfl (by kernel_rfl) (by kernel_rfl) (by kernel_rfl) (fun _ _ _ h => h) (Or.inl ⟨by rfl, ?hy29⟩) (by assumption) ?rest29
      case hy29 => ((intro w hSw; (try dsimp only at hSw); go_simp); try (with_reducible rfl))
      ((try dsimp only [List.getElem_toArray, List.getElem_cons_succ, List.getElem_cons_zero]); try simp only [Act.put, List.setIfInBounds_toArray, List.set_cons_zero, List.set_cons_succ])
      refine wpAnyH_take (i := 35) (oi := _) (v := ?v30) rfl (by kernel_rfl) (by kernel_rfl) (by kernel_rfl) (fun _ _ _ h => h) (Or.inl ⟨by rfl, ?hy30⟩) (by assumption) ?rest30
      case hy30 => ((intro w hSw; (try dsimp only at hSw); go_simp); try (with_reducible rfl))
      ((try dsimp only [List.getElem_toArray, List.getElem_cons_succ, List.getElem_cons_zero]); try simp only [Act.put, List.setIfInBounds_toArray, List.set_cons_zero, List.set_cons_succ])
      refine wpAnyH_done (by kernel_rfl) ?_ _
      have HL5 := Lib.hid (HL4.out.kept (gr_then (gr_then (gr_then (gr_then (gr_then (gr_then (gr_dr (gr_rfl w9)) q1) q2) q3) q4) q5) q6))
      have HG5 := Lib.hid (gr_then HG4.out (gr_then (gr_then (gr_then (gr_then (gr_then (gr_then (gr_dr (gr_rfl w9)) q1) q2) q3) q4) q5) q6))
      clear q1 q2 q3 q4 q5 q6
      go_wp2
      exact ⟨⟨K + 1, by simp, by omega, HL5, HG5⟩, by simp only [intOf]; omega⟩
end Go.Proofs.YtaejnklgnegkhaaDoor
namespace Go.Proofs.YtaejnklgnegkhaaDoor
open Go.ChangeShapes Go.WideShapes Go.ChangeAt Go.RowKit Pt Sh

set_option maxRecDepth 1000000 in
set_option maxHeartbeats 4000000 in
theorem lattice_lifted (os : Os) (started : os.Started) (H : Type) (enc : TypeId × Value → H) :
    ReturnsInHanded {} Tryd.checked os 12 .any (fun w args => (Rows.shapeLatticeSpec.pre enc Tryd.prog Tryd.f12 Rows.shapeLatticeRow.domain false w args ∧ laidMet Tryd.prog Rows.shapeLatticeRow.laid w) ∧ sizedMet enc Tryd.prog Tryd.f12 (OpenSpec.ofChange Rows.shapeLatticeSpec) false w args)
      (Rows.shapeLatticeSpec.post enc Tryd.prog Tryd.f12 false true false false) := by
  refine returnsInHanded_of_change_and (C := Tryd.checked) (X := fun w _ => laidMet Tryd.prog Rows.shapeLatticeRow.laid w) (fun _ _ _ hh h => h.of_heap hh) own0 started (by kernel_rfl) Tryd.func12
    (ChangeSpec.witness_at (enc := enc) (C := Tryd.checked) (os := os) (X := fun w _ => laidMet Tryd.prog Rows.shapeLatticeRow.laid w) false (laidWorld os) #[.agg #[.slice none 0 0, .slice none 0 0, .int .i64 0, .int .i64 0, .int .i64 0, .string ⟨#[]⟩, .string ⟨#[]⟩, .string ⟨#[]⟩]] 8 rfl (by kernel_rfl) (by kernel_rfl) (by kernel_rfl) (by kernel_rfl) (by kernel_rfl) (laid_at os _)) ?_
  intro W base args ds gs before hval0 hW hcnd0 _ hL _
  have hval : ∀ (j : Nat) t v, Tryd.f12.params[j]? = some t → args[j]? = some v → Value.okWide Tryd.prog W .any base t v := hval0
  have hW' := hW
  obtain ⟨p, q, hA0, hV, rfl, hfz, hnd⟩ := hW
  have hA : DataW.TrodAll enc Tryd.prog W 0 (fun _ => true) true Tryd.f12.params.toList args.toList ds p := hA0
  rw [Tryd.params12] at hA hval
  obtain ⟨v0, d0, rfl, rfl, h0⟩ := trodAll_one hA
  obtain ⟨rfl, rfl⟩ := trodVars_none hV
  clear hA0 hval0 hA
  simp only [List.append_nil] at hW'
  have k0 := hval 0 60 v0 rfl rfl
  obtain ⟨va0, vb0, ra0, sa0, rfl, w0⟩ := case_arg k0 h0
  refine (lattice_true va0 vb0 ra0 sa0 W (tab_of hL) w0).mono fun e W' ⟨he, hg⟩ => ?_
  subst he
  have hb : Below W.heap.size W W' := gr_low hg
  have hlt : ∀ x ∈ p, x.block < W.heap.size := fun x hx => by simpa using hW'.lt x hx
  have hl0 : ∀ x ∈ p, x.block < W.heap.size := fun x hx => hlt x (by simp [hx])
  refine ⟨_, rfl, _, _, _, [], p, [], hW', ?_, ?_, rfl, hb.frame _, fun h => by cases h⟩
  · exact trodAll_mk1 (shut_bool Tryd.underlying4 true)
  · have h3 := trodAll_mk1 (Below.trod laidOut0 (by kernel_rfl) (of_decide_eq_true (by kernel_rfl)) h0 hb hl0)
    exact h3

theorem lattice_row : Rows.ShapeLatticeSaid :=
  OpenClaim.holds_of_wide 12 Tryd.f12 rfl rfl rfl rfl rfl rfl rfl ⟨rfl, rfl, rfl, rfl, rfl⟩ rfl rfl rfl rfl rfl (by kernel_rfl) Tryd.func12 (by kernel_rfl)
    (of_decide_eq_true (by kernel_rfl)) (by unfold Func.isWrapper; first | (rw [if_pos (by decide +kernel)]; kernel_rfl) | (rw [if_neg (by decide +kernel)]; exact ⟨rfl, rfl⟩))
    (fun os started H enc _ => lattice_lifted os started H enc)
end Go.Proofs.YtaejnklgnegkhaaDoor
