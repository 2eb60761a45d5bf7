/- Contracts of the program and of the reference, part 14: Sj, Sk, Ssan, Mb, RowP. -/
import Derived.Test.YtaejnklgnegkhaaGreatDoorBBase13
import Derived.BigQuiet
import Derived.Deep.RegionHeld3
import Derived.Test.YtaejnklgnegkhaaGreatDoorRows
import Derived.ProofKit
import Derived.ChangeSlices
import Derived.LaidLaws
import Derived.Lib.LaidIn
import Derived.Lib.LaidTab
import Derived.Stop.LaidErr
import Derived.OpenShut
namespace Go.Proofs.YtaejnklgnegkhaaGreatDoor
open Go.RowKit Pt Sh

theorem lenD_litS {a : Int} {t : ByteArray} : lenD 0 a t = (t.size : Int) := rfl
theorem lenD_runS {k a : Int} {t : ByteArray} (h : k ≠ 0) : lenD k a t = a := if_neg h
theorem stays_litS {t : ByteArray} {c : Int} : staysD 0 t c = allD t.data.toList c := rfl
theorem stays_runS {k : Int} {t : ByteArray} {c : Int} (h : k ≠ 0) : staysD k t c = contD k c := if_neg h
theorem cov_selfS (p : Pc) : covD p.k p.a p.b p.t p.k p.a p.b p.t = true := by
  unfold covD
  by_cases h : p.k = 0
  · rw [if_pos h, decide_eq_true h]; simp
  · rw [if_neg h, lenD_runS h, lenD_runS h, stays_runS h]
    unfold contD
    simp
theorem covers_selfS (ps : List Pc) : coversL ps ps = rightL ps := by
  have h : eachD ps ps = true := each_yes rfl (fun i hi => by rw [covAt_some hi hi]; exact cov_selfS _)
  unfold coversL
  rw [h]
  cases rightL ps <;> rfl
theorem canon_200 (a : S5) : (canonD a).b.size ≤ 200 ∧ (canonD a).e.size ≤ 200 := by
  rcases Classical.em (hasD (ownD a)) with h | h
  · rw [show canonD a = ownD a from if_pos h]
    obtain ⟨_, n, h1, h2, _⟩ := h
    have h1' : max (max a.l (a.b.size : Int)) (a.e.size : Int) ≤ n := h1
    have h2' : n ≤ min a.m 200 := h2
    have e1 : (ownD a).b = a.b := rfl
    have e2 : (ownD a).e = a.e := rfl
    rw [e1, e2]
    omega
  · rw [show canonD a = none5 from if_neg h]; exact ⟨Nat.zero_le _, Nat.zero_le _⟩
open Classical in
theorem conc_small (a b : S5) : (concD a b).b.size ≤ 400 ∧ (concD a b).e.size ≤ 400 := by
  have h1 := canon_200 a
  have h2 := canon_200 b
  unfold concD
  split
  · exact ⟨Nat.zero_le _, Nat.zero_le _⟩
  · refine ⟨?_, ?_⟩
    · show (if fixD (canonD a) then (canonD a).b ++ (canonD b).b else (canonD a).b).size ≤ 400
      split
      · rw [ByteArray.size_append]; omega
      · omega
    · show (if fixD (canonD b) then (canonD a).e ++ (canonD b).b else (canonD b).e).size ≤ 400
      split
      · rw [ByteArray.size_append]; omega
      · omega
theorem of_size {s : ByteArray} (h : s.size ≤ 1000) : (ofD s).b.size ≤ 1000 ∧ (ofD s).e.size ≤ 1000 := by
  unfold ofD
  split
  · exact ⟨h, h⟩
  · exact ⟨Nat.zero_le _, Nat.zero_le _⟩
theorem piece_size {p : Pc} (h : p.t.size ≤ 1000) : (pieceS p).b.size ≤ 1000 ∧ (pieceS p).e.size ≤ 1000 := by
  unfold pieceS
  split
  · exact of_size h
  · exact ⟨Nat.zero_le _, Nat.zero_le _⟩
theorem right_k {k a b : Int} {t : ByteArray} (h : rightP k a b t = true) : k = 0 ∨ (1 ≤ k ∧ k ≤ 7) := by
  unfold rightP at h
  by_cases hk : k = 0
  · exact .inl hk
  · rw [if_neg hk] at h
    simp only [Bool.and_eq_true, decide_eq_true_eq] at h
    omega
set_option maxRecDepth 100000 in
set_option maxHeartbeats 4000000 in
theorem pattern_any (v : Value) (ps : List Pc) (w : World) (ht : TabP w) (hp : Pcs w v ps) (hn : ps.length ≤ 1000) (hsz : ∀ q ∈ ps, q.t.size ≤ 1000) :
    Calls Tryz.prog 31 #[v] w fun e w' => e = .returned (vS (patD ps)) ∧ w.grownBy w' none := by
  have HNS := Lib.hid nos0
  have HOF := Lib.hid (fun w0 => of_any (BA []) w0 (Nat.zero_le _))
  rw [of_nil] at HOF
  have HCO := Lib.hid (fun (w0 : World) (g : w.grownBy w0 none) => covers_selfS ps ▸ pcovers_any w0 v v ps ps (tabis_grown ht g) (hp.kept g) (hp.kept g) (by omega) (by omega) hsz hsz)
  have HRI := Lib.hid (fun (h : rightL ps = true) => right_all h)
  have HPAT := Lib.hid (show patD ps = (if rightL ps = true then ps.foldl (fun a p => concD a (pieceS p)) (mk5 0 0 0 [] []) else none5) from by unfold patD; rw [of_nil])
  have HSZ := Lib.hid hsz
  obtain ⟨a, c, rfl, hpf⟩ : ∃ a c, v = .slice a ps.length c ∧ (ps.length = 0 ∨ ∃ g o, a = some ⟨g, o, none⟩ ∧ g < w.heap.size ∧ PcsAt w g o ps) := by
    rcases hp with ⟨rfl, rfl⟩ | ⟨g, o, c, rfl, hb, hp⟩
    · exact ⟨none, 0, rfl, .inl rfl⟩
    · exact ⟨_, c, rfl, .inr ⟨g, o, rfl, hb, hp⟩⟩
  have HPF := Lib.hid hpf
  obtain ⟨n, hnn⟩ : ∃ n, ps.length = n := ⟨_, rfl⟩
  have HN := Lib.hid hnn
  rw [hnn] at hn HCO HPF
  generalize hr : rightL ps = r at *
  have RZ := Row.new w zero5 24
  simp only [List.toArray] at RZ
  obtain ⟨wz, hwz⟩ : ∃ wz, w.alloc (.cells #[.int .i64 0, .int .i64 0, .int .i64 0, .string ⟨#[]⟩, .string ⟨#[]⟩] 24) = wz := ⟨_, rfl⟩
  rw [hwz] at RZ
  have HRZ := Lib.hid RZ
  have HGZ := Lib.hid (show w.grownBy wz none from by rw [← hwz]; exact gr_alloc _ _ _)
  have HWZ := Lib.hid hwz
  rw [HN.out]
  clear ht hp hsz hpf hnn RZ hwz hr
  cases r
  · have hR : patD ps = none5 := by rw [HPAT.out]; exact if_neg (by simp)
    rw [hR]
    clear hR
    go_enter Tryz.func31, Tryz.ntmps31
    go_wp2_with fail
    rw [HWZ.out]
    refine (HCO.out wz HGZ.out).mono ?_
    rintro e w1 ⟨rfl, g1⟩
    have HG1 := Lib.hid g1
    clear g1
    go_wp2_with fail
    refine (HNS.out _).mono ?_
    rintro e w2 ⟨rfl, g2⟩
    have R2 := HRZ.out.kept (gr_then HG1.out g2)
    have f0 := R2.fr 0
    have f1 := R2.fr 1
    have f2 := R2.fr 2
    have f3 := R2.fr 3
    have f4 := R2.fr 4
    have c0 := R2.cell 0 _ rfl
    have c1 := R2.cell 1 _ rfl
    have c2 := R2.cell 2 _ rfl
    have c3 := R2.cell 3 _ rfl
    have c4 := R2.cell 4 _ rfl
    have HR2 := Lib.hid R2
    have G2 := Lib.hid (gr_then HGZ.out (gr_then HG1.out g2))
    clear R2 g2
    go_wp2
    exact bodyPost_ret (v := vS none5) (results_shape (a := none5) rfl rfl (HR2.out.five (v0 := .int .i64 1) (v1 := .int .i64 0) (v2 := .int .i64 0) (v3 := .string ⟨#[]⟩) (v4 := .string ⟨#[]⟩))) rfl ⟨rfl, gr_five G2.out (Nat.le_refl _)⟩
  · have hR : patD ps = ps.foldl (fun a p => concD a (pieceS p)) (mk5 0 0 0 [] []) := by rw [HPAT.out]; exact if_pos rfl
    have HRR := Lib.hid hR
    clear hR
    go_enter Tryz.func31, Tryz.ntmps31
    go_wp2_with fail
    rw [HWZ.out]
    refine (HCO.out wz HGZ.out).mono ?_
    rintro e w1 ⟨rfl, g1⟩
    have HG1 := Lib.hid g1
    clear g1
    go_wp2_with fail
    refine (HOF.out _).mono ?_
    rintro e w2 ⟨rfl, g2⟩
    have HG2 := Lib.hid (gr_then HG1.out g2)
    clear g2
    obtain ⟨X, hX⟩ : ∃ X, w2.heap.size = X := ⟨_, rfl⟩
    have RX := Row.new w2 (five (mk5 0 0 0 [] [])) 24
    simp only [List.toArray] at RX
    rw [hX] at RX
    have hXw : w.heap.size < X := by rw [← hX]; exact (HRZ.out.kept HG2.out).lt
    have HGX := Lib.hid (gr_al (o := .cells #[.int .i64 0, .int .i64 0, .int .i64 0, .string ⟨#[]⟩, .string ⟨#[]⟩] 24) (gr_then HGZ.out HG2.out))
    have HRX := Lib.hid RX
    have HZX := Lib.hid ((HRZ.out.kept HG2.out).al (o := .cells #[.int .i64 0, .int .i64 0, .int .i64 0, .string ⟨#[]⟩, .string ⟨#[]⟩] 24))
    clear RX
    go_wp2_with fail
    clear hX
    go_loopw [14] (fun i wr => ∃ (j : Nat) (acc : S5), j ≤ n ∧ i = .int .i64 (j : Int) ∧ acc.b.size ≤ 1000 ∧ acc.e.size ≤ 1000 ∧ Hid ((ps.drop j).foldl (fun a p => concD a (pieceS p)) acc = patD ps) ∧ Hid (Row wr X (five acc) 24) ∧ Hid (Row wr w.heap.size zero5 24) ∧ Hid (w.grownBy wr none)) (fun i _ => n - (intOf i).toNat)
    case atStart => exact ⟨0, mk5 0 0 0 [] [], Nat.zero_le _, rfl, Nat.zero_le _, Nat.zero_le _, Lib.hid HRR.out.symm, HRX, HZX, HGX⟩
    case round =>
      obtain ⟨j, acc, hj, rfl, hab, hae, HF, HX, HZ, HG⟩ := hrel
      by_cases hlt : j < n
      · have hlti : (j : Int) < (n : Int) := by omega
        have hjl : j < ps.length := by rw [HN.out]; exact hlt
        obtain ⟨g, o, rfl, hgb, hpa⟩ := HPF.out.resolve_left (by omega)
        obtain ⟨p0, p1, p2, p3⟩ := And.intro (HG.out.cell (hpa j hjl).1 (by simp)) (And.intro (HG.out.cell (hpa j hjl).2.1 (by simp)) (And.intro (HG.out.cell (hpa j hjl).2.2.1 (by simp)) (HG.out.cell (hpa j hjl).2.2.2 (by simp))))
        have HFD := Lib.hid (show (ps.drop (j + 1)).foldl (fun a p => concD a (pieceS p)) (concD acc (pieceS ps[j])) = patD ps from by
          rw [← HF.out, List.drop_eq_getElem_cons hjl]; rfl)
        have hpk := right_k (HRI.out (by first | rfl | trivial) ps[j] (List.getElem_mem hjl))
        have hpt := HSZ.out ps[j] (List.getElem_mem hjl)
        have hps := piece_size hpt
        generalize ps[j] = p at *
        have HOP := Lib.hid (fun w0 => opiece_any p w0 hpk hpt)
        have HCC := Lib.hid (fun w0 => conc_any acc (pieceS p) w0 (by omega) (by omega) (by omega) (by omega))
        have hcs := conc_small acc (pieceS p)
        generalize pieceS p = q at *
        generalize concD acc q = nx at *
        obtain ⟨pk, pa, pb, pt⟩ := p
        simp only at p0 p1 p2 p3
        have RPN := Row.new wr [.int .i64 pk, .int .i64 pa, .int .i64 pb, .string pt] 52
        simp only [List.toArray] at RPN
        go_wp2_with fail
        obtain ⟨wn, hwn⟩ : ∃ wn, wr.alloc (.cells #[.int .i64 pk, .int .i64 pa, .int .i64 pb, .string pt] 52) = wn := ⟨_, rfl⟩
        have HXN := Lib.hid (show Row wn X (five acc) 24 from by rw [← hwn]; exact HX.out.al)
        have HZN := Lib.hid (show Row wn w.heap.size zero5 24 from by rw [← hwn]; exact HZ.out.al)
        have HGN := Lib.hid (show w.grownBy wn none from by rw [← hwn]; exact gr_al HG.out)
        rw [hwn] at RPN ⊢
        have x0 := HXN.out.cell 0 _ rfl
        have x1 := HXN.out.cell 1 _ rfl
        have x2 := HXN.out.cell 2 _ rfl
        have x3 := HXN.out.cell 3 _ rfl
        have x4 := HXN.out.cell 4 _ rfl
        have r0 := RPN.cell 0 _ rfl
        have r1 := RPN.cell 1 _ rfl
        have r2 := RPN.cell 2 _ rfl
        have r3 := RPN.cell 3 _ rfl
        have HCS := Lib.hid hcs
        clear hwn RPN p0 p1 p2 p3 hpa hpk hpt hps hcs
        obtain ⟨al, am, ac, ab, ae⟩ := acc
        obtain ⟨nl, nm, nc, nb, ne⟩ := nx
        go_region_with (first
          | (go_at_call 63; with_reducible refine (HOP.out _).mono ?_; rintro e1 w1 ⟨rfl, g1⟩; have d0 := (HXN.out.kept (gr_then (gr_dr (gr_rfl wn)) g1)).cell 0 _ rfl; have d1 := (HXN.out.kept (gr_then (gr_dr (gr_rfl wn)) g1)).cell 1 _ rfl; have d2 := (HXN.out.kept (gr_then (gr_dr (gr_rfl wn)) g1)).cell 2 _ rfl; have d3 := (HXN.out.kept (gr_then (gr_dr (gr_rfl wn)) g1)).cell 3 _ rfl; have d4 := (HXN.out.kept (gr_then (gr_dr (gr_rfl wn)) g1)).cell 4 _ rfl)
          | (go_at_call 23; with_reducible refine (HCC.out _).mono ?_; rintro e2 w2 ⟨rfl, g2⟩; have k0 := (HXN.out.kept (gr_then (gr_then (gr_dr (gr_rfl wn)) g1) g2)).cell 0 _ rfl; have kf0 := (HXN.out.kept (gr_then (gr_then (gr_dr (gr_rfl wn)) g1) g2)).fr 0; have k1 := (HXN.out.kept (gr_then (gr_then (gr_dr (gr_rfl wn)) g1) g2)).cell 1 _ rfl; have kf1 := (HXN.out.kept (gr_then (gr_then (gr_dr (gr_rfl wn)) g1) g2)).fr 1; have k2 := (HXN.out.kept (gr_then (gr_then (gr_dr (gr_rfl wn)) g1) g2)).cell 2 _ rfl; have kf2 := (HXN.out.kept (gr_then (gr_then (gr_dr (gr_rfl wn)) g1) g2)).fr 2; have k3 := (HXN.out.kept (gr_then (gr_then (gr_dr (gr_rfl wn)) g1) g2)).cell 3 _ rfl; have kf3 := (HXN.out.kept (gr_then (gr_then (gr_dr (gr_rfl wn)) g1) g2)).fr 3; have k4 := (HXN.out.kept (gr_then (gr_then (gr_dr (gr_rfl wn)) g1) g2)).cell 4 _ rfl; have kf4 := (HXN.out.kept (gr_then (gr_then (gr_dr (gr_rfl wn)) g1) g2)).fr 4))
        all_goals
          have G : wn.grownBy w2 none := gr_then (gr_then (gr_dr (gr_rfl wn)) g1) g2
          have HG2 := Lib.hid G
          clear G g1 g2
          go_wp2
          exact ⟨⟨j + 1, ⟨nl, nm, nc, nb, ne⟩, by omega, by simp, by have := HCS.out; simp only at this ⊢; omega, by have := HCS.out; simp only at this ⊢; omega, HFD, Lib.hid (HXN.out.kept HG2.out).five, Lib.hid ((HZN.out.kept HG2.out).keep5 (by omega)), Lib.hid (gr_five (gr_then HGN.out HG2.out) (by omega))⟩, by simp only [intOf]; omega⟩
      · have hlti : ¬ (j : Int) < (n : Int) := by omega
        have hA : acc = patD ps := by
          have h := HF.out
          rwa [List.drop_eq_nil_of_le (by rw [HN.out]; omega)] at h
        have f0 := HZ.out.fr 0
        have f1 := HZ.out.fr 1
        have f2 := HZ.out.fr 2
        have f3 := HZ.out.fr 3
        have f4 := HZ.out.fr 4
        have c0 := HZ.out.cell 0 _ rfl
        have c1 := HZ.out.cell 1 _ rfl
        have c2 := HZ.out.cell 2 _ rfl
        have c3 := HZ.out.cell 3 _ rfl
        have c4 := HZ.out.cell 4 _ rfl
        have x0 := HX.out.cell 0 _ rfl
        have x1 := HX.out.cell 1 _ rfl
        have x2 := HX.out.cell 2 _ rfl
        have x3 := HX.out.cell 3 _ rfl
        have x4 := HX.out.cell 4 _ rfl
        have HAE := Lib.hid hA
        clear hA HF HRR HPAT
        obtain ⟨al, am, ac, ab, ae⟩ := acc
        go_wp2
        exact bodyPost_ret (v := vS ⟨al, am, ac, ab, ae⟩) (results_shape (a := ⟨al, am, ac, ab, ae⟩) rfl rfl HZ.out.five) rfl ⟨by rw [← HAE.out], gr_five HG.out (Nat.le_refl _)⟩
end Go.Proofs.YtaejnklgnegkhaaGreatDoor
namespace Go.Proofs.YtaejnklgnegkhaaGreatDoor
open Go.RowKit Pt Sh

theorem rnone_any (w : World) : Calls Tryz.prog 54 #[] w fun e w' => e = .returned v0S ∧ w.grownBy w' none := by
  go_enter Tryz.func54, Tryz.ntmps54
  go_wp2
  exact bodyPost_ret (v := v0S) (by simp [results, Tryz.results54, go_sem]) rfl ⟨rfl, by with_reducible exact gr_alloc _ _ _⟩
set_option maxRecDepth 100000 in
theorem rbits_any (s : ByteArray) (w : World) (_ : s.size ≤ 1000000000000) : Calls Tryz.prog 49 #[.string s] w fun e w' => e = .returned (.int .i64 (cbI s.data.toList)) ∧ w = w' := by
  go_enter Tryz.func49, Tryz.ntmps49
  go_wp2_with fail
  go_loopw [3, 4] (fun b i wr => w = wr ∧ ∃ j : Nat, j ≤ s.size ∧ i = .int .i64 (j : Int) ∧ b = .int .i64 (cbI (s.data.toList.take j))) (fun _ i _ => s.size - (intOf i).toNat)
  case atStart => exact ⟨rfl, 0, Nat.zero_le _, rfl, rfl⟩
  case round =>
    obtain ⟨rfl, j, hj, rfl, rfl⟩ := hrel
    by_cases hlt : j < s.size
    · have hlti : (j : Int) < (s.size : Int) := by omega
      have HN := Lib.hid (cb_next hlt)
      obtain ⟨k, hk⟩ : ∃ k, clsD s[j].toNat = k := ⟨_, rfl⟩
      have HC := Lib.hid (fun w => hk ▸ rclass_any s[j].toNat w (by have := s[j].toNat_lt; omega))
      rw [hk] at HN
      have hk6 : k ≤ 6 := by rw [← hk]; exact (clsD_le _).1
      have HW := Lib.hid (show wrap64 (2 ^ k) = ((2 ^ k : Nat) : Int) from by
        rcases (show k = 0 ∨ k = 1 ∨ k = 2 ∨ k = 3 ∨ k = 4 ∨ k = 5 ∨ k = 6 by omega) with rfl | rfl | rfl | rfl | rfl | rfl | rfl <;> first | (simp [wrap64]; done) | (unfold wrap64; decide))
      generalize cbI (s.data.toList.take j) = z at *
      clear hk
      go_wp2_with fail
      refine (HC.out _).mono ?_
      rintro e w1 ⟨rfl, rfl⟩
      go_wp2
      exact ⟨⟨by first | rfl | trivial, j + 1, by omega, by simp, by rw [HN.out, HW.out]⟩, by simp only [intOf]; omega⟩
    · have hlti : ¬ (j : Int) < (s.size : Int) := by omega
      have hfull : s.data.toList.take j = s.data.toList := List.take_of_length_le (by have : s.data.toList.length = s.size := rfl; omega)
      rw [hfull]
      go_wp2
      go_ret
      exact ⟨rfl, rfl⟩
set_option maxRecDepth 100000 in
theorem rof_any (s : ByteArray) (w : World) (hs : s.size ≤ 1000000000000) : Calls Tryz.prog 18 #[.string s] w fun e w' => e = .returned (vS (ofD s)) ∧ w.grownBy w' none := by
  have HT := Lib.hid (fun w => rtext_any s w hs)
  have HC := Lib.hid (fun w => rbits_any s w hs)
  by_cases ht : isTextD s.data.toList = true
  · have e : ofD s = ⟨(s.size : Int), (s.size : Int), cbI s.data.toList, s, s⟩ := if_pos ht
    rw [e]
    rw [ht] at HT
    generalize cbI s.data.toList = c at *
    clear e ht hs
    go_enter Tryz.func18, Tryz.ntmps18
    go_wp2_with fail
    refine (HT.out _).mono ?_
    rintro e w1 ⟨rfl, rfl⟩
    go_wp2_with fail
    refine (HC.out _).mono ?_
    rintro e w1 ⟨rfl, rfl⟩
    go_wp2
    exact bodyPost_ret (v := vS ⟨(s.size : Int), (s.size : Int), c, s, s⟩) (by simp [results, Tryz.results18, go_sem]) rfl ⟨rfl, by with_reducible exact gr_alloc _ _ _⟩
  · have e : ofD s = none5 := if_neg ht
    rw [e]
    rw [Bool.not_eq_true] at ht
    rw [ht] at HT
    have HN := Lib.hid rnone_any
    have RZ := Row.new w [.int .i64 0, .int .i64 0, .int .i64 0, .string ⟨#[]⟩, .string ⟨#[]⟩] 24
    simp only [List.toArray] at RZ
    have HRZ := Lib.hid RZ
    clear e ht hs RZ
    go_enter Tryz.func18, Tryz.ntmps18
    go_wp2_with fail
    refine (HT.out _).mono ?_
    rintro e w1 ⟨rfl, rfl⟩
    go_wp2_with fail
    refine (HN.out _).mono ?_
    rintro e w1 ⟨rfl, g1⟩
    have R2 := HRZ.out.kept g1
    have f0 := R2.fr 0
    have f1 := R2.fr 1
    have f2 := R2.fr 2
    have f3 := R2.fr 3
    have f4 := R2.fr 4
    have c0 := R2.cell 0 _ rfl
    have c1 := R2.cell 1 _ rfl
    have c2 := R2.cell 2 _ rfl
    have c3 := R2.cell 3 _ rfl
    have c4 := R2.cell 4 _ rfl
    have HR2 := Lib.hid R2
    have G2 := Lib.hid (gr_one g1)
    clear R2 g1
    go_wp2
    exact bodyPost_ret (v := vS none5) (results_shape (a := none5) rfl rfl (HR2.out.five (v0 := .int .i64 1) (v1 := .int .i64 0) (v2 := .int .i64 0) (v3 := .string ⟨#[]⟩) (v4 := .string ⟨#[]⟩))) rfl ⟨rfl, gr_five G2.out (Nat.le_refl _)⟩
end Go.Proofs.YtaejnklgnegkhaaGreatDoor
namespace Go.Proofs.YtaejnklgnegkhaaGreatDoor
open Go.RowKit Pt Sh

set_option maxRecDepth 100000 in
set_option maxHeartbeats 8000000 in
theorem sanity8_any (w : World) (ht : TabP w) : Calls Tryz.prog 8 #[] w fun e w' => e = .returned (.bool true) ∧ w.grownBy w' none := by
  have HT := Lib.hid ht
  have KO1 := Lib.hid (fun w0 => of_a1 ▸ of_any (BA [97, 49]) w0 (by decide))
  have KR1 := Lib.hid (fun w0 => of_ab ▸ rof_any (BA [97, 98]) w0 (by decide))
  have KR2 := Lib.hid (fun w0 => of_a1b ▸ rof_any (BA [97, 49, 98]) w0 (by decide))
  have KR3 := Lib.hid (fun w0 => of_a ▸ rof_any (BA [97]) w0 (by decide))
  have KR4 := Lib.hid (fun w0 => of_a1 ▸ rof_any (BA [97, 49]) w0 (by decide))
  have KJ := Lib.hid (fun w0 => ex_join ▸ join_any (mk5 2 2 8 [97, 98] [97, 98]) (mk5 3 3 10 [97, 49, 98] [97, 49, 98]) w0 (by decide) (by decide) (by decide) (by decide))
  have KE1 := Lib.hid (fun w0 => empty_any (mk5 0 1 110 [97, 98] []) w0 (by decide) (by decide))
  have KE2 := Lib.hid (fun w0 => empty_any (mk5 0 3 110 [97, 98] [98, 97]) w0 (by decide) (by decide))
  have KE3 := Lib.hid (fun w0 => empty_any (mk5 0 2 110 [97, 98] [98, 97]) w0 (by decide) (by decide))
  have KM := Lib.hid (fun w0 => (show meetD (mk5 0 9 110 [97] []) (mk5 0 9 110 [98] []) = mk5 1 0 0 [] [] from ex_meet) ▸ meet_any (mk5 0 9 110 [97] []) (mk5 0 9 110 [98] []) w0 (by decide) (by decide) (by decide) (by decide))
  have KC := Lib.hid (fun w0 => ex_conc ▸ conc_any (mk5 1 1 8 [97] [97]) (mk5 0 5 2 [] []) w0 (by decide) (by decide) (by decide) (by decide))
  have KP := Lib.hid (fun w0 => rparseG_any ⟨#[92, 117, 92, 108, 42, 45]⟩ 6 exP w0 (by decide) ex_runs)
  have KT := Lib.hid (fun (w0 : World) (g : w.grownBy w0 none) => ex_text ▸ text_any (mk5 2 2 10 [97, 49] [97, 49]) w0 (by exact ⟨by decide, by decide⟩) (by exact ⟨by decide, by decide⟩) (by exact ⟨by decide, by decide⟩) (by decide) (by decide) (tabis_grown ht g))
  have KF := Lib.hid (fun w0 => (show full5 = mk5 0 200 110 [] [] from rfl) ▸ full_any w0)
  have hnl := nil_list
  have RN := Row.new w [.int .i64 1, .int .i64 0, .int .i64 0, .string ⟨#[]⟩, .string ⟨#[]⟩] 24
  simp only [List.toArray] at RN
  have HRN := Lib.hid RN
  have G0 := Lib.hid (gr_alloc w (.cells #[.int .i64 1, .int .i64 0, .int .i64 0, .string ⟨#[]⟩, .string ⟨#[]⟩] 24) none)
  have GA0 := Lib.hid (gr_rfl (w.alloc (.cells #[.int .i64 1, .int .i64 0, .int .i64 0, .string ⟨#[]⟩, .string ⟨#[]⟩] 24)))
  clear ht RN
  go_enter Tryz.func8, Tryz.ntmps8
  go_wp2_with fail
  refine (KO1.out _).mono ?_
  rintro e w1 ⟨rfl, g1⟩
  have G1 := Lib.hid (gr_then G0.out g1)
  have GA1 := Lib.hid (gr_then GA0.out g1)
  clear g1 G0 GA0
  go_wp2_with fail
  refine (KR1.out _).mono ?_
  rintro e w2 ⟨rfl, g2⟩
  have G2 := Lib.hid (gr_then G1.out g2)
  have GA2 := Lib.hid (gr_then GA1.out g2)
  clear g2 G1 GA1
  go_wp2_with fail
  refine (KR2.out _).mono ?_
  rintro e w3 ⟨rfl, g3⟩
  have G3 := Lib.hid (gr_then G2.out g3)
  have GA3 := Lib.hid (gr_then GA2.out g3)
  clear g3 G2 GA2
  go_wp2_with fail
  refine (KJ.out _).mono ?_
  rintro e w4 ⟨rfl, g4⟩
  have G4 := Lib.hid (gr_then G3.out g4)
  have GA4 := Lib.hid (gr_then GA3.out g4)
  clear g4 G3 GA3
  go_wp2_with fail
  refine (KE1.out _).mono ?_
  rintro e w5 ⟨r, rfl, hr, g5⟩
  have hrv : r = true := hr.2 ex_e1
  subst hrv
  clear hr
  have G5 := Lib.hid (gr_then G4.out g5)
  have GA5 := Lib.hid (gr_then GA4.out g5)
  clear g5 G4 GA4
  go_wp2_with fail
  refine (KE2.out _).mono ?_
  rintro e w6 ⟨r, rfl, hr, g6⟩
  have hrv : r = false := Bool.eq_false_iff.2 (fun h => ex_e2 (hr.1 h))
  subst hrv
  clear hr
  have G6 := Lib.hid (gr_then G5.out g6)
  have GA6 := Lib.hid (gr_then GA5.out g6)
  clear g6 G5 GA5
  go_wp2_with fail
  refine (KE3.out _).mono ?_
  rintro e w7 ⟨r, rfl, hr, g7⟩
  have hrv : r = true := hr.2 ex_e3
  subst hrv
  clear hr
  have G7 := Lib.hid (gr_then G6.out g7)
  have GA7 := Lib.hid (gr_then GA6.out g7)
  clear g7 G6 GA6
  have HK := Lib.hid (show ∀ w', w7.grownBy w' none → (w'.cell? ⟨w.heap.size, 0, none⟩ = some (.int .i64 1) ∧ w'.cell? ⟨w.heap.size, 1, none⟩ = some (.int .i64 0) ∧ w'.cell? ⟨w.heap.size, 2, none⟩ = some (.int .i64 0) ∧ w'.cell? ⟨w.heap.size, 3, none⟩ = some (.string ⟨#[]⟩) ∧ w'.cell? ⟨w.heap.size, 4, none⟩ = some (.string ⟨#[]⟩)) from fun w' h => ⟨(HRN.out.kept (gr_then GA7.out h)).cell 0 _ rfl, (HRN.out.kept (gr_then GA7.out h)).cell 1 _ rfl, (HRN.out.kept (gr_then GA7.out h)).cell 2 _ rfl, (HRN.out.kept (gr_then GA7.out h)).cell 3 _ rfl, (HRN.out.kept (gr_then GA7.out h)).cell 4 _ rfl⟩)
  go_wp2_with fail
  refine wp_region_held_drew (S := (fun w' => w'.cell? ⟨w.heap.size, 0, none⟩ = some (.int .i64 1) ∧ w'.cell? ⟨w.heap.size, 1, none⟩ = some (.int .i64 0) ∧ w'.cell? ⟨w.heap.size, 2, none⟩ = some (.int .i64 0) ∧ w'.cell? ⟨w.heap.size, 3, none⟩ = some (.string ⟨#[]⟩) ∧ w'.cell? ⟨w.heap.size, 4, none⟩ = some (.string ⟨#[]⟩))) (by kernel_rfl) ?_ (fun hHeld => ?_)
  · refine HK.out _ ?_; (repeat (first | (with_reducible refine gr_dr ?_) | (with_reducible refine gr_then ?_ h3) | (with_reducible refine gr_then ?_ h2) | (with_reducible refine gr_then ?_ h1) | (with_reducible exact gr_rfl _)))
  refine wpAnyH_take (i := 3) (oi := _) (v := ?v1) rfl (by kernel_rfl) (by kernel_rfl) (by kernel_rfl) (fun _ _ _ h => h) (Or.inl ⟨by rfl, ?hy1⟩) (by assumption) ?rest1
  case hy1 => ((intro w hSw; (try dsimp only at hSw); go_simp); try (with_reducible rfl))
  ((try dsimp only [List.getElem_toArray, List.getElem_cons_succ, List.getElem_cons_zero]); try simp only [Act.put, List.setIfInBounds_toArray, List.set_cons_zero, List.set_cons_succ])
  refine wpAnyH_take (i := 0) (oi := _) (v := ?v2) rfl (by kernel_rfl) (by kernel_rfl) (by kernel_rfl) (fun _ _ _ h => h) (Or.inl ⟨by rfl, ?hy2⟩) (by assumption) ?rest2
  case hy2 => ((intro w hSw; (try dsimp only at hSw); go_simp); try (with_reducible rfl))
  ((try dsimp only [List.getElem_toArray, List.getElem_cons_succ, List.getElem_cons_zero]); try simp only [Act.put, List.setIfInBounds_toArray, List.set_cons_zero, List.set_cons_succ])
  refine wpAnyH_ready (rs := [1]) (by kernel_rfl) (by simp) ?_
  refine AllReadyH.cons (o := _) rfl (fun K hK => ?_) AllReadyH.nil
  go_simp
  refine hK.out _ _ ?_ (fun hHeld => ?_)
  · (try dsimp only); refine HK.out _ ?_; (repeat (first | (with_reducible refine gr_dr ?_) | (with_reducible refine gr_then ?_ h3) | (with_reducible refine gr_then ?_ h2) | (with_reducible refine gr_then ?_ h1) | (with_reducible exact gr_rfl _)))
  clear hK K
  ((try dsimp only [List.getElem_toArray, List.getElem_cons_succ, List.getElem_cons_zero]); try simp only [Act.put, List.setIfInBounds_toArray, List.set_cons_zero, List.set_cons_succ])
  refine wpAnyH_ready (rs := [2]) (by kernel_rfl) (by simp) ?_
  refine AllReadyH.cons (o := _) rfl (fun K hK => ?_) AllReadyH.nil
  go_simp
  go_at_call 20; (with_reducible refine (KM.out _).mono ?_); rintro e1 x1 ⟨rfl, h1⟩
  refine hK.out _ _ ?_ (fun hHeld => ?_)
  · (try dsimp only); refine HK.out _ ?_; (repeat (first | (with_reducible refine gr_dr ?_) | (with_reducible refine gr_then ?_ h3) | (with_reducible refine gr_then ?_ h2) | (with_reducible refine gr_then ?_ h1) | (with_reducible exact gr_rfl _)))
  clear hK K
  ((try dsimp only [List.getElem_toArray, List.getElem_cons_succ, List.getElem_cons_zero]); try simp only [Act.put, List.setIfInBounds_toArray, List.set_cons_zero, List.set_cons_succ])
  refine wpAnyH_take (i := 4) (oi := _) (v := ?v3) rfl (by kernel_rfl) (by kernel_rfl) (by kernel_rfl) (fun _ _ _ h => h) (Or.inl ⟨by rfl, ?hy3⟩) (by assumption) ?rest3
  case hy3 => ((intro w hSw; (try dsimp only at hSw); go_simp); try (with_reducible rfl))
  ((try dsimp only [List.getElem_toArray, List.getElem_cons_succ, List.getElem_cons_zero]); try simp only [Act.put, List.setIfInBounds_toArray, List.set_cons_zero, List.set_cons_succ])
  refine wpAnyH_take (i := 5) (oi := _) (v := ?v4) rfl (by kernel_rfl) (by kernel_rfl) (by kernel_rfl) (fun _ _ _ h => h) (Or.inl ⟨by rfl, ?hy4⟩) (by assumption) ?rest4
  case hy4 => ((intro w hSw; (try dsimp only at hSw); go_simp); try (with_reducible rfl))
  ((try dsimp only [List.getElem_toArray, List.getElem_cons_succ, List.getElem_cons_zero]); try simp only [Act.put, List.setIfInBounds_toArray, List.set_cons_zero, List.set_cons_succ])
  refine wpAnyH_take (i := 7) (oi := _) (v := ?v5) rfl (by kernel_rfl) (by kernel_rfl) (by kernel_rfl) (fun _ _ _ h => h) (Or.inl ⟨by rfl, ?hy5⟩) (by assumption) ?rest5
  case hy5 => ((intro w hSw; (try dsimp only at hSw); go_simp); try (with_reducible rfl))
  ((try dsimp only [List.getElem_toArray, List.getElem_cons_succ, List.getElem_cons_zero]); try simp only [Act.put, List.setIfInBounds_toArray, List.set_cons_zero, List.set_cons_succ])
  refine wpAnyH_take (i := 9) (oi := _) (v := ?v6) rfl (by kernel_rfl) (by kernel_rfl) (by kernel_rfl) (fun _ _ _ h => h) (Or.inl ⟨by rfl, ?hy6⟩) (by assumption) ?rest6
  case hy6 => ((intro w hSw; (try dsimp only at hSw); go_simp); try (with_reducible rfl))
  ((try dsimp only [List.getElem_toArray, List.getElem_cons_succ, List.getElem_cons_zero]); try simp only [Act.put, List.setIfInBounds_toArray, List.set_cons_zero, List.set_cons_succ])
  refine wpAnyH_ready (rs := [6]) (by kernel_rfl) (by simp) ?_
  refine AllReadyH.cons (o := _) rfl (fun K hK => ?_) AllReadyH.nil
  go_simp
  go_at_call 18; (with_reducible refine (KR3.out _).mono ?_); rintro e2 x2 ⟨rfl, h2⟩
  refine hK.out _ _ ?_ (fun hHeld => ?_)
  · (try dsimp only); refine HK.out _ ?_; (repeat (first | (with_reducible refine gr_dr ?_) | (with_reducible refine gr_then ?_ h3) | (with_reducible refine gr_then ?_ h2) | (with_reducible refine gr_then ?_ h1) | (with_reducible exact gr_rfl _)))
  clear hK K
  ((try dsimp only [List.getElem_toArray, List.getElem_cons_succ, List.getElem_cons_zero]); try simp only [Act.put, List.setIfInBounds_toArray, List.set_cons_zero, List.set_cons_succ])
  refine wpAnyH_ready (rs := [8]) (by kernel_rfl) (by simp) ?_
  refine AllReadyH.cons (o := _) rfl (fun K hK => ?_) AllReadyH.nil
  go_simp
  go_at_call 23; (with_reducible refine (KC.out _).mono ?_); rintro e3 x3 ⟨rfl, h3⟩
  refine hK.out _ _ ?_ (fun hHeld => ?_)
  · (try dsimp only); refine HK.out _ ?_; (repeat (first | (with_reducible refine gr_dr ?_) | (with_reducible refine gr_then ?_ h3) | (with_reducible refine gr_then ?_ h2) | (with_reducible refine gr_then ?_ h1) | (with_reducible exact gr_rfl _)))
  clear hK K
  ((try dsimp only [List.getElem_toArray, List.getElem_cons_succ, List.getElem_cons_zero]); try simp only [Act.put, List.setIfInBounds_toArray, List.set_cons_zero, List.set_cons_succ])
  refine wpAnyH_take (i := 10) (oi := _) (v := ?v7) rfl (by kernel_rfl) (by kernel_rfl) (by kernel_rfl) (fun _ _ _ h => h) (Or.inl ⟨by rfl, ?hy7⟩) (by assumption) ?rest7
  case hy7 => ((intro w hSw; (try dsimp only at hSw); go_simp); try (with_reducible rfl))
  ((try dsimp only [List.getElem_toArray, List.getElem_cons_succ, List.getElem_cons_zero]); try simp only [Act.put, List.setIfInBounds_toArray, List.set_cons_zero, List.set_cons_succ])
  refine wpAnyH_take (i := 11) (oi := _) (v := ?v8) rfl (by kernel_rfl) (by kernel_rfl) (by kernel_rfl) (fun _ _ _ h => h) (Or.inl ⟨by rfl, ?hy8⟩) (by assumption) ?rest8
  case hy8 => ((intro w hSw; (try dsimp only at hSw); go_simp); try (with_reducible rfl))
  ((try dsimp only [List.getElem_toArray, List.getElem_cons_succ, List.getElem_cons_zero]); try simp only [Act.put, List.setIfInBounds_toArray, List.set_cons_zero, List.set_cons_succ])
  refine wpAnyH_take (i := 12) (oi := _) (v := ?v9) rfl (by kernel_rfl) (by kernel_rfl) (by kernel_rfl) (fun _ _ _ h => h) (Or.inl ⟨by rfl, ?hy9⟩) (by assumption) ?rest9
  case hy9 => ((intro w hSw; (try dsimp only at hSw); go_simp); try (with_reducible rfl))
  ((try dsimp only [List.getElem_toArray, List.getElem_cons_succ, List.getElem_cons_zero]); try simp only [Act.put, List.setIfInBounds_toArray, List.set_cons_zero, List.set_cons_succ])
  refine wpAnyH_done (by kernel_rfl) ?_ _
  have GX := Lib.hid (gr_then G7.out (gr_then (gr_then (gr_then (gr_dr (gr_rfl w7)) h1) h2) h3))
  clear h1 h2 h3 G7 GA7 HK HRN
  go_wp2_with fail
  refine (KP.out _).mono ?_
  rintro e y1 ⟨v, rfl, hv, gp⟩
  have GY := Lib.hid (gr_then GX.out gp)
  obtain ⟨a0, c0, rfl⟩ := pcs_shape hv
  have KPT := Lib.hid ((show patD exP = mk5 2 200 76 [] [45] from ex_pat ex_right) ▸ pattern_any _ exP y1 (tabis_grown HT.out GY.out) hv (by decide) (by decide))
  have hl3 : exP.length = 3 := rfl
  clear hv gp GX
  go_wp2_with fail
  refine KPT.out.mono ?_
  rintro e y2 ⟨rfl, gp⟩
  have GZ := Lib.hid (gr_then GY.out gp)
  clear gp KPT GY
  go_wp2_with fail
  refine (KR4.out _).mono ?_
  rintro e y3 ⟨rfl, gp⟩
  have GU := Lib.hid (gr_then GZ.out gp)
  clear gp GZ
  go_wp2_with fail
  refine (KT.out _ GU.out).mono ?_
  rintro e y4 ⟨rfl, gp⟩
  have GV := Lib.hid (gr_then GU.out gp)
  clear gp GU
  go_wp2_with fail
  refine (KF.out _).mono ?_
  rintro e y5 ⟨rfl, gp⟩
  have GW := Lib.hid (gr_then GV.out gp)
  clear gp GV
  go_wp2
  go_ret
  exact ⟨by rfl, GW.out⟩
end Go.Proofs.YtaejnklgnegkhaaGreatDoor
namespace Go.Proofs.YtaejnklgnegkhaaGreatDoor
open Go.RowKit Pt

theorem PF.okP {w w' : World} {base : Nat} {v : Value} {l : List Pc} (h : PF w base v l) (hg : w.grownBy w' none) : PF w' base v l := h.kept hg
theorem gr_off {W w' : World} {b : Nat} (h : W.grownBy w' (some b)) (hb : W.heap.size ≤ b) : W.grownBy w' none :=
  ⟨h.os, h.tape, h.output, h.size, fun k hk _ => h.block k hk (by simp; omega)⟩
theorem app_p0 (W wr : World) (v : Value) (l : List Pc) (p : Pc) (hf : PF wr W.heap.size v l) (hn : l.length ≤ 90000) (hg : W.grownBy wr none) :
    ∃ v' w', (Builtin.append_ #[47, 47] 47 #[v, .slice (some ⟨wr.heap.size, 0, none⟩) 1 1]).run Tryz.prog (wr.alloc (.cells #[.int .i64 p.k, .int .i64 p.a, .int .i64 p.b, .string p.t] 52)) = .ok v' w' ∧ PF w' W.heap.size v' (l ++ [p]) ∧ W.grownBy w' none ∧ OKP wr w' := by
  obtain ⟨v', w', h1, h2, h3, h4⟩ := app_p W wr W.heap.size v l p hf hn (gr_b hg _)
  exact ⟨v', w', h1, h2, gr_off h3 (Nat.le_refl _), h4⟩
theorem PF.keptX {w w1 : World} {base X : Nat} {v : Value} {l : List Pc} (h : PF w base v l) (hg : w.grownBy w1 (some X)) (hX : w.heap.size = X) : PF w1 base v l :=
  World.ownsRow.kept h hg (by
    cases hv : Value.ownBlock v with
    | none => exact .inl rfl
    | some g =>
      refine .inr (fun e => ?_)
      cases e
      obtain ⟨cs, fz, hc⟩ := own_kindP h X hv
      have := (Array.getElem?_eq_some_iff.1 hc).1
      omega)
theorem mod_le {z m : Int} (hm : 0 < m) : 0 ≤ z % m ∧ z % m < m := ⟨Int.emod_nonneg z (by omega), Int.emod_lt_of_pos z hm⟩
set_option maxRecDepth 100000 in
set_option maxHeartbeats 4000000 in
theorem made_any (w : World) (v : Value) (hv : IntsA w v) : Calls Tryz.prog 29 #[v] w fun e w' => ∃ u ps, e = .returned u ∧ Pcs w' u ps ∧ ps.length ≤ 5 ∧ (∀ p ∈ ps, GoodM 5 p) ∧ w.grownBy w' none := by
  obtain ⟨a0, n, c, rfl, hF⟩ := hv
  have HF := Lib.hid hF
  have hn : n ≤ 9223372036854775807 := by
    rcases hF with rfl | ⟨_, _, _, _, _, h, _⟩
    · omega
    · exact h
  clear hF
  go_enter Tryz.func29, Tryz.ntmps29
  go_wp2_with fail
  go_loopw [3, 4] (fun u i wr => ∃ (q : Nat) (acc : List Pc), q ≤ 5 ∧ i = .int .i64 ((3 * q : Nat) : Int) ∧ acc.length ≤ q ∧ (∀ p ∈ acc, GoodM q p) ∧ Hid (PF wr w.heap.size u acc) ∧ Hid (w.grownBy wr none)) (fun _ i _ => 16 - (intOf i).toNat)
  case atStart => exact ⟨0, [], by omega, rfl, by simp, by simp, Lib.hid (World.ownsRow_nil _ _ _ _), Lib.hid (gr_rfl w)⟩
  case round =>
    obtain ⟨q, acc, hq, rfl, hacc, hgood, HA, G0⟩ := hrel
    obtain ⟨i, hi⟩ : ∃ i, 3 * q = i := ⟨_, rfl⟩
    rw [hi]
    have HQ := Lib.hid hi
    by_cases hc : i + 2 < n ∧ i < 15
    · obtain ⟨h1, h2⟩ := hc
      have h1i : (i : Int) + 2 < (n : Int) := by omega
      have h2i : (i : Int) < 15 := by omega
      obtain ⟨g, o, F, rfl, hb, _, hFF⟩ : ∃ (g o : Nat) (F : Nat → Int), a0 = some ⟨g, o, none⟩ ∧ g < w.heap.size ∧ n ≤ 9223372036854775807 ∧ ∀ i, i < n → w.cell? ⟨g, o + i, none⟩ = some (.int .i64 (F i)) ∧ I64 (F i) := by
        rcases HF.out with h | h
        · omega
        · exact h
      have HW := Lib.hid (fun (w1 : World) (hg : w.grownBy w1 none) => And.intro (hg.cell (hFF i (by omega)).1 (by simp)) (And.intro (hg.cell (hFF (i + 1) (by omega)).1 (by simp)) (hg.cell (hFF (i + 2) (by omega)).1 (by simp))))
      obtain ⟨⟨x1, x2⟩, ⟨y1, y2⟩, ⟨z1, z2⟩⟩ := And.intro (hFF i (by omega)).2 (And.intro (hFF (i + 1) (by omega)).2 (hFF (i + 2) (by omega)).2)
      clear hFF
      generalize F i = x at *
      generalize F (i + 1) = y at *
      generalize F (i + 2) = z at *
      obtain ⟨c0, c1, c2⟩ := HW.out wr G0.out
      have M1 := Lib.hid (fun w => rmod_any x 11 w (by decide) (by decide) x1 x2)
      have M2 := Lib.hid (fun w => rmod_any y 7 w (by decide) (by decide) y1 y2)
      have M3 := Lib.hid (fun w => rmod_any y 3 w (by decide) (by decide) y1 y2)
      have M4 := Lib.hid (fun w => rmod_any z 4 w (by decide) (by decide) z1 z2)
      have M5 := Lib.hid (fun w => rmod_any z 9 w (by decide) (by decide) z1 z2)
      have hx := mod_le (z := x) (show (0 : Int) < 11 by decide)
      have hy7 := mod_le (z := y) (show (0 : Int) < 7 by decide)
      have hy3 := mod_le (z := y) (show (0 : Int) < 3 by decide)
      have hz4 := mod_le (z := z) (show (0 : Int) < 4 by decide)
      have hz9 := mod_le (z := z) (show (0 : Int) < 9 by decide)
      generalize x % 11 = k at *
      generalize y % 7 = ye at *
      generalize y % 3 = yl at *
      generalize z % 4 = zm at *
      generalize z % 9 = zn at *
      clear x1 x2 y1 y2 z1 z2
      go_wp2_with fail
      refine (M1.out _).mono ?_
      rintro e w1 ⟨rfl, rfl⟩
      by_cases hk : 6 < k
      · obtain ⟨e, rfl⟩ : ∃ e : Nat, ye = (e : Int) := ⟨ye.toNat, by omega⟩
        have he : e < 7 := by omega
        have hei : (e : Int) < 7 := by omega
        obtain ⟨wl, hwl⟩ : ∃ wl, wr.alloc (.cells #[.string ⟨#[45]⟩, .string ⟨#[97]⟩, .string ⟨#[66, 55]⟩, .string ⟨#[43]⟩, .string ⟨#[92, 123]⟩, .string ⟨#[32]⟩, .string ⟨#[120, 32, 121]⟩] 9) = wl := ⟨_, rfl⟩
        have gl : wr.grownBy wl none := by rw [← hwl]; exact gr_alloc _ _ _
        have RL := Row.new wr txL 9
        simp only [List.toArray] at RL
        rw [hwl] at RL
        have d0 := RL.cell e _ (txL_get he)
        obtain ⟨b0, b1, b2⟩ := HW.out wl (gr_then G0.out gl)
        have HA1 := Lib.hid (HA.out.kept gl)
        have G1 := Lib.hid (gr_then G0.out gl)
        have htx := txM_le e
        have HTX := Lib.hid htx
        generalize txM e = tx at *
        clear gl RL c0 c1 c2
        go_wp2_with fail
        refine (M2.out _).mono ?_
        rintro e' w2 ⟨rfl, rfl⟩
        rcases List.eq_nil_or_concat acc with rfl | ⟨acc', p, hcc⟩
        · obtain ⟨a3, c3, rfl⟩ : ∃ a3 c3, u3 = .slice a3 0 c3 := by
            rcases HA1.out.2 with ⟨h, _⟩ | ⟨_, _, _, h, _⟩
            · exact ⟨_, _, h⟩
            · exact ⟨_, _, h⟩
          obtain ⟨v5, w5, r5, f5, g5, _⟩ := app_p0 w wl (.slice a3 0 c3) [] ⟨0, 0, 0, tx⟩ HA1.out (by simp) G1.out
          have F5 := Lib.hid f5
          have G5 := Lib.hid g5
          clear f5 g5 b0 b1 b2
          simp only at r5
          go_wp2_with (at_builtin; refine wpList_call_append rfl (.tmp 63) (.tmp 66) 47 rfl _ _ rfl rfl _ _ r5 ?_)
          refine ⟨⟨q + 1, [] ++ [⟨0, 0, 0, tx⟩], by omega, by rw [show 3 * (q + 1) = i + 3 from by omega]; rfl, by simp, fun p hp => ?_, F5, G5⟩, by simp only [intOf]; omega⟩
          rcases List.mem_append.1 hp with h | h
          · exact (hgood p h).more (by omega)
          · obtain rfl := List.mem_singleton.1 h
            exact ⟨by simp, by simp, by simp, by have := HTX.out; show tx.size ≤ _; omega, fun _ => ⟨rfl, rfl⟩, fun h => absurd rfl h⟩
        · rw [List.concat_eq_append] at hcc
          subst hcc
          obtain ⟨gg, cap, rfl, hgb, ⟨cs, hcs⟩, e0, e3, ef, hset⟩ := HA1.out.last
          have hml : acc'.length < 5 := by rw [List.length_append, List.length_singleton] at hacc; omega
          have hmq : acc'.length + 1 ≤ q := by rw [List.length_append, List.length_singleton] at hacc; exact hacc
          have hgp := hgood p (by simp)
          have hall := fun x (hx : x ∈ acc') => hgood x (by simp [hx])
          have HGP := Lib.hid hgp
          obtain ⟨m, hm⟩ : ∃ m, acc'.length = m := ⟨_, rfl⟩
          rw [hm] at e0 e3 ef hset hml hmq HA1 HA ⊢
          have HM := Lib.hid hm
          have hx1 : (m : Int) + 1 - 1 = (m : Int) := by omega
          clear hacc
          by_cases hp0 : p.k = 0
          · have hkb : (p.k == 0) = true := by rw [hp0]; rfl
            have hst := Lib.hid (hset (p.t ++ tx))
            have hbnd : (p.t ++ tx).size ≤ 1000 := by rw [ByteArray.size_append]; have := hgp.t; omega
            have G2 := Lib.hid (gr_setn (i := m * 4 + 3) (v := .string (p.t ++ tx)) G1.out hgb)
            have htl : ¬ (9223372036854775807 : Int) < (p.t.size : Int) + (tx.size : Int) := by have := hgp.t; omega
            have htn : ¬ 9223372036854775807 < p.t.size + tx.size := by have := hgp.t; omega
            clear b0 b1 b2 hset hcs hgood
            go_wp2
            refine ⟨⟨q + 1, acc' ++ [⟨p.k, p.a, p.b, p.t ++ tx⟩], by omega, by rw [show 3 * (q + 1) = i + 3 from by omega]; rfl, by rw [List.length_append, List.length_singleton]; have := HM.out; omega, fun x hx => ?_, hst, G2⟩, by simp only [intOf]; omega⟩
            rcases List.mem_append.1 hx with h | h
            · exact (hall x h).more (by omega)
            · obtain rfl := List.mem_singleton.1 h
              have hg1 := HGP.out
              exact ⟨hg1.k, hg1.a, hg1.b, by show (p.t ++ tx).size ≤ _; rw [ByteArray.size_append]; have := hg1.t; have := HTX.out; omega, hg1.lit, fun h => absurd hp0 h⟩
          · have hkb : (p.k == 0) = false := by rw [beq_eq_false_iff_ne]; exact hp0
            clear hset hcs
            obtain ⟨v5, w5, r5, f5, g5, _⟩ := app_p0 w wl (.slice (some ⟨gg, 0, none⟩) (m + 1) cap) (acc' ++ [p]) ⟨0, 0, 0, tx⟩ HA1.out (by (rw [List.length_append, List.length_singleton]; have := HM.out; omega)) G1.out
            have F5 := Lib.hid f5
            have G5 := Lib.hid g5
            clear f5 g5 b0 b1 b2
            simp only at r5
            go_wp2_with (at_builtin; refine wpList_call_append rfl (.tmp 63) (.tmp 66) 47 rfl _ _ rfl rfl _ _ r5 ?_)
            refine ⟨⟨q + 1, (acc' ++ [p]) ++ [⟨0, 0, 0, tx⟩], by omega, by rw [show 3 * (q + 1) = i + 3 from by omega]; rfl, by (rw [List.length_append, List.length_append, List.length_singleton, List.length_singleton]; have := HM.out; omega), fun p hp => ?_, F5, G5⟩, by simp only [intOf]; omega⟩
            rcases List.mem_append.1 hp with h | h
            · exact (hgood p h).more (by omega)
            · obtain rfl := List.mem_singleton.1 h
              exact ⟨by simp, by simp, by simp, by have := HTX.out; show tx.size ≤ _; omega, fun _ => ⟨rfl, rfl⟩, fun h => absurd rfl h⟩
      · have hk6 : k ≤ 6 := by omega
        obtain ⟨X, hX⟩ : ∃ X, wr.heap.size = X := ⟨_, rfl⟩
        obtain ⟨wx, hwx⟩ : ∃ wx, wr.alloc (.cells #[.int .i64 (k + 1), .int .i64 yl, .int .i64 0, .string ⟨#[]⟩] 52) = wx := ⟨_, rfl⟩
        have gx : wr.grownBy wx none := by rw [← hwx]; exact gr_alloc _ _ _
        have R0 := Row.new wr [.int .i64 (k + 1), .int .i64 yl, .int .i64 0, .string ⟨#[]⟩] 52
        simp only [List.toArray] at R0
        rw [hwx, hX] at R0
        have HGX := Lib.hid gx
        have G1 := Lib.hid (gr_then G0.out gx)
        have HXL := Lib.hid (show w.heap.size ≤ X by have := G0.out.size; omega)
        have hXo : X ≠ g := by have := HXL.out; omega
        obtain ⟨b0, b1, b2⟩ := HW.out wx G1.out
        have d1 := R0.cell 1 _ rfl
        have d2 := R0.cell 2 _ rfl
        have f2 := R0.fr 2
        have HR0 := Lib.hid R0
        have HWX := Lib.hid hwx
        have HXX := Lib.hid hX
        clear gx R0 hwx
        go_wp2_with fail
        refine (M3.out _).mono ?_
        rintro e' w2 ⟨rfl, rfl⟩
        go_wp2_with fail
        rw [HWX.out]
        clear c0 c1 c2
        obtain ⟨q1, q2⟩ := hy3
        obtain ⟨q3, q4⟩ := hz4
        have q5 : IntKind.i64.wrap (yl + zm) = yl + zm := IntWalk.i64_in _ (by omega)
        have q6 : IntKind.i64.wrap ((i : Int) + 2) = (i : Int) + 2 := IntWalk.i64_in _ (by omega)
        go_region_with (go_at_call 40; refine (M4.out _).mono ?_; rintro e' w2 ⟨rfl, rfl⟩)
        all_goals (
          obtain ⟨wy, hwy⟩ : ∃ wy, (wx.setCell ⟨X, 2, none⟩ (.int .i64 (yl + zm))).drew = wy := ⟨_, rfl⟩
          have RY : Row wy X [.int .i64 (k + 1), .int .i64 yl, .int .i64 (yl + zm), .string ⟨#[]⟩] 52 := by rw [← hwy]; exact (HR0.out.set 2 _).dr
          have GY : wr.grownBy wy (some X) := by rw [← hwy]; exact gr_trans (gr_trans (gr_b HGX.out X) (gr_set wx X 2 (.int .i64 (yl + zm))) (.inr rfl) (.inr (.inl rfl))) (gr_drewN _ 1 none) (.inr rfl) (.inl rfl)
          have e2 : wy.cell? ⟨g, o + (i + 2), none⟩ = some (.int .i64 z) := GY.cell (HW.out wr G0.out).2.2 (by simp; omega)
          rw [hwy]
          have t0 := RY.cell 0 _ rfl
          have t1 := RY.cell 1 _ rfl
          have t2 := RY.cell 2 _ rfl
          have t3 := RY.cell 3 _ rfl
          have u1 := RY.fr 1
          have u2 := RY.fr 2
          have HRY := Lib.hid RY
          have HGY := Lib.hid GY
          clear hwy RY GY b0 b1 b2 d1 d2 f2
          go_wp2_with fail
          refine (M5.out _).mono ?_
          rintro e' w2 ⟨rfl, rfl⟩
          by_cases h7 : zn = 7
          · have hb7 : (zn == 7) = true := by rw [h7]; rfl
            clear h7
            have RZ := HRY.out.set 2 (.int .i64 200)
            obtain ⟨wz, hwz⟩ : ∃ wz, wy.setCell ⟨X, 2, none⟩ (.int .i64 200) = wz := ⟨_, rfl⟩
            rw [hwz] at RZ
            have GZ : wr.grownBy wz (some X) := by rw [← hwz]; exact gr_trans HGY.out (gr_set _ _ _ _) (.inr rfl) (.inr (.inl rfl))
            have HWZ := Lib.hid hwz
            obtain ⟨v5, w5, r5, f5, g5, _⟩ := app_p0 w wz u3 acc ⟨k + 1, yl, 200, ⟨#[]⟩⟩ (HA.out.keptX GZ HXX.out) (by omega) (gr_new G0.out GZ HXL.out)
            have F5 := Lib.hid f5
            have G5 := Lib.hid g5
            have t0 := RZ.cell 0 _ rfl
            have t1 := RZ.cell 1 _ rfl
            have t2 := RZ.cell 2 _ rfl
            have t3 := RZ.cell 3 _ rfl
            clear f5 g5 GZ RZ
            simp only at r5
            go_wp2_with (at_builtin; refine wpList_call_append rfl (.tmp 104) (.tmp 106) 47 rfl _ _ rfl rfl _ _ r5 ?_)
            refine ⟨⟨q + 1, acc ++ [⟨k + 1, yl, 200, ⟨#[]⟩⟩], by omega, by rw [show 3 * (q + 1) = i + 3 from by omega]; rfl, by rw [List.length_append, List.length_singleton]; omega, fun x hx => ?_, F5, G5⟩, by simp only [intOf]; omega⟩
            rcases List.mem_append.1 hx with h | h
            · exact (hgood x h).more (by omega)
            · obtain rfl := List.mem_singleton.1 h
              exact ⟨⟨show 0 ≤ k + 1 by omega, show k + 1 ≤ 7 by omega⟩, ⟨show 0 ≤ yl by omega, show yl ≤ 2 by omega⟩, ⟨show yl ≤ 200 by omega, show 200 ≤ 200 by omega⟩, Nat.zero_le _, fun h => absurd h (show k + 1 ≠ 0 by omega), fun _ => ⟨rfl, show 1 ≤ 200 by omega⟩⟩
          · by_cases h8 : zn = 8
            · have hb7 : (zn == 7) = false := by rw [h8]; rfl
              have hb8 : (zn == 8) = true := by rw [h8]; rfl
              clear h7 h8
              have RI := HRY.out.set 1 (.int .i64 1)
              obtain ⟨wi, hwi⟩ : ∃ wi, wy.setCell ⟨X, 1, none⟩ (.int .i64 1) = wi := ⟨_, rfl⟩
              rw [hwi] at RI
              have HGI := Lib.hid (show wr.grownBy wi (some X) from by rw [← hwi]; exact gr_trans HGY.out (gr_set _ _ _ _) (.inr rfl) (.inr (.inl rfl)))
              have i2 := RI.cell 2 _ rfl
              have fi2 := RI.fr 2
              have HRI := Lib.hid RI
              clear RI
              have RZ := HRI.out.set 2 (.int .i64 1)
              obtain ⟨wz, hwz⟩ : ∃ wz, wi.setCell ⟨X, 2, none⟩ (.int .i64 1) = wz := ⟨_, rfl⟩
              rw [hwz] at RZ
              have GZ : wr.grownBy wz (some X) := by rw [← hwz]; exact gr_trans HGI.out (gr_set _ _ _ _) (.inr rfl) (.inr (.inl rfl))
              have HWZ := Lib.hid hwz
              obtain ⟨v5, w5, r5, f5, g5, _⟩ := app_p0 w wz u3 acc ⟨k + 1, 1, 1, ⟨#[]⟩⟩ (HA.out.keptX GZ HXX.out) (by omega) (gr_new G0.out GZ HXL.out)
              have F5 := Lib.hid f5
              have G5 := Lib.hid g5
              have t0 := RZ.cell 0 _ rfl
              have t1 := RZ.cell 1 _ rfl
              have t2 := RZ.cell 2 _ rfl
              have t3 := RZ.cell 3 _ rfl
              clear f5 g5 GZ RZ
              simp only at r5
              go_wp2_with (at_builtin; refine wpList_call_append rfl (.tmp 104) (.tmp 106) 47 rfl _ _ rfl rfl _ _ r5 ?_)
              refine ⟨⟨q + 1, acc ++ [⟨k + 1, 1, 1, ⟨#[]⟩⟩], by omega, by rw [show 3 * (q + 1) = i + 3 from by omega]; rfl, by rw [List.length_append, List.length_singleton]; omega, fun x hx => ?_, F5, G5⟩, by simp only [intOf]; omega⟩
              rcases List.mem_append.1 hx with h | h
              · exact (hgood x h).more (by omega)
              · obtain rfl := List.mem_singleton.1 h
                exact ⟨⟨show 0 ≤ k + 1 by omega, show k + 1 ≤ 7 by omega⟩, ⟨show 0 ≤ 1 by omega, show 1 ≤ 2 by omega⟩, ⟨show 1 ≤ 1 by omega, show 1 ≤ 200 by omega⟩, Nat.zero_le _, fun h => absurd h (show k + 1 ≠ 0 by omega), fun _ => ⟨rfl, show 1 ≤ 1 by omega⟩⟩
            · by_cases h0 : yl + zm = 0
              · have hb7 : (zn == 7) = false := by rw [beq_eq_false_iff_ne]; exact h7
                have hb8 : (zn == 8) = false := by rw [beq_eq_false_iff_ne]; exact h8
                have hb0 : (yl + zm == 0) = true := by rw [h0]; rfl
                clear h7 h8
                have RZ := HRY.out.set 2 (.int .i64 1)
                obtain ⟨wz, hwz⟩ : ∃ wz, wy.setCell ⟨X, 2, none⟩ (.int .i64 1) = wz := ⟨_, rfl⟩
                rw [hwz] at RZ
                have GZ : wr.grownBy wz (some X) := by rw [← hwz]; exact gr_trans HGY.out (gr_set _ _ _ _) (.inr rfl) (.inr (.inl rfl))
                have HWZ := Lib.hid hwz
                obtain ⟨v5, w5, r5, f5, g5, _⟩ := app_p0 w wz u3 acc ⟨k + 1, yl, 1, ⟨#[]⟩⟩ (HA.out.keptX GZ HXX.out) (by omega) (gr_new G0.out GZ HXL.out)
                have F5 := Lib.hid f5
                have G5 := Lib.hid g5
                have t0 := RZ.cell 0 _ rfl
                have t1 := RZ.cell 1 _ rfl
                have t2 := RZ.cell 2 _ rfl
                have t3 := RZ.cell 3 _ rfl
                clear f5 g5 GZ RZ
                simp only at r5
                go_wp2_with (at_builtin; refine wpList_call_append rfl (.tmp 104) (.tmp 106) 47 rfl _ _ rfl rfl _ _ r5 ?_)
                refine ⟨⟨q + 1, acc ++ [⟨k + 1, yl, 1, ⟨#[]⟩⟩], by omega, by rw [show 3 * (q + 1) = i + 3 from by omega]; rfl, by rw [List.length_append, List.length_singleton]; omega, fun x hx => ?_, F5, G5⟩, by simp only [intOf]; omega⟩
                rcases List.mem_append.1 hx with h | h
                · exact (hgood x h).more (by omega)
                · obtain rfl := List.mem_singleton.1 h
                  exact ⟨⟨show 0 ≤ k + 1 by omega, show k + 1 ≤ 7 by omega⟩, ⟨show 0 ≤ yl by omega, show yl ≤ 2 by omega⟩, ⟨show yl ≤ 1 by omega, show 1 ≤ 200 by omega⟩, Nat.zero_le _, fun h => absurd h (show k + 1 ≠ 0 by omega), fun _ => ⟨rfl, show 1 ≤ 1 by omega⟩⟩
              · have hb7 : (zn == 7) = false := by rw [beq_eq_false_iff_ne]; exact h7
                have hb8 : (zn == 8) = false := by rw [beq_eq_false_iff_ne]; exact h8
                have hb0 : (yl + zm == 0) = false := by rw [beq_eq_false_iff_ne]; exact h0
                clear h7 h8
                obtain ⟨v5, w5, r5, f5, g5, _⟩ := app_p0 w wy u3 acc ⟨k + 1, yl, yl + zm, ⟨#[]⟩⟩ (HA.out.keptX HGY.out HXX.out) (by omega) (gr_new G0.out HGY.out HXL.out)
                have F5 := Lib.hid f5
                have G5 := Lib.hid g5
                clear f5 g5
                simp only at r5
                go_wp2_with (at_builtin; refine wpList_call_append rfl (.tmp 104) (.tmp 106) 47 rfl _ _ rfl rfl _ _ r5 ?_)
                refine ⟨⟨q + 1, acc ++ [⟨k + 1, yl, yl + zm, ⟨#[]⟩⟩], by omega, by rw [show 3 * (q + 1) = i + 3 from by omega]; rfl, by rw [List.length_append, List.length_singleton]; omega, fun x hx => ?_, F5, G5⟩, by simp only [intOf]; omega⟩
                rcases List.mem_append.1 hx with h | h
                · exact (hgood x h).more (by omega)
                · obtain rfl := List.mem_singleton.1 h
                  exact ⟨⟨show 0 ≤ k + 1 by omega, show k + 1 ≤ 7 by omega⟩, ⟨show 0 ≤ yl by omega, show yl ≤ 2 by omega⟩, ⟨show yl ≤ (yl + zm) by omega, show (yl + zm) ≤ 200 by omega⟩, Nat.zero_le _, fun h => absurd h (show k + 1 ≠ 0 by omega), fun _ => ⟨rfl, show 1 ≤ (yl + zm) by omega⟩⟩)
    · obtain ⟨a3, n3, c3, rfl⟩ : ∃ a3 n3 c3, u3 = .slice a3 n3 c3 := by
        rcases HA.out.2 with ⟨h, _⟩ | ⟨_, _, _, h, _⟩
        · exact ⟨_, _, _, h⟩
        · exact ⟨_, _, _, h⟩
      have hfin := fun p (hp : p ∈ acc) => (hgood p hp).more hq
      by_cases h1 : i + 2 < n
      · have h1i : (i : Int) + 2 < (n : Int) := by omega
        have h2i : decide ((i : Int) < 15) = false := decide_eq_false (by omega)
        have h2n : decide (i < 15) = false := decide_eq_false (by omega)
        clear hc hi
        go_wp2
        go_ret
        first | exact ⟨_, acc, rfl, HA.out.pcs, by omega, hfin, G0.out⟩ | exact ⟨_, rfl, acc, HA.out.pcs, by omega, hfin, G0.out⟩
      · have h1i : ¬ (i : Int) + 2 < (n : Int) := by omega
        have hi15 : (i : Int) ≤ 15 := by omega
        clear hc hi h1
        go_wp2
        go_ret
        first | exact ⟨_, acc, rfl, HA.out.pcs, by omega, hfin, G0.out⟩ | exact ⟨_, rfl, acc, HA.out.pcs, by omega, hfin, G0.out⟩
end Go.Proofs.YtaejnklgnegkhaaGreatDoor
namespace Go.Proofs.YtaejnklgnegkhaaGreatDoor
open Go.ChangeShapes Go.WideShapes Go.ChangeAt Go.RowKit Pt

theorem gr_low {w w' : World} (hg : w.grownBy w' none) : Below w.heap.size w w' := ⟨hg.os, hg.tape, hg.output, hg.size, fun k hk => hg.block k hk (by simp)⟩
theorem own0 : ownKnob Tryz.prog.godebug = none := by kernel_rfl
theorem laidOut0 : laidOutB Tryz.prog = true := by kernel_rfl

def cellsD : DataW Unit → Array Value
  | .agg l => (l.map fun | .lit (.int k z) => Value.int k z | .lit (.string s) => Value.string ⟨s.toArray⟩ | _ => Value.nilIface).toArray
  | _ => #[]
noncomputable def laidWorld (os : Os) : World :=
  let w0 := World.holding Tryz.prog os ⟨#[], #[], []⟩
  let put (h : Array Obj) (g : Nat) (cs : Array Value) : Array Obj := h.modify g fun
    | .cells _ t frozen => .cells cs t frozen
    | o => o
  { w0 with heap := put (put (put w0.heap 5 (cellsD Rows.laid_math_bits_deBruijn32tab)) 6 (cellsD Rows.laid_math_bits_deBruijn64tab)) 2 (cellsD Rows.laid_internal_strconv_uint64pow10) }

abbrev laidL : List (String × DataW Unit) := [("math/bits.deBruijn32tab", Rows.laid_math_bits_deBruijn32tab), ("math/bits.deBruijn64tab", Rows.laid_math_bits_deBruijn64tab), ("internal/strconv.uint64pow10", Rows.laid_internal_strconv_uint64pow10)]
theorem tab_of {w : World} (h : laidMet Tryz.prog laidL w) : TabP w :=
  Lib.tabIs_of_head (g := 2) (t := 143) (e := 132) (n := 20) (by kernel_rfl) (by kernel_rfl) (by kernel_rfl) (by kernel_rfl) (by kernel_rfl) (by kernel_rfl) (show laidMet Tryz.prog [("internal/strconv.uint64pow10", Lib.tabData .u64 Lib.pow10Tab)] w from h.tail.tail)
set_option maxRecDepth 1000000 in
theorem laid_at (os : Os) (args : Array Value) : laidMet Tryz.prog laidL ((laidWorld os).forCall (fun _ _ => 0) ⟨#[], args, []⟩).memory :=
  have h : LaidIn Tryz.prog ((laidWorld os).forCall (fun _ _ => 0) ⟨#[], args, []⟩).memory laidL [5, 6, 2] :=
    LaidIn.of_run [5, 6, 2] 8 (by kernel_rfl) (by kernel_rfl) (by kernel_rfl) (by kernel_rfl)
  h.met

set_option maxRecDepth 100000 in
theorem int_arg {H : Type} {enc : TypeId × Value → H} {W : World} {base : Nat} {v : Value} {d : DataW H} {p : List MemPlace} (hok : Value.okWide Tryz.prog W .any base 3 v) (h : DataW.Trod enc Tryz.prog W 0 (fun _ => true) true 3 v d p) : ∃ n : Int, v = .int .i64 n ∧ -9223372036854775808 ≤ n ∧ n ≤ 9223372036854775807 := by
  obtain ⟨n, rfl, _, _, hw⟩ := open_int Tryz.underlying3 hok h
  have a1 : IntKind.i64.min = -9223372036854775808 := rfl
  have a2 : IntKind.i64.max = 9223372036854775807 := rfl
  refine ⟨n, rfl, ?_⟩
  simpa [Lit.wf, a1, a2] using hw
set_option maxRecDepth 100000 in
theorem byte_arg {H : Type} {enc : TypeId × Value → H} {W : World} {base : Nat} {v : Value} {d : DataW H} {p : List MemPlace} (hok : Value.okWide Tryz.prog W .any base 5 v) (h : DataW.Trod enc Tryz.prog W 0 (fun _ => true) true 5 v d p) : ∃ n : Nat, v = .int .u8 (n : Int) ∧ n ≤ 255 := by
  obtain ⟨n, rfl, _, _, hw⟩ := open_int Tryz.underlying5 hok h
  have a1 : IntKind.u8.min = 0 := rfl
  have a2 : IntKind.u8.max = 255 := rfl
  have hb : 0 ≤ n ∧ n ≤ 255 := by simpa [Lit.wf, a1, a2] using hw
  exact ⟨n.toNat, by rw [Int.toNat_of_nonneg hb.1], by omega⟩
set_option maxRecDepth 100000 in
theorem str_arg {H : Type} {enc : TypeId × Value → H} {W : World} {base : Nat} {v : Value} {d : DataW H} {p : List MemPlace} (hok : Value.okWide Tryz.prog W .any base 9 v) (h : DataW.Trod enc Tryz.prog W 0 (fun _ => true) true 9 v d p) : ∃ s : ByteArray, v = .string s ∧ s.size ≤ maxLen := by
  obtain ⟨s, rfl⟩ := okWide_string Tryz.underlying9 hok
  obtain ⟨fuel, hf⟩ := h
  refine ⟨s, rfl, ?_⟩
  cases fuel with
  | zero => simp [DataW.trod] at hf
  | succ n =>
    simp [DataW.trod, Value.cells, Tryz.underlying9] at hf
    exact hf.1
theorem wf_i64 {n : Int} (h : (Lit.int .i64 n).wf = true) : -9223372036854775808 ≤ n ∧ n ≤ 9223372036854775807 := by
  have a1 : IntKind.i64.min = -9223372036854775808 := rfl
  have a2 : IntKind.i64.max = 9223372036854775807 := rfl
  simpa [Lit.wf, a1, a2] using h
theorem wf_u8 {n : Int} (h : (Lit.int .u8 n).wf = true) : ∃ m : Nat, n = (m : Int) ∧ m ≤ 255 := by
  have a1 : IntKind.u8.min = 0 := rfl
  have a2 : IntKind.u8.max = 255 := rfl
  have hb : 0 ≤ n ∧ n ≤ 255 := by simpa [Lit.wf, a1, a2] using h
  exact ⟨n.toNat, by rw [Int.toNat_of_nonneg hb.1], by omega⟩
end Go.Proofs.YtaejnklgnegkhaaGreatDoor
