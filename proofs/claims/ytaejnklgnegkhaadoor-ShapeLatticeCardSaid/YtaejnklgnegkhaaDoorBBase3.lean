/- Contracts of the program and of the reference, part 3: Sg. -/
import Derived.Test.YtaejnklgnegkhaaDoorBBase2
namespace Go.Proofs.YtaejnklgnegkhaaDoor
open Go.RowKit Pt Sh

set_option maxRecDepth 100000 in
theorem longP_any (a b : ByteArray) (w : World) : Calls Tryd.prog 76 #[.string a, .string b, .func (.func 69) #[] #[]] w fun e w' => e = .returned (.tuple #[.string (longB a b), .bool (Lib.hasPrefix (longB a b).data.toList (shortB a b).data.toList)]) ∧ w = w' := by
  by_cases h : a.size < b.size
  · have hi : (a.size : Int) < (b.size : Int) := by omega
    rw [show longB a b = b from if_pos h, show shortB a b = a from if_pos h]
    have HP := Lib.hid (Tryd.strings_HasPrefix b a w)
    clear h
    go_enter Tryd.func76, Tryd.ntmps76
    go_wp2_with fail
    refine HP.out.mono ?_
    rintro e w1 ⟨rfl, rfl⟩
    go_wp2
    go_ret2
    exact ⟨rfl, rfl⟩
  · have hi : ¬ (a.size : Int) < (b.size : Int) := by omega
    rw [show longB a b = a from if_neg h, show shortB a b = b from if_neg h]
    have HP := Lib.hid (Tryd.strings_HasPrefix a b w)
    clear h
    go_enter Tryd.func76, Tryd.ntmps76
    go_wp2_with fail
    refine HP.out.mono ?_
    rintro e w1 ⟨rfl, rfl⟩
    go_wp2
    go_ret2
    exact ⟨rfl, rfl⟩
set_option maxRecDepth 100000 in
theorem longS_any (a b : ByteArray) (w : World) (ha : a.size ≤ 1000000) (hb : b.size ≤ 1000000) : Calls Tryd.prog 76 #[.string a, .string b, .func (.func 70) #[] #[]] w fun e w' => e = .returned (.tuple #[.string (longB a b), .bool (Lib.hasSuffix (longB a b).data.toList (shortB a b).data.toList)]) ∧ w = w' := by
  by_cases h : a.size < b.size
  · have hi : (a.size : Int) < (b.size : Int) := by omega
    rw [show longB a b = b from if_pos h, show shortB a b = a from if_pos h]
    have HP := Lib.hid (Tryd.strings_HasSuffix b a w (by omega))
    clear h
    go_enter Tryd.func76, Tryd.ntmps76
    go_wp2_with fail
    refine HP.out.mono ?_
    rintro e w1 ⟨rfl, rfl⟩
    go_wp2
    go_ret2
    exact ⟨rfl, rfl⟩
  · have hi : ¬ (a.size : Int) < (b.size : Int) := by omega
    rw [show longB a b = a from if_neg h, show shortB a b = b from if_neg h]
    have HP := Lib.hid (Tryd.strings_HasSuffix a b w (by omega))
    clear h
    go_enter Tryd.func76, Tryd.ntmps76
    go_wp2_with fail
    refine HP.out.mono ?_
    rintro e w1 ⟨rfl, rfl⟩
    go_wp2
    go_ret2
    exact ⟨rfl, rfl⟩
theorem long_le {a b : ByteArray} (ha : a.size ≤ 1000000) (hb : b.size ≤ 1000000) : (longB a b).size ≤ 1000000 := by
  unfold longB; split <;> omega
set_option maxRecDepth 100000 in
set_option maxHeartbeats 4000000 in
theorem meet_any (a a' : S5) (w : World) (hb : a.b.size ≤ 1000000) (he : a.e.size ≤ 1000000) (hb' : a'.b.size ≤ 1000000) (he' : a'.e.size ≤ 1000000) :
    Calls Tryd.prog 41 #[vS a, vS a'] w fun e w' => e = .returned (vS (meetD a a')) ∧ w.grownBy w' none := by
  obtain ⟨l, m, c, b, e⟩ := a
  obtain ⟨l', m', c', b', e'⟩ := a'
  simp only at hb he hb' he'
  have HLB := Lib.hid (fun w => longP_any b b' w)
  have HLE := Lib.hid (fun w => longS_any e e' w he he')
  obtain ⟨L, hL⟩ : ∃ L : Int, max l l' = L := ⟨_, rfl⟩
  obtain ⟨M, hM⟩ : ∃ M : Int, min m m' = M := ⟨_, rfl⟩
  obtain ⟨C, hC⟩ : ∃ C : Int, bits .and .i64 c c' = C := ⟨_, rfl⟩
  have hlb := long_le hb hb'
  have hle := long_le he he'
  have HY := Lib.hid (fun (h1 : Lib.hasPrefix (longB b b').data.toList (shortB b b').data.toList = true) (h2 : Lib.hasSuffix (longB e e').data.toList (shortB e e').data.toList = true) => show meetD ⟨l, m, c, b, e⟩ ⟨l', m', c', b', e'⟩ = canonD ⟨L, M, C, longB b b', longB e e'⟩ from by
    rw [← hL, ← hM, ← hC]
    exact if_pos ⟨(has_pre _ _).1 h1, (has_suf _ _).1 h2⟩)
  have HN := Lib.hid (fun (h : ¬ (Lib.hasPrefix (longB b b').data.toList (shortB b b').data.toList = true ∧ Lib.hasSuffix (longB e e').data.toList (shortB e e').data.toList = true)) => show meetD ⟨l, m, c, b, e⟩ ⟨l', m', c', b', e'⟩ = none5 from if_neg (fun h2 => h ⟨(has_pre _ _).2 h2.1, (has_suf _ _).2 h2.2⟩))
  generalize longB b b' = B at *
  generalize longB e e' = E at *
  generalize Lib.hasPrefix B.data.toList (shortB b b').data.toList = p1 at *
  generalize Lib.hasSuffix E.data.toList (shortB e e').data.toList = p2 at *
  have HK := Lib.hid (fun w0 => canon_any ⟨L, M, C, B, E⟩ w0 hlb hle)
  have HNS := Lib.hid nos0
  obtain ⟨K, hK⟩ : ∃ K, meetD ⟨l, m, c, b, e⟩ ⟨l', m', c', b', e'⟩ = K := ⟨_, rfl⟩
  rw [hK] at HY HN ⊢
  clear hK hb he hb' he' hlb hle
  go_enter Tryd.func41, Tryd.ntmps41
  go_wp2_with fail
  refine (HLB.out _).mono ?_
  rintro e1 w1 ⟨rfl, rfl⟩
  go_wp2_with fail
  refine (HLE.out _).mono ?_
  rintro e1 w1 ⟨rfl, rfl⟩
  have RZ := Row.new ((w.alloc (.cells #[.int .i64 l, .int .i64 m, .int .i64 c, .string b, .string e] 58)).alloc (.cells #[.int .i64 l', .int .i64 m', .int .i64 c', .string b', .string e'] 58)) [.int .i64 0, .int .i64 0, .int .i64 0, .string ⟨#[]⟩, .string ⟨#[]⟩] 58
  rw [World.size_alloc, World.size_alloc] at RZ
  simp only [List.toArray] at RZ
  obtain ⟨wz, hwz⟩ : ∃ wz, ((w.alloc (.cells #[.int .i64 l, .int .i64 m, .int .i64 c, .string b, .string e] 58)).alloc (.cells #[.int .i64 l', .int .i64 m', .int .i64 c', .string b', .string e'] 58)).alloc (.cells #[.int .i64 0, .int .i64 0, .int .i64 0, .string ⟨#[]⟩, .string ⟨#[]⟩] 58) = wz := ⟨_, rfl⟩
  rw [hwz] at RZ
  have HRZ := Lib.hid RZ
  have HGZ := Lib.hid (show w.grownBy wz none from by rw [← hwz]; exact gr_then (gr_then (gr_alloc _ _ _) (gr_alloc _ _ _)) (gr_alloc _ _ _))
  have HWZ := Lib.hid hwz
  clear RZ hwz
  have hcase : ¬ (p1 = true ∧ p2 = true) ∨ (p1 = true ∧ p2 = true) := (Classical.em _).symm
  rcases hcase with h | ⟨rfl, rfl⟩
  · have hK : K = none5 := HN.out h
    subst hK
    cases p1 <;> cases p2 <;> first | (exact absurd ⟨rfl, rfl⟩ h) | skip
    all_goals
      clear h
      go_wp2_with fail
      rw [HWZ.out]
      refine (HNS.out wz).mono ?_
      rintro e1 w2 ⟨rfl, g2⟩
      have R2 := HRZ.out.kept g2
      have f0 := R2.fr 0
      have f1 := R2.fr 1
      have f2 := R2.fr 2
      have f3 := R2.fr 3
      have f4 := R2.fr 4
      have c0 := R2.cell 0 _ rfl
      have c1 := R2.cell 1 _ rfl
      have c2 := R2.cell 2 _ rfl
      have c3 := R2.cell 3 _ rfl
      have c4 := R2.cell 4 _ rfl
      have HR2 := Lib.hid R2
      have G2 := Lib.hid (gr_then HGZ.out g2)
      clear R2 g2
      go_wp2
      exact bodyPost_ret (v := vS none5) (results_shape (a := none5) rfl rfl (HR2.out.five (v0 := .int .i64 1) (v1 := .int .i64 0) (v2 := .int .i64 0) (v3 := .string ⟨#[]⟩) (v4 := .string ⟨#[]⟩))) rfl ⟨rfl, gr_five G2.out (by omega)⟩
  · have hK : K = canonD ⟨L, M, C, B, E⟩ := HY.out rfl rfl
    rw [← hK] at HK
    clear hK
    obtain ⟨kl, km, kc, kb, ke⟩ := K
    go_wp2_with fail
    rw [HWZ.out]
    refine (HK.out wz).mono ?_
    rintro e1 w2 ⟨rfl, g2⟩
    have R2 := HRZ.out.kept g2
    have f0 := R2.fr 0
    have f1 := R2.fr 1
    have f2 := R2.fr 2
    have f3 := R2.fr 3
    have f4 := R2.fr 4
    have c0 := R2.cell 0 _ rfl
    have c1 := R2.cell 1 _ rfl
    have c2 := R2.cell 2 _ rfl
    have c3 := R2.cell 3 _ rfl
    have c4 := R2.cell 4 _ rfl
    have HR2 := Lib.hid R2
    have G2 := Lib.hid (gr_then HGZ.out g2)
    clear R2 g2
    go_wp2
    exact bodyPost_ret (v := vS ⟨kl, km, kc, kb, ke⟩) (results_shape (a := ⟨kl, km, kc, kb, ke⟩) rfl rfl HR2.out.five) rfl ⟨rfl, gr_five G2.out (by omega)⟩
end Go.Proofs.YtaejnklgnegkhaaDoor
