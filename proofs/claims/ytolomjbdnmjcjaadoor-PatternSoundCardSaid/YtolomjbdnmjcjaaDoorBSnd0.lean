/- The law of the claim at the level of the call, and its row: Ne, SoundL, SoundLRow. -/
import Derived.Test.YtolomjbdnmjcjaaDoorBSmp0
namespace Go.Proofs.YtolomjbdnmjcjaaDoor
open Go.RowKit Pt

/-- What Covers shows is so. -/
theorem sound_plain {ps qs : List Pc} {s : List UInt8} (hc : coversL ps qs = true) (hm : matchL qs s = true) : matchL ps s = true := by
  unfold coversL at hc
  unfold matchL at hm ⊢
  rw [Bool.and_eq_true, Bool.and_eq_true, Bool.or_eq_true] at hc
  rw [Bool.and_eq_true, Bool.and_eq_true] at hm
  obtain ⟨hp, hq, hd⟩ := hc
  obtain ⟨⟨_, ht⟩, hr⟩ := hm
  have hl : s.length ≤ 200 := by
    unfold isTextD at ht
    rw [Bool.and_eq_true, decide_eq_true_eq] at ht
    exact ht.1
  rw [hp, ht]
  show rch ps s 0 s.length = true
  rcases hd with h | h
  · unfold eachD at h
    rw [Bool.and_eq_true, decide_eq_true_eq, List.all_eq_true] at h
    refine rch_each h.1 (fun n h1 h2 => ?_) hr
    rw [← covAt_some h1 h2]
    exact h.2 n (List.mem_range.2 h1)
  · match ps, h with
    | [p], h =>
      change allCov p qs = true at h
      unfold allCov at h
      rw [Bool.and_eq_true, Bool.and_eq_true, Bool.and_eq_true, decide_eq_true_eq, decide_eq_true_eq, decide_eq_true_eq, List.all_eq_true] at h
      exact rch_all h.1 h.2.1 h.2.2.1 h.2.2.2 hl hr
theorem cov_refl (p : Pc) : covD p.k p.a p.b p.t p.k p.a p.b p.t = true := by
  unfold covD staysD lenD contD
  by_cases h : p.k = 0
  · rw [if_pos h, decide_eq_true h]; simp
  · simp [h]
/-- A piece whose counts are wider by n. -/
def widen (n : Int) (p : Pc) : Pc := if p.k = 0 then p else ⟨if 0 < n then 7 else p.k, max (p.a - n) 0, min (p.b + n) 200, p.t⟩
theorem cov_widen {p : Pc} {n : Int} (hn : 0 ≤ n) (ha : 0 ≤ p.a) (hb : p.b ≤ 200) : covD (widen n p).k (widen n p).a (widen n p).b (widen n p).t p.k p.a p.b p.t = true := by
  unfold widen
  by_cases h : p.k = 0
  · rw [if_pos h]; exact cov_refl p
  · rw [if_neg h]
    by_cases h0 : 0 < n
    · rw [if_pos h0]
      unfold covD staysD lenD contD
      simp [h]
      omega
    · rw [if_neg h0]
      unfold covD staysD lenD contD
      simp [h]
      omega
/-- Each piece is a wider one. -/
def Wider : List Pc → List Pc → Prop
  | [], [] => True
  | p :: ps, q :: qs => (∃ n : Int, 0 ≤ n ∧ n ≤ 2 ∧ p = widen n q) ∧ Wider ps qs
  | _, _ => False
theorem Wider.len : ∀ {ps qs : List Pc}, Wider ps qs → ps.length = qs.length
  | [], [], _ => rfl
  | p :: ps, q :: qs, h => by rw [List.length_cons, List.length_cons, Wider.len h.2]
theorem Wider.each : ∀ {ps qs : List Pc}, Wider ps qs → (∀ q ∈ qs, 0 ≤ q.a ∧ q.b ≤ 200) → ∀ n (h1 : n < ps.length) (h2 : n < qs.length), covD ps[n].k ps[n].a ps[n].b ps[n].t qs[n].k qs[n].a qs[n].b qs[n].t = true
  | p :: ps, q :: qs, h, hq, 0, _, _ => by
    obtain ⟨⟨n, h0, _, rfl⟩, _⟩ := h
    exact cov_widen h0 (hq q (by simp)).1 (hq q (by simp)).2
  | p :: ps, q :: qs, h, hq, n + 1, h1, h2 => Wider.each h.2 (fun q hq' => hq q (by simp [hq'])) n (by simpa using h1) (by simpa using h2)
theorem Wider.snoc : ∀ {ps qs : List Pc} {q : Pc} {n : Int}, Wider ps qs → 0 ≤ n → n ≤ 2 → Wider (ps ++ [widen n q]) (qs ++ [q])
  | [], [], _, n, _, h0, h1 => ⟨⟨n, h0, h1, rfl⟩, trivial⟩
  | _ :: _, _ :: _, _, _, h, h0, h1 => ⟨h.1, Wider.snoc h.2 h0 h1⟩
theorem covers_wider {ps qs : List Pc} (h : Wider ps qs) (hq : ∀ q ∈ qs, 0 ≤ q.a ∧ q.b ≤ 200) (hp : rightL ps = true) (hr : rightL qs = true) : coversL ps qs = true := by
  have he : eachD ps qs = true := each_yes h.len (fun i hi => by rw [covAt_some hi (by rw [← h.len]; exact hi)]; exact h.each hq i hi _)
  unfold coversL
  rw [hp, hr, he]; rfl
theorem Wider.text : ∀ {ps qs : List Pc}, Wider ps qs → (∀ q ∈ qs, q.t.size ≤ 1000) → ∀ p ∈ ps, p.t.size ≤ 1000
  | [], [], _, _, p, hp => by simp at hp
  | p :: ps, q :: qs, h, hq, x, hx => by
    rcases List.mem_cons.1 hx with rfl | hx
    · obtain ⟨⟨n, _, _, rfl⟩, _⟩ := h
      have : (widen n q).t = q.t := by unfold widen; split <;> rfl
      rw [this]; exact hq q (by simp)
    · exact Wider.text h.2 (fun q hq' => hq q (by simp [hq'])) x hx
/-- Pieces of a slice that the call owns. -/
theorem pcC_set : ∀ (l : List Pc) (i : Nat) (h : i < l.length) (p' : Pc),
    (p' = ⟨p'.k, l[i].a, l[i].b, l[i].t⟩ → pcC (l.set i p') = (pcC l).set (i * 4) (.int .i64 p'.k)) ∧
    (p' = ⟨l[i].k, p'.a, l[i].b, l[i].t⟩ → pcC (l.set i p') = (pcC l).set (i * 4 + 1) (.int .i64 p'.a)) ∧
    (p' = ⟨l[i].k, l[i].a, p'.b, l[i].t⟩ → pcC (l.set i p') = (pcC l).set (i * 4 + 2) (.int .i64 p'.b))
  | p :: l, 0, h, p' => by
    refine ⟨fun e => ?_, fun e => ?_, fun e => ?_⟩
    all_goals
      rw [e]
      rfl
  | p :: l, i + 1, h, p' => by
    have ih := pcC_set l i (by simpa using h) p'
    have e : ∀ l : List Pc, pcC (p :: l) = [Value.int .i64 p.k, .int .i64 p.a, .int .i64 p.b, .string p.t] ++ pcC l := fun _ => rfl
    refine ⟨fun h1 => ?_, fun h1 => ?_, fun h1 => ?_⟩
    · rw [List.set_cons_succ, e, e, ih.1 h1, List.set_append_right _ _ (by simp; omega)]
      congr 2
      simp; omega
    · rw [List.set_cons_succ, e, e, ih.2.1 h1, List.set_append_right _ _ (by simp; omega)]
      congr 2
      simp; omega
    · rw [List.set_cons_succ, e, e, ih.2.2 h1, List.set_append_right _ _ (by simp; omega)]
      congr 2
      simp; omega
/-- A piece of a slice that the call owns, and what stores into it make. -/
theorem PF.piece {w : World} {base : Nat} {v : Value} {l : List Pc} (h : PF w base v l) {i : Nat} (hi : i < l.length) : ∃ g cap, v = .slice (some ⟨g, 0, none⟩) l.length cap ∧ base ≤ g ∧ g < w.heap.size ∧
    (w.cell? ⟨g, i * 4, none⟩ = some (.int .i64 l[i].k) ∧ w.cell? ⟨g, i * 4 + 1, none⟩ = some (.int .i64 l[i].a) ∧ w.cell? ⟨g, i * 4 + 2, none⟩ = some (.int .i64 l[i].b)) ∧
    (∀ j, w.frozen? ⟨g, j, none⟩ = false) ∧
    (∀ k, PF (w.setCell ⟨g, i * 4, none⟩ (.int .i64 k)) base v (l.set i ⟨k, l[i].a, l[i].b, l[i].t⟩)) ∧
    (∀ a, PF (w.setCell ⟨g, i * 4 + 1, none⟩ (.int .i64 a)) base v (l.set i ⟨l[i].k, a, l[i].b, l[i].t⟩)) ∧
    (∀ b, PF (w.setCell ⟨g, i * 4 + 2, none⟩ (.int .i64 b)) base v (l.set i ⟨l[i].k, l[i].a, b, l[i].t⟩)) := by
  obtain ⟨hl, ⟨rfl, h0⟩ | ⟨g, cap, cur, rfl, hb, hg, hle, hm, hs, hx⟩⟩ := h
  · rw [h0] at hi; exact absurd hi (Nat.not_lt_zero _)
  · have hget : ∀ j v, j < l.length * 4 → (pcC l)[j]? = some v → w.cell? ⟨g, j, none⟩ = some v := fun j v hj hv => by
      rw [cell_of_row w g j _ _ (0, 0) hg]
      rw [← hx, List.getElem?_take_of_lt hj, Array.getElem?_toList] at hv
      exact hv
    obtain ⟨a0, a1, a2, _⟩ := pcC_get l i hi
    have hgl : g < w.heap.size := (Array.getElem?_eq_some_iff.1 hg).1
    have hst : ∀ (j : Nat) (u : Value) (l' : List Pc), l'.length = l.length → pcC l' = (pcC l).set j u → PF (w.setCell ⟨g, j, none⟩ u) base (.slice (some ⟨g, 0, none⟩) l.length cap) l' := by
      intro j u l' hl' hp
      refine ⟨pcC_len _, .inr ⟨g, cap, cur.setIfInBounds j u, by rw [hl'], hb, ?_, by rw [hl']; simpa using hle, hm, by simpa using hs, ?_⟩⟩
      · rw [setCell_eq_setRow w g _ _ _ (0, 0) _ hg, setRow_heap w g _ _ _ (0, 0) hg]
      · rw [hl', Array.toList_setIfInBounds, List.take_set, hx, hp]
    refine ⟨g, cap, rfl, hb, hgl, ⟨hget _ _ (by omega) a0, hget _ _ (by omega) a1, hget _ _ (by omega) a2⟩, fun j => by simp [World.frozen?, hg], fun k => ?_, fun a => ?_, fun b => ?_⟩
    · exact hst _ _ _ (by simp) ((pcC_set l i hi ⟨k, l[i].a, l[i].b, l[i].t⟩).1 rfl)
    · exact hst _ _ _ (by simp) ((pcC_set l i hi ⟨l[i].k, a, l[i].b, l[i].t⟩).2.1 rfl)
    · exact hst _ _ _ (by simp) ((pcC_set l i hi ⟨l[i].k, l[i].a, b, l[i].t⟩).2.2 rfl)
/-- append of pieces to an empty slice. -/
theorem app_ps (w0 wr : World) (v : Value) (qs : List Pc) (hf : PF wr w0.heap.size v []) (g o c : Nat) (hq : PcsAt wr g o qs) (hn : qs.length ≤ 90000) (hg : w0.grownBy wr none) :
    ∃ v' w', (Builtin.append_ #[23, 23] 23 #[v, .slice (some ⟨g, o, none⟩) qs.length c]).run Tryd.prog wr = .ok v' w' ∧ PF w' w0.heap.size v' qs ∧ w0.grownBy w' none := by
  obtain ⟨i0, hi, hz0, hz1, hz2⟩ := info_parts infoP
  obtain ⟨v', w', h1, h2, h3, _⟩ := run_append_own_at (P := Tryd.prog) wr w0.heap.size 23 23 31 i0 (.agg #[.int .i64 0, .int .i64 0, .int .i64 0, .string ⟨#[]⟩]) 4 40 Tryd.underlying23 hi hz0 hz1 hz2 rfl (by decide) v 0 (pcC []) hf ⟨g, o, none⟩ qs.length c (pcC qs) (pcC_len qs) (fun j u hj => by
    have hjl : j < qs.length * 4 := by
      rw [← pcC_len qs]
      rcases Nat.lt_or_ge j (pcC qs).length with h | h
      · exact h
      · rw [List.getElem?_eq_none h] at hj; cases hj
    have hi4 : j / 4 < qs.length := by omega
    obtain ⟨b0, b1, b2, b3⟩ := pcC_get qs (j / 4) hi4
    obtain ⟨c0, c1, c2, c3⟩ := hq (j / 4) hi4
    rw [addr_add]
    have hm : j % 4 = 0 ∨ j % 4 = 1 ∨ j % 4 = 2 ∨ j % 4 = 3 := by omega
    rcases hm with h | h | h | h
    · rw [show j = j / 4 * 4 from by omega] at hj
      rw [show o + j = o + j / 4 * 4 from by omega, c0, ← b0, hj]
    · rw [show j = j / 4 * 4 + 1 from by omega] at hj
      rw [show o + j = o + j / 4 * 4 + 1 from by omega, c1, ← b1, hj]
    · rw [show j = j / 4 * 4 + 2 from by omega] at hj
      rw [show o + j = o + j / 4 * 4 + 2 from by omega, c2, ← b2, hj]
    · rw [show j = j / 4 * 4 + 3 from by omega] at hj
      rw [show o + j = o + j / 4 * 4 + 3 from by omega, c3, ← b3, hj]) (by
    intro u hu
    unfold pcC at hu
    rw [List.mem_flatMap] at hu
    obtain ⟨p, _, hp⟩ := hu
    have : u = .int .i64 p.k ∨ u = .int .i64 p.a ∨ u = .int .i64 p.b ∨ u = .string p.t := by simpa using hp
    rcases this with rfl | rfl | rfl | rfl <;> rfl) (by unfold maxLen; omega) (by omega) hg.size
  refine ⟨v', w', h1, ?_, gr_trans hg h3 (.inl rfl) (.inr (.inr (own_base hf)))⟩
  unfold PF
  simpa [pcC] using h2
/-- The three stores into a piece. -/
theorem PF.three {w : World} {base : Nat} {v : Value} {ls rs : List Pc} {p : Pc} (h : PF w base v (ls ++ p :: rs)) (a' b' : Int) : ∃ g cap, v = .slice (some ⟨g, 0, none⟩) (ls ++ p :: rs).length cap ∧ base ≤ g ∧ g < w.heap.size ∧
    (w.cell? ⟨g, ls.length * 4, none⟩ = some (.int .i64 p.k) ∧ w.cell? ⟨g, ls.length * 4 + 1, none⟩ = some (.int .i64 p.a)) ∧
    w.frozen? ⟨g, ls.length * 4 + 1, none⟩ = false ∧
    (∀ w1, w.setCell ⟨g, ls.length * 4 + 1, none⟩ (.int .i64 a') = w1 → w1.cell? ⟨g, ls.length * 4 + 2, none⟩ = some (.int .i64 p.b) ∧ w1.frozen? ⟨g, ls.length * 4 + 2, none⟩ = false ∧
      ∀ w2, w1.setCell ⟨g, ls.length * 4 + 2, none⟩ (.int .i64 b') = w2 → w2.frozen? ⟨g, ls.length * 4, none⟩ = false ∧ PF w2 base v (ls ++ ⟨p.k, a', b', p.t⟩ :: rs) ∧ PF (w2.setCell ⟨g, ls.length * 4, none⟩ (.int .i64 7)) base v (ls ++ ⟨7, a', b', p.t⟩ :: rs)) := by
  have hset : ∀ (x y : Pc), (ls ++ x :: rs).set ls.length y = ls ++ y :: rs := fun x y => by rw [List.set_append_right _ _ (Nat.le_refl _), Nat.sub_self, List.set_cons_zero]
  have hget : ∀ (x : Pc) (hx : ls.length < (ls ++ x :: rs).length), (ls ++ x :: rs)[ls.length] = x := fun x hx => by simp
  have hlt : ∀ x : Pc, ls.length < (ls ++ x :: rs).length := fun x => by simp
  have hlen : ∀ x y : Pc, (ls ++ x :: rs).length = (ls ++ y :: rs).length := fun x y => by simp
  obtain ⟨g, cap, hv, hb, hg, ⟨c0, c1, c2⟩, hf, s0, s1, s2⟩ := h.piece (hlt p)
  rw [hget p] at c0 c1
  simp only [hget, hset] at s1
  refine ⟨g, cap, hv, hb, hg, ⟨c0, c1⟩, hf _, fun w1 e1 => ?_⟩
  have h1 := s1 a'
  rw [e1] at h1
  obtain ⟨g1, cap1, hv1, _, _, ⟨_, _, d2⟩, hf1, _, _, t2⟩ := h1.piece (hlt _)
  have eg : g1 = g := by rw [hv] at hv1; simp at hv1; exact hv1.1.symm
  subst eg
  simp only [hget, hset] at d2 t2
  refine ⟨d2, hf1 _, fun w2 e2 => ?_⟩
  have h2 := t2 b'
  rw [e2] at h2
  obtain ⟨g2, cap2, hv2, _, _, _, hf2, u0, _, _⟩ := h2.piece (hlt _)
  have eg : g2 = g1 := by rw [hv] at hv2; simp at hv2; exact hv2.1.symm
  subst eg
  simp only [hget, hset] at u0
  exact ⟨hf2 _, h2, u0 7⟩
end Go.Proofs.YtolomjbdnmjcjaaDoor
namespace Go.Proofs.YtolomjbdnmjcjaaDoor
open Go.RowKit Pt

set_option maxRecDepth 100000 in
set_option maxHeartbeats 4000000 in
theorem sound_true (l0 l1 t wide : Value) (w : World) (ht : TabP w) (hl : IntsA w l0) (hl' : IntsA w l1) (hlt : IntsA w t) (hw : BytesA w wide) : Calls Tryd.prog 9 #[.agg #[l0, l1], t, wide] w fun e w' => e = .returned (.bool true) ∧ w.grownBy w' none := by
  obtain ⟨wb, hwb⟩ : ∃ wb, w.alloc (.cells #[l0, l1] 36) = wb := ⟨_, rfl⟩
  have gb : w.grownBy wb none := by rw [← hwb]; exact gr_alloc _ _ _
  have RB := Row.new w [l0, l1] 36
  simp only [List.toArray] at RB
  rw [hwb] at RB
  have HRB := Lib.hid RB
  have GB := Lib.hid gb
  have HS := Lib.hid (sanity_any wb (tabis_grown ht gb))
  have HT := Lib.hid ht
  have HM := Lib.hid (fun (w1 : World) (g : w.grownBy w1 none) => made_any w1 l0 (hl.kept g))
  have HM' := Lib.hid (fun (w1 : World) (g : w.grownBy w1 none) => made_any w1 l1 (hl'.kept g))
  have HL2 := Lib.hid (fun (w1 : World) (g : w.grownBy w1 none) => hlt.kept g)
  obtain ⟨wa, wn, wc, rfl, hwf⟩ := hw
  have HWF := Lib.hid hwf
  have HWB := Lib.hid hwb
  clear ht hl hl' hlt hwf gb RB hwb
  go_enter Tryd.func9, Tryd.ntmps9
  go_wp2_with fail
  rw [HWB.out]
  refine HS.out.mono ?_
  rintro e w1 ⟨rfl, g1⟩
  have R1 := HRB.out.kept g1
  have b0 := R1.cell 0 _ rfl
  have HR1 := Lib.hid R1
  have G1 := Lib.hid (gr_then GB.out g1)
  clear g1 HS R1
  go_wp2_with fail
  refine (HM.out w1 G1.out).mono ?_
  rintro e w2 ⟨u, ps, rfl, hu, hlen, hgood, g2⟩
  have R2 := HR1.out.kept g2
  clear b0
  have b1 := R2.cell 1 _ rfl
  have G2 := Lib.hid (gr_then G1.out g2)
  have HU := Lib.hid (fun (w3 : World) (g : w2.grownBy w3 none) => hu.kept g)
  have hsz : ∀ p ∈ ps, p.t.size ≤ 1000 := fun p hp => by have := (hgood p hp).t; omega
  have HSZ := Lib.hid (And.intro (show ps.length ≤ 1000000 by omega) hsz)
  clear g2 G1 hu hgood hlen hsz HM R2
  go_wp2_with fail
  refine (HM'.out w2 G2.out).mono ?_
  rintro e w4 ⟨v, qs, rfl, hv, hlen, hgood, g4⟩
  have G24 := Lib.hid g4
  have G4 := Lib.hid (gr_then G2.out g4)
  have HV := Lib.hid (fun (w3 : World) (g : w4.grownBy w3 none) => hv.kept g)
  have hsz : ∀ p ∈ qs, p.t.size ≤ 1000 := fun p hp => by have := (hgood p hp).t; omega
  have hab : ∀ q ∈ qs, 0 ≤ q.a ∧ q.b ≤ 200 := fun q hq => ⟨(hgood q hq).a.1, (hgood q hq).b.2⟩
  have HSV := Lib.hid (And.intro (show qs.length ≤ 1000000 by omega) hsz)
  have HSA := Lib.hid (rsample_any w4 v t qs hv (HL2.out w4 G4.out) hlen hgood)
  have HGQ := Lib.hid hgood
  have HAB := Lib.hid hab
  have HQ5 := Lib.hid hlen
  clear g4 hv hgood hlen hsz HM' b1 hab
  go_wp2_with fail
  refine HSA.out.mono ?_
  rintro e w5 ⟨s, rfl, _, hs, g5⟩
  have G45 := Lib.hid g5
  have G5 := Lib.hid (gr_then G4.out g5)
  clear g5 HSA
  have HSO := Lib.hid (fun (h1 : coversL ps qs = true) (h2 : matchL qs s.data.toList = true) => sound_plain h1 h2)
  have A1 := Lib.hid (fun (w0 : World) (g : w5.grownBy w0 none) => pcovers_any w0 u v ps qs (tabis_grown HT.out (gr_then G5.out g)) (HU.out w0 (gr_then G24.out (gr_then G45.out g))) (HV.out w0 (gr_then G45.out g)) HSZ.out.1 HSV.out.1 HSZ.out.2 HSV.out.2)
  have A2 := Lib.hid (fun (w0 : World) (g : w5.grownBy w0 none) => pmatches_any v qs s w0 (tabis_grown HT.out (gr_then G5.out g)) (HV.out w0 (gr_then G45.out g)) HSV.out.1 (by omega) HSV.out.2)
  have A3 := Lib.hid (fun (w0 : World) (g : w5.grownBy w0 none) => pmatches_any u ps s w0 (tabis_grown HT.out (gr_then G5.out g)) (HU.out w0 (gr_then G24.out (gr_then G45.out g))) HSZ.out.1 (by omega) HSZ.out.2)
  have HMQ := Lib.hid (fun (z : List Pc) (hz : coversL z qs = true) (h2 : matchL qs s.data.toList = true) => sound_plain hz h2)
  obtain ⟨va, vc, rfl, hvf⟩ := pcs_cells (HV.out w4 (gr_rfl w4))
  have HVF := Lib.hid hvf
  generalize hc1 : coversL ps qs = c1 at *
  generalize hm2 : matchL ps s.data.toList = m2 at *
  generalize hm1 : matchL qs s.data.toList = m1 at *
  obtain ⟨n, hn⟩ : ∃ n, qs.length = n := ⟨_, rfl⟩
  have HN := Lib.hid hn
  rw [hn] at HV A1 A2 HVF ⊢
  clear hc1 hm2 hm1 hvf hn
  go_wp2_with fail
  refine (A1.out w5 (gr_rfl w5)).mono ?_
  rintro e w6 ⟨rfl, g6⟩
  have G6 := Lib.hid g6
  clear g6
  by_cases hn0 : n = 0
  · subst hn0
    have hq0 : qs = [] := List.eq_nil_of_length_eq_zero HN.out
    have hcase : (c1 = false) ∨ (c1 = true ∧ m1 = false) ∨ (c1 = true ∧ m1 = true) := by cases c1 <;> cases m1 <;> simp
    have hP := HV.out w4 (gr_rfl w4)
    rcases hP with ⟨hv0, _⟩ | ⟨g, o, cc, hv0, hb, _⟩
    · obtain ⟨rfl, rfl⟩ : va = none ∧ vc = 0 := by simpa using hv0
      clear hv0
      rcases hcase with rfl | ⟨rfl, rfl⟩ | ⟨rfl, rfl⟩
      · have GW := Lib.hid G6.out
        obtain ⟨wd, hwd⟩ : ∃ wd, w6.alloc (.cells #[] 31) = wd := ⟨_, rfl⟩
        have gd : w5.grownBy wd none := by rw [← hwd]; exact gr_al GW.out
        have hlt : w6.heap.size < wd.heap.size := by rw [← hwd]; simp
        have HWD := Lib.hid hwd
        have HGD := Lib.hid gd
        have HLT := Lib.hid hlt
        have T1 := Lib.hid (pprint_any wd (.slice (some ⟨w6.heap.size, 0, none⟩) 0 0) [] (tabis_grown HT.out (gr_then G5.out gd)) (.inr ⟨w6.heap.size, 0, 0, rfl, hlt, fun i hi => by simp at hi⟩) (by simp) (by simp))
        rw [show printL [] = [] from rfl] at T1
        clear hwd gd hlt
        go_wp2_with fail
        rw [HWD.out]
        go_loopw [12] (fun i wr => i = .int .i64 0 ∧ wd = wr) (fun _ _ => 0)
        case atStart => exact ⟨rfl, rfl⟩
        case round =>
          obtain ⟨rfl, rfl⟩ := hrel
          go_wp2_with fail
          refine T1.out.mono ?_
          rintro e w11 ⟨rfl, g11⟩
          go_wp2
          go_ret
          exact ⟨rfl, gr_then G5.out (gr_then HGD.out g11)⟩
      · go_wp2_with fail
        refine (A2.out w6 G6.out).mono ?_
        rintro e wq ⟨rfl, gq⟩
        have GW := Lib.hid (gr_then G6.out gq)
        clear gq
        obtain ⟨wd, hwd⟩ : ∃ wd, wq.alloc (.cells #[] 31) = wd := ⟨_, rfl⟩
        have gd : w5.grownBy wd none := by rw [← hwd]; exact gr_al GW.out
        have hlt : wq.heap.size < wd.heap.size := by rw [← hwd]; simp
        have HWD := Lib.hid hwd
        have HGD := Lib.hid gd
        have HLT := Lib.hid hlt
        have T1 := Lib.hid (pprint_any wd (.slice (some ⟨wq.heap.size, 0, none⟩) 0 0) [] (tabis_grown HT.out (gr_then G5.out gd)) (.inr ⟨wq.heap.size, 0, 0, rfl, hlt, fun i hi => by simp at hi⟩) (by simp) (by simp))
        rw [show printL [] = [] from rfl] at T1
        clear hwd gd hlt
        go_wp2_with fail
        rw [HWD.out]
        go_loopw [12] (fun i wr => i = .int .i64 0 ∧ wd = wr) (fun _ _ => 0)
        case atStart => exact ⟨rfl, rfl⟩
        case round =>
          obtain ⟨rfl, rfl⟩ := hrel
          go_wp2_with fail
          refine T1.out.mono ?_
          rintro e w11 ⟨rfl, g11⟩
          go_wp2
          go_ret
          exact ⟨rfl, gr_then G5.out (gr_then HGD.out g11)⟩
      · obtain rfl : m2 = true := HSO.out (by first | rfl | trivial) (by first | rfl | trivial)
        go_wp2_with fail
        refine (A2.out w6 G6.out).mono ?_
        rintro e wp ⟨rfl, gp⟩
        have GP := Lib.hid (gr_then G6.out gp)
        clear gp
        go_wp2_with fail
        refine (A3.out wp GP.out).mono ?_
        rintro e wq ⟨rfl, gq⟩
        have GW := Lib.hid (gr_then GP.out gq)
        clear gq
        obtain ⟨wd, hwd⟩ : ∃ wd, wq.alloc (.cells #[] 31) = wd := ⟨_, rfl⟩
        have gd : w5.grownBy wd none := by rw [← hwd]; exact gr_al GW.out
        have hlt : wq.heap.size < wd.heap.size := by rw [← hwd]; simp
        have HWD := Lib.hid hwd
        have HGD := Lib.hid gd
        have HLT := Lib.hid hlt
        have T1 := Lib.hid (pprint_any wd (.slice (some ⟨wq.heap.size, 0, none⟩) 0 0) [] (tabis_grown HT.out (gr_then G5.out gd)) (.inr ⟨wq.heap.size, 0, 0, rfl, hlt, fun i hi => by simp at hi⟩) (by simp) (by simp))
        rw [show printL [] = [] from rfl] at T1
        clear hwd gd hlt
        go_wp2_with fail
        rw [HWD.out]
        go_loopw [12] (fun i wr => i = .int .i64 0 ∧ wd = wr) (fun _ _ => 0)
        case atStart => exact ⟨rfl, rfl⟩
        case round =>
          obtain ⟨rfl, rfl⟩ := hrel
          go_wp2_with fail
          refine T1.out.mono ?_
          rintro e w11 ⟨rfl, g11⟩
          go_wp2
          go_ret
          exact ⟨rfl, gr_then G5.out (gr_then HGD.out g11)⟩
    · obtain ⟨rfl, h00, rfl⟩ : va = some ⟨g, o, none⟩ ∧ 0 = qs.length ∧ vc = cc := by simpa using hv0
      clear hv0 h00
      rcases hcase with rfl | ⟨rfl, rfl⟩ | ⟨rfl, rfl⟩
      · have GW := Lib.hid G6.out
        obtain ⟨wd, hwd⟩ : ∃ wd, w6.alloc (.cells #[] 31) = wd := ⟨_, rfl⟩
        have gd : w5.grownBy wd none := by rw [← hwd]; exact gr_al GW.out
        have hf0 : PF wd w5.heap.size (.slice (some ⟨w6.heap.size, 0, none⟩) 0 0) [] := by
          rw [← hwd]
          exact ⟨rfl, .inr ⟨w6.heap.size, 0, #[], rfl, GW.out.size, heap_alloc_new w6 _, Nat.le_refl _, by decide, rfl, rfl⟩⟩
        obtain ⟨V, we, r5, f5, ge⟩ := app_ps w5 wd (.slice (some ⟨w6.heap.size, 0, none⟩) 0 0) [] hf0 g o vc (fun i hi => by simp at hi) (by simp) gd
        obtain ⟨Va, Vc, rfl⟩ := pcs_shape f5.pcs
        simp only [List.length_nil] at r5 f5
        have HWD := Lib.hid hwd
        have HGD := Lib.hid ge
        have T1 := Lib.hid (pprint_any we (.slice Va 0 Vc) [] (tabis_grown HT.out (gr_then G5.out ge)) f5.pcs (by simp) (by simp))
        rw [show printL [] = [] from rfl] at T1
        clear hwd gd hf0 f5 ge
        go_wp2_with (at_builtin; rw [HWD.out]; refine wpList_call_append rfl (.tmp 38) (.tmp 39) 23 rfl _ _ rfl rfl _ _ r5 ?_)
        clear r5
        go_loopw [12] (fun i wr => i = .int .i64 0 ∧ we = wr) (fun _ _ => 0)
        case atStart => exact ⟨rfl, rfl⟩
        case round =>
          obtain ⟨rfl, rfl⟩ := hrel
          go_wp2_with fail
          refine T1.out.mono ?_
          rintro e w11 ⟨rfl, g11⟩
          go_wp2
          go_ret
          exact ⟨rfl, gr_then G5.out (gr_then HGD.out g11)⟩
      · go_wp2_with fail
        refine (A2.out w6 G6.out).mono ?_
        rintro e wq ⟨rfl, gq⟩
        have GW := Lib.hid (gr_then G6.out gq)
        clear gq
        obtain ⟨wd, hwd⟩ : ∃ wd, wq.alloc (.cells #[] 31) = wd := ⟨_, rfl⟩
        have gd : w5.grownBy wd none := by rw [← hwd]; exact gr_al GW.out
        have hf0 : PF wd w5.heap.size (.slice (some ⟨wq.heap.size, 0, none⟩) 0 0) [] := by
          rw [← hwd]
          exact ⟨rfl, .inr ⟨wq.heap.size, 0, #[], rfl, GW.out.size, heap_alloc_new wq _, Nat.le_refl _, by decide, rfl, rfl⟩⟩
        obtain ⟨V, we, r5, f5, ge⟩ := app_ps w5 wd (.slice (some ⟨wq.heap.size, 0, none⟩) 0 0) [] hf0 g o vc (fun i hi => by simp at hi) (by simp) gd
        obtain ⟨Va, Vc, rfl⟩ := pcs_shape f5.pcs
        simp only [List.length_nil] at r5 f5
        have HWD := Lib.hid hwd
        have HGD := Lib.hid ge
        have T1 := Lib.hid (pprint_any we (.slice Va 0 Vc) [] (tabis_grown HT.out (gr_then G5.out ge)) f5.pcs (by simp) (by simp))
        rw [show printL [] = [] from rfl] at T1
        clear hwd gd hf0 f5 ge
        go_wp2_with (at_builtin; rw [HWD.out]; refine wpList_call_append rfl (.tmp 38) (.tmp 39) 23 rfl _ _ rfl rfl _ _ r5 ?_)
        clear r5
        go_loopw [12] (fun i wr => i = .int .i64 0 ∧ we = wr) (fun _ _ => 0)
        case atStart => exact ⟨rfl, rfl⟩
        case round =>
          obtain ⟨rfl, rfl⟩ := hrel
          go_wp2_with fail
          refine T1.out.mono ?_
          rintro e w11 ⟨rfl, g11⟩
          go_wp2
          go_ret
          exact ⟨rfl, gr_then G5.out (gr_then HGD.out g11)⟩
      · obtain rfl : m2 = true := HSO.out (by first | rfl | trivial) (by first | rfl | trivial)
        go_wp2_with fail
        refine (A2.out w6 G6.out).mono ?_
        rintro e wp ⟨rfl, gp⟩
        have GP := Lib.hid (gr_then G6.out gp)
        clear gp
        go_wp2_with fail
        refine (A3.out wp GP.out).mono ?_
        rintro e wq ⟨rfl, gq⟩
        have GW := Lib.hid (gr_then GP.out gq)
        clear gq
        obtain ⟨wd, hwd⟩ : ∃ wd, wq.alloc (.cells #[] 31) = wd := ⟨_, rfl⟩
        have gd : w5.grownBy wd none := by rw [← hwd]; exact gr_al GW.out
        have hf0 : PF wd w5.heap.size (.slice (some ⟨wq.heap.size, 0, none⟩) 0 0) [] := by
          rw [← hwd]
          exact ⟨rfl, .inr ⟨wq.heap.size, 0, #[], rfl, GW.out.size, heap_alloc_new wq _, Nat.le_refl _, by decide, rfl, rfl⟩⟩
        obtain ⟨V, we, r5, f5, ge⟩ := app_ps w5 wd (.slice (some ⟨wq.heap.size, 0, none⟩) 0 0) [] hf0 g o vc (fun i hi => by simp at hi) (by simp) gd
        obtain ⟨Va, Vc, rfl⟩ := pcs_shape f5.pcs
        simp only [List.length_nil] at r5 f5
        have HWD := Lib.hid hwd
        have HGD := Lib.hid ge
        have T1 := Lib.hid (pprint_any we (.slice Va 0 Vc) [] (tabis_grown HT.out (gr_then G5.out ge)) f5.pcs (by simp) (by simp))
        rw [show printL [] = [] from rfl] at T1
        clear hwd gd hf0 f5 ge
        go_wp2_with (at_builtin; rw [HWD.out]; refine wpList_call_append rfl (.tmp 38) (.tmp 39) 23 rfl _ _ rfl rfl _ _ r5 ?_)
        clear r5
        go_loopw [12] (fun i wr => i = .int .i64 0 ∧ we = wr) (fun _ _ => 0)
        case atStart => exact ⟨rfl, rfl⟩
        case round =>
          obtain ⟨rfl, rfl⟩ := hrel
          go_wp2_with fail
          refine T1.out.mono ?_
          rintro e w11 ⟨rfl, g11⟩
          go_wp2
          go_ret
          exact ⟨rfl, gr_then G5.out (gr_then HGD.out g11)⟩
  · have hn1 : (0 : Int) < (n : Int) := by omega
    have hn5 : n ≤ 5 := by rw [← HN.out]; exact HQ5.out
    obtain ⟨g, o, rfl, hb, hqa⟩ := HVF.out.resolve_left hn0
    have HQA := Lib.hid (fun (w0 : World) (g0 : w4.grownBy w0 none) => hqa.kept hb g0)
    have hcase : (c1 = false) ∨ (c1 = true ∧ m1 = false) ∨ (c1 = true ∧ m1 = true) := by cases c1 <;> cases m1 <;> simp
    clear hqa hn0
    rcases hcase with rfl | ⟨rfl, rfl⟩ | ⟨rfl, rfl⟩
    · have GW := Lib.hid G6.out
      obtain ⟨wd, hwd⟩ : ∃ wd, w6.alloc (.cells #[] 31) = wd := ⟨_, rfl⟩
      have gd : w5.grownBy wd none := by rw [← hwd]; exact gr_al GW.out
      have hf0 : PF wd w5.heap.size (.slice (some ⟨w6.heap.size, 0, none⟩) 0 0) [] := by
        rw [← hwd]
        exact ⟨rfl, .inr ⟨w6.heap.size, 0, #[], rfl, GW.out.size, heap_alloc_new w6 _, Nat.le_refl _, by decide, rfl, rfl⟩⟩
      obtain ⟨V, we, r5, f5, ge⟩ := app_ps w5 wd (.slice (some ⟨w6.heap.size, 0, none⟩) 0 0) qs hf0 g o vc (HQA.out wd (gr_then G45.out gd)) (by have := HQ5.out; omega) gd
      rw [HN.out] at r5
      have HWD := Lib.hid hwd
      obtain ⟨G, cap, rfl, hbG, hGl, _⟩ := f5.piece (i := 0) (by rw [HN.out]; omega)
      rw [HN.out] at r5 f5
      have F5 := Lib.hid f5
      have GE := Lib.hid ge
      clear hwd gd hf0 f5 ge
      go_wp2_with (at_builtin; rw [HWD.out]; refine wpList_call_append rfl (.tmp 38) (.tmp 39) 23 rfl _ _ rfl rfl _ _ r5 ?_)
      clear r5
      go_loopw [12] (fun i wr => ∃ (x : Nat) (ls : List Pc), x ≤ n ∧ ls.length = x ∧ i = .int .i64 (x : Int) ∧ Hid (Wider ls (qs.take x)) ∧ Hid (PF wr w5.heap.size (.slice (some ⟨G, 0, none⟩) n cap) (ls ++ qs.drop x)) ∧ Hid (w5.grownBy wr none)) (fun i _ => n - (intOf i).toNat)
      case atStart => exact ⟨0, [], Nat.zero_le _, rfl, rfl, Lib.hid trivial, Lib.hid F5.out, GE⟩
      case round =>
        obtain ⟨x, ls, hx, hls, rfl, HWI, HPF, GR⟩ := hrel
        by_cases hlt : x < n
        · have hlti : (x : Int) < (n : Int) := by omega
          have hxq : x < qs.length := by rw [HN.out]; exact hlt
          have HDR := Lib.hid (List.drop_eq_getElem_cons hxq)
          have HTK := Lib.hid (List.take_append_getElem hxq)
          have hgq := HGQ.out _ (List.getElem_mem hxq)
          obtain ⟨q, hq⟩ : ∃ q, qs[x] = q := ⟨_, rfl⟩
          rw [hq] at HDR HTK hgq
          clear hq
          have hpf := HPF.out
          rw [HDR.out] at hpf
          have hqa := hgq.a
          have hqb := hgq.b
          have HP3 := Lib.hid (fun (a' b' : Int) => hpf.three a' b')
          obtain ⟨g1, cap1, hv1, hb1, hg1, ⟨c0, c1⟩, f1, _⟩ := HP3.out 0 0
          obtain rfl : G = g1 := by simp at hv1; exact hv1.1
          clear hv1 hpf hgq
          rw [hls] at c0 c1 f1
          have HLS := Lib.hid hls
          obtain ⟨qk, qa, qb, qt⟩ := q
          dsimp only at c0 c1 hqa hqb
          by_cases hk : qk = 0
          · have hkb : (qk == 0) = true := by rw [hk]; rfl
            have HW2 := Lib.hid (show Wider (ls ++ [⟨qk, qa, qb, qt⟩]) (qs.take (x + 1)) by
              rw [← HTK.out]
              have := Wider.snoc (q := ⟨qk, qa, qb, qt⟩) (n := 0) HWI.out (by decide) (by decide)
              rw [show widen 0 ⟨qk, qa, qb, qt⟩ = ⟨qk, qa, qb, qt⟩ from if_pos hk] at this
              exact this)
            have HP2 := Lib.hid (show PF wr w5.heap.size (.slice (some ⟨G, 0, none⟩) n cap) ((ls ++ [⟨qk, qa, qb, qt⟩]) ++ qs.drop (x + 1)) by
              have := HPF.out; rw [HDR.out] at this; rw [List.append_assoc]; exact this)
            clear hk
            go_wp2
            exact ⟨⟨x + 1, ls ++ [⟨qk, qa, qb, qt⟩], by omega, by rw [List.length_append, HLS.out]; rfl, rfl, HW2, HP2, GR⟩, by simp only [intOf]; omega⟩
          · have hkb : (qk == 0) = false := by rw [beq_eq_false_iff_ne]; exact hk
            have hw0 : ∃ N : Nat, N ≤ 2 ∧ ((wn = 0 ∧ N = 0) ∨ ∃ (g' o' : Nat) (F : Nat), wa = some ⟨g', o', none⟩ ∧ wn ≠ 0 ∧ F ≤ 255 ∧ F % 3 = N ∧ wr.cell? ⟨g', o' + x % wn, none⟩ = some (.int .u8 (F : Int))) := by
              rcases HWF.out with h | ⟨g', o', F, rfl, _, _, hF⟩
              · exact ⟨0, by omega, .inl ⟨h, rfl⟩⟩
              · by_cases h0 : wn = 0
                · exact ⟨0, by omega, .inl ⟨h0, rfl⟩⟩
                · have hF1 := hF (x % wn) (Nat.mod_lt _ (by omega))
                  exact ⟨F (x % wn) % 3, by omega, .inr ⟨g', o', F (x % wn), rfl, h0, hF1.2, rfl, (gr_then G5.out GR.out).cell hF1.1 (by simp)⟩⟩
            obtain ⟨N, hN2, hw0⟩ := hw0
            have HW2 := Lib.hid (show Wider (ls ++ [widen (N : Int) ⟨qk, qa, qb, qt⟩]) (qs.take (x + 1)) by
              rw [← HTK.out]
              exact Wider.snoc (q := ⟨qk, qa, qb, qt⟩) (n := (N : Int)) HWI.out (by omega) (by omega))
            have hwd2 : widen (N : Int) ⟨qk, qa, qb, qt⟩ = ⟨if 0 < (N : Int) then 7 else qk, max (qa - (N : Int)) 0, min (qb + (N : Int)) 200, qt⟩ := if_neg hk
            have HWD2 := Lib.hid hwd2
            obtain ⟨A, hA⟩ : ∃ A, max (qa - (N : Int)) 0 = A := ⟨_, rfl⟩
            obtain ⟨B, hB⟩ : ∃ B, min (qb + (N : Int)) 200 = B := ⟨_, rfl⟩
            rw [hA, hB] at HWD2
            clear hwd2
            obtain ⟨g3, cap3, hv3, _, _, _, _, HX⟩ := HP3.out A B
            obtain rfl : G = g3 := by simp at hv3; exact hv3.1
            clear hv3
            rw [hls] at HX
            obtain ⟨wy, hwy⟩ : ∃ wy, wr.setCell ⟨G, x * 4 + 1, none⟩ (.int .i64 A) = wy := ⟨_, rfl⟩
            obtain ⟨d2, f2, HX2⟩ := HX wy hwy
            obtain ⟨wz, hwz⟩ : ∃ wz, wy.setCell ⟨G, x * 4 + 2, none⟩ (.int .i64 B) = wz := ⟨_, rfl⟩
            obtain ⟨f0, hp7, hp8⟩ := HX2 wz hwz
            have GZ := Lib.hid (show w5.grownBy wz none by rw [← hwz]; exact gr_setn (by rw [← hwy]; exact gr_setn GR.out hbG) hbG)
            have HP7 := Lib.hid hp7
            have HP8 := Lib.hid hp8
            have HWY := Lib.hid hwy
            have HWZ := Lib.hid hwz
            clear HX HX2 hp7 hp8 hls hk
            have hsub : IntKind.i64.wrap (qa - (N : Int)) = qa - (N : Int) := IntWalk.i64_in _ (by omega)
            have hadd : IntKind.i64.wrap (qb + (N : Int)) = qb + (N : Int) := IntWalk.i64_in _ (by omega)
            rcases hw0 with ⟨h0, rfl⟩ | ⟨g', o', F, rfl, h0, hF, hFN, e0⟩
            · subst h0
              have hA0 : max qa 0 = A := by rw [← hA]; simp
              have hB0 : min qb 200 = B := by rw [← hB]; simp
              have HN0 := Lib.hid (show ¬ (0 : Int) < ((0 : Nat) : Int) by decide)
              clear hA hB
              go_wp2
              exact ⟨⟨x + 1, ls ++ [widen ((0 : Nat) : Int) ⟨qk, qa, qb, qt⟩], by omega, by rw [List.length_append, HLS.out]; rfl, rfl, HW2, Lib.hid (by rw [HWD2.out, if_neg HN0.out, List.append_assoc]; exact HP7.out), GZ⟩, by simp only [intOf]; omega⟩
            · have hw1 : (0 : Int) < (wn : Int) := by omega
              obtain ⟨r, hr⟩ : ∃ r, x % wn = r := ⟨_, rfl⟩
              have hrl : r < wn := by rw [← hr]; exact Nat.mod_lt _ (by omega)
              have hrli : (r : Int) < (wn : Int) := by omega
              have hw2 : ((wn : Int) == 0) = false := by rw [beq_eq_false_iff_ne]; omega
              have hw3 : (wn == 0) = false := by rw [beq_eq_false_iff_ne]; exact h0
              have r1 : Int.tmod (x : Int) (wn : Int) = (r : Int) := by rw [← hr]; rfl
              have r2 : Int.tmod (F : Int) 3 = (N : Int) := by rw [← hFN]; rfl
              rw [hr] at e0
              by_cases hN0 : N = 0
              · subst hN0
                have hA0 : max qa 0 = A := by rw [← hA]; simp
                have hB0 : min qb 200 = B := by rw [← hB]; simp
                have HN0 := Lib.hid (show ¬ (0 : Int) < ((0 : Nat) : Int) by decide)
                clear hA hB hr hFN
                go_wp2
                exact ⟨⟨x + 1, ls ++ [widen ((0 : Nat) : Int) ⟨qk, qa, qb, qt⟩], by omega, by rw [List.length_append, HLS.out]; rfl, rfl, HW2, Lib.hid (by rw [HWD2.out, if_neg HN0.out, List.append_assoc]; exact HP7.out), GZ⟩, by simp only [intOf]; omega⟩
              · have hNp : (0 : Int) < (N : Int) := by omega
                have HN0 := Lib.hid hNp
                obtain ⟨g4, cap4, hv4, _, _, ⟨e7, _⟩, _, _⟩ := HP7.out.three 0 0
                obtain rfl : G = g4 := by simp at hv4; exact hv4.1
                clear hv4
                rw [HLS.out] at e7
                dsimp only at e7
                clear hr hFN hN0
                go_wp2
                exact ⟨⟨x + 1, ls ++ [widen (N : Int) ⟨qk, qa, qb, qt⟩], by omega, by rw [List.length_append, HLS.out]; rfl, rfl, HW2, Lib.hid (by rw [HWD2.out, if_pos HN0.out, List.append_assoc]; exact HP8.out), (Lib.hid (gr_setn GZ.out hbG))⟩, by simp only [intOf]; omega⟩
        · obtain rfl : x = n := by omega
          have hlti : ¬ (x : Int) < (x : Int) := by omega
          have hfull : qs.take x = qs := List.take_of_length_le (by rw [HN.out]; exact Nat.le_refl _)
          have hdrop : qs.drop x = [] := List.drop_of_length_le (by rw [HN.out]; exact Nat.le_refl _)
          have hwi := HWI.out
          have hpf := HPF.out
          rw [hfull] at hwi
          rw [hdrop, List.append_nil] at hpf
          have hlx : ls.length ≤ 1000000 := by omega
          have htx := hwi.text HSV.out.2
          have HWL := Lib.hid hwi
          have HPV := Lib.hid (fun (w0 : World) (g0 : wr.grownBy w0 none) => hpf.pcs.kept g0)
          have HPQ := Lib.hid (fun (w0 : World) (g0 : wr.grownBy w0 none) => HV.out w0 (gr_then G45.out (gr_then GR.out g0)))
          have HTB := Lib.hid (fun (w0 : World) (g0 : wr.grownBy w0 none) => tabis_grown HT.out (gr_then G5.out (gr_then GR.out g0)))
          have T1 := Lib.hid (pprint_any wr _ ls (HTB.out wr (gr_rfl wr)) hpf.pcs hlx htx)
          have T2 := Lib.hid (fun (w0 : World) (g0 : wr.grownBy w0 none) => pprint_any w0 _ qs (HTB.out w0 g0) (HPQ.out w0 g0) HSV.out.1 HSV.out.2)
          have T3 := Lib.hid (fun (w0 : World) (g0 : wr.grownBy w0 none) => pcovers_any w0 _ _ ls qs (HTB.out w0 g0) (HPV.out w0 g0) (HPQ.out w0 g0) hlx HSV.out.1 htx HSV.out.2)
          have T4 := Lib.hid (fun (w0 : World) (g0 : wr.grownBy w0 none) => A2.out w0 (gr_then GR.out g0))
          have T5 := Lib.hid (fun (w0 : World) (g0 : wr.grownBy w0 none) => pmatches_any _ ls s w0 (HTB.out w0 g0) (HPV.out w0 g0) hlx (by omega) htx)
          have HR1 := Lib.hid (show rightL ls = false → printL ls = [] from fun h => by unfold printL; rw [h]; rfl)
          have HR2 := Lib.hid (show rightL qs = false → printL qs = [] from fun h => by unfold printL; rw [h]; rfl)
          have HCW := Lib.hid (fun (h1 : rightL ls = true) (h2 : rightL qs = true) => covers_wider HWL.out HAB.out h1 h2)
          have HMZ := Lib.hid (HMQ.out ls)
          have GG := Lib.hid (gr_then G5.out GR.out)
          clear hfull hdrop hwi hpf hlx htx hls HWI HPF
          generalize printL ls = z1 at *
          generalize printL qs = z2 at *
          generalize coversL ls qs = c3 at *
          generalize matchL ls s.data.toList = m3 at *
          go_wp2_with fail
          refine T1.out.mono ?_
          rintro e w11 ⟨rfl, g11⟩
          have G11 := Lib.hid g11
          clear g11 T1
          by_cases hz1 : z1 = []
          · subst hz1
            go_wp2
            go_ret
            exact ⟨rfl, gr_then GG.out G11.out⟩
          · have hr1 : rightL ls = true := by
              cases h : rightL ls
              · exact absurd (HR1.out h) hz1
              · rfl
            have hz1b : (⟨z1.toArray⟩ : ByteArray).toList = z1 := by rw [ByteArray.toList_eq]
            have hz1c : (z1 == []) = false := by rw [beq_eq_false_iff_ne]; exact hz1
            have HRA := Lib.hid hr1
            clear hr1
            go_wp2_with fail
            refine (T2.out w11 G11.out).mono ?_
            rintro e w12 ⟨rfl, g12⟩
            have G12 := Lib.hid (gr_then G11.out g12)
            clear g12 hz1b hz1c hz1
            by_cases hz2 : z2 = []
            · subst hz2
              go_wp2
              go_ret
              exact ⟨rfl, gr_then GG.out G12.out⟩
            · have hr2 : rightL qs = true := by
                cases h : rightL qs
                · exact absurd (HR2.out h) hz2
                · rfl
              have hc3 : c3 = true := HCW.out HRA.out hr2
              subst hc3
              have hz2b : (⟨z2.toArray⟩ : ByteArray).toList = z2 := by rw [ByteArray.toList_eq]
              have hz2c : (z2 == []) = false := by rw [beq_eq_false_iff_ne]; exact hz2
              clear hr2
              go_wp2_with fail
              refine (T3.out w12 G12.out).mono ?_
              rintro e w13 ⟨rfl, g13⟩
              have G13 := Lib.hid (gr_then G12.out g13)
              clear g13 hz2b hz2c hz2
              cases m1
              · go_wp2_with fail
                refine (T4.out w13 G13.out).mono ?_
                rintro e w14 ⟨rfl, g14⟩
                go_wp2
                go_ret
                exact ⟨rfl, gr_then GG.out (gr_then G13.out g14)⟩
              · have hm3 : m3 = true := HMZ.out (by first | rfl | trivial) (by first | rfl | trivial)
                subst hm3
                go_wp2_with fail
                refine (T4.out w13 G13.out).mono ?_
                rintro e w14 ⟨rfl, g14⟩
                have G14 := Lib.hid (gr_then G13.out g14)
                clear g14
                go_wp2_with fail
                refine (T5.out w14 G14.out).mono ?_
                rintro e w15 ⟨rfl, g15⟩
                go_wp2
                go_ret
                exact ⟨rfl, gr_then GG.out (gr_then G14.out g15)⟩
    · go_wp2_with fail
      refine (A2.out w6 G6.out).mono ?_
      rintro e wq ⟨rfl, gq⟩
      have GW := Lib.hid (gr_then G6.out gq)
      clear gq
      obtain ⟨wd, hwd⟩ : ∃ wd, wq.alloc (.cells #[] 31) = wd := ⟨_, rfl⟩
      have gd : w5.grownBy wd none := by rw [← hwd]; exact gr_al GW.out
      have hf0 : PF wd w5.heap.size (.slice (some ⟨wq.heap.size, 0, none⟩) 0 0) [] := by
        rw [← hwd]
        exact ⟨rfl, .inr ⟨wq.heap.size, 0, #[], rfl, GW.out.size, heap_alloc_new wq _, Nat.le_refl _, by decide, rfl, rfl⟩⟩
      obtain ⟨V, we, r5, f5, ge⟩ := app_ps w5 wd (.slice (some ⟨wq.heap.size, 0, none⟩) 0 0) qs hf0 g o vc (HQA.out wd (gr_then G45.out gd)) (by have := HQ5.out; omega) gd
      rw [HN.out] at r5
      have HWD := Lib.hid hwd
      obtain ⟨G, cap, rfl, hbG, hGl, _⟩ := f5.piece (i := 0) (by rw [HN.out]; omega)
      rw [HN.out] at r5 f5
      have F5 := Lib.hid f5
      have GE := Lib.hid ge
      clear hwd gd hf0 f5 ge
      go_wp2_with (at_builtin; rw [HWD.out]; refine wpList_call_append rfl (.tmp 38) (.tmp 39) 23 rfl _ _ rfl rfl _ _ r5 ?_)
      clear r5
      go_loopw [12] (fun i wr => ∃ (x : Nat) (ls : List Pc), x ≤ n ∧ ls.length = x ∧ i = .int .i64 (x : Int) ∧ Hid (Wider ls (qs.take x)) ∧ Hid (PF wr w5.heap.size (.slice (some ⟨G, 0, none⟩) n cap) (ls ++ qs.drop x)) ∧ Hid (w5.grownBy wr none)) (fun i _ => n - (intOf i).toNat)
      case atStart => exact ⟨0, [], Nat.zero_le _, rfl, rfl, Lib.hid trivial, Lib.hid F5.out, GE⟩
      case round =>
        obtain ⟨x, ls, hx, hls, rfl, HWI, HPF, GR⟩ := hrel
        by_cases hlt : x < n
        · have hlti : (x : Int) < (n : Int) := by omega
          have hxq : x < qs.length := by rw [HN.out]; exact hlt
          have HDR := Lib.hid (List.drop_eq_getElem_cons hxq)
          have HTK := Lib.hid (List.take_append_getElem hxq)
          have hgq := HGQ.out _ (List.getElem_mem hxq)
          obtain ⟨q, hq⟩ : ∃ q, qs[x] = q := ⟨_, rfl⟩
          rw [hq] at HDR HTK hgq
          clear hq
          have hpf := HPF.out
          rw [HDR.out] at hpf
          have hqa := hgq.a
          have hqb := hgq.b
          have HP3 := Lib.hid (fun (a' b' : Int) => hpf.three a' b')
          obtain ⟨g1, cap1, hv1, hb1, hg1, ⟨c0, c1⟩, f1, _⟩ := HP3.out 0 0
          obtain rfl : G = g1 := by simp at hv1; exact hv1.1
          clear hv1 hpf hgq
          rw [hls] at c0 c1 f1
          have HLS := Lib.hid hls
          obtain ⟨qk, qa, qb, qt⟩ := q
          dsimp only at c0 c1 hqa hqb
          by_cases hk : qk = 0
          · have hkb : (qk == 0) = true := by rw [hk]; rfl
            have HW2 := Lib.hid (show Wider (ls ++ [⟨qk, qa, qb, qt⟩]) (qs.take (x + 1)) by
              rw [← HTK.out]
              have := Wider.snoc (q := ⟨qk, qa, qb, qt⟩) (n := 0) HWI.out (by decide) (by decide)
              rw [show widen 0 ⟨qk, qa, qb, qt⟩ = ⟨qk, qa, qb, qt⟩ from if_pos hk] at this
              exact this)
            have HP2 := Lib.hid (show PF wr w5.heap.size (.slice (some ⟨G, 0, none⟩) n cap) ((ls ++ [⟨qk, qa, qb, qt⟩]) ++ qs.drop (x + 1)) by
              have := HPF.out; rw [HDR.out] at this; rw [List.append_assoc]; exact this)
            clear hk
            go_wp2
            exact ⟨⟨x + 1, ls ++ [⟨qk, qa, qb, qt⟩], by omega, by rw [List.length_append, HLS.out]; rfl, rfl, HW2, HP2, GR⟩, by simp only [intOf]; omega⟩
          · have hkb : (qk == 0) = false := by rw [beq_eq_false_iff_ne]; exact hk
            have hw0 : ∃ N : Nat, N ≤ 2 ∧ ((wn = 0 ∧ N = 0) ∨ ∃ (g' o' : Nat) (F : Nat), wa = some ⟨g', o', none⟩ ∧ wn ≠ 0 ∧ F ≤ 255 ∧ F % 3 = N ∧ wr.cell? ⟨g', o' + x % wn, none⟩ = some (.int .u8 (F : Int))) := by
              rcases HWF.out with h | ⟨g', o', F, rfl, _, _, hF⟩
              · exact ⟨0, by omega, .inl ⟨h, rfl⟩⟩
              · by_cases h0 : wn = 0
                · exact ⟨0, by omega, .inl ⟨h0, rfl⟩⟩
                · have hF1 := hF (x % wn) (Nat.mod_lt _ (by omega))
                  exact ⟨F (x % wn) % 3, by omega, .inr ⟨g', o', F (x % wn), rfl, h0, hF1.2, rfl, (gr_then G5.out GR.out).cell hF1.1 (by simp)⟩⟩
            obtain ⟨N, hN2, hw0⟩ := hw0
            have HW2 := Lib.hid (show Wider (ls ++ [widen (N : Int) ⟨qk, qa, qb, qt⟩]) (qs.take (x + 1)) by
              rw [← HTK.out]
              exact Wider.snoc (q := ⟨qk, qa, qb, qt⟩) (n := (N : Int)) HWI.out (by omega) (by omega))
            have hwd2 : widen (N : Int) ⟨qk, qa, qb, qt⟩ = ⟨if 0 < (N : Int) then 7 else qk, max (qa - (N : Int)) 0, min (qb + (N : Int)) 200, qt⟩ := if_neg hk
            have HWD2 := Lib.hid hwd2
            obtain ⟨A, hA⟩ : ∃ A, max (qa - (N : Int)) 0 = A := ⟨_, rfl⟩
            obtain ⟨B, hB⟩ : ∃ B, min (qb + (N : Int)) 200 = B := ⟨_, rfl⟩
            rw [hA, hB] at HWD2
            clear hwd2
            obtain ⟨g3, cap3, hv3, _, _, _, _, HX⟩ := HP3.out A B
            obtain rfl : G = g3 := by simp at hv3; exact hv3.1
            clear hv3
            rw [hls] at HX
            obtain ⟨wy, hwy⟩ : ∃ wy, wr.setCell ⟨G, x * 4 + 1, none⟩ (.int .i64 A) = wy := ⟨_, rfl⟩
            obtain ⟨d2, f2, HX2⟩ := HX wy hwy
            obtain ⟨wz, hwz⟩ : ∃ wz, wy.setCell ⟨G, x * 4 + 2, none⟩ (.int .i64 B) = wz := ⟨_, rfl⟩
            obtain ⟨f0, hp7, hp8⟩ := HX2 wz hwz
            have GZ := Lib.hid (show w5.grownBy wz none by rw [← hwz]; exact gr_setn (by rw [← hwy]; exact gr_setn GR.out hbG) hbG)
            have HP7 := Lib.hid hp7
            have HP8 := Lib.hid hp8
            have HWY := Lib.hid hwy
            have HWZ := Lib.hid hwz
            clear HX HX2 hp7 hp8 hls hk
            have hsub : IntKind.i64.wrap (qa - (N : Int)) = qa - (N : Int) := IntWalk.i64_in _ (by omega)
            have hadd : IntKind.i64.wrap (qb + (N : Int)) = qb + (N : Int) := IntWalk.i64_in _ (by omega)
            rcases hw0 with ⟨h0, rfl⟩ | ⟨g', o', F, rfl, h0, hF, hFN, e0⟩
            · subst h0
              have hA0 : max qa 0 = A := by rw [← hA]; simp
              have hB0 : min qb 200 = B := by rw [← hB]; simp
              have HN0 := Lib.hid (show ¬ (0 : Int) < ((0 : Nat) : Int) by decide)
              clear hA hB
              go_wp2
              exact ⟨⟨x + 1, ls ++ [widen ((0 : Nat) : Int) ⟨qk, qa, qb, qt⟩], by omega, by rw [List.length_append, HLS.out]; rfl, rfl, HW2, Lib.hid (by rw [HWD2.out, if_neg HN0.out, List.append_assoc]; exact HP7.out), GZ⟩, by simp only [intOf]; omega⟩
            · have hw1 : (0 : Int) < (wn : Int) := by omega
              obtain ⟨r, hr⟩ : ∃ r, x % wn = r := ⟨_, rfl⟩
              have hrl : r < wn := by rw [← hr]; exact Nat.mod_lt _ (by omega)
              have hrli : (r : Int) < (wn : Int) := by omega
              have hw2 : ((wn : Int) == 0) = false := by rw [beq_eq_false_iff_ne]; omega
              have hw3 : (wn == 0) = false := by rw [beq_eq_false_iff_ne]; exact h0
              have r1 : Int.tmod (x : Int) (wn : Int) = (r : Int) := by rw [← hr]; rfl
              have r2 : Int.tmod (F : Int) 3 = (N : Int) := by rw [← hFN]; rfl
              rw [hr] at e0
              by_cases hN0 : N = 0
              · subst hN0
                have hA0 : max qa 0 = A := by rw [← hA]; simp
                have hB0 : min qb 200 = B := by rw [← hB]; simp
                have HN0 := Lib.hid (show ¬ (0 : Int) < ((0 : Nat) : Int) by decide)
                clear hA hB hr hFN
                go_wp2
                exact ⟨⟨x + 1, ls ++ [widen ((0 : Nat) : Int) ⟨qk, qa, qb, qt⟩], by omega, by rw [List.length_append, HLS.out]; rfl, rfl, HW2, Lib.hid (by rw [HWD2.out, if_neg HN0.out, List.append_assoc]; exact HP7.out), GZ⟩, by simp only [intOf]; omega⟩
              · have hNp : (0 : Int) < (N : Int) := by omega
                have HN0 := Lib.hid hNp
                obtain ⟨g4, cap4, hv4, _, _, ⟨e7, _⟩, _, _⟩ := HP7.out.three 0 0
                obtain rfl : G = g4 := by simp at hv4; exact hv4.1
                clear hv4
                rw [HLS.out] at e7
                dsimp only at e7
                clear hr hFN hN0
                go_wp2
                exact ⟨⟨x + 1, ls ++ [widen (N : Int) ⟨qk, qa, qb, qt⟩], by omega, by rw [List.length_append, HLS.out]; rfl, rfl, HW2, Lib.hid (by rw [HWD2.out, if_pos HN0.out, List.append_assoc]; exact HP8.out), (Lib.hid (gr_setn GZ.out hbG))⟩, by simp only [intOf]; omega⟩
        · obtain rfl : x = n := by omega
          have hlti : ¬ (x : Int) < (x : Int) := by omega
          have hfull : qs.take x = qs := List.take_of_length_le (by rw [HN.out]; exact Nat.le_refl _)
          have hdrop : qs.drop x = [] := List.drop_of_length_le (by rw [HN.out]; exact Nat.le_refl _)
          have hwi := HWI.out
          have hpf := HPF.out
          rw [hfull] at hwi
          rw [hdrop, List.append_nil] at hpf
          have hlx : ls.length ≤ 1000000 := by omega
          have htx := hwi.text HSV.out.2
          have HWL := Lib.hid hwi
          have HPV := Lib.hid (fun (w0 : World) (g0 : wr.grownBy w0 none) => hpf.pcs.kept g0)
          have HPQ := Lib.hid (fun (w0 : World) (g0 : wr.grownBy w0 none) => HV.out w0 (gr_then G45.out (gr_then GR.out g0)))
          have HTB := Lib.hid (fun (w0 : World) (g0 : wr.grownBy w0 none) => tabis_grown HT.out (gr_then G5.out (gr_then GR.out g0)))
          have T1 := Lib.hid (pprint_any wr _ ls (HTB.out wr (gr_rfl wr)) hpf.pcs hlx htx)
          have T2 := Lib.hid (fun (w0 : World) (g0 : wr.grownBy w0 none) => pprint_any w0 _ qs (HTB.out w0 g0) (HPQ.out w0 g0) HSV.out.1 HSV.out.2)
          have T3 := Lib.hid (fun (w0 : World) (g0 : wr.grownBy w0 none) => pcovers_any w0 _ _ ls qs (HTB.out w0 g0) (HPV.out w0 g0) (HPQ.out w0 g0) hlx HSV.out.1 htx HSV.out.2)
          have T4 := Lib.hid (fun (w0 : World) (g0 : wr.grownBy w0 none) => A2.out w0 (gr_then GR.out g0))
          have T5 := Lib.hid (fun (w0 : World) (g0 : wr.grownBy w0 none) => pmatches_any _ ls s w0 (HTB.out w0 g0) (HPV.out w0 g0) hlx (by omega) htx)
          have HR1 := Lib.hid (show rightL ls = false → printL ls = [] from fun h => by unfold printL; rw [h]; rfl)
          have HR2 := Lib.hid (show rightL qs = false → printL qs = [] from fun h => by unfold printL; rw [h]; rfl)
          have HCW := Lib.hid (fun (h1 : rightL ls = true) (h2 : rightL qs = true) => covers_wider HWL.out HAB.out h1 h2)
          have HMZ := Lib.hid (HMQ.out ls)
          have GG := Lib.hid (gr_then G5.out GR.out)
          clear hfull hdrop hwi hpf hlx htx hls HWI HPF
          generalize printL ls = z1 at *
          generalize printL qs = z2 at *
          generalize coversL ls qs = c3 at *
          generalize matchL ls s.data.toList = m3 at *
          go_wp2_with fail
          refine T1.out.mono ?_
          rintro e w11 ⟨rfl, g11⟩
          have G11 := Lib.hid g11
          clear g11 T1
          by_cases hz1 : z1 = []
          · subst hz1
            go_wp2
            go_ret
            exact ⟨rfl, gr_then GG.out G11.out⟩
          · have hr1 : rightL ls = true := by
              cases h : rightL ls
              · exact absurd (HR1.out h) hz1
              · rfl
            have hz1b : (⟨z1.toArray⟩ : ByteArray).toList = z1 := by rw [ByteArray.toList_eq]
            have hz1c : (z1 == []) = false := by rw [beq_eq_false_iff_ne]; exact hz1
            have HRA := Lib.hid hr1
            clear hr1
            go_wp2_with fail
            refine (T2.out w11 G11.out).mono ?_
            rintro e w12 ⟨rfl, g12⟩
            have G12 := Lib.hid (gr_then G11.out g12)
            clear g12 hz1b hz1c hz1
            by_cases hz2 : z2 = []
            · subst hz2
              go_wp2
              go_ret
              exact ⟨rfl, gr_then GG.out G12.out⟩
            · have hr2 : rightL qs = true := by
                cases h : rightL qs
                · exact absurd (HR2.out h) hz2
                · rfl
              have hc3 : c3 = true := HCW.out HRA.out hr2
              subst hc3
              have hz2b : (⟨z2.toArray⟩ : ByteArray).toList = z2 := by rw [ByteArray.toList_eq]
              have hz2c : (z2 == []) = false := by rw [beq_eq_false_iff_ne]; exact hz2
              clear hr2
              go_wp2_with fail
              refine (T3.out w12 G12.out).mono ?_
              rintro e w13 ⟨rfl, g13⟩
              have G13 := Lib.hid (gr_then G12.out g13)
              clear g13 hz2b hz2c hz2
              go_wp2_with fail
              refine (T4.out w13 G13.out).mono ?_
              rintro e w14 ⟨rfl, g14⟩
              go_wp2
              go_ret
              exact ⟨rfl, gr_then GG.out (gr_then G13.out g14)⟩
    · obtain rfl : m2 = true := HSO.out (by first | rfl | trivial) (by first | rfl | trivial)
      go_wp2_with fail
      refine (A2.out w6 G6.out).mono ?_
      rintro e wp ⟨rfl, gp⟩
      have GP := Lib.hid (gr_then G6.out gp)
      clear gp
      go_wp2_with fail
      refine (A3.out wp GP.out).mono ?_
      rintro e wq ⟨rfl, gq⟩
      have GW := Lib.hid (gr_then GP.out gq)
      clear gq
      obtain ⟨wd, hwd⟩ : ∃ wd, wq.alloc (.cells #[] 31) = wd := ⟨_, rfl⟩
      have gd : w5.grownBy wd none := by rw [← hwd]; exact gr_al GW.out
      have hf0 : PF wd w5.heap.size (.slice (some ⟨wq.heap.size, 0, none⟩) 0 0) [] := by
        rw [← hwd]
        exact ⟨rfl, .inr ⟨wq.heap.size, 0, #[], rfl, GW.out.size, heap_alloc_new wq _, Nat.le_refl _, by decide, rfl, rfl⟩⟩
      obtain ⟨V, we, r5, f5, ge⟩ := app_ps w5 wd (.slice (some ⟨wq.heap.size, 0, none⟩) 0 0) qs hf0 g o vc (HQA.out wd (gr_then G45.out gd)) (by have := HQ5.out; omega) gd
      rw [HN.out] at r5
      have HWD := Lib.hid hwd
      obtain ⟨G, cap, rfl, hbG, hGl, _⟩ := f5.piece (i := 0) (by rw [HN.out]; omega)
      rw [HN.out] at r5 f5
      have F5 := Lib.hid f5
      have GE := Lib.hid ge
      clear hwd gd hf0 f5 ge
      go_wp2_with (at_builtin; rw [HWD.out]; refine wpList_call_append rfl (.tmp 38) (.tmp 39) 23 rfl _ _ rfl rfl _ _ r5 ?_)
      clear r5
      go_loopw [12] (fun i wr => ∃ (x : Nat) (ls : List Pc), x ≤ n ∧ ls.length = x ∧ i = .int .i64 (x : Int) ∧ Hid (Wider ls (qs.take x)) ∧ Hid (PF wr w5.heap.size (.slice (some ⟨G, 0, none⟩) n cap) (ls ++ qs.drop x)) ∧ Hid (w5.grownBy wr none)) (fun i _ => n - (intOf i).toNat)
      case atStart => exact ⟨0, [], Nat.zero_le _, rfl, rfl, Lib.hid trivial, Lib.hid F5.out, GE⟩
      case round =>
        obtain ⟨x, ls, hx, hls, rfl, HWI, HPF, GR⟩ := hrel
        by_cases hlt : x < n
        · have hlti : (x : Int) < (n : Int) := by omega
          have hxq : x < qs.length := by rw [HN.out]; exact hlt
          have HDR := Lib.hid (List.drop_eq_getElem_cons hxq)
          have HTK := Lib.hid (List.take_append_getElem hxq)
          have hgq := HGQ.out _ (List.getElem_mem hxq)
          obtain ⟨q, hq⟩ : ∃ q, qs[x] = q := ⟨_, rfl⟩
          rw [hq] at HDR HTK hgq
          clear hq
          have hpf := HPF.out
          rw [HDR.out] at hpf
          have hqa := hgq.a
          have hqb := hgq.b
          have HP3 := Lib.hid (fun (a' b' : Int) => hpf.three a' b')
          obtain ⟨g1, cap1, hv1, hb1, hg1, ⟨c0, c1⟩, f1, _⟩ := HP3.out 0 0
          obtain rfl : G = g1 := by simp at hv1; exact hv1.1
          clear hv1 hpf hgq
          rw [hls] at c0 c1 f1
          have HLS := Lib.hid hls
          obtain ⟨qk, qa, qb, qt⟩ := q
          dsimp only at c0 c1 hqa hqb
          by_cases hk : qk = 0
          · have hkb : (qk == 0) = true := by rw [hk]; rfl
            have HW2 := Lib.hid (show Wider (ls ++ [⟨qk, qa, qb, qt⟩]) (qs.take (x + 1)) by
              rw [← HTK.out]
              have := Wider.snoc (q := ⟨qk, qa, qb, qt⟩) (n := 0) HWI.out (by decide) (by decide)
              rw [show widen 0 ⟨qk, qa, qb, qt⟩ = ⟨qk, qa, qb, qt⟩ from if_pos hk] at this
              exact this)
            have HP2 := Lib.hid (show PF wr w5.heap.size (.slice (some ⟨G, 0, none⟩) n cap) ((ls ++ [⟨qk, qa, qb, qt⟩]) ++ qs.drop (x + 1)) by
              have := HPF.out; rw [HDR.out] at this; rw [List.append_assoc]; exact this)
            clear hk
            go_wp2
            exact ⟨⟨x + 1, ls ++ [⟨qk, qa, qb, qt⟩], by omega, by rw [List.length_append, HLS.out]; rfl, rfl, HW2, HP2, GR⟩, by simp only [intOf]; omega⟩
          · have hkb : (qk == 0) = false := by rw [beq_eq_false_iff_ne]; exact hk
            have hw0 : ∃ N : Nat, N ≤ 2 ∧ ((wn = 0 ∧ N = 0) ∨ ∃ (g' o' : Nat) (F : Nat), wa = some ⟨g', o', none⟩ ∧ wn ≠ 0 ∧ F ≤ 255 ∧ F % 3 = N ∧ wr.cell? ⟨g', o' + x % wn, none⟩ = some (.int .u8 (F : Int))) := by
              rcases HWF.out with h | ⟨g', o', F, rfl, _, _, hF⟩
              · exact ⟨0, by omega, .inl ⟨h, rfl⟩⟩
              · by_cases h0 : wn = 0
                · exact ⟨0, by omega, .inl ⟨h0, rfl⟩⟩
                · have hF1 := hF (x % wn) (Nat.mod_lt _ (by omega))
                  exact ⟨F (x % wn) % 3, by omega, .inr ⟨g', o', F (x % wn), rfl, h0, hF1.2, rfl, (gr_then G5.out GR.out).cell hF1.1 (by simp)⟩⟩
            obtain ⟨N, hN2, hw0⟩ := hw0
            have HW2 := Lib.hid (show Wider (ls ++ [widen (N : Int) ⟨qk, qa, qb, qt⟩]) (qs.take (x + 1)) by
              rw [← HTK.out]
              exact Wider.snoc (q := ⟨qk, qa, qb, qt⟩) (n := (N : Int)) HWI.out (by omega) (by omega))
            have hwd2 : widen (N : Int) ⟨qk, qa, qb, qt⟩ = ⟨if 0 < (N : Int) then 7 else qk, max (qa - (N : Int)) 0, min (qb + (N : Int)) 200, qt⟩ := if_neg hk
            have HWD2 := Lib.hid hwd2
            obtain ⟨A, hA⟩ : ∃ A, max (qa - (N : Int)) 0 = A := ⟨_, rfl⟩
            obtain ⟨B, hB⟩ : ∃ B, min (qb + (N : Int)) 200 = B := ⟨_, rfl⟩
            rw [hA, hB] at HWD2
            clear hwd2
            obtain ⟨g3, cap3, hv3, _, _, _, _, HX⟩ := HP3.out A B
            obtain rfl : G = g3 := by simp at hv3; exact hv3.1
            clear hv3
            rw [hls] at HX
            obtain ⟨wy, hwy⟩ : ∃ wy, wr.setCell ⟨G, x * 4 + 1, none⟩ (.int .i64 A) = wy := ⟨_, rfl⟩
            obtain ⟨d2, f2, HX2⟩ := HX wy hwy
            obtain ⟨wz, hwz⟩ : ∃ wz, wy.setCell ⟨G, x * 4 + 2, none⟩ (.int .i64 B) = wz := ⟨_, rfl⟩
            obtain ⟨f0, hp7, hp8⟩ := HX2 wz hwz
            have GZ := Lib.hid (show w5.grownBy wz none by rw [← hwz]; exact gr_setn (by rw [← hwy]; exact gr_setn GR.out hbG) hbG)
            have HP7 := Lib.hid hp7
            have HP8 := Lib.hid hp8
            have HWY := Lib.hid hwy
            have HWZ := Lib.hid hwz
            clear HX HX2 hp7 hp8 hls hk
            have hsub : IntKind.i64.wrap (qa - (N : Int)) = qa - (N : Int) := IntWalk.i64_in _ (by omega)
            have hadd : IntKind.i64.wrap (qb + (N : Int)) = qb + (N : Int) := IntWalk.i64_in _ (by omega)
            rcases hw0 with ⟨h0, rfl⟩ | ⟨g', o', F, rfl, h0, hF, hFN, e0⟩
            · subst h0
              have hA0 : max qa 0 = A := by rw [← hA]; simp
              have hB0 : min qb 200 = B := by rw [← hB]; simp
              have HN0 := Lib.hid (show ¬ (0 : Int) < ((0 : Nat) : Int) by decide)
              clear hA hB
              go_wp2
              exact ⟨⟨x + 1, ls ++ [widen ((0 : Nat) : Int) ⟨qk, qa, qb, qt⟩], by omega, by rw [List.length_append, HLS.out]; rfl, rfl, HW2, Lib.hid (by rw [HWD2.out, if_neg HN0.out, List.append_assoc]; exact HP7.out), GZ⟩, by simp only [intOf]; omega⟩
            · have hw1 : (0 : Int) < (wn : Int) := by omega
              obtain ⟨r, hr⟩ : ∃ r, x % wn = r := ⟨_, rfl⟩
              have hrl : r < wn := by rw [← hr]; exact Nat.mod_lt _ (by omega)
              have hrli : (r : Int) < (wn : Int) := by omega
              have hw2 : ((wn : Int) == 0) = false := by rw [beq_eq_false_iff_ne]; omega
              have hw3 : (wn == 0) = false := by rw [beq_eq_false_iff_ne]; exact h0
              have r1 : Int.tmod (x : Int) (wn : Int) = (r : Int) := by rw [← hr]; rfl
              have r2 : Int.tmod (F : Int) 3 = (N : Int) := by rw [← hFN]; rfl
              rw [hr] at e0
              by_cases hN0 : N = 0
              · subst hN0
                have hA0 : max qa 0 = A := by rw [← hA]; simp
                have hB0 : min qb 200 = B := by rw [← hB]; simp
                have HN0 := Lib.hid (show ¬ (0 : Int) < ((0 : Nat) : Int) by decide)
                clear hA hB hr hFN
                go_wp2
                exact ⟨⟨x + 1, ls ++ [widen ((0 : Nat) : Int) ⟨qk, qa, qb, qt⟩], by omega, by rw [List.length_append, HLS.out]; rfl, rfl, HW2, Lib.hid (by rw [HWD2.out, if_neg HN0.out, List.append_assoc]; exact HP7.out), GZ⟩, by simp only [intOf]; omega⟩
              · have hNp : (0 : Int) < (N : Int) := by omega
                have HN0 := Lib.hid hNp
                obtain ⟨g4, cap4, hv4, _, _, ⟨e7, _⟩, _, _⟩ := HP7.out.three 0 0
                obtain rfl : G = g4 := by simp at hv4; exact hv4.1
                clear hv4
                rw [HLS.out] at e7
                dsimp only at e7
                clear hr hFN hN0
                go_wp2
                exact ⟨⟨x + 1, ls ++ [widen (N : Int) ⟨qk, qa, qb, qt⟩], by omega, by rw [List.length_append, HLS.out]; rfl, rfl, HW2, Lib.hid (by rw [HWD2.out, if_pos HN0.out, List.append_assoc]; exact HP8.out), (Lib.hid (gr_setn GZ.out hbG))⟩, by simp only [intOf]; omega⟩
        · obtain rfl : x = n := by omega
          have hlti : ¬ (x : Int) < (x : Int) := by omega
          have hfull : qs.take x = qs := List.take_of_length_le (by rw [HN.out]; exact Nat.le_refl _)
          have hdrop : qs.drop x = [] := List.drop_of_length_le (by rw [HN.out]; exact Nat.le_refl _)
          have hwi := HWI.out
          have hpf := HPF.out
          rw [hfull] at hwi
          rw [hdrop, List.append_nil] at hpf
          have hlx : ls.length ≤ 1000000 := by omega
          have htx := hwi.text HSV.out.2
          have HWL := Lib.hid hwi
          have HPV := Lib.hid (fun (w0 : World) (g0 : wr.grownBy w0 none) => hpf.pcs.kept g0)
          have HPQ := Lib.hid (fun (w0 : World) (g0 : wr.grownBy w0 none) => HV.out w0 (gr_then G45.out (gr_then GR.out g0)))
          have HTB := Lib.hid (fun (w0 : World) (g0 : wr.grownBy w0 none) => tabis_grown HT.out (gr_then G5.out (gr_then GR.out g0)))
          have T1 := Lib.hid (pprint_any wr _ ls (HTB.out wr (gr_rfl wr)) hpf.pcs hlx htx)
          have T2 := Lib.hid (fun (w0 : World) (g0 : wr.grownBy w0 none) => pprint_any w0 _ qs (HTB.out w0 g0) (HPQ.out w0 g0) HSV.out.1 HSV.out.2)
          have T3 := Lib.hid (fun (w0 : World) (g0 : wr.grownBy w0 none) => pcovers_any w0 _ _ ls qs (HTB.out w0 g0) (HPV.out w0 g0) (HPQ.out w0 g0) hlx HSV.out.1 htx HSV.out.2)
          have T4 := Lib.hid (fun (w0 : World) (g0 : wr.grownBy w0 none) => A2.out w0 (gr_then GR.out g0))
          have T5 := Lib.hid (fun (w0 : World) (g0 : wr.grownBy w0 none) => pmatches_any _ ls s w0 (HTB.out w0 g0) (HPV.out w0 g0) hlx (by omega) htx)
          have HR1 := Lib.hid (show rightL ls = false → printL ls = [] from fun h => by unfold printL; rw [h]; rfl)
          have HR2 := Lib.hid (show rightL qs = false → printL qs = [] from fun h => by unfold printL; rw [h]; rfl)
          have HCW := Lib.hid (fun (h1 : rightL ls = true) (h2 : rightL qs = true) => covers_wider HWL.out HAB.out h1 h2)
          have HMZ := Lib.hid (HMQ.out ls)
          have GG := Lib.hid (gr_then G5.out GR.out)
          clear hfull hdrop hwi hpf hlx htx hls HWI HPF
          generalize printL ls = z1 at *
          generalize printL qs = z2 at *
          generalize coversL ls qs = c3 at *
          generalize matchL ls s.data.toList = m3 at *
          go_wp2_with fail
          refine T1.out.mono ?_
          rintro e w11 ⟨rfl, g11⟩
          have G11 := Lib.hid g11
          clear g11 T1
          by_cases hz1 : z1 = []
          · subst hz1
            go_wp2
            go_ret
            exact ⟨rfl, gr_then GG.out G11.out⟩
          · have hr1 : rightL ls = true := by
              cases h : rightL ls
              · exact absurd (HR1.out h) hz1
              · rfl
            have hz1b : (⟨z1.toArray⟩ : ByteArray).toList = z1 := by rw [ByteArray.toList_eq]
            have hz1c : (z1 == []) = false := by rw [beq_eq_false_iff_ne]; exact hz1
            have HRA := Lib.hid hr1
            clear hr1
            go_wp2_with fail
            refine (T2.out w11 G11.out).mono ?_
            rintro e w12 ⟨rfl, g12⟩
            have G12 := Lib.hid (gr_then G11.out g12)
            clear g12 hz1b hz1c hz1
            by_cases hz2 : z2 = []
            · subst hz2
              go_wp2
              go_ret
              exact ⟨rfl, gr_then GG.out G12.out⟩
            · have hr2 : rightL qs = true := by
                cases h : rightL qs
                · exact absurd (HR2.out h) hz2
                · rfl
              have hc3 : c3 = true := HCW.out HRA.out hr2
              subst hc3
              have hz2b : (⟨z2.toArray⟩ : ByteArray).toList = z2 := by rw [ByteArray.toList_eq]
              have hz2c : (z2 == []) = false := by rw [beq_eq_false_iff_ne]; exact hz2
              clear hr2
              go_wp2_with fail
              refine (T3.out w12 G12.out).mono ?_
              rintro e w13 ⟨rfl, g13⟩
              have G13 := Lib.hid (gr_then G12.out g13)
              clear g13 hz2b hz2c hz2
              have hm3 : m3 = true := HMZ.out (by first | rfl | trivial) (by first | rfl | trivial)
              subst hm3
              go_wp2_with fail
              refine (T4.out w13 G13.out).mono ?_
              rintro e w14 ⟨rfl, g14⟩
              have G14 := Lib.hid (gr_then G13.out g14)
              clear g14
              go_wp2_with fail
              refine (T5.out w14 G14.out).mono ?_
              rintro e w15 ⟨rfl, g15⟩
              go_wp2
              go_ret
              exact ⟨rfl, gr_then GG.out (gr_then G14.out g15)⟩
end Go.Proofs.YtolomjbdnmjcjaaDoor
namespace Go.Proofs.YtolomjbdnmjcjaaDoor
open Go.ChangeShapes Go.WideShapes Go.ChangeAt Go.RowKit Pt

set_option maxRecDepth 1000000 in
set_option maxHeartbeats 4000000 in
theorem sound_lifted (os : Os) (started : os.Started) (H : Type) (enc : TypeId × Value → H) :
    ReturnsInHanded {} Tryd.checked os 9 .any (fun w args => (Rows.patternSoundSpec.pre enc Tryd.prog Tryd.f9 Rows.patternSoundRow.domain false w args ∧ laidMet Tryd.prog Rows.patternSoundRow.laid w) ∧ sizedMet enc Tryd.prog Tryd.f9 (OpenSpec.ofChange Rows.patternSoundSpec) false w args)
      (Rows.patternSoundSpec.post enc Tryd.prog Tryd.f9 false true false false) := by
  refine returnsInHanded_of_change_and (C := Tryd.checked) (X := fun w _ => laidMet Tryd.prog Rows.patternSoundRow.laid w) (fun _ _ _ hh h => h.of_heap hh) own0 started (by kernel_rfl) Tryd.func9
    (ChangeSpec.witness_at (enc := enc) (C := Tryd.checked) (os := os) (X := fun w _ => laidMet Tryd.prog Rows.patternSoundRow.laid w) false (laidWorld os) #[.agg #[.slice none 0 0, .slice none 0 0], .slice none 0 0, .slice none 0 0] 8 rfl (by kernel_rfl) (by kernel_rfl) (by kernel_rfl) (by kernel_rfl) (by kernel_rfl) (laid_at os _)) ?_
  intro W base args ds gs before hval0 hW hcnd0 _ hL _
  have hval : ∀ (j : Nat) t v, Tryd.f9.params[j]? = some t → args[j]? = some v → Value.okWide Tryd.prog W .any base t v := hval0
  have hW' := hW
  obtain ⟨p, q, hA0, hV, rfl, hfz, hnd⟩ := hW
  have hA : DataW.TrodAll enc Tryd.prog W 0 (fun _ => true) true Tryd.f9.params.toList args.toList ds p := hA0
  rw [Tryd.params9] at hA hval
  obtain ⟨v0, v1, v2, d0, d1, d2, p0, p1, p2, rfl, rfl, rfl, h0, h1, h2⟩ := trodAll_three hA
  obtain ⟨rfl, rfl⟩ := trodVars_none hV
  clear hA0 hval0 hA
  simp only [List.append_nil] at hW'
  have k0 := hval 0 36 v0 rfl rfl
  have k1 := hval 1 22 v1 rfl rfl
  have k2 := hval 2 41 v2 rfl rfl
  obtain ⟨u0_0, u0_1, rfl, w0_0, w0_1⟩ := ints2_arg k0 h0
  have w1 := ints_arg k1 h1
  have w2 := u8s_arg k2 h2
  refine (sound_true u0_0 u0_1 v1 v2 W (tab_of hL) w0_0 w0_1 w1 w2).mono fun e W' ⟨he, hg⟩ => ?_
  subst he
  have hb : Below W.heap.size W W' := gr_low hg
  have hlt : ∀ x ∈ p0 ++ p1 ++ p2, x.block < W.heap.size := fun x hx => by simpa using hW'.lt x hx
  have hl0 : ∀ x ∈ p0, x.block < W.heap.size := fun x hx => hlt x (by simp [hx])
  have hl1 : ∀ x ∈ p1, x.block < W.heap.size := fun x hx => hlt x (by simp [hx])
  have hl2 : ∀ x ∈ p2, x.block < W.heap.size := fun x hx => hlt x (by simp [hx])
  refine ⟨_, rfl, _, _, _, [], p0 ++ p1 ++ p2, [], hW', ?_, ?_, rfl, hb.frame _, fun h => by cases h⟩
  · exact trodAll_mk1 (shut_bool Tryd.underlying4 true)
  · have h3 := trodAll_mk3 (Below.trod laidOut0 (by kernel_rfl) (of_decide_eq_true (by kernel_rfl)) h0 hb hl0) (Below.trod laidOut0 (by kernel_rfl) (of_decide_eq_true (by kernel_rfl)) h1 hb hl1) (Below.trod laidOut0 (by kernel_rfl) (of_decide_eq_true (by kernel_rfl)) h2 hb hl2)
    rw [← List.append_assoc] at h3
    exact h3

theorem sound_row : Rows.PatternSoundSaid :=
  OpenClaim.holds_of_wide 9 Tryd.f9 rfl rfl rfl rfl rfl rfl rfl ⟨rfl, rfl, rfl, rfl, rfl⟩ rfl rfl rfl rfl rfl (by kernel_rfl) Tryd.func9 (by kernel_rfl)
    (of_decide_eq_true (by kernel_rfl)) (by unfold Func.isWrapper; first | (rw [if_pos (by decide +kernel)]; kernel_rfl) | (rw [if_neg (by decide +kernel)]; exact ⟨rfl, rfl⟩))
    (fun os started H enc _ => sound_lifted os started H enc)
end Go.Proofs.YtolomjbdnmjcjaaDoor
