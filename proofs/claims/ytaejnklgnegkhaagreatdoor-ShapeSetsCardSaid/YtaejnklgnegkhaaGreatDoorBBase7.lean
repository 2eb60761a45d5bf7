/- Contracts of the program and of the reference, part 7: Px, Po, Pu, Py, Pz, Sn, Qa, Qb. -/
import Derived.Test.YtaejnklgnegkhaaGreatDoorBBase6
import Derived.BigQuiet
namespace Go.Proofs.YtaejnklgnegkhaaGreatDoor
open Go.RowKit Go.Shelf Pt
attribute [local go_sem] Oper.semAt_some

theorem infoI : (Tryz.prog.info? 3).map (fun i => (i.zero, i.size, i.bytes)) = some (some (.int .i64 0), 1, 8) := by kernel_rfl
abbrev ppt (g : Nat) : Value := .pointer (some ⟨g, 0, none⟩)
/-- The box of the table and the table. -/
structure GI (w W : World) (B G L : Nat) (f : Nat → Int) : Prop where
  box : Row W B [.slice (some ⟨G, 0, none⟩) (L + 1) (L + 1)] 22
  tab : Row W G (tabC f L) 3
  gr : w.grownBy W none
  bg : G < B
  lo : w.heap.size ≤ G
theorem GI.grown {w W W' : World} {B G L : Nat} {f : Nat → Int} (h : GI w W B G L f) (hg : W.grownBy W' none) : GI w W' B G L f :=
  ⟨h.box.kept hg, h.tab.kept hg, gr_then h.gr hg, h.bg, h.lo⟩
theorem GI.set {w W : World} {B G L : Nat} {f : Nat → Int} (h : GI w W B G L f) (e : Nat) (z : Int) : GI w (W.setCell ⟨G, e, none⟩ (.int .i64 z)) B G L (fun j => if j = e then z else f j) :=
  ⟨h.box.other (by have := h.bg; omega), by rw [← tab_set]; exact h.tab.set e _, gr_setn h.gr h.lo, h.bg, h.lo⟩
theorem GI.congr {w W : World} {B G L : Nat} {f g : Nat → Int} (h : GI w W B G L f) (hfg : ∀ j, j ≤ L → f j = g j) : GI w W B G L g :=
  ⟨h.box, by rw [← tab_congr hfg]; exact h.tab, h.gr, h.bg, h.lo⟩

/-- The greatest of what the places hold that have come. -/
def fm {L : Nat} (f : Nat → Int) (pre : List (Upto L)) : Int := pre.foldl (fun acc x => max acc (f x.1)) (-1)
theorem fm_snoc {L : Nat} {f : Nat → Int} {pre : List (Upto L)} {x : Upto L} : fm f (pre ++ [x]) = max (fm f pre) (f x.1) := by
  unfold fm; rw [List.foldl_append]; rfl
theorem fm_ends {L : Nat} {f : Nat → Int} {p : Pc} {ps : List Pc} {s : List UInt8} {e : Nat} {ys : List (Upto L)} (h : ys.map (·.1) = endsL p s e) (hf : ∀ m, e ≤ m → f m = gr ps s m) : fm f ys = gr (p :: ps) s e := by
  rw [gr_cons, ← h, List.foldl_map]
  unfold fm
  have key : ∀ (l : List (Upto L)) (a : Int), (∀ x ∈ l, f x.1 = gr ps s x.1) → l.foldl (fun acc x => max acc (f x.1)) a = l.foldl (fun acc x => max acc (gr ps s x.1)) a := by
    intro l
    induction l with
    | nil => intro a _; rfl
    | cons x l ih => intro a hl; rw [List.foldl_cons, List.foldl_cons, hl x (by simp)]; exact ih _ (fun y hy => hl y (by simp [hy]))
  exact key ys _ fun x hx => hf x.1 (stp_le (mem_endsL.1 (by rw [← h]; exact List.mem_map_of_mem (f := (·.1)) hx))).1
theorem Row.own {W W' : World} {row : Option Nat} {b : Nat} {cs : List Value} {t : TypeId} (h : Row W b cs t) (hg : W.grownBy W' row) (hr : ∀ r, row = some r → ∃ o : Obj, W.heap[r]? = some o ∧ o.isCells = false) : Row W' b cs t := by
  refine (hg.block b (Array.getElem?_eq_some_iff.1 h).1 ?_).trans h
  intro e
  obtain ⟨o, ho, hc⟩ := hr b e.symm
  unfold Row at h
  rw [h] at ho
  obtain rfl := Option.some.inj ho
  simp [Obj.isCells] at hc
theorem Row.below {w W : World} {b n : Nat} {cs : List Value} {t : TypeId} (h : Row w b cs t) (hb : Below n w W) (hn : b < n) : Row W b cs t := by
  unfold Row at *; rw [hb.block b hn]; exact h
theorem gr_below2 {w W0 W : World} {n : Nat} (h : w.grownBy W0 none) (hb : Below n W0 W) (hn : w.heap.size ≤ n) : w.grownBy W none :=
  ⟨hb.os.trans h.os, hb.tape.trans h.tape, hb.output.trans h.output, Nat.le_trans h.size hb.size, fun k hk _ => (hb.block k (by omega)).trans (h.block k hk (by simp))⟩
theorem right_ab {k a b : Int} {t : ByteArray} (h : rightP k a b t = true) : 0 ≤ a ∧ a ≤ 1000 ∧ b ≤ 1000 ∧ 0 ≤ b := by
  unfold rightP at h
  by_cases hk : k = 0
  · rw [if_pos hk] at h
    simp only [Bool.and_eq_true, decide_eq_true_eq] at h
    omega
  · rw [if_neg hk] at h
    simp only [Bool.and_eq_true, decide_eq_true_eq] at h
    omega
set_option maxRecDepth 100000 in
set_option maxHeartbeats 2000000 in
theorem great_at (a0 : Option Addr) (g o c : Nat) (ps : List Pc) (s : ByteArray) (w : World) (hp : ps.length = 0 ∨ (a0 = some ⟨g, o, none⟩ ∧ g < w.heap.size ∧ PcsAt w g o ps)) (hn : ps.length ≤ 1000000) (hs : s.size ≤ 1000) (hr : ∀ q ∈ ps, rightP q.k q.a q.b q.t = true) (hsz : ∀ q ∈ ps, q.t.size ≤ 1000) :
    Calls Tryz.prog 67 #[.slice a0 ps.length c, .string s] w fun e w' => ∃ G, e = .returned (.slice (some ⟨G, 0, none⟩) (s.size + 1) (s.size + 1)) ∧ Row w' G (tabC (gr ps s.data.toList) s.size) 3 ∧ w.grownBy w' none ∧ w.heap.size ≤ G := by
  obtain ⟨i0, hi, hz0, hz1, hz2⟩ := info_parts infoI
  obtain ⟨L, hL⟩ : ∃ L, s.size = L := ⟨_, rfl⟩
  obtain ⟨n, hnn⟩ : ∃ n, ps.length = n := ⟨_, rfl⟩
  have HL := Lib.hid hL
  have HN := Lib.hid hnn
  have HP := Lib.hid hp
  have HR := Lib.hid hr
  have HS := Lib.hid hsz
  rw [hL] at hs ⊢
  rw [hnn] at hn ⊢
  obtain ⟨w1, hmk, hown, hg1⟩ := run_make_full (P := Tryz.prog) w 0 22 3 i0 (.int .i64 0) 1 Tryz.underlying22 hi hz0 hz1 .i64 .i64 (L + 1) (by rw [hz2]; omega) (by unfold maxLen; omega) (Nat.zero_le _)
  rw [show ((L + 1 : Nat) : Int) = (L : Int) + 1 from rfl] at hmk
  have HT := Lib.hid (tab_made hown)
  have HG1 := Lib.hid hg1
  obtain ⟨G, hG⟩ : ∃ G, w.heap.size = G := ⟨_, rfl⟩
  have hG1 : G < w1.heap.size := by rw [← hG]; exact HT.out.lt
  have HGG := Lib.hid hG
  rw [hG] at hmk HT
  clear hown hnn hp hr hsz hg1 hG
  refine (callsIn_wide (n := 5)).1 ?_
  refine callsIn_of_wp_marks Tryz.func67 rfl trivial ?_ rfl
  simp only [Tryz.ntmps67, List.size_toArray, List.length_cons, List.length_nil, Nat.reduceAdd, Nat.reduceSub, Array.replicate_succ, Array.replicate_zero, List.push_toArray, List.append_toArray, List.nil_append, List.cons_append]
  gi_wp2
  have hI0 : GI w (w1.alloc (.cells #[.slice (some ⟨G, 0, none⟩) (L + 1) (L + 1)] 22)) w1.heap.size G L (fun _ => 0) :=
    ⟨Row.new w1 [_] _, HT.out.al, gr_then HG1.out (gr_alloc _ _ _), hG1, by rw [HGG.out]; exact Nat.le_refl _⟩
  obtain ⟨B, hB⟩ : ∃ B, w1.heap.size = B := ⟨_, rfl⟩
  rw [hB] at hI0 ⊢
  obtain ⟨W0, hW0⟩ : ∃ W0, w1.alloc (.cells #[.slice (some ⟨G, 0, none⟩) (L + 1) (L + 1)] 22) = W0 := ⟨_, rfl⟩
  rw [hW0] at hI0 ⊢
  have HI0 := Lib.hid hI0
  clear hI0 hW0 hmk HT HG1 hG1 hi hz0 hz1 hz2 hB
  gi_loopw [18] (fun i wr => ∃ j : Nat, j ≤ L + 1 ∧ i = .int .i64 (j : Int) ∧ Hid (GI w wr B G L (fun k => if k < j then (k : Int) else 0))) (fun i _ => L + 1 - (intOf i).toNat)
  case atStart => exact ⟨0, Nat.zero_le _, rfl, HI0⟩
  case round =>
    obtain ⟨j, hj, rfl, HI⟩ := hrel
    have c1 := HI.out.box.cell 0 _ rfl
    by_cases hlt : j ≤ L
    · have c2 := HI.out.tab.cell j _ (tab_get hlt)
      have c3 := HI.out.tab.fr j
      have hj1 : (j : Int) < (L : Int) + 1 := by omega
      gi_wp2
      refine ⟨⟨j + 1, by omega, by simp, Lib.hid ((HI.out.set j _).congr fun k hk => ?_)⟩, ?_⟩
      · by_cases h1 : k = j
        · rw [if_pos h1, if_pos (by omega), h1]
        · rw [if_neg h1]
          by_cases h2 : k < j
          · rw [if_pos h2, if_pos (by omega)]
          · rw [if_neg h2, if_neg (by omega)]
      · simp only [intOf]; omega
    · have hj1 : ¬ (j : Int) < (L : Int) + 1 := by omega
      obtain rfl : j = L + 1 := by omega
      have HI2 : Hid (GI w wr B G L (gr (ps.drop (n - 0)) s.data.toList)) := Lib.hid (HI.out.congr fun k hk => by
        rw [if_pos (by omega), Nat.sub_zero, ← HN.out, List.drop_length]; rfl)
      clear HI HI0 hlt hj hj1
      gi_wp2
      refine wpIn_loop (fun a' w' => ∃ (ds : List Deferred) (u7 u8 u9 u10 u28 u29 u30 u31 u32 u33 u34 u35 u36 u37 u38 u39 u40 u41 u42 u43 u44 u45 u46 u47 u48 u49 u50 u51 u52 u53 u54 u55 u56 u57 u58 u59 u60 : Value), (∃ i : Nat, i ≤ n ∧ u28 = .int .i64 (i : Int) ∧ Hid (GI w w' B G L (gr (ps.drop (n - i)) s.data.toList)) ∧ Hid (Marks G w' ds)) ∧ a' = { tmps := #[.slice a0 n c, .string s, undef, undef, .slice none 0 0, .pointer (some ⟨B, 0, none⟩), u6, u7, u8, u9, u10, undef, .string s, .int .i64 (L : Int), .int .i64 ((L : Int) + 1), .slice (some ⟨G, 0, none⟩) (L + 1) (L + 1), .slice (some ⟨G, 0, none⟩) (L + 1) (L + 1), .int .i64 ((L : Int) + 1), .int .i64 ((L + 1 : Nat) : Int), .bool false, u20, u21, u22, u23, u24, u25, .slice a0 n c, .int .i64 (n : Int), u28, u29, u30, u31, u32, u33, u34, u35, u36, u37, u38, u39, u40, u41, u42, u43, u44, u45, u46, u47, u48, u49, u50, u51, u52, u53, u54, u55, u56, u57, u58, u59, u60, undef], defers := ds }) (fun a' _ => n - (intOf (a'.tmps.getD 28 undef)).toNat) ?_ ?_
      · exact ⟨[], _, _, _, _, _, _, _, _, _, _, _, _, _, _, _, _, _, _, _, _, _, _, _, _, _, _, _, _, _, _, _, _, _, _, _, _, _, ⟨0, Nat.zero_le _, rfl, HI2, Lib.hid trivial⟩, rfl⟩
      clear HI2 c1
      rintro _ w2 ⟨ds, u7, u8, u9, u10, u28, u29, u30, u31, u32, u33, u34, u35, u36, u37, u38, u39, u40, u41, u42, u43, u44, u45, u46, u47, u48, u49, u50, u51, u52, u53, u54, u55, u56, u57, u58, u59, u60, ⟨i, hi, rfl, HI, HM⟩, rfl⟩
      have c1 := HI.out.box.cell 0 _ rfl
      by_cases hlt : i < n
      · have hlti : (i : Int) < (n : Int) := by omega
        obtain ⟨m, hm⟩ : ∃ m, n = i + 1 + m := ⟨n - (i + 1), by omega⟩
        have hx : (n : Int) - 1 - (i : Int) = (m : Int) := by omega
        have hmn : (m : Int) < (n : Int) := by omega
        have hml : m < ps.length := by rw [HN.out]; omega
        have HQS := Lib.hid (show ps.drop (n - i - 1) = ps[m] :: ps.drop (n - i) from by
          rw [show n - i - 1 = m from by omega, show n - i = m + 1 from by omega]; exact List.drop_eq_getElem_cons hml)
        have HRQ := Lib.hid (HR.out ps[m] (List.getElem_mem hml))
        have HSQ := Lib.hid (HS.out ps[m] (List.getElem_mem hml))
        obtain ⟨rfl, hb, hp⟩ : a0 = some ⟨g, o, none⟩ ∧ g < w.heap.size ∧ PcsAt w g o ps := by
          rcases HP.out with h | h
          · rw [HN.out] at h; omega
          · exact h
        have HPM := Lib.hid (hp m hml)
        obtain ⟨p0, p1, p2, p3⟩ := cells4 hb HI.out.gr HPM.out
        have HMN := Lib.hid hm
        clear HPM hm hp
        generalize ps[m] = q at *
        clear HP HR HS
        obtain ⟨q0, q1, q2, q3⟩ := q
        simp only at p0 p1 p2 p3
        have hIa := HI.out.grown (gr_alloc w2 (.cells #[.int .i64 q0, .int .i64 q1, .int .i64 q2, .string q3] 52) none)
        have hPa := Row.new w2 [.int .i64 q0, .int .i64 q1, .int .i64 q2, .string q3] 52
        have HMa := Lib.hid (HM.out.grown (gr_alloc w2 (.cells #[.int .i64 q0, .int .i64 q1, .int .i64 q2, .string q3] 52) none))
        have c2 := hIa.box.cell 0 _ rfl
        obtain ⟨P, hP⟩ : ∃ P, w2.heap.size = P := ⟨_, rfl⟩
        obtain ⟨qs, hqs⟩ : ∃ qs, ps.drop (n - i) = qs := ⟨_, rfl⟩
        have HPP := Lib.hid (And.intro hP (And.intro hqs hi))
        have HGP := Lib.hid (show G < P from by have := HI.out.box.lt; have := HI.out.bg; omega)
        rw [hqs] at HQS hIa
        rw [hP] at hPa
        have HIa := Lib.hid hIa
        have HPa := Lib.hid hPa
        clear hIa hPa hqs hi HI HM
        gi_wp2
        obtain ⟨wa, hwa⟩ : ∃ wa, w2.alloc (.cells #[.int .i64 q0, .int .i64 q1, .int .i64 q2, .string q3] 52) = wa := ⟨_, rfl⟩
        rw [hwa] at HIa HPa HMa c2 ⊢
        clear hP hwa c1 p0 p1 p2 p3 hx hmn hml hlti
        refine wpIn_loop (fun a' w' => ∃ (ds : List Deferred) (u9 u10 u41 u42 u43 u44 u45 u46 u47 u48 u49 u50 u51 u52 u53 u54 u55 u56 u57 u58 u59 : Value), (∃ e : Nat, e ≤ L + 1 ∧ u41 = .int .i64 (e : Int) ∧ Hid (GI w w' B G L (fun j => if j < e then gr (⟨q0, q1, q2, q3⟩ :: qs) s.data.toList j else gr qs s.data.toList j)) ∧ Hid (Marks G w' ds) ∧ Hid (Row w' P [.int .i64 q0, .int .i64 q1, .int .i64 q2, .string q3] 52)) ∧ a' = { tmps := #[.slice (some ⟨g, o, none⟩) n c, .string s, undef, undef, .slice none 0 0, .pointer (some ⟨B, 0, none⟩), u6, .int .i64 (i : Int), .pointer (some ⟨P, 0, none⟩), u9, u10, undef, .string s, .int .i64 (L : Int), .int .i64 ((L : Int) + 1), .slice (some ⟨G, 0, none⟩) (L + 1) (L + 1), .slice (some ⟨G, 0, none⟩) (L + 1) (L + 1), .int .i64 ((L : Int) + 1), .int .i64 ((L : Int) + 1), .bool false, u20, u21, u22, u23, u24, u25, .slice (some ⟨g, o, none⟩) n c, .int .i64 (n : Int), .int .i64 (i : Int), .bool true, .int .i64 (i : Int), .slice (some ⟨g, o, none⟩) n c, .slice (some ⟨g, o, none⟩) n c, .int .i64 (n : Int), .int .i64 ((n : Int) - 1), .int .i64 (i : Int), .int .i64 (m : Int), .pointer (some ⟨g, o + m * 4, none⟩), .agg #[.int .i64 q0, .int .i64 q1, .int .i64 q2, .string q3], .slice (some ⟨G, 0, none⟩) (L + 1) (L + 1), .int .i64 ((L : Int) + 1), u41, u42, u43, u44, u45, u46, u47, u48, u49, u50, u51, u52, u53, u54, u55, u56, u57, u58, u59, u60, undef], defers := ds }) (fun a' _ => L + 1 - (intOf (a'.tmps.getD 41 undef)).toNat) ?_ ?_
        · exact ⟨ds, _, _, _, _, _, _, _, _, _, _, _, _, _, _, _, _, _, _, _, _, _, ⟨0, Nat.zero_le _, rfl, Lib.hid (HIa.out.congr fun j _ => by rw [if_neg (by omega)]), HMa, HPa⟩, rfl⟩
        clear HIa HPa HMa c2
        rintro _ w3 ⟨ds, u9, u10, u41, u42, u43, u44, u45, u46, u47, u48, u49, u50, u51, u52, u53, u54, u55, u56, u57, u58, u59, ⟨e, he, rfl, HI, HM, HPC⟩, rfl⟩
        have c1 := HI.out.box.cell 0 _ rfl
        obtain ⟨p0, p1, p2, p3⟩ := And.intro (HPC.out.cell 0 _ rfl) (And.intro (HPC.out.cell 1 _ rfl) (And.intro (HPC.out.cell 2 _ rfl) (HPC.out.cell 3 _ rfl)))
        by_cases hle : e ≤ L
        · have hle1 : (e : Int) < (L : Int) + 1 := by omega
          obtain ⟨wb, hwb⟩ : ∃ wb, w3.alloc (.cells #[.int .i64 (-1)] 3) = wb := ⟨_, rfl⟩
          have gb : w3.grownBy wb none := by rw [← hwb]; exact gr_alloc _ _ _
          have HLb := Lib.hid (show Row wb w3.heap.size [.int .i64 (-1)] 3 from by rw [← hwb]; exact Row.new w3 [_] _)
          have HIb := Lib.hid (HI.out.grown gb)
          have HMb := Lib.hid (HM.out.grown gb)
          have HPb := Lib.hid (HPC.out.kept gb)
          have HEN := Lib.hid (endsOf_any q0 q1 q2 q3 s e)
          obtain ⟨Q, hQ⟩ : ∃ Q, w3.heap.size = Q := ⟨_, rfl⟩
          have hQb : wb.heap.size = Q + 1 := by rw [← hwb, World.size_alloc, hQ]
          have HGb := Lib.hid gb
          obtain ⟨b0, b1, b2, b3⟩ := And.intro (HPb.out.cell 0 _ rfl) (And.intro (HPb.out.cell 1 _ rfl) (And.intro (HPb.out.cell 2 _ rfl) (HPb.out.cell 3 _ rfl)))
          clear gb c1 p0 p1 p2 p3
          rw [hQ] at HLb
          gi_wp2
          refine ⟨trivial, (callsIn_wide.2 (HEN.out wb)).mono ?_⟩
          rintro e' w' ⟨rfl, rfl⟩
          rw [hQb]
          clear HEN b0 b1 b2 b3
          obtain ⟨W0, hW0⟩ : ∃ W0, ((wb.alloc (.cells #[.int .i64 q0, .int .i64 q1, .int .i64 q2, .string q3] 52)).alloc (.cells #[.string s] 9)).alloc (.cells #[.int .i64 (e : Int)] 3) = W0 := ⟨_, rfl⟩
          have hsz0 : W0.heap.size = Q + 4 := by rw [← hW0]; simp [hQb]
          have g0 : wb.grownBy W0 none := by rw [← hW0]; exact gr_then (gr_then (gr_alloc _ _ _) (gr_alloc _ _ _)) (gr_alloc _ _ _)
          have HE4 := Lib.hid (show E4 W0 (Q + 1) ⟨q0, q1, q2, q3⟩ s e from by
            have r1 := Row.new wb [.int .i64 q0, .int .i64 q1, .int .i64 q2, .string q3] 52
            have r2 := Row.new (wb.alloc (.cells #[.int .i64 q0, .int .i64 q1, .int .i64 q2, .string q3] 52)) [.string s] 9
            have r3 := Row.new ((wb.alloc (.cells #[.int .i64 q0, .int .i64 q1, .int .i64 q2, .string q3] 52)).alloc (.cells #[.string s] 9)) [.int .i64 (e : Int)] 3
            rw [World.size_alloc] at r2
            rw [World.size_alloc, World.size_alloc] at r3
            rw [hQb] at r1 r2 r3
            have k1 := r1.kept (gr_then (gr_alloc _ (.cells #[.string s] 9) none) (gr_alloc _ (.cells #[.int .i64 (e : Int)] 3) none))
            have k2 := r2.kept (gr_alloc _ (.cells #[.int .i64 (e : Int)] 3) none)
            simp only [List.toArray] at k1 k2 r3
            rw [hW0] at k1 k2 r3
            exact ⟨k1.cell 0 _ rfl, k1.cell 1 _ rfl, k1.cell 2 _ rfl, k1.cell 3 _ rfl, k2.cell 0 _ rfl, r3.cell 0 _ rfl⟩)
          have HI0 := Lib.hid (HIb.out.grown g0)
          have HM0 := Lib.hid (HMb.out.grown g0)
          have HP0 := Lib.hid (HPb.out.kept g0)
          have HL0 := Lib.hid (HLb.out.kept g0)
          have HG0 := Lib.hid g0
          rw [hW0]
          clear hW0 g0 hwb
          gi_wp2
          have hBQ : B < Q := by have := HI.out.box.lt; omega
          have hGQ : G < Q := by have := HI.out.bg; omega
          have hGw := HGG.out
          have HEI := Lib.hid he
          have HSZ := Lib.hid hsz0
          obtain ⟨F, hF⟩ : ∃ F : Nat → Int, (fun j => if j < e then gr (⟨q0, q1, q2, q3⟩ :: qs) s.data.toList j else gr qs s.data.toList j) = F := ⟨_, rfl⟩
          have HFF := Lib.hid hF
          rw [hF] at HI0 HIb HI
          clear hF
          have hab := right_ab HRQ.out
          refine wpIn_rangeFunc_ownF rfl (by omega) (gf := 121) (lb := #[.pointer (some ⟨Q + 1, 0, none⟩), .pointer (some ⟨Q + 1 + 1, 0, none⟩), .pointer (some ⟨Q + 1 + 1 + 1, 0, none⟩)]) rfl trivial (enters_of Tryz.func121 (by kernel_rfl) rfl)
            (endsOf_stops 4 (Q + 1) ⟨q0, q1, q2, q3⟩ s e W0 HE4.out (by rw [HL.out]; exact hle) (by rw [HL.out]; omega) hab.1 hab.2.1 hab.2.2.1 hab.2.2.2 HSQ.out) KpE.trans (fun W l o o' hl ho _ _ => KpE.of_grown (grownBy_putObj' W l o') (fun b h1 h2 e1 => by cases e1; omega)) (Below.refl _ _) (fun _ => rfl)
            (fun pre W => Row W Q [.int .i64 (fm F pre)] 3 ∧ Below Q W0 W)
            (fun _ _ _ => False)
            (OwnFrom.and (Own.from (fun _ _ _ _ hs hg hr => hs.own hg hr) _) (ownFrom_below (Nat.le_of_lt (by omega)) (by omega)))
            (fun _ _ _ _ _ hs _ _ => hs)
            ⟨HL0.out, Below.refl _ _⟩
            (fun x => { tmps := #[.slice (some ⟨g, o, none⟩) n c, .string s, undef, undef, .slice none 0 0, .pointer (some ⟨B, 0, none⟩), u6, .int .i64 (i : Int), .pointer (some ⟨P, 0, none⟩), .int .i64 (e : Int), .pointer (some ⟨Q, 0, none⟩), .int .i64 (x.1 : Int), .string s, .int .i64 (L : Int), .int .i64 ((L : Int) + 1), .slice (some ⟨G, 0, none⟩) (L + 1) (L + 1), .slice (some ⟨G, 0, none⟩) (L + 1) (L + 1), .int .i64 ((L : Int) + 1), .int .i64 ((L : Int) + 1), .bool false, u20, u21, u22, u23, u24, u25, .slice (some ⟨g, o, none⟩) n c, .int .i64 (n : Int), .int .i64 (i : Int), .bool true, .int .i64 (i : Int), .slice (some ⟨g, o, none⟩) n c, .slice (some ⟨g, o, none⟩) n c, .int .i64 (n : Int), .int .i64 ((n : Int) - 1), .int .i64 (i : Int), .int .i64 (m : Int), .pointer (some ⟨g, o + m * 4, none⟩), .agg #[.int .i64 q0, .int .i64 q1, .int .i64 q2, .string q3], .slice (some ⟨G, 0, none⟩) (L + 1) (L + 1), .int .i64 ((L : Int) + 1), .int .i64 (e : Int), .bool true, .int .i64 (e : Int), .agg #[.int .i64 q0, .int .i64 q1, .int .i64 q2, .string q3], .string s, .int .i64 (e : Int), .func (.func 121) #[] #[.pointer (some ⟨Q + 1, 0, none⟩), .pointer (some ⟨Q + 1 + 1, 0, none⟩), .pointer (some ⟨Q + 1 + 1 + 1, 0, none⟩)], .int .i64 (x.1 : Int), u49, u50, u51, u52, u53, u54, u55, u56, u57, u58, u59, u60, undef], defers := [] }) ?assign ?body ?done ?stop
          case assign =>
            intro l x W K hK
            gi_wp2
            exact hK
          case body =>
            rintro l pre ⟨x, hx⟩ W ⟨hR, hBl⟩ hlt2
            have hxL : x ≤ L := by rw [← HL.out]; exact hx
            have hxL1 : (x : Int) < (L : Int) + 1 := by omega
            have d1 : W.cell? ⟨B, 0, none⟩ = some (.slice (some ⟨G, 0, none⟩) (L + 1) (L + 1)) := by rw [hBl.cell (p := ⟨B, 0, none⟩) hBQ]; exact HI0.out.box.cell 0 _ rfl
            have d2 : W.cell? ⟨G, x, none⟩ = some (.int .i64 (F x)) := by rw [hBl.cell (p := ⟨G, x, none⟩) hGQ]; exact HI0.out.tab.cell x _ (tab_get hxL)
            have d3 := hR.cell 0 _ rfl
            have d4 := hR.fr 0
            have HRR := Lib.hid hR
            have HBL := Lib.hid hBl
            clear hR hBl
            have HFIN := Lib.hid (show KeepsOthers W (W.setCell ⟨Q, 0, none⟩ (.int .i64 (max (fm F pre) (F x)))).drew ∧ KpE (Q + 1) W (W.setCell ⟨Q, 0, none⟩ (.int .i64 (max (fm F pre) (F x)))).drew ∧ Row (W.setCell ⟨Q, 0, none⟩ (.int .i64 (max (fm F pre) (F x)))).drew Q [.int .i64 (fm F (pre ++ [⟨x, hx⟩]))] 3 ∧ Below Q W0 (W.setCell ⟨Q, 0, none⟩ (.int .i64 (max (fm F pre) (F x)))).drew from by
              refine ⟨(KeepsOthers.setCell _ _ _).trans (KeepsOthers.drew _), KpE.trans (KpE.of_grown (gr_set _ _ _ _) (fun b h1 h2 e1 => by cases e1; omega)) (KpE.of_grown (gr_drewN _ 1 none) (fun _ _ _ => by simp)), ?_, (HBL.out.setCell (p := ⟨Q, 0, none⟩) (Nat.le_refl _) _).drew⟩
              rw [fm_snoc]
              exact (HRR.out.set 0 _).dr)
            have hmx : Tryz.prog.follows .mixedOrders = true := by kernel_rfl
            gi_wp2
            gi_region_with_o (fail)
            all_goals gi_wp2
            all_goals exact HFIN.out
          case done =>
            rintro D ys W hD hys ⟨hR, hBl⟩ hK
            have hfm : fm F ys = gr (⟨q0, q1, q2, q3⟩ :: qs) s.data.toList e := fm_ends hys fun m1 hm1 => by rw [← HFF.out]; exact if_neg (by omega)
            rw [hfm] at hR
            have d1 : W.cell? ⟨B, 0, none⟩ = some (.slice (some ⟨G, 0, none⟩) (L + 1) (L + 1)) := by rw [hBl.cell (p := ⟨B, 0, none⟩) hBQ]; exact HI0.out.box.cell 0 _ rfl
            have HIW := Lib.hid (show GI w W B G L F from ⟨HI0.out.box.below hBl hBQ, HI0.out.tab.below hBl hGQ, gr_below2 HI0.out.gr hBl (by omega), HI0.out.bg, HI0.out.lo⟩)
            have HMW := Lib.hid (Marks.cons (D := D) (HM.out.of_blocks fun k h1 h2 _ => by
              have h3 := (Array.getElem?_eq_some_iff.1 h2).1
              rw [hQ] at h3
              rw [hBl.block k h3, (gr_then HGb.out HG0.out).block k (by rw [hQ]; exact h3) (by simp)]) (by omega) hK (fun d hd e1 => by
                obtain ⟨D', h1, _, h3⟩ := HM.out.mem hd
                have h4 := (Array.getElem?_eq_some_iff.1 h3).1
                rw [h1] at e1
                cases e1
                omega))
            have HPW := Lib.hid (HP0.out.below hBl (by have := HPC.out.lt; omega))
            have d2 := HIW.out.tab.fr e
            have d3 := hR.cell 0 _ rfl
            have d4 := HIW.out.tab.cell e _ (tab_get hle)
            clear hR hBl hfm hys hK
            gi_wp2
            refine ⟨?_, by simp only [intOf]; simp; omega⟩
            (repeat apply Exists.intro)
            refine ⟨?_, rfl⟩
            refine ⟨e + 1, by omega, by simp, Lib.hid ((HIW.out.set e _).congr fun j _ => ?_), Lib.hid (HMW.out.set HIW.out.tab), Lib.hid (HPW.out.other (by have := HGP.out; omega))⟩
            rw [← HFF.out]
            dsimp only
            by_cases h1 : j = e
            · subst h1; rw [if_pos rfl, if_pos (by omega)]
            · rw [if_neg h1]
              by_cases h2 : j < e
              · rw [if_pos h2, if_pos (by omega)]
              · rw [if_neg h2, if_neg (by omega)]
          case stop =>
            rintro D c pre W _ _ h _
            exact h.elim
        · have hle1 : ¬ (e : Int) < (L : Int) + 1 := by omega
          obtain rfl : e = L + 1 := by omega
          have HI' := Lib.hid (show GI w w3 B G L (gr (ps.drop (n - (i + 1))) s.data.toList) from by
            rw [show n - (i + 1) = n - i - 1 from by omega, HQS.out]
            exact HI.out.congr fun j hj => by rw [if_pos (by omega)])
          clear HI HPC p0 p1 p2 p3 hle hle1
          gi_wp2
          refine ⟨?_, by simp only [intOf]; simp; omega⟩
          (repeat apply Exists.intro)
          refine ⟨?_, rfl⟩
          exact ⟨i + 1, by omega, by simp, HI', HM⟩
      · obtain rfl : i = n := by omega
        have HT := Lib.hid (show Row w2 G (tabC (gr ps s.data.toList) L) 3 from by
          have := HI.out.tab
          rwa [Nat.sub_self, List.drop_zero] at this)
        have hlti : ¬ (i : Int) < (i : Int) := by omega
        clear hlt hlti
        gi_wp2
        refine leaves_marks (lo := G) (by rw [HGG.out]; exact Nat.le_refl _) ds w2 HM.out HI.out.gr fun W' hg' hr' => ?_
        exact ⟨_, results_tmp rfl _ _ _, G, rfl, hr' _ _ _ HT.out, hg', Nat.le_of_eq HGG.out⟩
theorem great_any (v : Value) (ps : List Pc) (s : ByteArray) (w : World) (hp : Pcs w v ps) (hn : ps.length ≤ 1000000) (hs : s.size ≤ 1000) (hr : ∀ q ∈ ps, rightP q.k q.a q.b q.t = true) (hsz : ∀ q ∈ ps, q.t.size ≤ 1000) :
    Calls Tryz.prog 67 #[v, .string s] w fun e w' => ∃ G, e = .returned (.slice (some ⟨G, 0, none⟩) (s.size + 1) (s.size + 1)) ∧ Row w' G (tabC (gr ps s.data.toList) s.size) 3 ∧ w.grownBy w' none ∧ w.heap.size ≤ G := by
  rcases hp with ⟨rfl, rfl⟩ | ⟨g, o, c, rfl, hb, hp⟩
  · exact great_at none 0 0 0 [] s w (.inl rfl) hn hs hr hsz
  · exact great_at _ g o c ps s w (.inr ⟨rfl, hb, hp⟩) hn hs hr hsz
end Go.Proofs.YtaejnklgnegkhaaGreatDoor
namespace Go.Proofs.YtaejnklgnegkhaaGreatDoor
open Go.RowKit Pt

theorem len_le {k a b : Int} {t : ByteArray} (hr : rightP k a b t = true) (hs : t.size ≤ 1000) : (0 ≤ lenD k a t ∧ lenD k a t ≤ 1000) ∧ 0 ≤ lenD k b t ∧ lenD k b t ≤ 1000 := by
  unfold rightP at hr
  unfold lenD
  by_cases hk : k = 0
  · rw [if_pos hk, if_pos hk]; omega
  · rw [if_neg hk, if_neg hk]
    rw [if_neg hk, Bool.and_eq_true, decide_eq_true_eq] at hr
    omega
theorem least_next {qs : List Pc} {j : Nat} (h : j < qs.length) : leastL (qs.take (j + 1)) = leastL (qs.take j) + lenD qs[j].k qs[j].a qs[j].t := by
  unfold leastL
  rw [← List.take_append_getElem h, List.foldl_append]; rfl
theorem most_next {qs : List Pc} {j : Nat} (h : j < qs.length) : mostL (qs.take (j + 1)) = mostL (qs.take j) + lenD qs[j].k qs[j].b qs[j].t := by
  unfold mostL
  rw [← List.take_append_getElem h, List.foldl_append]; rfl
/-- One run covers all pieces. -/
def allCov (p : Pc) (qs : List Pc) : Bool := decide (p.k ≠ 0) && (qs.all (fun q => staysD q.k q.t p.k) && (decide (p.a ≤ leastL qs) && decide (min (mostL qs) 200 ≤ p.b)))
theorem allCov_lit {p : Pc} {qs : List Pc} (h : p.k = 0) : allCov p qs = false := by unfold allCov; rw [h]; rfl
theorem allCov_no {p : Pc} {qs : List Pc} {j : Nat} (h : j < qs.length) (hs : staysD qs[j].k qs[j].t p.k = false) : allCov p qs = false := by
  unfold allCov
  rw [show qs.all (fun q => staysD q.k q.t p.k) = false from Bool.eq_false_iff.2 fun ha => by
    rw [List.all_eq_true] at ha
    have := ha _ (List.getElem_mem h)
    rw [hs] at this; cases this]
  simp
theorem allCov_yes {p : Pc} {qs : List Pc} (hk : p.k ≠ 0) (hs : ∀ i (h : i < qs.length), staysD qs[i].k qs[i].t p.k = true) : allCov p qs = (decide (p.a ≤ leastL qs) && decide (min (mostL qs) 200 ≤ p.b)) := by
  unfold allCov
  rw [decide_eq_true hk, show qs.all (fun q => staysD q.k q.t p.k) = true from List.all_eq_true.2 fun q hq => by
    obtain ⟨i, hi, rfl⟩ := List.getElem_of_mem hq
    exact hs i hi]
  rfl
set_option maxRecDepth 100000 in
set_option maxHeartbeats 8000000 in
theorem all_some (w : World) (g o c g' o' c' : Nat) (p : Pc) (qs : List Pc) (hb : g < w.heap.size) (hp : PcsAt w g o [p]) (hb' : g' < w.heap.size) (hq : PcsAt w g' o' qs) (hn : qs.length ≤ 1000000) (hsz : ∀ q ∈ qs, q.t.size ≤ 1000)
    (hr : ∀ q ∈ qs, rightP q.k q.a q.b q.t = true) : Calls Tryz.prog 92 #[.slice (some ⟨g, o, none⟩) 1 c, .slice (some ⟨g', o', none⟩) qs.length c'] w fun e w' => e = .returned (.bool (allCov p qs)) ∧ w.grownBy w' none := by
  obtain ⟨n, hnn⟩ : ∃ n, qs.length = n := ⟨_, rfl⟩
  have HN := Lib.hid hnn
  have HP := Lib.hid (hp 0 (by simp))
  have HQ := Lib.hid hq
  have HSZ := Lib.hid hsz
  have HRR := Lib.hid hr
  have HLIT := Lib.hid (fun (h : p.k = 0) => allCov_lit (qs := qs) h)
  have HNO := Lib.hid (fun (j : Nat) (h : j < qs.length) (hs : staysD qs[j].k qs[j].t p.k = false) => allCov_no (p := p) h hs)
  have HYES := Lib.hid (fun (hk : p.k ≠ 0) hs => allCov_yes (p := p) (qs := qs) hk hs)
  rw [hnn] at hn ⊢
  generalize allCov p qs = R at *
  obtain ⟨p0, p1, p2, p3⟩ := p
  obtain ⟨c0, c1, c2, c3⟩ := HP.out
  simp only [List.getElem_cons_zero, Nat.zero_mul, Nat.add_zero] at c0 c1 c2 c3
  have HC := Lib.hid (And.intro c0 (And.intro c1 (And.intro c2 c3)))
  have HPL := Lib.hid (plit_any p0 p1 p2 p3)
  clear hnn hp hsz hr hq HP
  go_enter Tryz.func92, Tryz.ntmps92
  go_wp2_with fail
  refine (HPL.out _).mono ?_
  rintro e w1 ⟨rfl, g1⟩
  clear c0 c1 c2 c3
  cases hk : (p0 == 0)
  case true =>
    have hk0 : p0 = 0 := by simpa using hk
    have HL := Lib.hid (HLIT.out hk0)
    clear hk hk0
    go_wp2
    go_ret
    exact ⟨by rw [HL.out]; rfl, g1⟩
  have HK := Lib.hid (show p0 ≠ 0 from by simpa using hk)
  clear hk
  go_wp2_with fail
  go_loopw [5, 6, 22] (fun a b i wr => ∃ j : Nat, j ≤ n ∧ i = .int .i64 (j : Int) ∧ a = .int .i64 (leastL (qs.take j)) ∧ b = .int .i64 (mostL (qs.take j)) ∧ (0 ≤ leastL (qs.take j) ∧ leastL (qs.take j) ≤ 1000 * (j : Int)) ∧ (0 ≤ mostL (qs.take j) ∧ mostL (qs.take j) ≤ 1000 * (j : Int)) ∧ w.grownBy wr none ∧ Hid (∀ k (h : k < qs.length), k < j → staysD qs[k].k qs[k].t p0 = true)) (fun _ _ i _ => n - (intOf i).toNat)
  case atStart => exact ⟨0, Nat.zero_le _, rfl, rfl, rfl, ⟨Int.le_refl _, Int.le_refl _⟩, ⟨Int.le_refl _, Int.le_refl _⟩, g1, Lib.hid (fun k h h' => by omega)⟩
  case round =>
    clear g1
    obtain ⟨j, hj, rfl, rfl, rfl, hA, hB, Gj, HA⟩ := hrel
    by_cases hlt : j < n
    · have hlr : j < qs.length := by rw [HN.out]; exact hlt
      have hb1 : (j : Int) < (n : Int) := by omega
      have hk1 : (j : Int) + 1 ≤ 9223372036854775807 := by omega
      have hl := len_le (HRR.out _ (List.getElem_mem hlr)) (HSZ.out _ (List.getElem_mem hlr))
      have hst := HSZ.out _ (List.getElem_mem hlr)
      have HNX := Lib.hid (And.intro (least_next hlr) (most_next hlr))
      have hno := HNO.out j hlr
      have hha := fun h => HA.out j hlr h
      have HPS := Lib.hid (fun w => pstays_any qs[j].k qs[j].a qs[j].b qs[j].t p0 w (by omega))
      have HLN := Lib.hid (plen_any qs[j].k qs[j].a qs[j].b qs[j].t)
      have HNO2 := Lib.hid hno
      have HST := Lib.hid (fun (h : staysD qs[j].k qs[j].t p0 = true) (k : Nat) (hk : k < qs.length) (hkj : k < j + 1) => show staysD qs[k].k qs[k].t p0 = true from by
        rcases Nat.lt_or_ge k j with h' | h'
        · exact HA.out k hk h'
        · obtain rfl : k = j := by omega
          exact h)
      obtain ⟨d0, d1, d2, d3⟩ := (HQ.out.kept hb' Gj) j hlr
      clear hno hha hst
      generalize qs[j].k = qk at *
      generalize qs[j].a = qa at *
      generalize qs[j].b = qb at *
      generalize qs[j].t = qt at *
      have hgr : g < wr.heap.size := Nat.lt_of_lt_of_le hb Gj.size
      obtain ⟨c0, c1, c2, c3⟩ := cells4 hgr (gr_alloc wr (.cells ([.int .i64 qk, .int .i64 qa, .int .i64 qb, .string qt] : List Value).toArray 52) none) (cells4 hb Gj HC.out)
      have R0 := Row.new wr [.int .i64 qk, .int .i64 qa, .int .i64 qb, .string qt] 52
      have G0 := gr_al (o := .cells ([.int .i64 qk, .int .i64 qa, .int .i64 qb, .string qt] : List Value).toArray 52) Gj
      obtain ⟨x0, x1, x2, x3⟩ : _ ∧ _ ∧ _ ∧ _ := ⟨R0.cell 0 _ rfl, R0.cell 1 _ rfl, R0.cell 2 _ rfl, R0.cell 3 _ rfl⟩
      have hsz0 := (gr_alloc wr (.cells ([.int .i64 qk, .int .i64 qa, .int .i64 qb, .string qt] : List Value).toArray 52) none)
      go_wp2_with fail
      go_region_with (go_at_call 115; refine (HPS.out _).mono ?_; rintro e w2 ⟨rfl, g2⟩)
      all_goals
        have R2 := R0.dr.kept g2
        have G2 := gr_then (gr_dr G0) g2
        have z0 := R2.cell 0 _ rfl
        have z1 := R2.cell 1 _ rfl
        have z2 := R2.cell 2 _ rfl
        have z3 := R2.cell 3 _ rfl
        clear c0 c1 c2 c3 x0 x1 x2 x3 d0 d1 d2 d3 R0 G0 g2 hsz0 hk1 hb1
        cases hs : staysD qk qt p0
        · have HR := Lib.hid (HNO2.out hs)
          clear hs z0 z1 z2 z3
          go_wp2_with fail
          go_ret
          exact ⟨by rw [HR.out]; rfl, G2⟩
        · have HS := Lib.hid (HST.out hs)
          clear hs
          go_wp2_with fail
          refine (HLN.out _).mono ?_
          rintro e w3 ⟨rfl, g3⟩
          have G3 := gr_then G2 g3
          clear z0 z1 z2 z3 R2 G2 g3
          have h1 := HNX.out.1
          have h2 := HNX.out.2
          have HX := Lib.hid (And.intro h1 h2)
          clear h1 h2
          generalize lenD qk qa qt = la at *
          generalize lenD qk qb qt = lb at *
          obtain ⟨⟨a0, a1⟩, b0, b1⟩ := hl
          obtain ⟨A, eA⟩ : ∃ A, leastL (qs.take j) = A := ⟨_, rfl⟩
          obtain ⟨B, eB⟩ : ∃ B, mostL (qs.take j) = B := ⟨_, rfl⟩
          rw [eA] at hA ⊢
          rw [eB] at hB ⊢
          have HE := Lib.hid (And.intro eA eB)
          clear eA eB
          have hA0 := hA.1
          have hB0 := hB.1
          have hA1 : A ≤ 1000000000 := by omega
          have hB1 : B ≤ 1000000000 := by omega
          have HAB := Lib.hid (And.intro hA hB)
          clear hA hB
          obtain ⟨J, hJ⟩ : ∃ J, (j : Int) = J := ⟨_, rfl⟩
          have hJ0 : 0 ≤ J := by omega
          have hJ1 : J + 1 ≤ 9223372036854775807 := by omega
          rw [hJ]
          have HJ := Lib.hid hJ
          clear hJ
          go_wp2
          exact ⟨⟨j + 1, by omega, by rw [← HJ.out]; go_num, by rw [HX.out.1, HE.out.1], by rw [HX.out.2, HE.out.2], by have := HAB.out; rw [HX.out.1, HE.out.1]; omega, by have := HAB.out; rw [HX.out.2, HE.out.2]; omega, G3, Lib.hid HS.out⟩, by have hq := HJ.out; simp only [intOf]; omega⟩
    · obtain rfl : j = n := by omega
      have hfull : qs.take j = qs := List.take_of_length_le (by rw [HN.out]; exact Nat.le_refl _)
      rw [hfull] at hA hB ⊢
      have HY := Lib.hid (HYES.out HK.out (fun i hi => HA.out i hi (by rw [← HN.out]; exact hi)))
      obtain ⟨c0, c1, c2, c3⟩ := cells4 hb Gj HC.out
      generalize leastL qs = A at *
      generalize mostL qs = B at *
      by_cases h1 : p1 ≤ A
      · go_wp2
        go_ret
        exact ⟨by rw [HY.out, decide_eq_true h1]; rfl, Gj⟩
      · go_wp2
        go_ret
        exact ⟨by rw [HY.out, decide_eq_false (by omega : ¬ p1 ≤ A)]; rfl, Gj⟩
end Go.Proofs.YtaejnklgnegkhaaGreatDoor
namespace Go.Proofs.YtaejnklgnegkhaaGreatDoor
open Go.RowKit Pt

def allD1 (ps qs : List Pc) : Bool := match ps with
  | [p] => allCov p qs
  | _ => false
theorem allD1_ne {ps qs : List Pc} (h : ps.length ≠ 1) : allD1 ps qs = false := by
  match ps, h with
  | [], _ => rfl
  | [p], h => exact absurd rfl h
  | _ :: _ :: _, _ => rfl
abbrev AllF (v u : Value) (w : World) (b : Bool) : Prop := Calls Tryz.prog 92 #[v, u] w fun e w' => e = .returned (.bool b) ∧ w.grownBy w' none
set_option maxRecDepth 100000 in
theorem all_ne (w : World) (a : Option Addr) (n c : Nat) (u : Value) (h : n ≠ 1) : AllF (.slice a n c) u w false := by
  unfold AllF
  have h1 : ¬ (n : Int) = 1 := by omega
  have h2 : (n : Int) ≠ 1 := h1
  go_enter Tryz.func92, Tryz.ntmps92
  go_wp2
  go_ret
  exact ⟨rfl, gr_rfl w⟩
set_option maxRecDepth 100000 in
theorem all_nil (w : World) (g o c : Nat) (p : Pc) (hb : g < w.heap.size) (hp : PcsAt w g o [p]) : AllF (.slice (some ⟨g, o, none⟩) 1 c) (.slice none 0 0) w (allCov p []) := by
  unfold AllF
  have HP := Lib.hid (hp 0 (by simp))
  have HLIT := Lib.hid (fun (h : p.k = 0) => allCov_lit (qs := []) h)
  have HYES := Lib.hid (fun (hk : p.k ≠ 0) hs => allCov_yes (p := p) (qs := []) hk hs)
  generalize allCov p [] = R at *
  obtain ⟨p0, p1, p2, p3⟩ := p
  obtain ⟨c0, c1, c2, c3⟩ := HP.out
  simp only [List.getElem_cons_zero, Nat.zero_mul, Nat.add_zero] at c0 c1 c2 c3
  have HC := Lib.hid (And.intro c0 (And.intro c1 (And.intro c2 c3)))
  have HPL := Lib.hid (plit_any p0 p1 p2 p3)
  clear hp HP
  go_enter Tryz.func92, Tryz.ntmps92
  go_wp2_with fail
  refine (HPL.out _).mono ?_
  rintro e w1 ⟨rfl, g1⟩
  clear c0 c1 c2 c3
  cases hk : (p0 == 0)
  case true =>
    have hk0 : p0 = 0 := by simpa using hk
    have HL := Lib.hid (HLIT.out hk0)
    clear hk hk0
    go_wp2
    go_ret
    exact ⟨by rw [HL.out]; rfl, g1⟩
  have HK := Lib.hid (show p0 ≠ 0 from by simpa using hk)
  clear hk
  go_wp2_with fail
  go_loopw [5, 6, 22] (fun a b i wr => i = .int .i64 0 ∧ a = .int .i64 0 ∧ b = .int .i64 0 ∧ w1 = wr) (fun _ _ _ _ => 0)
  case atStart => exact ⟨rfl, rfl, rfl, rfl⟩
  case round =>
    obtain ⟨rfl, rfl, rfl, rfl⟩ := hrel
    have HY := Lib.hid (HYES.out HK.out (fun i hi => by simp at hi))
    obtain ⟨c0, c1, c2, c3⟩ := cells4 hb g1 HC.out
    by_cases h1 : p1 ≤ 0
    · go_wp2
      go_ret
      exact ⟨by rw [HY.out, show leastL [] = 0 from rfl, decide_eq_true h1]; rfl, g1⟩
    · go_wp2
      go_ret
      exact ⟨by rw [HY.out, show leastL [] = 0 from rfl, decide_eq_false (by omega : ¬ p1 ≤ 0)]; rfl, g1⟩
theorem pcall_any (w : World) (v u : Value) (ps qs : List Pc) (hp : Pcs w v ps) (hq : Pcs w u qs) (hn : qs.length ≤ 1000000) (hsz : ∀ q ∈ qs, q.t.size ≤ 1000)
    (hr : ∀ q ∈ qs, rightP q.k q.a q.b q.t = true) : AllF v u w (allD1 ps qs) := by
  by_cases h1 : ps.length = 1
  · match ps, h1, hp with
    | [p], _, hp =>
      rcases hp with ⟨_, h⟩ | ⟨g, o, c, rfl, hb, hp⟩
      · cases h
      · rcases hq with ⟨rfl, rfl⟩ | ⟨g', o', c', rfl, hb', hq⟩
        · exact all_nil w g o c p hb hp
        · exact all_some w g o c g' o' c' p qs hb hp hb' hq hn hsz hr
  · rw [allD1_ne h1]
    rcases hp with ⟨rfl, rfl⟩ | ⟨g, o, c, rfl, _, _⟩
    · exact all_ne w none 0 0 u h1
    · exact all_ne w _ _ c u h1
theorem tabis_grown {w w' : World} {name : String} {k : IntKind} {zs : List Int} (h : Lib.TabIs Tryz.prog w name k zs) (hg : w.grownBy w' none) : Lib.TabIs Tryz.prog w' name k zs := by
  unfold Lib.TabIs World.var? at *
  cases hq : Tryz.prog.globalNamed name with
  | none => simp [hq] at h
  | some g =>
    simp only [hq, Option.bind_some] at h ⊢
    have hlt : g < w.heap.size := by
      rcases Nat.lt_or_ge g w.heap.size with h' | h'
      · exact h'
      · rw [Array.getElem?_eq_none h'] at h; simp at h
    rw [hg.block g hlt (by simp)]
    exact h
/-- What Covers gives. -/
def coversL (ps qs : List Pc) : Bool := rightL ps && (rightL qs && (eachD ps qs || allD1 ps qs))
theorem right_all {ps : List Pc} (h : rightL ps = true) : ∀ p ∈ ps, rightP p.k p.a p.b p.t = true := by
  unfold rightL at h
  rw [Bool.and_eq_true, Bool.and_eq_true, List.all_eq_true] at h
  intro p hp
  obtain ⟨j, hj, rfl⟩ := List.getElem_of_mem hp
  have h1 := h.1.1 j (List.mem_range.2 hj)
  rw [good_some hj, Bool.and_eq_true] at h1
  exact h1.1
theorem right_lit {p : Pc} (h : rightP p.k p.a p.b p.t = true) (hk : p.k = 0) : p.a = 0 ∧ p.b = 0 := by
  unfold rightP at h
  rw [if_pos hk, Bool.and_eq_true, Bool.and_eq_true, Bool.and_eq_true, decide_eq_true_eq, decide_eq_true_eq] at h
  exact h.1.1
set_option maxRecDepth 100000 in
theorem pcovers_any (w : World) (v u : Value) (ps qs : List Pc) (ht : TabP w) (hp : Pcs w v ps) (hq : Pcs w u qs) (hn : ps.length ≤ 1000000) (hn' : qs.length ≤ 1000000) (hs : ∀ q ∈ ps, q.t.size ≤ 1000) (hs' : ∀ q ∈ qs, q.t.size ≤ 1000) :
    Calls Tryz.prog 62 #[v, u] w fun e w' => e = .returned (.bool (coversL ps qs)) ∧ w.grownBy w' none := by
  have H1 := Lib.hid (pright_any w v ps ht hp hn hs)
  have H2 := Lib.hid (fun (w1 : World) (g : w.grownBy w1 none) => pright_any w1 u qs (tabis_grown ht g) (hq.kept g) hn' hs')
  have H3 := Lib.hid (fun (w1 : World) (g : w.grownBy w1 none) (a : rightL ps = true) (b : rightL qs = true) => peach_any w1 v u ps qs (hp.kept g) (hq.kept g) hn hs' (fun p hp q hq h h' => by
    have x := right_lit (right_all a p hp) h
    have y := right_lit (right_all b q hq) h'
    exact ⟨x.1.trans y.1.symm, x.2.trans y.2.symm⟩))
  have H4 := Lib.hid (fun (w1 : World) (g : w.grownBy w1 none) (b : rightL qs = true) => pcall_any w1 v u ps qs (hp.kept g) (hq.kept g) hn' hs' (right_all b))
  unfold coversL
  generalize eachD ps qs = E at *
  generalize allD1 ps qs = D at *
  generalize rightL ps = r at *
  generalize rightL qs = r' at *
  clear hp hq ht hn hn' hs hs'
  go_enter Tryz.func62, Tryz.ntmps62
  go_wp2_with fail
  refine H1.out.mono ?_
  rintro e w1 ⟨rfl, g1⟩
  cases r
  · go_wp2
    go_ret
    exact ⟨rfl, g1⟩
  have K2 := Lib.hid (H2.out w1 g1)
  have G1 := Lib.hid g1
  clear g1
  go_wp2_with fail
  refine K2.out.mono ?_
  rintro e w2 ⟨rfl, g2⟩
  have G2 := gr_then G1.out g2
  clear g2
  cases r'
  · go_wp2
    go_ret
    exact ⟨rfl, G2⟩
  have K3 := Lib.hid (H3.out w2 G2 (by first | exact trivial | rfl) (by first | exact trivial | rfl))
  have G2h := Lib.hid G2
  clear G2
  go_wp2_with fail
  refine K3.out.mono ?_
  rintro e w3 ⟨rfl, g3⟩
  have G3 := gr_then G2h.out g3
  clear g3
  cases E
  · have K4 := Lib.hid (H4.out w3 G3 (by first | exact trivial | rfl))
    have G3h := Lib.hid G3
    clear G3
    unfold AllF at K4
    go_wp2_with fail
    refine K4.out.mono ?_
    rintro e w4 ⟨rfl, g4⟩
    have G4 := gr_then G3h.out g4
    clear g4
    go_wp2
    go_ret
    exact ⟨rfl, G4⟩
  · go_wp2
    go_ret
    exact ⟨rfl, G3⟩
end Go.Proofs.YtaejnklgnegkhaaGreatDoor
namespace Go.Proofs.YtaejnklgnegkhaaGreatDoor
open Go.RowKit Pt

/-- A pattern matches a text. -/
def matchL (ps : List Pc) (s : List UInt8) : Bool := rightL ps && isTextD s && rch ps s 0 s.length
theorem text_size {s : ByteArray} (h : isTextD s.data.toList = true) : s.size ≤ 200 := by
  rw [isText_iff, Bool.and_eq_true, decide_eq_true_eq] at h
  exact h.1
set_option maxRecDepth 100000 in
set_option maxHeartbeats 2000000 in
theorem pmatches_any (v : Value) (ps : List Pc) (s : ByteArray) (w : World) (ht : TabP w) (hp : Pcs w v ps) (hn : ps.length ≤ 1000000) (hs : s.size ≤ 1000000000000) (hsz : ∀ q ∈ ps, q.t.size ≤ 1000) :
    Calls Tryz.prog 33 #[v, .string s] w fun e w' => e = .returned (.bool (matchL ps s.data.toList)) ∧ w.grownBy w' none := by
  have H1 := Lib.hid (pright_any w v ps ht hp hn hsz)
  have H2 := Lib.hid (fun w1 => ptext_any s w1 hs)
  have HGE := Lib.hid (fun (w1 : World) (g : w.grownBy w1 none) (h1 : rightL ps = true) (h2 : isTextD s.data.toList = true) => great_any v ps s w1 (hp.kept g) hn (by have := text_size h2; omega) (right_all h1) hsz)
  clear ht hp hn hs hsz
  cases h1 : rightL ps
  case false =>
    have HM := Lib.hid (show matchL ps s.data.toList = false from by unfold matchL; rw [h1]; rfl)
    rw [h1] at H1
    clear h1
    go_enter Tryz.func33, Tryz.ntmps33
    go_wp2_with fail
    refine H1.out.mono ?_
    rintro e w1 ⟨rfl, g1⟩
    go_wp2
    go_ret
    exact ⟨by rw [HM.out]; rfl, g1⟩
  case true =>
    have HR := Lib.hid h1
    rw [h1] at H1
    cases h2 : isTextD s.data.toList
    case false =>
      have HM := Lib.hid (show matchL ps s.data.toList = false from by unfold matchL; rw [h2]; simp)
      rw [h2] at H2
      clear h1 h2
      go_enter Tryz.func33, Tryz.ntmps33
      go_wp2_with fail
      refine H1.out.mono ?_
      rintro e w1 ⟨rfl, g1⟩
      go_wp2_with fail
      refine (H2.out w1).mono ?_
      rintro e w2 ⟨rfl, rfl⟩
      go_wp2
      go_ret
      exact ⟨by rw [HM.out]; rfl, g1⟩
    case true =>
      have HM := Lib.hid (show matchL ps s.data.toList = (gr ps s.data.toList 0 == (s.size : Int)) from by
        unfold matchL; rw [h1, h2, show (s.size : Int) = ((s.data.toList.length : Nat) : Int) from rfl, gr_whole]; rfl)
      have HT := Lib.hid h2
      rw [h2] at H2
      clear h1 h2
      go_enter Tryz.func33, Tryz.ntmps33
      go_wp2_with fail
      refine H1.out.mono ?_
      rintro e w1 ⟨rfl, g1⟩
      go_wp2_with fail
      refine (H2.out w1).mono ?_
      rintro e w2 ⟨rfl, rfl⟩
      go_wp2_with fail
      refine (HGE.out w1 g1 HR.out HT.out).mono ?_
      rintro e w2 ⟨G, rfl, hr, g2, _⟩
      have c1 := hr.cell 0 _ (tab_get (Nat.zero_le _))
      clear hr
      go_wp2
      go_ret
      exact ⟨by rw [HM.out]; rfl, gr_then g1 g2⟩
end Go.Proofs.YtaejnklgnegkhaaGreatDoor
namespace Go.Proofs.YtaejnklgnegkhaaGreatDoor
open Go.RowKit Go.Shelf Pt
attribute [local go_sem] Oper.semAt_some

/-- The finds of a pattern. -/
def findsL (ps : List Pc) (s : List UInt8) : List (Nat × Nat) := if rightL ps && isTextD s then findsP (gr ps s) (s.length + 1) 0 0 else []
/-- What a round must keep for the iterator: all cells from a block on. -/
def KpU (B : Nat) (W W' : World) : Prop := ∀ b i v, B ≤ b → W.cell? ⟨b, i, none⟩ = some v → W'.cell? ⟨b, i, none⟩ = some v
theorem KpU.trans {B : Nat} {W1 W2 W3 : World} (h : KpU B W1 W2) (g : KpU B W2 W3) : KpU B W1 W3 := fun b i v h1 hv => g b i v h1 (h b i v h1 hv)
theorem KpU.of_grown {B : Nat} {W W' : World} {row : Option Nat} (hg : W.grownBy W' row) (h : ∀ b, B ≤ b → row ≠ some b) : KpU B W W' :=
  fun b _ _ h1 hc => hg.cell hc (fun e => h b h1 e.symm)
theorem KpU.of_put {B l : Nat} {W : World} {o o' : Obj} (hl : W.heap[l]? = some o) (ho : o.isCells = false) : KpU B W (W.putObj l o') :=
  fun _ _ _ _ hv => cell_kept hv (grownBy_putObj' W l o') (fun r e => by cases e; exact ⟨o, hl, ho⟩)
/-- Two places in a text of so many bytes. -/
abbrev Span (L : Nat) := { x : Nat × Nat // x.1 ≤ L ∧ x.2 ≤ L }
abbrev encF (L : Nat) (x : Span L) : Array Value := #[Value.int .i64 (x.1.1 : Int), Value.int .i64 (x.1.2 : Int)]
def SFinds (L : Nat) (ps : List Pc) (s : List UInt8) (xs : List (Span L)) : Prop := xs.map (·.1) = findsL ps s
def PFinds (L : Nat) (ps : List Pc) (s : List UInt8) (xs : List (Span L)) : Prop := xs.map (·.1) <+: findsL ps s
theorem findsP_no {g : Nat → Int} {f b pl : Nat} (h : (b : Int) < pl ∨ g b ≤ b) : findsP g (f + 1) b pl = findsP g f (b + 1) pl := if_pos h
theorem findsP_yes {g : Nat → Int} {f b pl : Nat} (h : ¬ ((b : Int) < pl ∨ g b ≤ b)) : findsP g (f + 1) b pl = (b, (g b).toNat) :: findsP g f (b + 1) (g b).toNat := if_neg h

theorem pcs_below {w W : World} {v : Value} {ps : List Pc} (h : Pcs w v ps) (hb : Below w.heap.size w W) : Pcs W v ps :=
  h.kept ⟨hb.os, hb.tape, hb.output, hb.size, fun k hk _ => hb.block k hk⟩
theorem tabp_below {w W : World} (h : TabP w) (hb : Below w.heap.size w W) : TabP W :=
  tabis_grown h ⟨hb.os, hb.tape, hb.output, hb.size, fun k hk _ => hb.block k hk⟩

end Go.Proofs.YtaejnklgnegkhaaGreatDoor
namespace Go.Proofs.YtaejnklgnegkhaaGreatDoor
open Go.RowKit Go.Shelf Pt Sh
attribute [local go_sem] Oper.semAt_some

/-- What a round must keep for the iterator: all cells below a block. -/
def KpD (C : Nat) (W W' : World) : Prop := ∀ b i v, b < C → W.cell? ⟨b, i, none⟩ = some v → W'.cell? ⟨b, i, none⟩ = some v
theorem KpD.trans {C : Nat} {W1 W2 W3 : World} (h : KpD C W1 W2) (g : KpD C W2 W3) : KpD C W1 W3 := fun b i v h1 hv => g b i v h1 (h b i v h1 hv)
theorem KpD.of_grown {C : Nat} {W W' : World} {row : Option Nat} (hg : W.grownBy W' row) (h : ∀ b, b < C → row ≠ some b) : KpD C W W' :=
  fun b _ _ h1 hc => hg.cell hc (fun e => h b h1 e.symm)
theorem KpD.of_put {C l : Nat} {W : World} {o o' : Obj} (hl : W.heap[l]? = some o) (ho : o.isCells = false) : KpD C W (W.putObj l o') :=
  fun _ _ _ _ hv => cell_kept hv (grownBy_putObj' W l o') (fun r e => by cases e; exact ⟨o, hl, ho⟩)
/-- All pairs, the first ones of them. -/
def SPr (l xs : List (UInt8 × UInt8)) : Prop := xs = l
def PPr (l pre : List (UInt8 × UInt8)) : Prop := pre <+: l
abbrev encP (x : UInt8 × UInt8) : Array Value := #[Value.int .u8 (x.1.toNat : Int), Value.int .u8 (x.2.toNat : Int)]

set_option maxRecDepth 100000 in
set_option maxHeartbeats 2000000 in
theorem first_stops (n B : Nat) (a b : ByteArray) (w : World) (hc1 : w.cell? ⟨B, 0, none⟩ = some (.string a)) (hc2 : w.cell? ⟨B + 1, 0, none⟩ = some (.string b)) (ha : a.size ≤ 1000000) :
    SeqStopsK Fence.wide n Tryz.prog 105 #[.pointer (some ⟨B, 0, none⟩), .pointer (some ⟨B + 1, 0, none⟩)] encP (KpD (B + 2)) (SPr (pairsF a b)) (PPr (pairsF a b)) (a.size + 1) w := fun l J Jx W hbl hJ _ hY h0 => by
  have key : ∀ b i v, w.cell? ⟨b, i, none⟩ = some v → W.cell? ⟨b, i, none⟩ = some v := fun b i v h => by
    rw [hbl.cell (p := ⟨b, i, none⟩) (World.block_lt_of_cell? w _ h)]; exact h
  have d1 := key _ _ _ hc1
  have d2 := key _ _ _ hc2
  have HD := Lib.hid (And.intro d1 d2)
  obtain ⟨m, hm⟩ : ∃ m, min a.size b.size = m := ⟨_, rfl⟩
  have hmi : min (a.size : Int) (b.size : Int) = (m : Int) := by omega
  have hma : m ≤ a.size := by omega
  have hmb : m ≤ b.size := by omega
  have HL := Lib.hid (show (pairsF a b).length = m from by rw [pairsF_len, hm])
  refine callsIn_of_wp Tryz.func105 rfl trivial ?_ rfl
  simp only [Tryz.ntmps105, List.size_toArray, List.length_cons, List.length_nil, Nat.reduceAdd, Nat.reduceSub, Array.replicate_succ, Array.replicate_zero, List.push_toArray, List.append_toArray, List.nil_append, List.cons_append]
  clear hc1 hc2 key hbl hm
  gi_wp2
  gi_loopw [10] (fun i wr => ∃ j : Nat, i = .int .i64 (j : Int) ∧ j ≤ m ∧ J ((pairsF a b).take j) wr ∧ Hid (wr.cell? ⟨B, 0, none⟩ = some (.string a) ∧ wr.cell? ⟨B + 1, 0, none⟩ = some (.string b))) (fun i _ => m + 1 - (intOf i).toNat)
  case atStart => exact ⟨0, rfl, Nat.zero_le _, h0, HD⟩
  case round =>
    obtain ⟨j, rfl, hj, hJr, HC⟩ := hrel
    by_cases hlt : j < m
    · have hlti : (j : Int) < (m : Int) := by omega
      have hja : j < a.size := by omega
      have hjb : j < b.size := by omega
      have hjai : (j : Int) < (a.size : Int) := by omega
      have hjbi : (j : Int) < (b.size : Int) := by omega
      have HN := Lib.hid (zip_next (pairsF_at hja hjb))
      have hJ2 : J ((pairsF a b).take j) wr.drew := hJ _ _ _ _ hJr (gr_drewN _ 1 none) (fun _ e => by cases e)
      obtain ⟨fn, tmps, assign, body, hy, hR⟩ := hY _ (a[j], b[j]) _ hJ2 (by have := List.length_take_le j (pairsF a b); omega)
      rw [show encP (a[j], b[j]) = #[Value.int .u8 (a[j].toNat : Int), Value.int .u8 (b[j].toNat : Int)] from rfl] at hy
      obtain ⟨c1, c2⟩ := HC.out
      have hmx : Tryz.prog.follows .mixedOrders = true := by kernel_rfl
      gi_wp2
      gi_region_with_o (refine ⟨fun h => absurd h (by decide), ?_⟩; refine hR.mono ?_; rintro e' W3 hpost; obtain ⟨q, rfl, hq⟩ : ∃ q, e' = .returned (.bool q) ∧ ((q = true ∧ J ((pairsF a b).take j ++ [(a[j], b[j])]) W3 ∧ KpD (B + 2) wr.drew W3) ∨ (q = false ∧ Jx ((pairsF a b).take j ++ [(a[j], b[j])]) W3)) := (by rcases hpost with ⟨rfl, h1, h2⟩ | ⟨rfl, h1⟩; exact ⟨true, rfl, .inl ⟨rfl, h1, h2⟩⟩; exact ⟨false, rfl, .inr ⟨rfl, h1⟩⟩))
      all_goals
        have HQ := Lib.hid hq
        clear hq hy c1 c2 hJ2
        cases q
        · have HX := Lib.hid (show PPr (pairsF a b) ((pairsF a b).take j ++ [(a[j], b[j])]) ∧ Jx ((pairsF a b).take j ++ [(a[j], b[j])]) W3 from by
            rcases HQ.out with ⟨h, _⟩ | ⟨_, h⟩
            · cases h
            · exact ⟨by unfold PPr; rw [← HN.out]; exact List.take_prefix _ _, h⟩)
          gi_wp2
          refine bodyPost_ret (results_none rfl _ _ _) rfl ?_
          exact ⟨⟨_, rfl⟩, .inr ⟨_, HX.out.1, HX.out.2⟩⟩
        · have HX := Lib.hid (show J ((pairsF a b).take (j + 1)) W3 ∧ KpD (B + 2) wr.drew W3 from by
            rcases HQ.out with ⟨_, h⟩ | ⟨h, _⟩
            · rw [HN.out]; exact h
            · cases h)
          have HC3 := Lib.hid (show W3.cell? ⟨B, 0, none⟩ = some (.string a) ∧ W3.cell? ⟨B + 1, 0, none⟩ = some (.string b) from
            ⟨HX.out.2 B 0 _ (by omega) (by have := HC.out.1; simpa using this), HX.out.2 (B + 1) 0 _ (by omega) (by have := HC.out.2; simpa using this)⟩)
          gi_wp2
          exact ⟨⟨j + 1, by simp, by omega, HX.out.1, HC3⟩, by simp only [intOf]; omega⟩
    · have hlti : ¬ (j : Int) < (m : Int) := by omega
      have HS := Lib.hid (show SPr (pairsF a b) ((pairsF a b).take j) from List.take_of_length_le (by rw [HL.out]; omega))
      gi_wp2
      go_end0
      exact ⟨⟨_, rfl⟩, .inl ⟨_, HS.out, hJr⟩⟩
end Go.Proofs.YtaejnklgnegkhaaGreatDoor
namespace Go.Proofs.YtaejnklgnegkhaaGreatDoor
open Go.RowKit Go.Shelf Pt
attribute [local go_sem] Oper.semAt_some

/-- The find number n, and whether there is one. -/
def findL (fs : List (Nat × Nat)) (n : Int) : Nat × Nat × Bool := if 1 ≤ n then (match fs[n.toNat - 1]? with | some x => (x.1, x.2, true) | none => (0, 0, false)) else (0, 0, false)
theorem find_no {fs : List (Nat × Nat)} {n : Int} (h : ∀ k, k < fs.length → (k : Int) + 1 ≠ n) : findL fs n = (0, 0, false) := by
  unfold findL
  by_cases h1 : 1 ≤ n
  · rw [if_pos h1]
    have : fs.length ≤ n.toNat - 1 := by
      rcases Nat.lt_or_ge (n.toNat - 1) fs.length with h2 | h2
      · exact absurd (show ((n.toNat - 1 : Nat) : Int) + 1 = n from by omega) (h _ h2)
      · exact h2
    rw [List.getElem?_eq_none this]
  · rw [if_neg h1]
theorem find_yes {fs pre : List (Nat × Nat)} {x : Nat × Nat} (h : pre ++ [x] <+: fs) : findL fs ((pre.length : Int) + 1) = (x.1, x.2, true) := by
  obtain ⟨t, rfl⟩ := h
  unfold findL
  rw [if_pos (by omega), show ((pre.length : Int) + 1).toNat - 1 = pre.length from by omega]
  simp
theorem below_set {n b i : Nat} {w W : World} {v : Value} (h : Below n w W) (hb : n ≤ b) : Below n w (W.setCell ⟨b, i, none⟩ v) := h.setCell (p := ⟨b, i, none⟩) hb v
theorem run_loadVar_box {P : Program} {ty : TypeId} {w : World} {b : Nat} {v : Value} (h : w.cell? ⟨b, 0, none⟩ = some v) (hs : ∀ w, Sem.run P (isAgg ty) w = .ok false w) : (loadVar ty ⟨b, 0, none⟩).run P w = .ok v w := by
  simp [loadVar, Sem.run_bind, hs, h, go_sem]
theorem results_box3 {fn : Func} {p1 p2 p3 : Tmp} {t1 t2 t3 : TypeId} {P : Program} (h : fn.results = #[.cell p1 t1, .cell p2 t2, .cell p3 t3]) (tmps : Array Value) (w : World) (b1 b2 b3 : Nat) (v1 v2 v3 : Value) (hp1 : tmps.getD p1 undef = .pointer (some ⟨b1, 0, none⟩)) (hp2 : tmps.getD p2 undef = .pointer (some ⟨b2, 0, none⟩)) (hp3 : tmps.getD p3 undef = .pointer (some ⟨b3, 0, none⟩)) (hb1 : w.cell? ⟨b1, 0, none⟩ = some v1) (hb2 : w.cell? ⟨b2, 0, none⟩ = some v2) (hb3 : w.cell? ⟨b3, 0, none⟩ = some v3) (hs1 : ∀ w, Sem.run P (isAgg t1) w = .ok false w) (hs2 : ∀ w, Sem.run P (isAgg t2) w = .ok false w) (hs3 : ∀ w, Sem.run P (isAgg t3) w = .ok false w) :
    (results fn tmps).run P w = .ok (.tuple #[v1, v2, v3]) w := by
  have hp1' : tmps[p1]?.getD undef = .pointer (some ⟨b1, 0, none⟩) := by simpa using hp1
  have hp2' : tmps[p2]?.getD undef = .pointer (some ⟨b2, 0, none⟩) := by simpa using hp2
  have hp3' : tmps[p3]?.getD undef = .pointer (some ⟨b3, 0, none⟩) := by simpa using hp3
  simp [results, h, hp1', hp2', hp3', asAddr, run_loadVar_box hb1 hs1, run_loadVar_box hb2 hs2, run_loadVar_box hb3 hs3]
theorem gr_of_below {n : Nat} {w W : World} (hb : Below n w W) (hn : w.heap.size ≤ n) : w.grownBy W none :=
  ⟨hb.os, hb.tape, hb.output, hb.size, fun k hk _ => hb.block k (by omega)⟩

theorem zip_two (L : Nat) (a b : Tmp) (x : Span L) : (#[a, b] : Array Tmp).zip (encF L x) = #[(a, .int .i64 (x.1.1 : Int)), (b, .int .i64 (x.1.2 : Int))] := by
  unfold encF
  simp [List.zip_toArray]
/-- Count's variable between two rounds. -/
def CI (w : World) (B : Nat) (k : Nat) (W : World) : Prop := Row W B [.int .i64 (k : Int)] 3 ∧ Below w.heap.size w W
end Go.Proofs.YtaejnklgnegkhaaGreatDoor
namespace Go.Proofs.YtaejnklgnegkhaaGreatDoor
open Go.RowKit Go.Shelf Pt
attribute [local go_sem] Oper.semAt_some

/-- Find's variables: the number that is asked for, the three results, the number of finds so far. -/
structure FI (w : World) (B : Nat) (nth a b : Int) (c : Bool) (k : Nat) (W : World) : Prop where
  r0 : Row W B [.int .i64 nth] 3
  r1 : Row W (B + 1) [.int .i64 a] 3
  r2 : Row W (B + 1 + 1) [.int .i64 b] 3
  r3 : Row W (B + 1 + 1 + 1) [.bool c] 4
  r4 : Row W (B + 1 + 1 + 1 + 1) [.int .i64 (k : Int)] 3
theorem FI.own {w W W' : World} {B : Nat} {nth a b : Int} {c : Bool} {k : Nat} {row : Option Nat} (h : FI w B nth a b c k W) (hg : W.grownBy W' row) (hr : ∀ r, row = some r → ∃ o : Obj, W.heap[r]? = some o ∧ o.isCells = false) : FI w B nth a b c k W' :=
  ⟨h.r0.own hg hr, h.r1.own hg hr, h.r2.own hg hr, h.r3.own hg hr, h.r4.own hg hr⟩
theorem FI.kept {w W W' : World} {B : Nat} {nth a b : Int} {c : Bool} {k : Nat} (h : FI w B nth a b c k W) (hg : W.grownBy W' none) : FI w B nth a b c k W' :=
  h.own hg (fun _ e => by cases e)
theorem FI.s4 {w W : World} {B : Nat} {nth a b : Int} {c : Bool} {k : Nat} (h : FI w B nth a b c k W) : FI w B nth a b c (k + 1) (W.setCell ⟨B + 1 + 1 + 1 + 1, 0, none⟩ (.int .i64 ((k : Int) + 1))) :=
  ⟨h.r0.other (by omega), h.r1.other (by omega), h.r2.other (by omega), h.r3.other (by omega), by have := h.r4.set 0 (.int .i64 ((k : Int) + 1)); simpa using this⟩
theorem FI.s1 {w W : World} {B : Nat} {nth a b : Int} {c : Bool} {k : Nat} (h : FI w B nth a b c k W) (x : Int) : FI w B nth x b c k (W.setCell ⟨B + 1, 0, none⟩ (.int .i64 x)) :=
  ⟨h.r0.other (by omega), h.r1.set 0 _, h.r2.other (by omega), h.r3.other (by omega), h.r4.other (by omega)⟩
theorem FI.s2 {w W : World} {B : Nat} {nth a b : Int} {c : Bool} {k : Nat} (h : FI w B nth a b c k W) (x : Int) : FI w B nth a x c k (W.setCell ⟨B + 1 + 1, 0, none⟩ (.int .i64 x)) :=
  ⟨h.r0.other (by omega), h.r1.other (by omega), h.r2.set 0 _, h.r3.other (by omega), h.r4.other (by omega)⟩
theorem FI.s3 {w W : World} {B : Nat} {nth a b : Int} {c : Bool} {k : Nat} (h : FI w B nth a b c k W) (x : Bool) : FI w B nth a b x k (W.setCell ⟨B + 1 + 1 + 1, 0, none⟩ (.bool x)) :=
  ⟨h.r0.other (by omega), h.r1.other (by omega), h.r2.other (by omega), h.r3.set 0 _, h.r4.other (by omega)⟩
/-- A round has found what was asked for. -/
def FX (nth : Int) {L : Nat} (pre : List (Span L)) (a b : Int) : Prop := ∃ p x, pre = p ++ [x] ∧ (p.length : Int) + 1 = nth ∧ a = (x.1.1 : Int) ∧ b = (x.1.2 : Int)
abbrev findV (fs : List (Nat × Nat)) (n : Int) : Value := .tuple #[.int .i64 ((findL fs n).1 : Nat), .int .i64 ((findL fs n).2.1 : Nat), .bool (findL fs n).2.2]
theorem fnd_rows (w : World) (nth : Int) : FI w w.heap.size nth 0 0 false 0 (((((w.alloc (.cells #[.int .i64 nth] 3)).alloc (.cells #[.int .i64 0] 3)).alloc (.cells #[.int .i64 0] 3)).alloc (.cells #[.bool false] 4)).alloc (.cells #[.int .i64 0] 3)) := by
  have r0 := Row.new w [.int .i64 nth] 3
  have r1 := Row.new (w.alloc (.cells #[.int .i64 nth] 3)) [.int .i64 0] 3
  have r2 := Row.new ((w.alloc (.cells #[.int .i64 nth] 3)).alloc (.cells #[.int .i64 0] 3)) [.int .i64 0] 3
  have r3 := Row.new (((w.alloc (.cells #[.int .i64 nth] 3)).alloc (.cells #[.int .i64 0] 3)).alloc (.cells #[.int .i64 0] 3)) [.bool false] 4
  have r4 := Row.new ((((w.alloc (.cells #[.int .i64 nth] 3)).alloc (.cells #[.int .i64 0] 3)).alloc (.cells #[.int .i64 0] 3)).alloc (.cells #[.bool false] 4)) [.int .i64 0] 3
  simp only [List.toArray, World.size_alloc] at r0 r1 r2 r3 r4
  exact ⟨r0.al.al.al.al, r1.al.al.al, r2.al.al, r3.al, r4⟩

end Go.Proofs.YtaejnklgnegkhaaGreatDoor
