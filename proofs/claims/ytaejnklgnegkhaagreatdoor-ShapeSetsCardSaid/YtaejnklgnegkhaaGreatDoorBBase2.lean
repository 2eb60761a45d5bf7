/- Contracts of the program and of the reference, part 2: Sv, Sc, Sd, Se, Sf, Sg. -/
import Derived.Test.YtaejnklgnegkhaaGreatDoorBBase1
import Derived.BigQuiet
namespace Go.Proofs.YtaejnklgnegkhaaGreatDoor
open Pt

namespace Sh
open Classical
theorem bt_zero {z : Int} (h : ∀ i, bit z i = false) : bt z = 0#64 := by
  apply BitVec.eq_of_getLsbD_eq
  intro i hi
  rw [BitVec.getLsbD_zero]
  exact h i
theorem and_eq {z y : Int} : bits .and .i64 z y = IntKind.i64.wrap ((bt z &&& bt y).toNat : Int) := rfl
/-- Bits of characters: one of them is set. -/
theorem some_bit {z : Int} (h : bits .and .i64 z 110 ≠ 0) : ∃ c : UInt8, clsD c.toNat ≠ 0 ∧ bit (bits .and .i64 z 110) (clsD c.toNat) = true := by
  rcases Classical.em (∃ i, bit (bits .and .i64 z 110) i = true) with ⟨i, hi⟩ | hno
  · have h110 : bit 110 i = true := by rw [bit_and, Bool.and_eq_true] at hi; exact hi.2
    have hi7 : i < 7 := by
      rcases Nat.lt_or_ge i 7 with h7 | h7
      · exact h7
      · exfalso
        unfold bit bt at h110
        rw [show (110 : Int) = ((110 : Nat) : Int) from rfl, BitVec.ofInt_natCast, BitVec.getLsbD_ofNat] at h110
        rw [Nat.testBit_lt_two_pow (show 110 < 2 ^ i from Nat.lt_of_lt_of_le (by decide : 110 < 2 ^ 7) (Nat.pow_le_pow_right (by decide) h7))] at h110
        simp at h110
    rw [bit110 i (by omega), decide_eq_true_eq] at h110
    have hc : i = 1 ∨ i = 2 ∨ i = 3 ∨ i = 5 ∨ i = 6 := by omega
    rcases hc with rfl | rfl | rfl | rfl | rfl
    · exact ⟨48, by decide, hi⟩
    · exact ⟨65, by decide, hi⟩
    · exact ⟨97, by decide, hi⟩
    · exact ⟨32, by decide, hi⟩
    · exact ⟨45, by decide, hi⟩
  · exfalso
    apply h
    have hz : ∀ i, bit (bits .and .i64 z 110) i = false := fun i => by
      rw [Bool.eq_false_iff]; exact fun h2 => hno ⟨i, h2⟩
    have h2 := bt_zero hz
    rw [bt_and] at h2
    rw [and_eq, h2]; rfl
theorem sub_text {l : List UInt8} {z : Int} (h : Sub (cbI l) (bits .and .i64 z 110)) : allD l 7 = true := by
  rw [← text_sub]
  intro i hi
  have := h i hi
  rw [bit_and, Bool.and_eq_true] at this
  exact this.2
/-- A shape that is not empty contains a text. -/
theorem has_in {a : S5} (h : hasD (ownD a)) : ∃ s, inD a s := by
  obtain ⟨hb, n, h1, h2, h3⟩ := h
  obtain ⟨hb1, hb2⟩ := cb_or.1 hb
  have h1' : max (max a.l (a.b.size : Int)) (a.e.size : Int) ≤ n := h1
  have h2' : n ≤ min a.m 200 := h2
  have eb : a.b.data.toList.length = a.b.size := rfl
  have ee : a.e.data.toList.length = a.e.size := rfl
  have key : ∀ s : List UInt8, (s.length : Int) = n → Sub (cbI s) (bits .and .i64 a.c 110) → a.b.data.toList <+: s → a.e.data.toList <:+ s → inD a s := by
    intro s hs hc hp hq
    refine ⟨text_iff.2 ⟨by omega, sub_text hc⟩, by omega, by omega, (sub_and.1 hc).1, hp, hq⟩
  unfold canD at h3
  by_cases hlt : ((ownD a).b.size : Int) + ((ownD a).e.size : Int) < n
  · rw [if_pos hlt] at h3
    have hlt' : (a.b.size : Int) + (a.e.size : Int) < n := hlt
    obtain ⟨c, hc0, hc⟩ := some_bit h3
    refine ⟨a.b.data.toList ++ (List.replicate (n.toNat - a.b.size - a.e.size) c ++ a.e.data.toList), key _ ?_ ?_ (List.prefix_append _ _) ?_⟩
    · rw [List.length_append, List.length_append, List.length_replicate]; omega
    · rw [cb_sub] at *
      intro x hx
      rcases List.mem_append.1 hx with hx | hx
      · exact hb1 x hx
      · rcases List.mem_append.1 hx with hx | hx
        · rw [(List.mem_replicate.1 hx).2]; exact hc
        · exact hb2 x hx
    · rw [← List.append_assoc]; exact List.suffix_append _ _
  · rw [if_neg hlt] at h3
    have hlt' : ¬ (a.b.size : Int) + (a.e.size : Int) < n := hlt
    have h3' : a.b.data.toList.drop (n - (a.e.size : Int)).toNat <+: a.e.data.toList := h3
    obtain ⟨k, hk⟩ : ∃ k : Nat, n - (a.e.size : Int) = (k : Int) := ⟨(n - (a.e.size : Int)).toNat, by omega⟩
    rw [hk, Int.toNat_natCast] at h3'
    refine ⟨a.b.data.toList.take k ++ a.e.data.toList, key _ ?_ ?_ ?_ (List.suffix_append _ _)⟩
    · rw [List.length_append, List.length_take]; omega
    · rw [cb_sub] at *
      intro x hx
      rcases List.mem_append.1 hx with hx | hx
      · exact hb1 x (List.mem_of_mem_take hx)
      · exact hb2 x hx
    · obtain ⟨r, hr⟩ := h3'
      refine ⟨r, ?_⟩
      rw [← hr, ← List.append_assoc, List.take_append_drop]
theorem not_empty {a : S5} (h : ¬ emptyD a) : ∃ s, inD a s := by
  rw [empty_iff, Classical.not_not] at h
  exact has_in h
theorem empty_none {a : S5} : emptyD a ↔ ¬ ∃ s, inD a s := by
  constructor
  · rintro h ⟨s, hs⟩; exact in_not_none hs h
  · intro h
    rcases Classical.em (emptyD a) with h1 | h1
    · exact h1
    · exact absurd (not_empty h1) h
theorem canon_own {a : S5} (h : ¬ emptyD a) : canonD a = ownD a := (in_canon (not_empty h).choose_spec).1
theorem conc_empty {a b : S5} (h : emptyD a ∨ emptyD b) : emptyD (concD a b) := by
  unfold concD
  rw [if_pos (by rcases h with h | h; exact .inl h; exact .inr (.inl h)), empty_iff]
  exact none_own
/-- The order does not matter. -/
theorem cpre_comm : ∀ (x y : List UInt8), cpre x y = cpre y x
  | [], [] => rfl
  | [], _ :: _ => rfl
  | _ :: _, [] => rfl
  | x :: xs, y :: ys => by
    unfold cpre
    by_cases h : x = y
    · rw [if_pos h, if_pos h.symm, cpre_comm xs ys, h]
    · rw [if_neg h, if_neg (fun g => h g.symm)]
theorem csuf_comm (x y : List UInt8) : csuf x y = csuf y x := by unfold csuf; rw [cpre_comm]
theorem or_comm' (x y : Int) : bits .or .i64 x y = bits .or .i64 y x := by
  show IntKind.i64.wrap ((bt x ||| bt y).toNat : Int) = IntKind.i64.wrap ((bt y ||| bt x).toNat : Int)
  rw [BitVec.or_comm]
theorem and_comm' (x y : Int) : bits .and .i64 x y = bits .and .i64 y x := by
  show IntKind.i64.wrap ((bt x &&& bt y).toNat : Int) = IntKind.i64.wrap ((bt y &&& bt x).toNat : Int)
  rw [BitVec.and_comm]
theorem join_comm {a b : S5} (ha : ¬ emptyD a) (hb : ¬ emptyD b) : joinD a b = joinD b a := by
  have ha' : canonD a ≠ none5 := ha
  have hb' : canonD b ≠ none5 := hb
  unfold joinD
  rw [if_neg ha', if_neg hb', if_neg hb', if_neg ha', Int.min_comm, Int.max_comm, or_comm', cpre_comm, csuf_comm]
theorem long_comm {a b : ByteArray} (h : (shortB a b).data.toList <+: (longB a b).data.toList ∨ (shortB a b).data.toList <:+ (longB a b).data.toList) : longB a b = longB b a ∧ shortB a b = shortB b a := by
  have e1 : a.data.toList.length = a.size := rfl
  have e2 : b.data.toList.length = b.size := rfl
  unfold longB shortB at *
  by_cases h1 : a.size < b.size
  · rw [if_pos h1, if_pos h1, if_neg (by omega), if_neg (by omega)]; exact ⟨rfl, rfl⟩
  · rw [if_neg h1, if_neg h1] at h
    by_cases h2 : b.size < a.size
    · rw [if_neg h1, if_neg h1, if_pos h2, if_pos h2]; exact ⟨rfl, rfl⟩
    · have hl : b.data.toList = a.data.toList := by
        rcases h with h | h
        · exact h.eq_of_length (by omega)
        · exact h.eq_of_length (by omega)
      have : a = b := by
        apply ByteArray.ext
        exact (Array.toList_inj.1 hl).symm
      subst this
      exact ⟨rfl, rfl⟩
theorem meet_comm (a b : S5) : meetD a b = meetD b a := by
  have key : ∀ x y : S5, ((shortB x.b y.b).data.toList <+: (longB x.b y.b).data.toList ∧ (shortB x.e y.e).data.toList <:+ (longB x.e y.e).data.toList) → meetD x y = meetD y x := by
    intro x y h
    obtain ⟨p1, p2⟩ := long_comm (.inl h.1)
    obtain ⟨q1, q2⟩ := long_comm (.inr h.2)
    unfold meetD
    rw [if_pos h, if_pos (by rw [← p1, ← p2, ← q1, ← q2]; exact h), p1, q1, Int.max_comm, Int.min_comm, and_comm']
  rcases Classical.em ((shortB a.b b.b).data.toList <+: (longB a.b b.b).data.toList ∧ (shortB a.e b.e).data.toList <:+ (longB a.e b.e).data.toList) with h | h
  · exact key a b h
  · rcases Classical.em ((shortB b.b a.b).data.toList <+: (longB b.b a.b).data.toList ∧ (shortB b.e a.e).data.toList <:+ (longB b.e a.e).data.toList) with g | g
    · exact (key b a g).symm
    · unfold meetD; rw [if_neg h, if_neg g]
theorem with_refl (a : S5) : withD a a := .inr ⟨Int.le_refl _, Int.le_refl _, fun _ h => h, List.prefix_refl _, List.suffix_refl _⟩
theorem cpre_len (x y : List UInt8) : (cpre x y).length ≤ x.length := (cpre_left x y).length_le
theorem csuf_len (x y : List UInt8) : (csuf x y).length ≤ x.length := (csuf_left x y).length_le
theorem with_join {a b : S5} (ha : ¬ emptyD a) (hb : ¬ emptyD b) : withD a (joinD a b) := by
  have ha' : canonD a ≠ none5 := ha
  have hb' : canonD b ≠ none5 := hb
  obtain ⟨s, hs⟩ := not_empty ha
  have e2 : canonD (joinD a b) = ownD (joinD a b) := (in_canon (in_join (.inl hs))).1
  have e3 : joinD a b = ⟨min (canonD a).l (canonD b).l, max (canonD a).m (canonD b).m, bits .or .i64 (canonD a).c (canonD b).c, BA (cpre (canonD a).b.data.toList (canonD b).b.data.toList), BA (csuf (canonD a).e.data.toList (canonD b).e.data.toList)⟩ := by
    unfold joinD; rw [if_neg ha', if_neg hb']
  have hx := canon_own ha
  right
  rw [e2, e3, hx]
  have l1 := cpre_len (ownD a).b.data.toList (canonD b).b.data.toList
  have l2 := csuf_len (ownD a).e.data.toList (canonD b).e.data.toList
  have eb : (ownD a).b.data.toList.length = a.b.size := rfl
  have ee : (ownD a).e.data.toList.length = a.e.size := rfl
  have s1 : (BA (cpre (ownD a).b.data.toList (canonD b).b.data.toList)).size = (cpre (ownD a).b.data.toList (canonD b).b.data.toList).length := rfl
  have s2 : (BA (csuf (ownD a).e.data.toList (canonD b).e.data.toList)).size = (csuf (ownD a).e.data.toList (canonD b).e.data.toList).length := rfl
  have hl : (ownD a).l = max (max a.l (a.b.size : Int)) (a.e.size : Int) := rfl
  have hm : (ownD a).m = min a.m 200 := rfl
  refine ⟨?_, ?_, ?_, cpre_left _ _, csuf_left _ _⟩
  · show max (max (min (ownD a).l (canonD b).l) ((BA (cpre (ownD a).b.data.toList (canonD b).b.data.toList)).size : Int)) ((BA (csuf (ownD a).e.data.toList (canonD b).e.data.toList)).size : Int) ≤ (ownD a).l
    rw [s1, s2]
    omega
  · show (ownD a).m ≤ min (max (ownD a).m (canonD b).m) 200
    omega
  · show Sub (ownD a).c (bits .and .i64 (bits .or .i64 (ownD a).c (canonD b).c) 110)
    rw [sub_and]
    exact ⟨sub_or_left (fun _ h => h), fun i hi => by
      have : bit (bits .and .i64 a.c 110) i = true := hi
      rw [bit_and, Bool.and_eq_true] at this
      exact this.2⟩
theorem long_size (a b : ByteArray) : a.size ≤ (longB a b).size := by
  unfold longB; split <;> omega
theorem with_meet (a b : S5) : withD (meetD a b) a := by
  rcases Classical.em (emptyD (meetD a b)) with h | h
  · exact .inl h
  · obtain ⟨s, hs⟩ := not_empty h
    have hb := in_meet.1 hs
    have e1 := (in_canon hs).1
    have e2 := (in_canon hb.1).1
    have hf := And.intro (fit_pre hb.1.2.2.2.2.1 hb.2.2.2.2.2.1) (fit_suf hb.1.2.2.2.2.2 hb.2.2.2.2.2.2)
    have e3 : meetD a b = ownD ⟨max a.l b.l, min a.m b.m, bits .and .i64 a.c b.c, longB a.b b.b, longB a.e b.e⟩ := by
      have e4 : meetD a b = canonD ⟨max a.l b.l, min a.m b.m, bits .and .i64 a.c b.c, longB a.b b.b, longB a.e b.e⟩ := if_pos hf
      rw [e4]
      exact (in_canon (canon_in.1 (by rw [← e4]; exact hs))).1
    right
    rw [e1, e2, e3]
    have l1 := long_size a.b b.b
    have l2 := long_size a.e b.e
    refine ⟨?_, ?_, ?_, ((long_pre hf.1).1 (List.prefix_refl _)).1, ((long_suf hf.2).1 (List.suffix_refl _)).1⟩
    · show max (max a.l (a.b.size : Int)) (a.e.size : Int) ≤ max (max (max (max (max a.l b.l) ((longB a.b b.b).size : Int)) ((longB a.e b.e).size : Int)) ((longB a.b b.b).size : Int)) ((longB a.e b.e).size : Int)
      omega
    · show min (min (min a.m b.m) 200) 200 ≤ min a.m 200
      omega
    · show Sub (bits .and .i64 (bits .and .i64 (bits .and .i64 a.c b.c) 110) 110) (bits .and .i64 a.c 110)
      intro i hi
      rw [bit_and, bit_and, bit_and] at hi
      rw [bit_and]
      cases h1 : bit a.c i <;> cases h2 : bit 110 i <;> simp [h1, h2] at hi ⊢
end Sh
end Go.Proofs.YtaejnklgnegkhaaGreatDoor
namespace Go.Proofs.YtaejnklgnegkhaaGreatDoor
open Go.RowKit Pt Sh

/-- A shape as a value. -/
abbrev vS (a : S5) : Value := .agg #[.int .i64 a.l, .int .i64 a.m, .int .i64 a.c, .string a.b, .string a.e]
theorem Row.five {w : World} {b : Nat} {a0 a1 a2 a3 a4 v0 v1 v2 v3 v4 : Value} {t : TypeId} (h : Row w b [a0, a1, a2, a3, a4] t) : Row (((((w.setCell ⟨b, 0, none⟩ v0).setCell ⟨b, 1, none⟩ v1).setCell ⟨b, 2, none⟩ v2).setCell ⟨b, 3, none⟩ v3).setCell ⟨b, 4, none⟩ v4) b [v0, v1, v2, v3, v4] t :=
  ((((h.set 0 v0).set 1 v1).set 2 v2).set 3 v3).set 4 v4
theorem gr_five {a w : World} {b : Nat} {v0 v1 v2 v3 v4 : Value} (h : a.grownBy w none) (hg : a.heap.size ≤ b) : a.grownBy (((((w.setCell ⟨b, 0, none⟩ v0).setCell ⟨b, 1, none⟩ v1).setCell ⟨b, 2, none⟩ v2).setCell ⟨b, 3, none⟩ v3).setCell ⟨b, 4, none⟩ v4) none :=
  gr_setn (gr_setn (gr_setn (gr_setn (gr_setn h hg) hg) hg) hg) hg
theorem nos_any (w : World) : Calls Tryz.prog 43 #[] w fun e w' => e = .returned (vS none5) ∧ w.grownBy w' none := by
  go_enter Tryz.func43, Tryz.ntmps43
  go_wp2
  exact bodyPost_ret (v := vS none5) (by simp [results, Tryz.results43, go_sem, none5]) rfl ⟨rfl, by with_reducible exact gr_alloc _ _ _⟩
theorem full_any (w : World) : Calls Tryz.prog 35 #[] w fun e w' => e = .returned (vS full5) ∧ w.grownBy w' none := by
  go_enter Tryz.func35, Tryz.ntmps35
  go_wp2
  exact bodyPost_ret (v := vS full5) (by simp [results, Tryz.results35, go_sem, full5]) rfl ⟨rfl, by with_reducible exact gr_alloc _ _ _⟩
theorem cb_next {s : ByteArray} {j : Nat} (h : j < s.size) : cbI (s.data.toList.take (j + 1)) = bits .or .i64 (cbI (s.data.toList.take j)) ((2 ^ clsD s[j].toNat : Nat) : Int) := by
  have hl : j < s.data.toList.length := h
  rw [List.take_succ_eq_append_getElem hl]
  unfold cbI
  rw [List.foldl_append]
  rfl
set_option maxRecDepth 100000 in
theorem pcb_any (s : ByteArray) (w : World) (_ : s.size ≤ 1000000000000) : Calls Tryz.prog 45 #[.string s] w fun e w' => e = .returned (.int .i64 (cbI s.data.toList)) ∧ w = w' := by
  go_enter Tryz.func45, Tryz.ntmps45
  go_wp2_with fail
  go_loopw [3, 7] (fun b i wr => w = wr ∧ ∃ j : Nat, j ≤ s.size ∧ i = .int .i64 (j : Int) ∧ b = .int .i64 (cbI (s.data.toList.take j))) (fun _ i _ => s.size - (intOf i).toNat)
  case atStart => exact ⟨rfl, 0, Nat.zero_le _, rfl, rfl⟩
  case round =>
    obtain ⟨rfl, j, hj, rfl, rfl⟩ := hrel
    by_cases hlt : j < s.size
    · have hlti : (j : Int) < (s.size : Int) := by omega
      have HN := Lib.hid (cb_next hlt)
      obtain ⟨k, hk⟩ : ∃ k, clsD s[j].toNat = k := ⟨_, rfl⟩
      have HC := Lib.hid (fun w => hk ▸ class_any s[j].toNat w (by have := s[j].toNat_lt; omega))
      rw [hk] at HN
      have hk6 : k ≤ 6 := by rw [← hk]; exact (clsD_le _).1
      have HW := Lib.hid (show wrap64 (2 ^ k) = ((2 ^ k : Nat) : Int) from by
        rcases (show k = 0 ∨ k = 1 ∨ k = 2 ∨ k = 3 ∨ k = 4 ∨ k = 5 ∨ k = 6 by omega) with rfl | rfl | rfl | rfl | rfl | rfl | rfl <;> first | (simp [wrap64]; done) | (unfold wrap64; decide))
      generalize cbI (s.data.toList.take j) = z at *
      clear hk
      go_wp2_with fail
      refine (HC.out _).mono ?_
      rintro e w1 ⟨rfl, rfl⟩
      go_wp2
      exact ⟨⟨by first | rfl | trivial, j + 1, by omega, by simp, by rw [HN.out, HW.out]⟩, by simp only [intOf]; omega⟩
    · have hlti : ¬ (j : Int) < (s.size : Int) := by omega
      have hfull : s.data.toList.take j = s.data.toList := List.take_of_length_le (by have : s.data.toList.length = s.size := rfl; omega)
      rw [hfull]
      go_wp2
      go_ret
      exact ⟨rfl, rfl⟩
set_option maxRecDepth 100000 in
theorem stext_any (s : ByteArray) (w : World) (hs : s.size ≤ 1000000000000) : Calls Tryz.prog 44 #[.string s] w fun e w' => e = .returned (.bool (isTextD s.data.toList)) ∧ w = w' := by
  have HC := Lib.hid (fun w => pcb_any s w hs)
  rw [isText_bits, len_toList]
  obtain ⟨z, hz⟩ : ∃ z, bits .andNot .i64 (cbI s.data.toList) 110 = z := ⟨_, rfl⟩
  rw [hz]
  generalize cbI s.data.toList = c at *
  by_cases h : s.size ≤ 200
  · have hi : (s.size : Int) ≤ 200 := by omega
    rw [decide_eq_true h, Bool.true_and]
    clear hs
    go_enter Tryz.func44, Tryz.ntmps44
    go_wp2_with fail
    refine (HC.out _).mono ?_
    rintro e w1 ⟨rfl, rfl⟩
    by_cases h0 : z = 0
    · subst h0
      go_wp2
      go_ret
      exact ⟨rfl, rfl⟩
    · have h0b : (z == 0) = false := by rw [beq_eq_false_iff_ne]; exact h0
      have HD := Lib.hid (decide_eq_false h0)
      clear h0
      go_wp2
      go_ret
      exact ⟨by rw [HD.out]; rfl, rfl⟩
  · have hi : ¬ (s.size : Int) ≤ 200 := by omega
    rw [decide_eq_false h, Bool.false_and]
    go_enter Tryz.func44, Tryz.ntmps44
    go_wp2
    go_ret
    exact ⟨rfl, rfl⟩
set_option maxRecDepth 100000 in
theorem of_any (s : ByteArray) (w : World) (hs : s.size ≤ 1000000000000) : Calls Tryz.prog 17 #[.string s] w fun e w' => e = .returned (vS (ofD s)) ∧ w.grownBy w' none := by
  have HT := Lib.hid (fun w => stext_any s w hs)
  have HC := Lib.hid (fun w => pcb_any s w hs)
  by_cases ht : isTextD s.data.toList = true
  · have e : ofD s = ⟨(s.size : Int), (s.size : Int), cbI s.data.toList, s, s⟩ := if_pos ht
    rw [e]
    rw [ht] at HT
    generalize cbI s.data.toList = c at *
    clear e ht hs
    go_enter Tryz.func17, Tryz.ntmps17
    go_wp2_with fail
    refine (HT.out _).mono ?_
    rintro e w1 ⟨rfl, rfl⟩
    go_wp2_with fail
    refine (HC.out _).mono ?_
    rintro e w1 ⟨rfl, rfl⟩
    go_wp2
    exact bodyPost_ret (v := vS ⟨(s.size : Int), (s.size : Int), c, s, s⟩) (by simp [results, Tryz.results17, go_sem]) rfl ⟨rfl, by with_reducible exact gr_alloc _ _ _⟩
  · have e : ofD s = none5 := if_neg ht
    rw [e]
    rw [Bool.not_eq_true] at ht
    rw [ht] at HT
    have HN := Lib.hid nos_any
    clear e ht hs
    go_enter Tryz.func17, Tryz.ntmps17
    go_wp2_with fail
    refine (HT.out _).mono ?_
    rintro e w1 ⟨rfl, rfl⟩
    go_wp2_with fail
    refine (HN.out _).mono ?_
    rintro e w1 ⟨rfl, g1⟩
    obtain ⟨hc, hf⟩ := gcell g1
    have hl := g1.size
    go_wp2
    exact bodyPost_ret (v := vS none5) (by simp [results, Tryz.results17, go_sem, hc, none5]) rfl ⟨rfl, gr_five (gr_one g1) (Nat.le_refl _)⟩
end Go.Proofs.YtaejnklgnegkhaaGreatDoor
namespace Go.Proofs.YtaejnklgnegkhaaGreatDoor
open Go.RowKit Pt Sh

theorem gr_dn {W w : World} {n : Nat} (h : W.grownBy w none) : W.grownBy (w.drewN n) none := gr_then h ⟨rfl, rfl, rfl, Nat.le_refl _, fun _ _ _ => rfl⟩
/-- The call says whether it holds. -/
def BoolIs (P : Prop) (w : World) (e : Ending) (w' : World) : Prop := ∃ b, e = .returned (.bool b) ∧ (b = true ↔ P) ∧ w.grownBy w' none
theorem BoolIs.yes {P : Prop} {w w' : World} {e : Ending} (he : e = .returned (.bool true)) (h : P) (g : w.grownBy w' none) : BoolIs P w e w' := ⟨true, he, ⟨fun _ => h, fun _ => rfl⟩, g⟩
theorem BoolIs.no {P : Prop} {w w' : World} {e : Ending} (he : e = .returned (.bool false)) (h : ¬ P) (g : w.grownBy w' none) : BoolIs P w e w' := ⟨false, he, ⟨fun h2 => (by cases h2), fun h2 => absurd h2 h⟩, g⟩
theorem has_pre (l m : List UInt8) : Lib.hasPrefix l m = true ↔ m <+: l := by
  unfold Lib.hasPrefix
  exact List.isPrefixOf_iff_prefix
theorem ext_drop (s : ByteArray) (k : Nat) : (s.extract k s.size).data.toList = s.data.toList.drop k := by
  rw [ByteArray.data_extract]
  simp only [Array.toList_extract, List.extract]
  exact List.take_of_length_le (by rw [List.length_drop]; show s.data.size - k ≤ s.size - k; exact Nat.le_refl _)
set_option maxRecDepth 100000 in
set_option maxHeartbeats 2000000 in
theorem chl_any (a : S5) (k : Nat) (n : Int) (w : World) (hn : n = (k : Int) + (a.e.size : Int)) (hk : k ≤ 1000000) (hb : a.b.size ≤ 1000000) (he : a.e.size ≤ 1000000) :
    Calls Tryz.prog 100 #[vS a, .int .i64 n] w (BoolIs (canD a n) w) := by
  obtain ⟨l, m, c, b, e⟩ := a
  simp only at hn hb he
  obtain ⟨O, hO⟩ : ∃ O : Int, (b.size : Int) + (e.size : Int) - n = O := ⟨_, rfl⟩
  have hOb : -1000000 ≤ O ∧ O ≤ 1000000 := by omega
  have hOk : (b.size : Int) - O = (k : Int) := by omega
  by_cases hlt : O < 0
  · have HR := Lib.hid (show canD ⟨l, m, c, b, e⟩ n ↔ c ≠ 0 from by
      have : canD ⟨l, m, c, b, e⟩ n = (c ≠ 0) := if_pos (show (b.size : Int) + (e.size : Int) < n by omega)
      rw [this])
    clear hOk hn
    go_enter Tryz.func100, Tryz.ntmps100
    by_cases hc : c = 0
    · subst hc
      go_wp2
      go_ret
      exact BoolIs.no rfl (fun h => absurd rfl (HR.out.1 h)) (gr_alloc _ _ _)
    · have hcb : (c == 0) = false := by rw [beq_eq_false_iff_ne]; exact hc
      have HCN := Lib.hid (show (c != 0) = true from by rw [bne, hcb]; rfl)
      have HC := Lib.hid hc
      clear hc
      go_wp2
      go_ret
      exact BoolIs.yes (by rw [HCN.out]; rfl) (HR.out.2 HC.out) (gr_alloc _ _ _)
  · have hltd : decide (O < 0) = false := decide_eq_false hlt
    have hkb : k ≤ b.size := by omega
    have HR := Lib.hid (show canD ⟨l, m, c, b, e⟩ n ↔ b.data.toList.drop k <+: e.data.toList from by
      have : canD ⟨l, m, c, b, e⟩ n = (b.data.toList.drop (n - (e.size : Int)).toNat <+: e.data.toList) := if_neg (show ¬ (b.size : Int) + (e.size : Int) < n by omega)
      rw [this, show (n - (e.size : Int)).toNat = k from by omega])
    have hki : (k : Int) ≤ (b.size : Int) := by omega
    have hk0 : (0 : Int) ≤ (k : Int) := by omega
    have hw : IntKind.i64.wrap (k : Int) = (k : Int) := IntWalk.i64_in _ (by omega)
    have HP := Lib.hid (fun w => Tryz.strings_HasPrefix e (b.extract k b.size) w)
    have HX := Lib.hid (ext_drop b k)
    clear hn hlt
    go_enter Tryz.func100, Tryz.ntmps100
    go_wp2_with fail
    go_quiet ((go_at_call 46; exact Calls.quiet_of_same (HP.out _)))
    go_wp2
    go_ret
    exact ⟨_, rfl, by rw [has_pre, HX.out]; exact HR.out.symm, gr_dn (gr_alloc _ _ _)⟩
set_option maxRecDepth 100000 in
set_option maxHeartbeats 4000000 in
theorem hast_any (a : S5) (w : World) (hm : a.m ≤ 200) (hl : (a.b.size : Int) ≤ a.l) (hl2 : (a.e.size : Int) ≤ a.l) (hb : a.b.size ≤ 1000000) (he : a.e.size ≤ 1000000) :
    Calls Tryz.prog 74 #[vS a] w (BoolIs (hasD a) w) := by
  have HCH := Lib.hid (fun (n : Int) (h1 : a.l ≤ n) (h2 : n ≤ a.m) (w0 : World) => chl_any a (n - (a.e.size : Int)).toNat n w0 (by omega) (by omega) hb he)
  obtain ⟨l, m, c, b, e⟩ := a
  simp only at hm hl hl2 hb he HCH
  have HB := Lib.hid (fun w => (pcb_any b w (by omega)).mono fun _ w' h => And.intro h.1 (show w' = w from h.2.symm))
  have HE := Lib.hid (fun w => (pcb_any e w (by omega)).mono fun _ w' h => And.intro h.1 (show w' = w from h.2.symm))
  have HSUB := Lib.hid (show bits .andNot .i64 (bits .or .i64 (cbI b.data.toList) (cbI e.data.toList)) c = 0 ↔ Sub (bits .or .i64 (cbI b.data.toList) (cbI e.data.toList)) c from andn_zero)
  have HHAS := Lib.hid (show hasD ⟨l, m, c, b, e⟩ ↔ (Sub (bits .or .i64 (cbI b.data.toList) (cbI e.data.toList)) c ∧ ∃ n : Int, l ≤ n ∧ n ≤ m ∧ canD ⟨l, m, c, b, e⟩ n) from Iff.rfl)
  generalize cbI b.data.toList = cb at *
  generalize cbI e.data.toList = ce at *
  obtain ⟨z, hz⟩ : ∃ z, bits .andNot .i64 (bits .or .i64 cb ce) c = z := ⟨_, rfl⟩
  have HZ := Lib.hid hz
  have RB := Row.new w [.int .i64 l, .int .i64 m, .int .i64 c, .string b, .string e] 24
  have hl0 : 0 ≤ l := by omega
  have HLB := Lib.hid (And.intro hm hl0)
  by_cases hz0 : z = 0
  · have HS := Lib.hid (HSUB.out.1 (hz.trans hz0))
    subst hz0
    clear hb he hl hl2
    go_enter Tryz.func74, Tryz.ntmps74
    go_wp2_with fail
    go_quiet (first | (go_at_call 45; with_reducible exact Calls.quiet_of_same (HB.out _)) | (go_at_call 45; with_reducible exact Calls.quiet_of_same (HE.out _)))
    simp only [List.toArray] at RB
    obtain ⟨w1, hw1⟩ : ∃ w1, (w.alloc (.cells #[.int .i64 l, .int .i64 m, .int .i64 c, .string b, .string e] 24)).drewN nq = w1 := ⟨_, rfl⟩
    have HRB := Lib.hid (show Row w1 w.heap.size [.int .i64 l, .int .i64 m, .int .i64 c, .string b, .string e] 24 from by rw [← hw1]; exact RB)
    have HG1 := Lib.hid (show w.grownBy w1 none from by rw [← hw1]; exact gr_dn (gr_alloc _ _ _))
    rw [hw1]
    have c1 := HRB.out.cell 1 _ rfl
    clear hw1 RB hz
    go_wp2_with fail
    clear c1
    go_loopw [3] (fun t wr => ∃ n : Int, t = .int .i64 n ∧ n ≤ m ∧ Hid (∀ i, n < i → i ≤ m → ¬ canD ⟨l, m, c, b, e⟩ i) ∧ Hid (Row wr w.heap.size [.int .i64 l, .int .i64 m, .int .i64 c, .string b, .string e] 24) ∧ Hid (w.grownBy wr none)) (fun t _ => (intOf t - l + 1).toNat)
    case atStart => exact ⟨m, rfl, Int.le_refl _, Lib.hid (fun i h1 h2 => by omega), HRB, HG1⟩
    case round =>
      obtain ⟨n, rfl, hn, HNO, HRn, Gn⟩ := hrel
      have c0 := HRn.out.cell 0 _ rfl
      have c1 := HRn.out.cell 1 _ rfl
      have c2 := HRn.out.cell 2 _ rfl
      have c3 := HRn.out.cell 3 _ rfl
      have c4 := HRn.out.cell 4 _ rfl
      by_cases hln : l ≤ n
      · have HK := Lib.hid (HCH.out n hln hn wr)
        have hn1 : n - 1 ≤ m := by omega
        have hnb : 0 ≤ n ∧ n ≤ 200 := by omega
        have HLN := Lib.hid (And.intro hln hn)
        go_wp2_with fail
        refine HK.out.mono ?_
        rintro e' w2 ⟨r, rfl, hr, g2⟩
        have HR := Lib.hid hr
        have HRn2 := Lib.hid (HRn.out.kept g2)
        have G2 := Lib.hid (gr_then Gn.out g2)
        clear hr g2 c0 c1 c2 c3 c4 HK
        cases r
        · go_wp2
          refine ⟨⟨n - 1, rfl, hn1, Lib.hid (fun i h1 h2 => ?_), HRn2, G2⟩, by simp only [intOf]; omega⟩
          rcases (show n < i ∨ i = n by omega) with h | rfl
          · exact HNO.out i h h2
          · exact fun h => by have := HR.out.2 h; cases this
        · go_wp2
          go_ret
          exact BoolIs.yes rfl (HHAS.out.2 ⟨HS.out, n, HLN.out.1, HLN.out.2, HR.out.1 (by first | rfl | trivial)⟩) G2.out
      · have hlnd : decide (l ≤ n) = false := decide_eq_false hln
        have HX := Lib.hid (show ¬ hasD ⟨l, m, c, b, e⟩ from fun h => by
          obtain ⟨_, i, h1, h2, h3⟩ := HHAS.out.1 h
          exact HNO.out i (by omega) h2 h3)
        go_wp2
        go_ret
        exact BoolIs.no rfl HX.out Gn.out
  · have HNS := Lib.hid (fun h => hz0 (hz.symm.trans (HSUB.out.2 h)))
    have hzb : (z == 0) = false := by rw [beq_eq_false_iff_ne]; exact hz0
    have hzn : (z != 0) = true := by rw [bne, hzb]; rfl
    clear hb he hl hl2 hz0
    go_enter Tryz.func74, Tryz.ntmps74
    go_wp2_with fail
    go_quiet (first | (go_at_call 45; with_reducible exact Calls.quiet_of_same (HB.out _)) | (go_at_call 45; with_reducible exact Calls.quiet_of_same (HE.out _)))
    go_wp2
    go_ret
    exact BoolIs.no rfl (fun h => absurd (HHAS.out.1 h).1 HNS.out) (gr_dn (gr_alloc _ _ _))
end Go.Proofs.YtaejnklgnegkhaaGreatDoor
namespace Go.Proofs.YtaejnklgnegkhaaGreatDoor
open Go.RowKit Pt Sh

theorem results_shape {fn : Func} {p : Tmp} {tmps : Array Value} {W : World} {B : Nat} {a : S5} (h : fn.results = #[.cell p 24]) (hp : tmps.getD p undef = .pointer (some ⟨B, 0, none⟩)) (hR : Row W B [.int .i64 a.l, .int .i64 a.m, .int .i64 a.c, .string a.b, .string a.e] 24) : (results fn tmps).run Tryz.prog W = .ok (vS a) W := by
  have hp' : tmps[p]?.getD undef = .pointer (some ⟨B, 0, none⟩) := by simpa using hp
  have d0 := hR.cell 0 _ rfl
  have d1 := hR.cell 1 _ rfl
  have d2 := hR.cell 2 _ rfl
  have d3 := hR.cell 3 _ rfl
  have d4 := hR.cell 4 _ rfl
  simp [results, h, hp', asAddr, go_sem, d0, d1, d2, d3, d4]
/-- The empty shape as a value. -/
abbrev v0S : Value := .agg #[.int .i64 1, .int .i64 0, .int .i64 0, .string ⟨#[]⟩, .string ⟨#[]⟩]
theorem nos0 (w : World) : Calls Tryz.prog 43 #[] w fun e w' => e = .returned v0S ∧ w.grownBy w' none := nos_any w
theorem nil_list : (⟨#[]⟩ : ByteArray).toList = [] := by rw [ByteArray.toList_eq]
set_option maxRecDepth 100000 in
set_option maxHeartbeats 4000000 in
theorem canon_any (a : S5) (w : World) (hb : a.b.size ≤ 1000000) (he : a.e.size ≤ 1000000) :
    Calls Tryz.prog 42 #[vS a] w fun e w' => e = .returned (vS (canonD a)) ∧ w.grownBy w' none := by
  have HH := Lib.hid (fun (w0 : World) => hast_any (ownD a) w0 (show min a.m 200 ≤ 200 by omega) (show (a.b.size : Int) ≤ max (max a.l (a.b.size : Int)) (a.e.size : Int) by omega) (show (a.e.size : Int) ≤ max (max a.l (a.b.size : Int)) (a.e.size : Int) by omega) hb he)
  have HY := Lib.hid (fun (h : hasD (ownD a)) => show canonD a = ownD a from if_pos h)
  have HN := Lib.hid (fun (h : ¬ hasD (ownD a)) => show canonD a = none5 from if_neg h)
  obtain ⟨l, m, c, b, e⟩ := a
  simp only at hb he
  obtain ⟨L1, hL1⟩ : ∃ L1 : Int, max l (b.size : Int) = L1 := ⟨_, rfl⟩
  obtain ⟨L, hL⟩ : ∃ L : Int, max L1 (e.size : Int) = L := ⟨_, rfl⟩
  obtain ⟨M, hM⟩ : ∃ M : Int, min m 200 = M := ⟨_, rfl⟩
  obtain ⟨C, hC⟩ : ∃ C : Int, bits .and .i64 c 110 = C := ⟨_, rfl⟩
  have hown : ownD ⟨l, m, c, b, e⟩ = ⟨L, M, C, b, e⟩ := by rw [← hL, ← hL1, ← hM, ← hC]; rfl
  rw [hown] at HH HY HN
  have HNS := Lib.hid nos0
  have RB := (Row.new w [.int .i64 l, .int .i64 m, .int .i64 c, .string b, .string e] 24).al (o := .cells #[.int .i64 0, .int .i64 0, .int .i64 0, .string ⟨#[]⟩, .string ⟨#[]⟩] 24)
  simp only [List.toArray] at RB
  generalize canonD ⟨l, m, c, b, e⟩ = K at *
  clear hown
  go_enter Tryz.func42, Tryz.ntmps42
  go_wp2_with fail
  all_goals
    first
    | rw [show (e.size : Int) = L from by omega]
    | rw [show (b.size : Int) = L from by omega]
    | rw [show l = L from by omega]
    refine (HH.out _).mono ?_
    rintro e' w1 ⟨r, rfl, hr, g1⟩
    have RA := ((Row.new w [.int .i64 L, .int .i64 M, .int .i64 C, .string b, .string e] 24).al (o := .cells #[.int .i64 0, .int .i64 0, .int .i64 0, .string ⟨#[]⟩, .string ⟨#[]⟩] 24)).kept g1
    have RZ := (Row.new (w.alloc (.cells #[.int .i64 L, .int .i64 M, .int .i64 C, .string b, .string e] 24)) [.int .i64 0, .int .i64 0, .int .i64 0, .string ⟨#[]⟩, .string ⟨#[]⟩] 24).kept g1
    rw [World.size_alloc] at RZ
    have G1 := Lib.hid (gr_two g1)
    have HR := Lib.hid hr
    have hlt : w.heap.size + 1 < w1.heap.size := RZ.lt
    clear hr g1 hL hL1 hM hC
    cases r
    · have hK : K = none5 := HN.out (fun h => by have := HR.out.2 h; cases this)
      subst hK
      have HRZ := Lib.hid RZ
      clear RA RZ
      go_wp2_with fail
      refine (HNS.out w1).mono ?_
      rintro e' w2 ⟨rfl, g2⟩
      have R2 := HRZ.out.kept g2
      have f0 := R2.fr 0
      have f1 := R2.fr 1
      have f2 := R2.fr 2
      have f3 := R2.fr 3
      have f4 := R2.fr 4
      have c0 := R2.cell 0 _ rfl
      have c1 := R2.cell 1 _ rfl
      have c2 := R2.cell 2 _ rfl
      have c3 := R2.cell 3 _ rfl
      have c4 := R2.cell 4 _ rfl
      have HR2 := Lib.hid R2
      have G2 := Lib.hid (gr_then G1.out g2)
      clear R2 g2
      go_wp2
      exact bodyPost_ret (v := vS none5) (results_shape (a := none5) rfl rfl (HR2.out.five (v0 := .int .i64 1) (v1 := .int .i64 0) (v2 := .int .i64 0) (v3 := .string ⟨#[]⟩) (v4 := .string ⟨#[]⟩))) rfl ⟨rfl, gr_five G2.out (by omega)⟩
    · have hK : K = ⟨L, M, C, b, e⟩ := HY.out (HR.out.1 (by first | rfl | trivial))
      subst hK
      have f0 := RZ.fr 0
      have f1 := RZ.fr 1
      have f2 := RZ.fr 2
      have f3 := RZ.fr 3
      have f4 := RZ.fr 4
      have c0 := RZ.cell 0 _ rfl
      have c1 := RZ.cell 1 _ rfl
      have c2 := RZ.cell 2 _ rfl
      have c3 := RZ.cell 3 _ rfl
      have c4 := RZ.cell 4 _ rfl
      have a0 := RA.cell 0 _ rfl
      have a1 := RA.cell 1 _ rfl
      have a2 := RA.cell 2 _ rfl
      have a3 := RA.cell 3 _ rfl
      have a4 := RA.cell 4 _ rfl
      have HRZ := Lib.hid RZ
      clear RA RZ
      go_wp2
      exact bodyPost_ret (v := vS ⟨L, M, C, b, e⟩) (results_shape (a := ⟨L, M, C, b, e⟩) rfl rfl HRZ.out.five) rfl ⟨rfl, gr_five G1.out (by omega)⟩
set_option maxRecDepth 100000 in
set_option maxHeartbeats 4000000 in
theorem empty_any (a : S5) (w : World) (hb : a.b.size ≤ 1000000) (he : a.e.size ≤ 1000000) :
    Calls Tryz.prog 11 #[vS a] w (BoolIs (emptyD a) w) := by
  have HK := Lib.hid (fun w0 => canon_any a w0 hb he)
  have HNS := Lib.hid nos0
  have HE := Lib.hid (show emptyD a ↔ canonD a = none5 from Iff.rfl)
  have HH := Lib.hid (show canonD a = none5 ∨ (canonD a).l ≠ 1 ∨ (canonD a).m ≠ 0 from by
    rcases Classical.em (hasD (ownD a)) with h | h
    · right
      rw [show canonD a = ownD a from if_pos h]
      obtain ⟨_, n, h1, h2, _⟩ := h
      omega
    · exact .inl (if_neg h))
  obtain ⟨l, m, c, b, e⟩ := a
  simp only at hb he
  have RB := Row.new w [.int .i64 l, .int .i64 m, .int .i64 c, .string b, .string e] 24
  generalize canonD ⟨l, m, c, b, e⟩ = K at *
  obtain ⟨kl, km, kc, kb, ke⟩ := K
  simp only at HH
  rcases HH.out with h | h
  · have HX := Lib.hid (HE.out.2 h)
    obtain ⟨rfl, rfl, rfl, rfl, rfl⟩ : kl = 1 ∧ km = 0 ∧ kc = 0 ∧ kb = ⟨#[]⟩ ∧ ke = ⟨#[]⟩ := by
      unfold none5 at h; cases h; exact ⟨rfl, rfl, rfl, rfl, rfl⟩
    have hnl := nil_list
    clear h RB hb he
    go_enter Tryz.func11, Tryz.ntmps11
    go_wp2_with fail
    refine (HK.out _).mono ?_
    rintro e' w1 ⟨rfl, g1⟩
    have G1 := Lib.hid (gr_one g1)
    clear g1
    go_wp2_with fail
    refine (HNS.out _).mono ?_
    rintro e' w2 ⟨rfl, g2⟩
    go_wp2
    go_ret
    exact BoolIs.yes (by rfl) HX.out (gr_then G1.out g2)
  · have HX := Lib.hid (show ¬ emptyD ⟨l, m, c, b, e⟩ from fun h2 => by
      have h3 := HE.out.1 h2
      unfold none5 at h3
      cases h3
      omega)
    have hkb : (kl == 1) = false ∨ (kl = 1 ∧ (km == 0) = false) := by
      by_cases h1 : kl = 1
      · exact .inr ⟨h1, by rw [beq_eq_false_iff_ne]; omega⟩
      · exact .inl (by rw [beq_eq_false_iff_ne]; exact h1)
    clear h RB hb he
    rcases hkb with hkb | ⟨rfl, hkb⟩
    · go_enter Tryz.func11, Tryz.ntmps11
      go_wp2_with fail
      refine (HK.out _).mono ?_
      rintro e' w1 ⟨rfl, g1⟩
      have G1 := Lib.hid (gr_one g1)
      clear g1
      go_wp2_with fail
      refine (HNS.out _).mono ?_
      rintro e' w2 ⟨rfl, g2⟩
      go_wp2
      go_ret
      exact BoolIs.no (by rfl) HX.out (gr_then G1.out g2)
    · go_enter Tryz.func11, Tryz.ntmps11
      go_wp2_with fail
      refine (HK.out _).mono ?_
      rintro e' w1 ⟨rfl, g1⟩
      have G1 := Lib.hid (gr_one g1)
      clear g1
      go_wp2_with fail
      refine (HNS.out _).mono ?_
      rintro e' w2 ⟨rfl, g2⟩
      go_wp2
      go_ret
      exact BoolIs.no (by rfl) HX.out (gr_then G1.out g2)
end Go.Proofs.YtaejnklgnegkhaaGreatDoor
namespace Go.Proofs.YtaejnklgnegkhaaGreatDoor
open Go.RowKit Pt Sh

theorem has_suf (l m : List UInt8) : Lib.hasSuffix l m = true ↔ m <:+ l := by
  unfold Lib.hasSuffix
  exact List.isSuffixOf_iff_suffix
set_option maxRecDepth 100000 in
set_option maxHeartbeats 4000000 in
theorem contains_any (a : S5) (s : ByteArray) (w : World) (hs : s.size ≤ 1000000000000) :
    Calls Tryz.prog 13 #[vS a, .string s] w (BoolIs (inD a s.data.toList) w) := by
  have HT := Lib.hid (fun w => (stext_any s w hs).mono fun _ w' h => And.intro h.1 (show w' = w from h.2.symm))
  have HC := Lib.hid (fun w => (pcb_any s w hs).mono fun _ w' h => And.intro h.1 (show w' = w from h.2.symm))
  obtain ⟨l, m, c, b, e⟩ := a
  have HP := Lib.hid (fun w => Tryz.strings_HasPrefix s b w)
  have HU := Lib.hid (fun w => Tryz.strings_HasSuffix s e w (by omega))
  have HI := Lib.hid (show inD ⟨l, m, c, b, e⟩ s.data.toList ↔ (isTextD s.data.toList = true ∧ l ≤ (s.size : Int) ∧ (s.size : Int) ≤ m ∧ Sub (cbI s.data.toList) c ∧ b.data.toList <+: s.data.toList ∧ e.data.toList <:+ s.data.toList) from Iff.rfl)
  have HSUB := Lib.hid (show bits .andNot .i64 (cbI s.data.toList) c = 0 ↔ Sub (cbI s.data.toList) c from andn_zero)
  have HPB := Lib.hid (has_pre s.data.toList b.data.toList)
  have HUE := Lib.hid (has_suf s.data.toList e.data.toList)
  generalize isTextD s.data.toList = tx at *
  generalize cbI s.data.toList = cb at *
  generalize Lib.hasPrefix s.data.toList b.data.toList = hp at *
  generalize Lib.hasSuffix s.data.toList e.data.toList = hu at *
  obtain ⟨z, hz⟩ : ∃ z, bits .andNot .i64 cb c = z := ⟨_, rfl⟩
  have HZ := Lib.hid hz
  clear hs
  cases tx
  · clear hz
    go_enter Tryz.func13, Tryz.ntmps13
    go_wp2_with fail
    go_quiet (first | (go_at_call 44; with_reducible exact Calls.quiet_of_same (HT.out _)) | (go_at_call 45; with_reducible exact Calls.quiet_of_same (HC.out _)) | (go_at_call 46; with_reducible exact Calls.quiet_of_same (HP.out _)) | (go_at_call 47; with_reducible exact Calls.quiet_of_same (HU.out _)))
    go_wp2
    go_ret
    exact BoolIs.no rfl (fun h => absurd (HI.out.1 h).1 (by simp)) (gr_dn (gr_alloc _ _ _))
  by_cases h1 : l ≤ (s.size : Int)
  rotate_left
  · have h1d : decide (l ≤ (s.size : Int)) = false := decide_eq_false h1
    have H1 := Lib.hid h1
    clear hz h1
    go_enter Tryz.func13, Tryz.ntmps13
    go_wp2_with fail
    go_quiet (first | (go_at_call 44; with_reducible exact Calls.quiet_of_same (HT.out _)) | (go_at_call 45; with_reducible exact Calls.quiet_of_same (HC.out _)) | (go_at_call 46; with_reducible exact Calls.quiet_of_same (HP.out _)) | (go_at_call 47; with_reducible exact Calls.quiet_of_same (HU.out _)))
    go_wp2
    go_ret
    exact BoolIs.no rfl (fun h => by have h1 := (HI.out.1 h).2.1; have h2 := H1.out; omega) (gr_dn (gr_alloc _ _ _))
  have h1d : decide (l ≤ (s.size : Int)) = true := decide_eq_true h1
  have H1 := Lib.hid h1
  by_cases h2 : (s.size : Int) ≤ m
  rotate_left
  · have h2d : decide ((s.size : Int) ≤ m) = false := decide_eq_false h2
    have H2 := Lib.hid h2
    clear hz h2
    go_enter Tryz.func13, Tryz.ntmps13
    go_wp2_with fail
    go_quiet (first | (go_at_call 44; with_reducible exact Calls.quiet_of_same (HT.out _)) | (go_at_call 45; with_reducible exact Calls.quiet_of_same (HC.out _)) | (go_at_call 46; with_reducible exact Calls.quiet_of_same (HP.out _)) | (go_at_call 47; with_reducible exact Calls.quiet_of_same (HU.out _)))
    go_wp2
    go_ret
    exact BoolIs.no rfl (fun h => by have h1 := (HI.out.1 h).2.2.1; have h2 := H2.out; omega) (gr_dn (gr_alloc _ _ _))
  have h2d : decide ((s.size : Int) ≤ m) = true := decide_eq_true h2
  have H2 := Lib.hid h2
  by_cases h3 : z = 0
  rotate_left
  · have h3d : (z == 0) = false := by rw [beq_eq_false_iff_ne]; exact h3
    have H3 := Lib.hid h3
    clear h3
    go_enter Tryz.func13, Tryz.ntmps13
    go_wp2_with fail
    go_quiet (first | (go_at_call 44; with_reducible exact Calls.quiet_of_same (HT.out _)) | (go_at_call 45; with_reducible exact Calls.quiet_of_same (HC.out _)) | (go_at_call 46; with_reducible exact Calls.quiet_of_same (HP.out _)) | (go_at_call 47; with_reducible exact Calls.quiet_of_same (HU.out _)))
    go_wp2
    go_ret
    exact BoolIs.no rfl (fun h => H3.out (HZ.out.symm.trans (HSUB.out.2 (HI.out.1 h).2.2.2.1))) (gr_dn (gr_alloc _ _ _))
  subst h3
  have H3 := Lib.hid (HSUB.out.1 HZ.out)
  cases hp
  · 
    go_enter Tryz.func13, Tryz.ntmps13
    go_wp2_with fail
    go_quiet (first | (go_at_call 44; with_reducible exact Calls.quiet_of_same (HT.out _)) | (go_at_call 45; with_reducible exact Calls.quiet_of_same (HC.out _)) | (go_at_call 46; with_reducible exact Calls.quiet_of_same (HP.out _)) | (go_at_call 47; with_reducible exact Calls.quiet_of_same (HU.out _)))
    go_wp2
    go_ret
    exact BoolIs.no rfl (fun h => absurd (HPB.out.2 (HI.out.1 h).2.2.2.2.1) (by simp)) (gr_dn (gr_alloc _ _ _))
  have H4 := Lib.hid (HPB.out.1 (by first | rfl | trivial))
  cases hu
  · 
    go_enter Tryz.func13, Tryz.ntmps13
    go_wp2_with fail
    go_quiet (first | (go_at_call 44; with_reducible exact Calls.quiet_of_same (HT.out _)) | (go_at_call 45; with_reducible exact Calls.quiet_of_same (HC.out _)) | (go_at_call 46; with_reducible exact Calls.quiet_of_same (HP.out _)) | (go_at_call 47; with_reducible exact Calls.quiet_of_same (HU.out _)))
    go_wp2
    go_ret
    exact BoolIs.no rfl (fun h => absurd (HUE.out.2 (HI.out.1 h).2.2.2.2.2) (by simp)) (gr_dn (gr_alloc _ _ _))
  have H5 := Lib.hid (HUE.out.1 (by first | rfl | trivial))
  go_enter Tryz.func13, Tryz.ntmps13
  go_wp2_with fail
  go_quiet (first | (go_at_call 44; with_reducible exact Calls.quiet_of_same (HT.out _)) | (go_at_call 45; with_reducible exact Calls.quiet_of_same (HC.out _)) | (go_at_call 46; with_reducible exact Calls.quiet_of_same (HP.out _)) | (go_at_call 47; with_reducible exact Calls.quiet_of_same (HU.out _)))
  go_wp2
  go_ret
  exact BoolIs.yes rfl (HI.out.2 ⟨by first | rfl | trivial, H1.out, H2.out, H3.out, H4.out, H5.out⟩) (gr_dn (gr_alloc _ _ _))
set_option maxRecDepth 100000 in
theorem fixed_any (a : S5) (w : World) : Calls Tryz.prog 58 #[vS a] w (BoolIs (fixD a) w) := by
  obtain ⟨l, m, c, b, e⟩ := a
  have HF := Lib.hid (show fixD ⟨l, m, c, b, e⟩ ↔ (l = m ∧ l = (b.size : Int)) from Iff.rfl)
  by_cases h1 : l = m
  · subst h1
    by_cases h2 : l = (b.size : Int)
    · have h2b : (l == (b.size : Int)) = true := by rw [beq_iff_eq]; exact h2
      have H2 := Lib.hid h2
      clear h2
      go_enter Tryz.func58, Tryz.ntmps58
      go_wp2
      go_ret
      exact BoolIs.yes rfl (HF.out.2 ⟨by first | rfl | trivial, H2.out⟩) (gr_alloc _ _ _)
    · have h2b : (l == (b.size : Int)) = false := by rw [beq_eq_false_iff_ne]; exact h2
      have H2 := Lib.hid h2
      clear h2
      go_enter Tryz.func58, Tryz.ntmps58
      go_wp2
      go_ret
      exact BoolIs.no rfl (fun h => H2.out (HF.out.1 h).2) (gr_alloc _ _ _)
  · have h1b : (l == m) = false := by rw [beq_eq_false_iff_ne]; exact h1
    have H1 := Lib.hid h1
    clear h1
    go_enter Tryz.func58, Tryz.ntmps58
    go_wp2
    go_ret
    exact BoolIs.no rfl (fun h => H1.out (HF.out.1 h).1) (gr_alloc _ _ _)
end Go.Proofs.YtaejnklgnegkhaaGreatDoor
namespace Go.Proofs.YtaejnklgnegkhaaGreatDoor
open Go.RowKit Pt Sh

set_option maxRecDepth 100000 in
theorem longP_any (a b : ByteArray) (w : World) : Calls Tryz.prog 55 #[.string a, .string b, .func (.func 46) #[] #[]] w fun e w' => e = .returned (.tuple #[.string (longB a b), .bool (Lib.hasPrefix (longB a b).data.toList (shortB a b).data.toList)]) ∧ w = w' := by
  by_cases h : a.size < b.size
  · have hi : (a.size : Int) < (b.size : Int) := by omega
    rw [show longB a b = b from if_pos h, show shortB a b = a from if_pos h]
    have HP := Lib.hid (Tryz.strings_HasPrefix b a w)
    clear h
    go_enter Tryz.func55, Tryz.ntmps55
    go_wp2_with fail
    refine HP.out.mono ?_
    rintro e w1 ⟨rfl, rfl⟩
    go_wp2
    go_ret2
    exact ⟨rfl, rfl⟩
  · have hi : ¬ (a.size : Int) < (b.size : Int) := by omega
    rw [show longB a b = a from if_neg h, show shortB a b = b from if_neg h]
    have HP := Lib.hid (Tryz.strings_HasPrefix a b w)
    clear h
    go_enter Tryz.func55, Tryz.ntmps55
    go_wp2_with fail
    refine HP.out.mono ?_
    rintro e w1 ⟨rfl, rfl⟩
    go_wp2
    go_ret2
    exact ⟨rfl, rfl⟩
set_option maxRecDepth 100000 in
theorem longS_any (a b : ByteArray) (w : World) (ha : a.size ≤ 1000000) (hb : b.size ≤ 1000000) : Calls Tryz.prog 55 #[.string a, .string b, .func (.func 47) #[] #[]] w fun e w' => e = .returned (.tuple #[.string (longB a b), .bool (Lib.hasSuffix (longB a b).data.toList (shortB a b).data.toList)]) ∧ w = w' := by
  by_cases h : a.size < b.size
  · have hi : (a.size : Int) < (b.size : Int) := by omega
    rw [show longB a b = b from if_pos h, show shortB a b = a from if_pos h]
    have HP := Lib.hid (Tryz.strings_HasSuffix b a w (by omega))
    clear h
    go_enter Tryz.func55, Tryz.ntmps55
    go_wp2_with fail
    refine HP.out.mono ?_
    rintro e w1 ⟨rfl, rfl⟩
    go_wp2
    go_ret2
    exact ⟨rfl, rfl⟩
  · have hi : ¬ (a.size : Int) < (b.size : Int) := by omega
    rw [show longB a b = a from if_neg h, show shortB a b = b from if_neg h]
    have HP := Lib.hid (Tryz.strings_HasSuffix a b w (by omega))
    clear h
    go_enter Tryz.func55, Tryz.ntmps55
    go_wp2_with fail
    refine HP.out.mono ?_
    rintro e w1 ⟨rfl, rfl⟩
    go_wp2
    go_ret2
    exact ⟨rfl, rfl⟩
theorem long_le {a b : ByteArray} (ha : a.size ≤ 1000000) (hb : b.size ≤ 1000000) : (longB a b).size ≤ 1000000 := by
  unfold longB; split <;> omega
set_option maxRecDepth 100000 in
set_option maxHeartbeats 4000000 in
theorem meet_any (a a' : S5) (w : World) (hb : a.b.size ≤ 1000000) (he : a.e.size ≤ 1000000) (hb' : a'.b.size ≤ 1000000) (he' : a'.e.size ≤ 1000000) :
    Calls Tryz.prog 20 #[vS a, vS a'] w fun e w' => e = .returned (vS (meetD a a')) ∧ w.grownBy w' none := by
  obtain ⟨l, m, c, b, e⟩ := a
  obtain ⟨l', m', c', b', e'⟩ := a'
  simp only at hb he hb' he'
  have HLB := Lib.hid (fun w => longP_any b b' w)
  have HLE := Lib.hid (fun w => longS_any e e' w he he')
  obtain ⟨L, hL⟩ : ∃ L : Int, max l l' = L := ⟨_, rfl⟩
  obtain ⟨M, hM⟩ : ∃ M : Int, min m m' = M := ⟨_, rfl⟩
  obtain ⟨C, hC⟩ : ∃ C : Int, bits .and .i64 c c' = C := ⟨_, rfl⟩
  have hlb := long_le hb hb'
  have hle := long_le he he'
  have HY := Lib.hid (fun (h1 : Lib.hasPrefix (longB b b').data.toList (shortB b b').data.toList = true) (h2 : Lib.hasSuffix (longB e e').data.toList (shortB e e').data.toList = true) => show meetD ⟨l, m, c, b, e⟩ ⟨l', m', c', b', e'⟩ = canonD ⟨L, M, C, longB b b', longB e e'⟩ from by
    rw [← hL, ← hM, ← hC]
    exact if_pos ⟨(has_pre _ _).1 h1, (has_suf _ _).1 h2⟩)
  have HN := Lib.hid (fun (h : ¬ (Lib.hasPrefix (longB b b').data.toList (shortB b b').data.toList = true ∧ Lib.hasSuffix (longB e e').data.toList (shortB e e').data.toList = true)) => show meetD ⟨l, m, c, b, e⟩ ⟨l', m', c', b', e'⟩ = none5 from if_neg (fun h2 => h ⟨(has_pre _ _).2 h2.1, (has_suf _ _).2 h2.2⟩))
  generalize longB b b' = B at *
  generalize longB e e' = E at *
  generalize Lib.hasPrefix B.data.toList (shortB b b').data.toList = p1 at *
  generalize Lib.hasSuffix E.data.toList (shortB e e').data.toList = p2 at *
  have HK := Lib.hid (fun w0 => canon_any ⟨L, M, C, B, E⟩ w0 hlb hle)
  have HNS := Lib.hid nos0
  obtain ⟨K, hK⟩ : ∃ K, meetD ⟨l, m, c, b, e⟩ ⟨l', m', c', b', e'⟩ = K := ⟨_, rfl⟩
  rw [hK] at HY HN ⊢
  clear hK hb he hb' he' hlb hle
  go_enter Tryz.func20, Tryz.ntmps20
  go_wp2_with fail
  refine (HLB.out _).mono ?_
  rintro e1 w1 ⟨rfl, rfl⟩
  go_wp2_with fail
  refine (HLE.out _).mono ?_
  rintro e1 w1 ⟨rfl, rfl⟩
  have RZ := Row.new ((w.alloc (.cells #[.int .i64 l, .int .i64 m, .int .i64 c, .string b, .string e] 24)).alloc (.cells #[.int .i64 l', .int .i64 m', .int .i64 c', .string b', .string e'] 24)) [.int .i64 0, .int .i64 0, .int .i64 0, .string ⟨#[]⟩, .string ⟨#[]⟩] 24
  rw [World.size_alloc, World.size_alloc] at RZ
  simp only [List.toArray] at RZ
  obtain ⟨wz, hwz⟩ : ∃ wz, ((w.alloc (.cells #[.int .i64 l, .int .i64 m, .int .i64 c, .string b, .string e] 24)).alloc (.cells #[.int .i64 l', .int .i64 m', .int .i64 c', .string b', .string e'] 24)).alloc (.cells #[.int .i64 0, .int .i64 0, .int .i64 0, .string ⟨#[]⟩, .string ⟨#[]⟩] 24) = wz := ⟨_, rfl⟩
  rw [hwz] at RZ
  have HRZ := Lib.hid RZ
  have HGZ := Lib.hid (show w.grownBy wz none from by rw [← hwz]; exact gr_then (gr_then (gr_alloc _ _ _) (gr_alloc _ _ _)) (gr_alloc _ _ _))
  have HWZ := Lib.hid hwz
  clear RZ hwz
  have hcase : ¬ (p1 = true ∧ p2 = true) ∨ (p1 = true ∧ p2 = true) := (Classical.em _).symm
  rcases hcase with h | ⟨rfl, rfl⟩
  · have hK : K = none5 := HN.out h
    subst hK
    cases p1 <;> cases p2 <;> first | (exact absurd ⟨rfl, rfl⟩ h) | skip
    all_goals
      clear h
      go_wp2_with fail
      rw [HWZ.out]
      refine (HNS.out wz).mono ?_
      rintro e1 w2 ⟨rfl, g2⟩
      have R2 := HRZ.out.kept g2
      have f0 := R2.fr 0
      have f1 := R2.fr 1
      have f2 := R2.fr 2
      have f3 := R2.fr 3
      have f4 := R2.fr 4
      have c0 := R2.cell 0 _ rfl
      have c1 := R2.cell 1 _ rfl
      have c2 := R2.cell 2 _ rfl
      have c3 := R2.cell 3 _ rfl
      have c4 := R2.cell 4 _ rfl
      have HR2 := Lib.hid R2
      have G2 := Lib.hid (gr_then HGZ.out g2)
      clear R2 g2
      go_wp2
      exact bodyPost_ret (v := vS none5) (results_shape (a := none5) rfl rfl (HR2.out.five (v0 := .int .i64 1) (v1 := .int .i64 0) (v2 := .int .i64 0) (v3 := .string ⟨#[]⟩) (v4 := .string ⟨#[]⟩))) rfl ⟨rfl, gr_five G2.out (by omega)⟩
  · have hK : K = canonD ⟨L, M, C, B, E⟩ := HY.out rfl rfl
    rw [← hK] at HK
    clear hK
    obtain ⟨kl, km, kc, kb, ke⟩ := K
    go_wp2_with fail
    rw [HWZ.out]
    refine (HK.out wz).mono ?_
    rintro e1 w2 ⟨rfl, g2⟩
    have R2 := HRZ.out.kept g2
    have f0 := R2.fr 0
    have f1 := R2.fr 1
    have f2 := R2.fr 2
    have f3 := R2.fr 3
    have f4 := R2.fr 4
    have c0 := R2.cell 0 _ rfl
    have c1 := R2.cell 1 _ rfl
    have c2 := R2.cell 2 _ rfl
    have c3 := R2.cell 3 _ rfl
    have c4 := R2.cell 4 _ rfl
    have HR2 := Lib.hid R2
    have G2 := Lib.hid (gr_then HGZ.out g2)
    clear R2 g2
    go_wp2
    exact bodyPost_ret (v := vS ⟨kl, km, kc, kb, ke⟩) (results_shape (a := ⟨kl, km, kc, kb, ke⟩) rfl rfl HR2.out.five) rfl ⟨rfl, gr_five G2.out (by omega)⟩
end Go.Proofs.YtaejnklgnegkhaaGreatDoor
