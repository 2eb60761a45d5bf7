/- Contracts of package nat and of the reference, part 11: Parse, ParseY, RefX, RefY, Texts, RowK, Pair, TextsRow. -/
import Derived.Test.YtoadjhmehgkeaaaGreatDoorETexts10
import Derived.Lib.Strings
import Derived.Deep.RegionWith
import Derived.BigRegion
import Derived.Laws.IdiomStrings
import Derived.Laws.Tables
import Derived.Test.YtoadjhmehgkeaaaGreatDoorRows
import Derived.ProofKit
import Derived.ChangeSlices
import Derived.LaidLaws
import Derived.Lib.LaidIn
import Derived.Lib.LaidTab
import Derived.Stop.LaidErr
import Derived.OpenShut
namespace Go.Proofs.YtoadjhmehgkeaaaGreatDoor
open Go.RowKit Mth

theorem isDig_isDg : isDig = isDg := rfl
theorem dig_at {s : ByteArray} (h : s.data.toList.all isDg = true) {k : Nat} (hk : k < s.size) : 48 ≤ s[k].toNat ∧ s[k].toNat ≤ 57 := by
  rw [List.all_eq_true] at h
  have hm : s[k] ∈ s.data.toList := by
    have : s[k] = s.data.toList[k]'(by simpa using hk) := rfl
    rw [this]; exact List.getElem_mem _
  have := h _ hm
  simpa [isDg] using this
theorem dnum_take_succ (s : ByteArray) {k : Nat} (h : k < s.size) : dnum (s.data.toList.take (k + 1)) = 10 * dnum (s.data.toList.take k) + (s[k].toNat - 48) := by
  rw [List.take_succ_eq_append_getElem (by rw [len_toList]; exact h), dnum_snoc]; rfl
theorem all_take {l : List UInt8} (h : l.all isDg = true) (k : Nat) : (l.take k).all isDg = true := by
  rw [List.all_eq_true] at *
  intro x hx; exact h x (List.mem_of_mem_take hx)
theorem all_drop {l : List UInt8} (h : l.all isDg = true) (k : Nat) : (l.drop k).all isDg = true := by
  rw [List.all_eq_true] at *
  intro x hx; exact h x (List.mem_of_mem_drop hx)

set_option maxRecDepth 100000 in
theorem groupOf_any (s : ByteArray) (w : World) (hs : s.size ≤ 19) (hd : s.data.toList.all isDg = true) :
    Calls Tryz.prog 98 #[.string s] w fun e w' => e = .returned (.int .u64 ((dnum s.data.toList : Nat) : Int)) ∧ w = w' := by
  have HD := Lib.hid hd
  clear hd
  go_enter Tryz.func98, Tryz.ntmps98
  go_wp2
  go_loop [3, 7] (fun u v => ∃ (k g : Nat), k ≤ s.size ∧ v = .int .i64 k ∧ u = .int .u64 g ∧ Hid (g = dnum (s.data.toList.take k))) (fun _ v => s.size - (intOf v).toNat)
  case atStart => exact ⟨0, 0, Nat.zero_le _, rfl, rfl, rfl⟩
  case round =>
    obtain ⟨k, g, hk, rfl, rfl, HG⟩ := hrel
    by_cases hlt : k < s.size
    · obtain ⟨h1, h2⟩ := dig_at HD.out hlt
      have hgb : g ≤ 999999999999999999 := by
        have e1 := dnum_lt _ (all_take HD.out k)
        rw [← HG.out] at e1
        have e2 : 10 ^ (s.data.toList.take k).length ≤ 10 ^ 18 := Nat.pow_le_pow_right (by decide) (by rw [List.length_take]; omega)
        omega
      have hnx := dnum_take_succ s hlt
      rw [← HG.out] at hnx
      obtain ⟨d, hdd⟩ : ∃ d, d = s[k].toNat - 48 := ⟨_, rfl⟩
      rw [← hdd] at hnx
      have HNX := Lib.hid hnx
      have hsub : (s[k].toNat : Int) - 48 = (d : Int) := by omega
      have hd9 : d ≤ 9 := by omega
      clear hnx hdd
      go_wp2
      refine ⟨⟨k + 1, 10 * g + d, by omega, by go_num, by go_num, HNX.out.symm⟩, by simp [intOf]; omega⟩
    · obtain rfl : k = s.size := by omega
      have hf := HG.out
      rw [List.take_of_length_le (by rw [len_toList]; omega)] at hf
      have HF := Lib.hid hf
      clear hf
      go_wp2
      go_ret
      exact ⟨by rw [← HF.out]; rfl, rfl⟩

/-- A list of words that the call gathers since the world w0. -/
structure AccW (w0 w : World) (v : Value) (l : List Nat) : Prop where
  own : ∃ zs, Own .u64 96 w v l.length zs ∧ zs.take l.length = l ∧ Dg W64 zs
  fresh : v.ownBlock = none ∨ ∃ g, v.ownBlock = some g ∧ w0.heap.size ≤ g
  gr : w0.grownBy w none
theorem AccW.nil (w : World) : AccW w w (.slice none 0 0) [] := ⟨⟨[], .nil _ _ _, rfl, fun i => by simp [gt, W64_pos]⟩, .inl rfl, World.grownBy.refl _ _⟩
theorem AccW.kept {w0 w w' : World} {v : Value} {l : List Nat} (h : AccW w0 w v l) (hg : w.grownBy w' none) : AccW w0 w' v l := by
  obtain ⟨zs, ho, ht, hd⟩ := h.own
  refine ⟨⟨zs, ho.kept hg ?_, ht, hd⟩, h.fresh, gr_then h.gr hg⟩
  cases v.ownBlock with
  | none => exact .inl rfl
  | some g => exact .inr (by simp)
theorem run_accW {w0 w : World} (ty : TypeId) (i : TypeInfo) (hi : Tryz.prog.info? 96 = some i) (hz : i.zero = some (.int .u64 0)) (hsize : i.size = 1) (hby : i.bytes = 8)
    (v : Value) (l : List Nat) (x : Nat) (hx : x < W64) (hacc : AccW w0 w v l) (h63 : l.length + 1 ≤ maxLen) (hbytes : (l.length + 1) * 8 ≤ 140737488355328) :
    ∃ v' w', (Builtin.append_ #[81, 81] ty #[v, .slice (some ⟨w.heap.size, 0, none⟩) 1 1]).run Tryz.prog (w.alloc (.cells #[.int .u64 (x : Int)] 96)) = .ok v' w' ∧ AccW w0 w' v' (l ++ [x]) := by
  obtain ⟨zs, hown, htake, hdz⟩ := hacc.own
  have hb : Blk .u64 96 (w.alloc (.cells #[.int .u64 (x : Int)] 96)) w.heap.size [x] := heap_alloc_new w _
  have hown' := hown.kept (gr_alloc w (.cells #[.int .u64 (x : Int)] 96) none) (by cases v.ownBlock with | none => exact .inl rfl | some g => exact .inr (by simp))
  obtain ⟨v', w', us, hrun, ho', hg, happ, hblk⟩ := run_append_blk (P := Tryz.prog) (w := w.alloc (.cells #[.int .u64 (x : Int)] 96)) .u64 96 81 ty i 8 Tryz.underlying81 hi hz hsize hby v l.length zs hown' w.heap.size 0 1 1 [x] (fun j hj => hb.cell (by simp; omega)) (by simp) (by omega) h63 hbytes
  have hdu : Dg W64 us := happ.dg W64_pos hdz (fun j => by
    rcases j with _ | j
    · exact hx
    · rw [gt_of_ge (by simp)]; exact W64_pos)
  refine ⟨v', w', hrun, ⟨us, by rw [List.length_append]; exact ho', ?_, hdu⟩, ?_, ?_⟩
  · have hlu : l.length + 1 ≤ us.length := by
      rcases ho' with ⟨_, h0, _⟩ | ⟨_, _, _, h1, _⟩
      · omega
      · exact h1
    have hlz : l.length ≤ zs.length := by
      have := congrArg List.length htake
      simp at this; omega
    apply gt_ext
    · simp; omega
    · intro j hj
      simp at hj
      rw [gt_take (by simp; omega)]
      by_cases h1 : j < l.length
      · rw [gt_append_left h1, happ.old j h1]
        rw [← gt_take (xs := zs) h1, htake]
      · rw [gt_append_right (by omega)]
        have := happ.new (j - l.length) (by omega)
        rw [Nat.zero_add, show l.length + (j - l.length) = j from by omega] at this
        exact this
  · rcases hblk with e1 | ⟨g, e1, e2⟩
    · rw [e1]; exact hacc.fresh
    · refine .inr ⟨g, e1, ?_⟩
      have h1 := hacc.gr.size
      simp at e2; omega
  · refine gr_trans (gr_then hacc.gr (gr_alloc w _ none)) hg (.inl rfl) ?_
    rcases hacc.fresh with e1 | ⟨g, e1, e2⟩
    · rw [e1]; exact .inl rfl
    · exact .inr (.inr fun j e3 => by rw [e1] at e3; cases e3; exact e2)
theorem wpList_accW {w0 w : World} {ops : Array Oper} {rest : List Oper} {o : Oper} {a : Act} {Q : Exit → Act → World → Prop} (hgd : o.guard = none) (s y : Operand)
    (ho : o.op = .call { callee := .builtin .append, args := #[s, y], argTypes := #[81, 81] })
    (i : TypeInfo) (hi : Tryz.prog.info? 96 = some i) (hz : i.zero = some (.int .u64 0)) (hsize : i.size = 1) (hby : i.bytes = 8)
    (v : Value) (l : List Nat) (x : Nat) (hx : x < W64) (hacc : AccW w0 w v l) (hs : a.eval s = v) (hy : a.eval y = .slice (some ⟨w.heap.size, 0, none⟩) 1 1)
    (h63 : l.length + 1 ≤ maxLen) (hbytes : (l.length + 1) * 8 ≤ 140737488355328)
    (h : ∀ v' w', AccW w0 w' v' (l ++ [x]) → wpList Tryz.prog ops Q rest (a.put o.dst v') w') : wpList Tryz.prog ops Q (o :: rest) a (w.alloc (.cells #[.int .u64 (x : Int)] 96)) := by
  refine wpList_plain hgd fun K hK => ?_
  obtain ⟨v', w', hr, h2⟩ := run_accW o.type i hi hz hsize hby v l x hx hacc h63 hbytes
  unfold Oper.wp execOp
  simp only [ho, resolve, invoke, builtin, Sem.run_bind, Sem.run_pure, Result.andThen_ok, List.map_toArray, List.map_cons, List.map_nil, hs, hy, hr]
  exact hK _ _ (h v' w' h2)
theorem AccW.set {w0 w : World} {g n c : Nat} {l : List Nat} (h : AccW w0 w (.slice (some ⟨g, 0, none⟩) n c) l) {i : Nat} (x : Nat) (hx : x < W64) : AccW w0 (w.setCell ⟨g, i, none⟩ (.int .u64 (x : Int))) (.slice (some ⟨g, 0, none⟩) n c) (l.set i x) := by
  obtain ⟨zs, hown, ht, hd⟩ := h.own
  have hfr : w0.heap.size ≤ g := by
    rcases h.fresh with e | ⟨g', e, e'⟩
    · cases e
    · simp only [Value.ownBlock, Option.some.injEq] at e; omega
  refine ⟨⟨zs.set i x, ?_, ?_, hd.set hx⟩, h.fresh, gr_new h.gr (gr_set _ _ _ _) hfr⟩
  · rcases hown with ⟨h1, _, _⟩ | ⟨g', h1, hb, h2, h3⟩
    · cases h1
    · have hv := h1
      simp only [Value.slice.injEq, Option.some.injEq, Addr.mk.injEq, and_true] at h1
      obtain ⟨rfl, hn, hc⟩ := h1
      exact .inr ⟨g, by rw [List.length_set, List.length_set]; exact hv, hb.set i x, by rw [List.length_set, List.length_set]; exact h2, by rw [List.length_set]; exact h3⟩
  · rw [List.length_set, List.take_set, ht]
/-- What a slice of words holds at a place. -/
theorem AccW.cell_ {w0 w : World} {g n c : Nat} {l : List Nat} (h : AccW w0 w (.slice (some ⟨g, 0, none⟩) n c) l) {i : Nat} (hi : i < l.length) : w.cell? ⟨g, i, none⟩ = some (.int .u64 ((gt l i : Nat) : Int)) ∧ w.frozen? ⟨g, i, none⟩ = false ∧ n = l.length ∧ l.length ≤ c ∧ c ≤ maxLen := by
  obtain ⟨zs, hown, ht, _⟩ := h.own
  rcases hown with ⟨h1, _, _⟩ | ⟨g', h1, hb, h2, h3⟩
  · cases h1
  · simp only [Value.slice.injEq, Option.some.injEq, Addr.mk.injEq, and_true] at h1
    obtain ⟨rfl, hn, hc⟩ := h1
    refine ⟨?_, hb.frozen i, hn, by omega, by omega⟩
    rw [hb.cell (by omega), ← ht, gt_take hi]

/-- Words times a factor plus a word, i of them. -/
def TpInv (l : List Nat) (f p i : Nat) (us : List Nat) (q : Nat) : Prop := us.length = l.length ∧ Dg W64 us ∧ q < W64 ∧ (∀ j, i ≤ j → gt us j = gt l j) ∧ vs W64 us 0 i + W64 ^ i * q = vs W64 l 0 i * f + p
theorem tp_split (x f q : Nat) : addLo (mulLo x f) q 0 + W64 * (mulHi x f + addHi (mulLo x f) q 0) = x * f + q := by
  have h1 := mul_split x f
  have h2 := add_split (mulLo x f) q 0
  rw [Nat.mul_add]; omega
theorem tp_hi {x f q : Nat} (hx : x < W64) (hf : f < W64) (hq : q < W64) : mulHi x f + addHi (mulLo x f) q 0 < W64 := by
  have h := tp_split x f q
  have h1 : x * f ≤ (W64 - 1) * (W64 - 1) := Nat.mul_le_mul (by omega) (by omega)
  have h2 : (W64 - 1) * (W64 - 1) + (W64 - 1) < W64 * W64 := by decide
  refine Nat.lt_of_mul_lt_mul_left (a := W64) ?_
  omega
theorem TpInv.next {l us : List Nat} {f p i q : Nat} (h : TpInv l f p i us q) (hf : f < W64) (hi : i < l.length) : TpInv l f p (i + 1) (us.set i (addLo (mulLo (gt l i) f) q 0)) (mulHi (gt l i) f + addHi (mulLo (gt l i) f) q 0) := by
  obtain ⟨h1, h2, h3, h4, h5⟩ := h
  have hlt : i < us.length := by omega
  have hx : gt l i < W64 := by rw [← h4 i (Nat.le_refl _)]; exact h2 i
  refine ⟨by rw [List.length_set]; exact h1, h2.set (addLo_lt _ _ _), tp_hi hx hf h3, fun j hj => ?_, ?_⟩
  · rw [gt_set hlt, if_neg (by omega)]; exact h4 j (by omega)
  · have hs := tp_split (gt l i) f q
    simp only [vs, Nat.zero_add]
    rw [gt_set hlt, if_pos rfl, vs_congr (ys := us) (off' := 0) (fun j hj => by rw [gt_set hlt, if_neg (by omega)])]
    have e : W64 ^ i * addLo (mulLo (gt l i) f) q 0 + W64 ^ (i + 1) * (mulHi (gt l i) f + addHi (mulLo (gt l i) f) q 0) = W64 ^ i * gt l i * f + W64 ^ i * q := by
      rw [Nat.pow_succ, Nat.mul_assoc (W64 ^ i) W64, ← Nat.mul_add, hs, Nat.mul_add, Nat.mul_assoc]
    rw [Nat.add_mul]
    omega

set_option maxHeartbeats 2000000 in
set_option maxRecDepth 100000 in
theorem timesPlus_any (v : Value) (l : List Nat) (w0 w : World) (f p : Nat) (hacc : AccW w0 w v l) (hd : Dg W64 l) (hf : f < W64) (hp : p < W64) (hm : l.length ≤ 1000000000) :
    Calls Tryz.prog 97 #[v, .int .u64 (f : Int), .int .u64 (p : Int)] w fun e w' => ∃ v' l', e = .returned v' ∧ AccW w0 w' v' l' ∧ Dg W64 l' ∧ val W64 l' = val W64 l * f + p ∧ l'.length ≤ l.length + 1 := by
  obtain ⟨i0, hi, hz0, hz1, hz2⟩ := info_parts infoW
  have ha := add64_run0
  obtain ⟨a, n, c, rfl⟩ : ∃ a n c, v = .slice a n c := by
    obtain ⟨zs, hown, _, _⟩ := hacc.own
    rcases hown with ⟨rfl, _, _⟩ | ⟨g, rfl, _⟩
    · exact ⟨_, _, _, rfl⟩
    · exact ⟨_, _, _, rfl⟩
  have hn : n = l.length := by
    obtain ⟨zs, hown, _, _⟩ := hacc.own
    rcases hown with ⟨h1, h2, _⟩ | ⟨g, h1, _⟩
    · simp only [Value.slice.injEq] at h1; omega
    · simp only [Value.slice.injEq] at h1; exact h1.2.1
  have H0 := Lib.hid (show TpInv l f p 0 l p from ⟨rfl, hd, hp, fun _ _ => rfl, by simp [vs]⟩)
  have HN := Lib.hid hn
  have hm' : n ≤ 1000000000 := by omega
  clear hn hm
  go_enter Tryz.func97, Tryz.ntmps97
  go_wp2
  go_loopw [2, 14] (fun pv kv wr => ∃ (i q : Nat) (us : List Nat), i ≤ n ∧ kv = .int .i64 i ∧ pv = .int .u64 q ∧ AccW w0 wr (.slice a n c) us ∧ Hid (TpInv l f p i us q)) (fun _ kv _ => n - (intOf kv).toNat)
  case atStart => exact ⟨0, p, l, Nat.zero_le _, rfl, rfl, hacc, H0⟩
  case round =>
    obtain ⟨i, q, us, hi', rfl, rfl, hacc, HI⟩ := hrel
    have hq := HI.out.2.2.1
    have hlu : us.length = l.length := HI.out.1
    have HLU := Lib.hid hlu
    clear hlu
    by_cases hlt : i < n
    · obtain ⟨g, rfl⟩ : ∃ g, a = some ⟨g, 0, none⟩ := by
        obtain ⟨zs, hown, _, _⟩ := hacc.own
        rcases hown with ⟨h1, _, _⟩ | ⟨g, h1, _⟩
        · simp only [Value.slice.injEq] at h1; omega
        · simp only [Value.slice.injEq] at h1; exact ⟨g, h1.1⟩
      obtain ⟨hcell, hfr, hneq, hnc, hcm⟩ := hacc.cell_ (i := i) (by rw [HLU.out, ← HN.out]; exact hlt)
      clear hneq
      have hnc' : n ≤ c := by rw [HN.out, ← HLU.out]; exact hnc
      have hold := HI.out.2.2.2.1 i (Nat.le_refl _)
      have hx : gt l i < W64 := by rw [← hold]; exact HI.out.2.1 i
      rw [hold] at hcell
      have HNX := Lib.hid (HI.out.next hf (by rw [← HN.out]; exact hlt))
      have hhi := tp_hi hx hf hq
      generalize gt l i = X at hcell hx HNX hhi
      have HA := Lib.hid hacc
      have hsum : IntKind.u64.wrap (((mulHi X f : Nat) : Int) + ((addHi (mulLo X f) q 0 : Nat) : Int)) = ((mulHi X f + addHi (mulLo X f) q 0 : Nat) : Int) := by rw [← Int.natCast_add, wrap_u64 _ hhi]
      have HS := Lib.hid hsum
      clear hold hnc hacc hsum
      go_wp2_with fail
      refine (mul64_run X f hx hf _).mono ?_
      rintro e w' ⟨rfl, rfl⟩
      go_wp2
      go_roundw
      case rel => exact ⟨i + 1, mulHi X f + addHi (mulLo X f) q 0, _, by omega, by go_num, by rw [HS.out], HA.out.set _ (addLo_lt _ _ _), HNX⟩
      case measure => simp [intOf]; omega
    · obtain rfl : i = n := by omega
      have hlast := HI.out.2.2.2.2
      rw [HN.out, vs_val, ← HLU.out, vs_val] at hlast
      have hdu := HI.out.2.1
      rcases Nat.eq_zero_or_pos q with h0 | h0
      · subst h0
        rw [Nat.mul_zero, Nat.add_zero] at hlast
        have HL := Lib.hid hlast
        have HA := Lib.hid hacc
        clear hlast hacc hi hz0 hz1 hz2
        go_wp2
        go_ret
        exact ⟨_, us, rfl, HA.out, hdu, HL.out, by rw [HLU.out]; omega⟩
      · have HL := Lib.hid hlast
        clear hlast
        go_wp2_with (at_builtin; refine wpList_accW rfl (.tmp 41) (.tmp 43) rfl i0 hi hz0 hz1 hz2 _ us q hq hacc rfl rfl ?_ ?_ ?_)
        case refine_1 => rw [HLU.out, ← HN.out]; show i + 1 ≤ maxLen; unfold maxLen; omega
        case refine_2 => rw [HLU.out, ← HN.out]; show (i + 1) * 8 ≤ _; omega
        intro v' w' hacc'
        have HA := Lib.hid hacc'
        clear hacc hacc' hi hz0 hz1 hz2
        go_wp2
        go_ret
        refine ⟨_, us ++ [q], rfl, HA.out, ?_, ?_, by rw [List.length_append, HLU.out]; exact Nat.le_refl _⟩
        · refine Dg.of_mem W64_pos fun x hx => ?_
          rcases List.mem_append.1 hx with h1 | h1
          · exact hdu.mem x h1
          · rw [List.mem_singleton.1 h1]; exact hq
        · rw [val_snoc]; exact HL.out

end Go.Proofs.YtoadjhmehgkeaaaGreatDoor
namespace Go.Proofs.YtoadjhmehgkeaaaGreatDoor
open Go.RowKit Mth

theorem timesPlus_19 (v : Value) (l : List Nat) (w0 w : World) (p : Nat) (hacc : AccW w0 w v l) (hd : Dg W64 l) (hp : p < W64) (hm : l.length ≤ 1000000000) :
    Calls Tryz.prog 97 #[v, .int .u64 10000000000000000000, .int .u64 (p : Int)] w fun e w' => ∃ v' l', e = .returned v' ∧ AccW w0 w' v' l' ∧ Dg W64 l' ∧ val W64 l' = val W64 l * 10000000000000000000 + p ∧ l'.length ≤ l.length + 1 := by
  obtain ⟨F, hF⟩ : ∃ F, F = 10000000000000000000 := ⟨_, rfl⟩
  have hFi : (F : Int) = 10000000000000000000 := by omega
  have h := timesPlus_any v l w0 w F p hacc hd (by rw [hF]; decide) hp hm
  rw [hFi] at h
  rw [← hF]
  exact h

set_option maxHeartbeats 4000000 in
set_option maxRecDepth 100000 in
theorem parse_yes (s : ByteArray) (w : World) (hs : s.size ≤ 1000000) (h : isTxt s.data.toList = true) :
    Calls Tryz.prog 33 #[.string s] w fun e w' => e = .returned (.tuple #[.string ⟨(enc (dnum s.data.toList)).toArray⟩, .bool true]) ∧ w.grownBy w' none := by
  have hall : s.data.toList.all isDg = true := by
    unfold isTxt at h
    rw [Bool.and_eq_true] at h
    exact h.1
  have HAll := Lib.hid hall
  have HT := Lib.hid h
  clear h hall
  go_enter Tryz.func33, Tryz.ntmps33
  go_wp2_with fail
  refine (isText_any s w (by omega)).mono ?_
  rintro e w1 ⟨rfl, hg⟩
  rw [HT.out]
  go_wp2
  go_loopw [0, 4] (fun sv wv wr => ∃ (r : ByteArray) (p : List UInt8) (l : List Nat), sv = .string r ∧ AccW w1 wr wv l ∧ r.size ≤ s.size ∧ l.length + r.size ≤ s.size ∧ Hid (Dg W64 l ∧ val W64 l = dnum p ∧ p ++ r.data.toList = s.data.toList ∧ (p = [] ∨ r.size % 19 = 0))) (fun sv _ _ => match sv with | .string r => r.size | _ => 0)
  case atStart => exact ⟨s, [], [], rfl, .nil _, Nat.le_refl _, by simp, Lib.hid ⟨fun i => by simp [gt, W64_pos], rfl, rfl, .inl rfl⟩⟩
  case round =>
    obtain ⟨r, p, l, rfl, hacc, hr1, hr2, HI⟩ := hrel
    rcases Nat.eq_zero_or_pos r.size with h0 | h0
    · have hi := HI.out
      have hp : p = s.data.toList := by
        have := hi.2.2.1
        rw [nil_of_size h0, List.append_nil] at this
        exact this
      have HV := Lib.hid (show val W64 l = dnum s.data.toList by rw [hi.2.1, hp])
      have HD := Lib.hid hi.1
      have HG := Lib.hid (gr_then hg hacc.gr)
      have hz : (r.size : Int) = 0 := by omega
      have hll : l.length ≤ 1000000 := by omega
      obtain ⟨zs, hown, ht, hdz⟩ := hacc.own
      rcases hown with ⟨rfl, hl0, hzs⟩ | ⟨g, rfl, hb, hl1, hl2⟩
      · have hl : l = [] := List.eq_nil_of_length_eq_zero hl0
        subst hl
        have he : (⟨(enc (dnum s.data.toList)).toArray⟩ : ByteArray) = ⟨#[]⟩ := by rw [← HV.out, val_nil, enc_zero]
        have HE := Lib.hid he
        clear hi hp hacc hl0 hzs ht he
        go_wp2_with fail
        refine (natOf_nil _).mono ?_
        rintro e w3 ⟨rfl, rfl⟩
        go_wp2
        go_ret2
        exact ⟨by rw [HE.out]; rfl, HG.out⟩
      · have hlz : l.length ≤ zs.length := hl1
        have hlz2 : zs.length ≤ maxLen := hl2
        have hvs : vs W64 zs 0 l.length = dnum s.data.toList := by rw [vs_take zs _ hl1, ht, HV.out]
        have HVS := Lib.hid hvs
        have HB := Lib.hid hb
        have HDZ := Lib.hid hdz
        clear hi hp hacc hvs ht hb hdz
        go_wp2_with fail
        refine (natOf_any g 0 l.length zs.length zs _ HB.out (by omega) HDZ.out hl1 hl2 (by omega)).mono ?_
        rintro e w3 ⟨rfl, h3⟩
        rw [HVS.out]
        go_wp2
        go_ret2
        exact ⟨rfl, gr_then HG.out h3⟩
    · obtain ⟨k, hk⟩ : ∃ k, k = (r.size - 1) % 19 + 1 := ⟨_, rfl⟩
      have hk1 : 1 ≤ k := by omega
      have hk2 : k ≤ 19 := by omega
      have hk3 : k ≤ r.size := by omega
      have hk4 : (r.size - k) % 19 = 0 := by omega
      have hkc : ((r.size : Int) - 1) % 19 + 1 = (k : Int) := by omega
      have hi' := HI.out
      have hrall : r.data.toList.all isDg = true := by
        have := HAll.out
        rw [← hi'.2.2.1, List.all_append, Bool.and_eq_true] at this
        exact this.2
      have hex1 : (r.extract 0 k).data.toList = r.data.toList.take k := by simp
      have hex2 : (r.extract k r.size).data.toList = r.data.toList.drop k := Lib.extract_to_end r k
      have hes1 : (r.extract 0 k).size = k := by rw [← len_toList, hex1, List.length_take, len_toList]; omega
      have hes2 : (r.extract k r.size).size = r.size - k := by rw [← len_toList, hex2, List.length_drop, len_toList]
      have hgd : (r.extract 0 k).data.toList.all isDg = true := by rw [hex1]; exact all_take hrall k
      have hglt := dnum_lt _ hgd
      rw [len_toList, hes1] at hglt
      have hg64 : dnum (r.extract 0 k).data.toList < W64 := by
        have e1 : 10 ^ k ≤ 10 ^ 19 := Nat.pow_le_pow_right (by decide) hk2
        have e2 : 10 ^ 19 < W64 := by decide
        omega
      have hnum : val W64 l * 10000000000000000000 + dnum (r.extract 0 k).data.toList = dnum (p ++ r.data.toList.take k) := by
        rw [dnum_append, hex1, hi'.2.1, List.length_take, len_toList, Nat.min_eq_left hk3]
        rcases hi'.2.2.2 with h1 | h1
        · rw [h1, dnum_nil, Nat.zero_mul, Nat.zero_mul]
        · have : k = 19 := by omega
          rw [this]
      have hpre : (p ++ r.data.toList.take k) ++ (r.extract k r.size).data.toList = s.data.toList := by
        rw [hex2, List.append_assoc, List.take_append_drop]; exact hi'.2.2.1
      obtain ⟨gv, hgv⟩ : ∃ gv, gv = dnum (r.extract 0 k).data.toList := ⟨_, rfl⟩
      have hgo := fun w => groupOf_any (r.extract 0 k) w (by rw [hes1]; exact hk2) hgd
      rw [← hgv] at hg64 hnum hgo
      have HGO := Lib.hid hgo
      have HNUM := Lib.hid hnum
      have HPRE := Lib.hid hpre
      have HD := Lib.hid hi'.1
      have HGD := Lib.hid hgd
      have HG64 := Lib.hid hg64
      have HES1 := Lib.hid hes1
      have HES2 := Lib.hid hes2
      have HACC := Lib.hid hacc
      have hll : l.length ≤ 1000000 := by omega
      clear hi' hrall hex1 hex2 hes1 hes2 hgd hglt hg64 hnum hpre hacc hk hgo hgv
      go_wp2_with fail
      refine (HGO.out _).mono ?_
      rintro e w2 ⟨rfl, rfl⟩
      go_wp2_with fail
      refine (timesPlus_19 _ l w1 _ _ HACC.out HD.out HG64.out (by omega)).mono ?_
      rintro e w3 ⟨v', l', rfl, hacc', hd', hv', hl'⟩
      rw [HNUM.out] at hv'
      have HI' := Lib.hid (show Dg W64 l' ∧ val W64 l' = dnum (p ++ r.data.toList.take k) ∧ (p ++ r.data.toList.take k) ++ (r.extract k r.size).data.toList = s.data.toList ∧ (p ++ r.data.toList.take k = [] ∨ (r.extract k r.size).size % 19 = 0) from ⟨hd', hv', HPRE.out, .inr (by rw [HES2.out]; exact hk4)⟩)
      clear hd' hv'
      go_wp2
      refine ⟨⟨r.extract k r.size, p ++ r.data.toList.take k, l', rfl, hacc', by rw [HES2.out]; omega, by rw [HES2.out]; omega, HI'⟩, ?_⟩
      show (r.extract k r.size).size < r.size
      rw [HES2.out]; omega
end Go.Proofs.YtoadjhmehgkeaaaGreatDoor
namespace Go.Proofs.YtoadjhmehgkeaaaGreatDoor
open Go.RowKit Mth Go.Lib

theorem dec_big {n : Nat} (h : 10 ≤ n) : decDigits n = decDigits (n / 10) ++ [UInt8.ofNat (48 + n % 10)] := by rw [decDigits, dif_neg (by omega)]
/-- One byte that the call has laid. -/
theorem acc_one (w : World) (c : Nat) : Acc .u8 5 w (w.alloc (.cells #[.int .u8 (c : Int)] 5)) (.slice (some ⟨w.heap.size, 0, none⟩) 1 1) [c] := by
  have hb : Blk .u8 5 (w.alloc (.cells #[.int .u8 (c : Int)] 5)) w.heap.size [c] := heap_alloc_new w _
  exact ⟨⟨[c], .inr ⟨w.heap.size, rfl, hb, Nat.le_refl _, by unfold maxLen; simp⟩, rfl⟩, .inr ⟨_, rfl, Nat.le_refl _⟩, gr_alloc w _ none⟩

set_option maxHeartbeats 600000 in
set_option maxRecDepth 100000 in
theorem s_rtext (s : ByteArray) (n : Nat) (w : World) (hn : num s.data.toList = n) (hs : s.size ≤ 1000000000) (hn2 : n < 256 ^ 200) (hL : (decDigits n).length ≤ 1000) : Gives 34 #[.string s] w (.string ⟨(decDigits n).toArray⟩) := by
  have HN := Lib.hid hn
  have HN2 := Lib.hid hn2
  have HL := Lib.hid hL
  clear hn hn2 hL
  rcases Nat.eq_zero_or_pos n with h0 | h0
  · subst h0
    have hz := s_len_zero
    go_enter Tryz.func34, Tryz.ntmps34
    go_wp2_with fail
    refine (s_canon s 0 _ HN.out (by omega)).mono ?_
    rintro e w1 ⟨rfl, hg⟩
    go_wp2
    go_ret
    exact ⟨by rw [decDigits_one (by omega)]; rfl, hg⟩
  · have hp := s_len_pos h0
    have hz : (((S n).size : Int) == 0) = false := by rw [beq_eq_false_iff_ne]; omega
    go_enter Tryz.func34, Tryz.ntmps34
    go_wp2_with fail
    refine (s_canon s n _ HN.out (by omega)).mono ?_
    rintro e w1 ⟨rfl, hg⟩
    have H0 := Lib.hid h0
    have hst : (0 < n → decDigits n ++ (⟨#[]⟩ : ByteArray).data.toList = decDigits n) ∧ (n = 0 → (⟨#[]⟩ : ByteArray).data.toList = decDigits n) := ⟨fun _ => by simp, fun h => by omega⟩
    have HST := Lib.hid hst
    clear h0 hst
    go_wp2
    go_loopw [0, 3] (fun u v wr => ∃ (x : Nat) (str : ByteArray), u = .string (S x) ∧ v = .string str ∧ w.grownBy wr none ∧ Hid (x ≤ n ∧ (0 < x → decDigits x ++ str.data.toList = decDigits n) ∧ (x = 0 → str.data.toList = decDigits n))) (fun u _ _ => numOf u)
    case atStart => exact ⟨n, ⟨#[]⟩, rfl, rfl, hg, Lib.hid ⟨Nat.le_refl _, HST.out⟩⟩
    case round =>
      obtain ⟨x, str, rfl, rfl, hg, HI⟩ := hrel
      rcases Nat.eq_zero_or_pos x with h0 | h0
      · subst h0
        have hz0 := s_len_zero
        have hfin : str = ⟨(decDigits n).toArray⟩ := by
          have := HI.out.2.2 rfl
          cases str with | mk d => rw [← this]
        have HF := Lib.hid hfin
        clear hfin
        go_wp2
        go_ret
        exact ⟨by rw [← HF.out]; rfl, hg⟩
      · have hp := s_len_pos h0
        have hx := Nat.lt_of_le_of_lt HI.out.1 HN2.out
        have HX := Lib.hid hx
        have HX0 := Lib.hid h0
        obtain ⟨d, hd⟩ : ∃ d, d = x % 10 := ⟨_, rfl⟩
        have hd9 : d ≤ 9 := by omega
        obtain ⟨c, hc⟩ : ∃ c, c = 48 + d := ⟨_, rfl⟩
        have hci : (48 : Int) + (d : Int) = (c : Int) := by omega
        have hc57 : c ≤ 57 := by omega
        have hint : ∀ w, Gives 99 #[.string (S (x % 10))] w (.tuple #[.int .i64 (d : Int), .bool true]) := fun w => by
          have hr := rint_yes (S (x % 10)) w (by have := s_size9 (n := x % 10) (Nat.lt_of_le_of_lt (Nat.mod_le _ _) hx); omega) (by rw [s_num]; omega)
          rw [s_num] at hr
          rw [hd]
          refine hr.mono ?_
          rintro e w' ⟨rfl, rfl⟩
          exact ⟨rfl, World.grownBy.refl _ _⟩
        have HINT := Lib.hid hint
        have hu : u8s [c] = [UInt8.ofNat (48 + x % 10)] := by rw [hc, hd]; rfl
        have hnx : x / 10 ≤ n ∧ (0 < x / 10 → decDigits (x / 10) ++ (u8s [c] ++ str.data.toList) = decDigits n) ∧ (x / 10 = 0 → u8s [c] ++ str.data.toList = decDigits n) := by
          have hi := HI.out
          refine ⟨by have := hi.1; omega, fun h => ?_, fun h => ?_⟩
          · rw [← hi.2.1 h0, dec_big (n := x) (by omega), hu, List.append_assoc]
          · rw [← hi.2.1 h0, hu, decDigits_one (by omega), show x % 10 = x from by omega]
        have HNX := Lib.hid hnx
        have hstr : str.size ≤ 1000 := by
          have e1 := HI.out.2.1 h0
          have e2 := congrArg List.length e1
          rw [List.length_append, len_toList] at e2
          have := HL.out
          omega
        have hlen1 : (u8s [c]).length = 1 := rfl
        clear hx h0 hint hu hnx hd hc
        go_wp2_with fail
        refine (rof_any 10 _ (by omega)).mono ?_
        rintro e w2 ⟨rfl, h2⟩
        have hg := gr_then hg h2
        rw [show (⟨(enc 10).toArray⟩ : ByteArray) = S 10 from rfl]
        go_wp2_with fail
        refine (s_rquo (S x) (S 10) x 10 _ (s_num _) (s_num _) (by decide) (s_size9 HX.out) (s_size9 (by decide))).mono ?_
        rintro e w3 ⟨rfl, h3⟩
        have hg := gr_then hg h3
        go_wp2_with fail
        refine (HINT.out _).mono ?_
        rintro e w4 ⟨rfl, h4⟩
        have hg := gr_then hg h4
        clear h2 h3 h4
        have hcv := (acc_one w4 c).str (P := Tryz.prog) 22 9 Tryz.underlying22 Tryz.underlying5 Tryz.underlying9
        have hga := gr_then hg (gr_alloc w4 (.cells #[.int .u8 (c : Int)] 5) none)
        go_wp2
        refine ⟨⟨x / 10, ⟨(u8s [c]).toArray⟩ ++ str, rfl, rfl, hga, Lib.hid ?_⟩, ?_⟩
        · rw [ByteArray.data_append, Array.toList_append]; exact HNX.out
        · show numOf (.string (S (x / 10))) < numOf (.string (S x))
          rw [numOf_s, numOf_s]
          have := HX0.out
          omega

/-- What Parse gives of any string. -/
def parsed (s : ByteArray) : Value := if isTxt s.data.toList = true then .tuple #[.string (S (dnum s.data.toList)), .bool true] else .tuple #[.string ⟨#[]⟩, .bool false]
theorem isTxt_zero {s : ByteArray} (h : s.size = 0) : isTxt s.data.toList = false := by rw [nil_of_size h]; rfl
theorem isTxt_lead {s : ByteArray} (h1 : 1 < s.size) (h : s[0].toNat = 48) : isTxt s.data.toList = false := by
  have e : s[0] = 48 := UInt8.toNat_inj.1 (by rw [h]; rfl)
  have hc := cons_of_size (show 0 < s.size by omega)
  rw [hc, e]
  have hl : (s.data.toList.drop 1).length ≠ 0 := by rw [List.length_drop, len_toList]; omega
  unfold isTxt
  rw [Bool.and_eq_false_iff]
  right
  cases hd : s.data.toList.drop 1 with
  | nil => rw [hd] at hl; exact absurd rfl hl
  | cons a l => simp
theorem isTxt_fine {s : ByteArray} (h0 : 0 < s.size) (hall : s.data.toList.all isDg = true) (h : s.size = 1 ∨ s[0].toNat ≠ 48) : isTxt s.data.toList = true := by
  unfold isTxt
  rw [isDig_isDg, hall, Bool.true_and, Bool.or_eq_true]
  by_cases e : s[0].toNat = 48
  · left
    have h1 : s.size = 1 := by rcases h with h | h; exact h; exact absurd e h
    have e' : s[0] = 48 := UInt8.toNat_inj.1 (by rw [e]; rfl)
    rw [cons_of_size h0, e', List.drop_eq_nil_of_le (by rw [len_toList]; omega)]
    rfl
  · right
    have hne : s[0] ≠ 48 := fun e2 => e (by rw [e2]; rfl)
    rw [cons_of_size h0]
    simp [hne]
theorem pow_small {k : Nat} (hk : k ≤ 200) : 10 ^ k * 10 + 9 < 256 ^ 200 := by
  have h1 : 10 ^ k ≤ 10 ^ 200 := Nat.pow_le_pow_right (by decide) hk
  have h2 : 10 ^ 200 * 10 + 9 < 256 ^ 200 := by decide
  omega

end Go.Proofs.YtoadjhmehgkeaaaGreatDoor
namespace Go.Proofs.YtoadjhmehgkeaaaGreatDoor
open Go.RowKit Mth Go.Lib

set_option maxHeartbeats 1000000 in
set_option maxRecDepth 100000 in
theorem s_rparse (s : ByteArray) (w : World) (hs : s.size ≤ 200) : Gives 36 #[.string s] w (parsed s) := by
  rcases Nat.eq_zero_or_pos s.size with h0 | h0
  · have hp : parsed s = .tuple #[.string ⟨#[]⟩, .bool false] := by unfold parsed; rw [isTxt_zero h0]; rfl
    have hz : ((s.size : Int) == 0) = true := by rw [h0]; rfl
    rw [hp]
    clear hp
    go_enter Tryz.func36, Tryz.ntmps36
    go_wp2
    go_ret2
    exact ⟨rfl, World.grownBy.refl _ _⟩
  by_cases hlead : 1 < s.size ∧ s[0].toNat = 48
  · have hp : parsed s = .tuple #[.string ⟨#[]⟩, .bool false] := by unfold parsed; rw [isTxt_lead hlead.1 hlead.2]; rfl
    have hz : ((s.size : Int) == 0) = false := by rw [beq_eq_false_iff_ne]; omega
    have h1 : (1 : Int) < (s.size : Int) := by omega
    have h48 : ((s[0].toNat : Int) == 48) = true := by rw [hlead.2]; rfl
    rw [hp]
    clear hp hlead
    go_enter Tryz.func36, Tryz.ntmps36
    go_wp2
    go_ret2
    exact ⟨rfl, World.grownBy.refl _ _⟩
  have hfine : s.size = 1 ∨ s[0].toNat ≠ 48 := by omega
  have hz : ((s.size : Int) == 0) = false := by rw [beq_eq_false_iff_ne]; omega
  have HFINE := Lib.hid (fun hall => isTxt_fine h0 hall hfine)
  have hcase : (¬ (1 : Int) < (s.size : Int)) ∨ ((1 : Int) < (s.size : Int) ∧ ((s[0].toNat : Int) == 48) = false) := by
    rcases hfine with h | h
    · left; omega
    · by_cases h1 : 1 < s.size
      · right; exact ⟨by omega, by rw [beq_eq_false_iff_ne]; omega⟩
      · left; omega
  have H0 := Lib.hid h0
  clear hlead hfine
  rcases hcase with h1 | ⟨h1, h48⟩
  all_goals
    go_enter Tryz.func36, Tryz.ntmps36
    go_wp2
    go_loopw [4, 5] (fun av kv wr => ∃ k : Nat, k ≤ s.size ∧ kv = .int .i64 k ∧ av = .string (S (dnum (s.data.toList.take k))) ∧ w.grownBy wr none ∧ Hid ((s.data.toList.take k).all isDg = true)) (fun _ kv _ => s.size - (RowKit.intOf kv).toNat)
    case atStart => exact ⟨0, Nat.zero_le _, rfl, by rw [List.take_zero, dnum_nil, s_zero], World.grownBy.refl _ _, Lib.hid rfl⟩
    case round =>
      obtain ⟨k, hk, rfl, rfl, hg, HA⟩ := hrel
      by_cases hlt : k < s.size
      · by_cases hdig : isDig s[k] = true
        · have hb : 48 ≤ s[k].toNat ∧ s[k].toNat ≤ 57 := by simpa [isDig] using hdig
          obtain ⟨b1, b2⟩ := hb
          obtain ⟨d, hd⟩ : ∃ d, d = s[k].toNat - 48 := ⟨_, rfl⟩
          have hd9 : d ≤ 9 := by omega
          have hdb : d ≤ 9223372036854775807 := by omega
          have hw8 : IntKind.u8.wrap (d : Int) = (d : Int) := by rw [IntKind.wrap_u8]; omega
          have hw64 : IntKind.i64.wrap (d : Int) = (d : Int) := by rw [IntKind.wrap_i64]; omega
          have hsub : (s[k].toNat : Int) - 48 = (d : Int) := by omega
          have hnx := dnum_take_succ s hlt
          rw [← hd] at hnx
          have hall : (s.data.toList.take (k + 1)).all isDg = true := by
            rw [List.take_succ_eq_append_getElem (by rw [len_toList]; exact hlt), List.all_append, HA.out, Bool.true_and]
            show ([s[k]].all isDg) = true
            simp only [List.all_cons, List.all_nil, Bool.and_true]
            exact hdig
          have HALL := Lib.hid hall
          have hlt10 := dnum_lt _ HA.out
          rw [List.length_take, len_toList, Nat.min_eq_left hk] at hlt10
          have hbig := pow_small (show k ≤ 200 by omega)
          generalize hX : dnum (s.data.toList.take k) = X at hnx hlt10
          have HNX := Lib.hid (show X * 10 + d = dnum (s.data.toList.take (k + 1)) by rw [hnx]; omega)
          have HZ1 := Lib.hid (show X * 10 < 256 ^ 200 by omega)
          have HZ2 := Lib.hid (show X < 256 ^ 200 by omega)
          have hc1 : ¬ (s[k].toNat : Int) < 48 := by omega
          have hc2 : ¬ (57 : Int) < (s[k].toNat : Int) := by omega
          have h10 : (10 : Nat) ≤ 9223372036854775807 := by decide
          have hgd := gr_then hg (gr_drew wr none)
          clear hdig hd hnx hall hlt10 hbig hX
          go_wp2_with fail
          go_region_with (first
            | (go_at_call_of 25 (Value.int IntKind.i64 10); refine (rof_any 10 _ h10).mono ?_; rintro _ w5 ⟨rfl, h5⟩; have hk5 : w.grownBy w5 none := gr_then (by assumption) h5)
            | (go_at_call_of 25 (Value.int IntKind.i64 (d : Int)); refine (rof_any d _ hdb).mono ?_; rintro _ w6 ⟨rfl, h6⟩; have hk6 : w.grownBy w6 none := gr_then (by assumption) h6)
            | (go_at_call 24; refine (s_rmul (S X) (S 10) X 10 _ (s_num _) (s_num _) (by have := s_size9 HZ2.out; omega) (by have := s_size9 (n := 10) (by decide); omega)).mono ?_; rintro _ w7 ⟨rfl, h7⟩; have hk7 : w.grownBy w7 none := gr_then (by assumption) h7)
            | (go_at_call 19; refine (s_radd (S (X * 10)) (S d) (X * 10) d _ (s_num _) (s_num _) (s_size9 HZ1.out) (s_size9 (Nat.lt_of_le_of_lt hd9 (by decide)))).mono ?_; rintro _ w8 ⟨rfl, h8⟩; have hk8 : w.grownBy w8 none := gr_then (by assumption) h8))
          all_goals
            rw [HNX.out]
            go_wp2
            exact ⟨⟨k + 1, by omega, by go_num, rfl, by assumption, HALL⟩, by simp [RowKit.intOf]; omega⟩
        · have hp : parsed s = .tuple #[.string ⟨#[]⟩, .bool false] := by unfold parsed; rw [isTxt_bad hlt (by simpa using hdig)]; rfl
          have hb : s[k].toNat < 48 ∨ 57 < s[k].toNat := by
            have : ¬ (48 ≤ s[k].toNat ∧ s[k].toNat ≤ 57) := fun h => hdig (by simpa [isDig] using h)
            omega
          have HP := Lib.hid hp
          clear hp hdig
          rcases hb with hb | hb
          · have hc1 : (s[k].toNat : Int) < 48 := by omega
            go_wp2
            go_ret2
            exact ⟨by rw [HP.out]; rfl, hg⟩
          · have hc1 : ¬ (s[k].toNat : Int) < 48 := by omega
            have hc2 : (57 : Int) < (s[k].toNat : Int) := by omega
            go_wp2
            go_ret2
            exact ⟨by rw [HP.out]; rfl, hg⟩
      · obtain rfl : k = s.size := by omega
        have hall := HA.out
        have ht : s.data.toList.take s.size = s.data.toList := List.take_of_length_le (by rw [len_toList]; omega)
        rw [ht] at hall ⊢
        have hp : parsed s = .tuple #[.string (S (dnum s.data.toList)), .bool true] := by unfold parsed; rw [if_pos (HFINE.out hall)]
        have HP := Lib.hid hp
        clear hp hall ht
        go_wp2
        go_ret2
        exact ⟨by rw [HP.out]; rfl, hg⟩
theorem s_parse (s : ByteArray) (w : World) (hs : s.size ≤ 200) : Gives 33 #[.string s] w (parsed s) := by
  unfold parsed
  split
  · rename_i h; exact parse_yes s w (by omega) h
  · rename_i h; exact parse_no s w (by omega) (by simpa using h)
end Go.Proofs.YtoadjhmehgkeaaaGreatDoor
namespace Go.Proofs.YtoadjhmehgkeaaaGreatDoor
open Go.RowKit Mth Go.Lib

theorem parsed_dec (n : Nat) : parsed ⟨(decDigits n).toArray⟩ = .tuple #[.string (S n), .bool true] := by
  have hl : (⟨(decDigits n).toArray⟩ : ByteArray).data.toList = decDigits n := by simp
  unfold parsed
  rw [hl, dnum_dec, if_pos]
  unfold isTxt
  rw [isDig_isDg, dec_all, Bool.true_and, Bool.or_eq_true]
  rcases dec_head n with ⟨h, _⟩ | ⟨h1, h2⟩
  · left; rw [h]; rfl
  · right
    cases hd : decDigits n with
    | nil => exact absurd hd h2
    | cons x l =>
      rw [hd] at h1
      simp at h1
      simp [h1]
theorem parsed_some (s : ByteArray) : ∃ (x : ByteArray) (b : Bool), parsed s = .tuple #[.string x, .bool b] := by
  unfold parsed
  split
  · exact ⟨_, _, rfl⟩
  · exact ⟨_, _, rfl⟩

/-- A block of bytes that '[]byte(s)' has laid, one of them changed. -/
theorem bytes_laid (w : World) (T : ByteArray) (cap m q : Nat) (e : TypeId) (fz : Nat × Nat) (hcap : T.size ≤ cap) (hm : m < T.size) (hfz : cap ≤ fz.1) :
    (∀ W1, W1 = w.alloc (.cells (bytesRow T cap) e fz) → (∃ v, W1.cell? ⟨w.heap.size, m, none⟩ = some v) ∧ W1.frozen? ⟨w.heap.size, m, none⟩ = false ∧
      ∃ xs : List Int, xs.length = T.size ∧ ∀ i, i < T.size → (W1.setCell ⟨w.heap.size, m, none⟩ (.int .u8 (q : Int))).cell? ⟨w.heap.size, 0 + i, none⟩ = some (.int .u8 (xs.getD i 0))) := by
  rintro W1 rfl
  have hrow := heap_alloc_new w (.cells (bytesRow T cap) e fz)
  have hsz : (bytesRow T cap).size = cap := by unfold bytesRow; simp; show T.data.size + _ = _; have : T.data.size = T.size := rfl; omega
  refine ⟨?_, ?_, ((T.data.toList.map fun b => (b.toNat : Int)).set m (q : Int)), by simp, fun i hi => ?_⟩
  · rw [cell_of_row _ _ m _ e fz hrow]
    exact ⟨_, Array.getElem?_eq_getElem (by rw [hsz]; omega)⟩
  · simp only [World.frozen?]
    rw [hrow]
    simp; omega
  · rw [Nat.zero_add, setCell_eq_setRow _ _ m _ e fz _ hrow, cell_of_row _ _ i _ e fz (setRow_heap _ _ _ _ e fz hrow)]
    rw [Array.getElem?_setIfInBounds]
    have hT : T.data.size = T.size := rfl
    by_cases h : m = i
    · subst h
      rw [if_pos rfl, if_pos (by rw [hsz]; omega)]
      simp [List.getD, hT, hm]
    · rw [if_neg h]
      unfold bytesRow
      rw [Array.getElem?_append_left (by simp; omega)]
      have e1 : T.data[i]? = some (T.data[i]'(by omega)) := Array.getElem?_eq_getElem _
      simp [List.getD, List.getElem?_set_ne h, e1]

set_option maxHeartbeats 8000000 in
set_option maxRecDepth 100000 in
theorem texts_true (vx : Value) (a raw : ByteArray) (q0 q1 : Nat) (w : World) (htab : Tab w) (hx : MadeAs w vx a) (hsa : a.size ≤ 40) (_hraw : raw.size ≤ maxLen) (hq0 : q0 ≤ 255) (_hq1 : q1 ≤ 255) :
    Gives 7 #[vx, .string raw, .agg #[.int .u8 (q0 : Int), .int .u8 (q1 : Int)]] w (.bool true) := by
  have hw0 := gr_alloc w (.cells #[.int .u8 (q0 : Int), .int .u8 (q1 : Int)] 41) none
  have hb0 : (w.alloc (.cells #[.int .u8 (q0 : Int), .int .u8 (q1 : Int)] 41)).cell? ⟨w.heap.size, 0, none⟩ = some (.int .u8 (q0 : Int)) := by rw [cell_of_row _ _ _ _ _ (0, 0) (heap_alloc_new w _)]; rfl
  have hb1 : (w.alloc (.cells #[.int .u8 (q0 : Int), .int .u8 (q1 : Int)] 41)).cell? ⟨w.heap.size, 1, none⟩ = some (.int .u8 (q1 : Int)) := by rw [cell_of_row _ _ _ _ _ (0, 0) (heap_alloc_new w _)]; rfl
  have pa := bnum a hsa
  obtain ⟨N, hN⟩ : ∃ N, num a.data.toList = N := ⟨_, rfl⟩
  rw [hN] at pa
  have HN := Lib.hid hN
  have HPA := Lib.hid pa
  have hL1 := dec_pos N
  have hL2 := dec_le N 97 (by decide) (Nat.lt_of_lt_of_le pa (by decide))
  have HT := Lib.hid (parsed_dec N)
  have HLE := Lib.hid (show (decDigits N).length ≤ 1000 by omega)
  obtain ⟨T, hT⟩ : ∃ T : ByteArray, T = ⟨(decDigits N).toArray⟩ := ⟨_, rfl⟩
  have hTs : T.size = (decDigits N).length := by rw [hT]; show (decDigits N).toArray.size = _; simp
  rw [← hTs] at hL1 hL2
  rw [← hT] at HT
  have HTE := Lib.hid hT
  have hne : ((T.size : Int) == 0) = false := by rw [beq_eq_false_iff_ne]; omega
  clear hN pa hT hTs
  go_enter Tryz.func7, Tryz.ntmps7
  go_wp2_with fail
  refine (sanity_true _ (tab_gr htab hw0)).mono ?_
  rintro _ w0 ⟨rfl, h0⟩
  have hg := gr_then hw0 h0
  have hc0 := h0.cell hb0 (by simp)
  have hc1 := h0.cell hb1 (by simp)
  generalize w.heap.size = B at hc0 hc1 ⊢
  clear hw0 hb0 hb1 h0
  go_wp2_with fail
  refine (hx _ hg).mono ?_
  rintro _ w1 ⟨rfl, rfl⟩
  go_wp2_with fail
  refine (text_any a _ (by omega) (tab_gr htab hg)).mono ?_
  rintro _ w2 ⟨rfl, h2⟩
  have hc0 := h2.cell hc0 (by simp)
  have hc1 := h2.cell hc1 (by simp)
  have hg := gr_then hg h2
  clear h2
  rw [HN.out, ← HTE.out]
  go_wp2_with fail
  refine (s_parse T _ (by omega)).mono ?_
  rintro _ w3 ⟨rfl, h3⟩
  have hc0 := h3.cell hc0 (by simp)
  have hc1 := h3.cell hc1 (by simp)
  have hg := gr_then hg h3
  clear h3
  rw [HT.out]
  go_wp2_with fail
  refine (s_rtext a N _ HN.out (by omega) (Nat.lt_of_lt_of_le HPA.out (by decide)) HLE.out).mono ?_
  rintro _ w4 ⟨rfl, h4⟩
  have hc0 := h4.cell hc0 (by simp)
  have hc1 := h4.cell hc1 (by simp)
  have hg := gr_then hg h4
  clear h4
  rw [← HTE.out]
  go_wp2_with fail
  refine (s_canon a N _ HN.out (by omega)).mono ?_
  rintro _ w5 ⟨rfl, h5⟩
  have hc0 := h5.cell hc0 (by simp)
  have hc1 := h5.cell hc1 (by simp)
  have hg := gr_then hg h5
  clear h5
  have hcv := run_bytes_of_string (P := Tryz.prog) w5 9 22 5 T Tryz.underlying9 Tryz.underlying22 Tryz.underlying5
  have hcap := grownCap_ge w5 T.size 0 5
  generalize grownCap w5 T.size 0 5 = cap at hcv hcap
  obtain ⟨m, hm⟩ : ∃ m, m = q0 % T.size := ⟨_, rfl⟩
  have hmlt : m < T.size := by rw [hm]; exact Nat.mod_lt _ (by omega)
  have hmod : (q0 : Int) % (T.size : Int) = (m : Int) := by rw [hm]; simp
  have htmod : (q0 : Int).tmod (T.size : Int) = (m : Int) := by rw [hm]; rfl
  have hnz : ¬ T.size = 0 := by omega
  obtain ⟨fz, hfz⟩ : ∃ fz : Nat × Nat, fz = ((bytesRow T cap).size, (bytesRow T cap).size + 1) := ⟨_, rfl⟩
  have hfz1 : cap ≤ fz.1 := by
    have : (bytesRow T cap).size = cap := by unfold bytesRow; simp; show T.data.size + _ = _; have : T.data.size = T.size := rfl; omega
    rw [hfz]; show cap ≤ (bytesRow T cap).size; omega
  rw [← hfz] at hcv
  obtain ⟨W1, hW1⟩ : ∃ W1 : World, W1 = w5.drew.alloc (.cells (bytesRow T cap) 5 fz) := ⟨_, rfl⟩
  rw [← hW1] at hcv
  have hg1 : w5.grownBy W1 none := by rw [hW1]; exact gr_then (gr_drew w5 none) (gr_alloc _ _ none)
  obtain ⟨⟨old, hold⟩, hfr, xs, hxs, hcells⟩ := bytes_laid w5.drew T cap m q1 5 fz (by omega) hmlt hfz1 W1 hW1
  have hG : w5.drew.heap.size = w5.heap.size := rfl
  rw [hG] at hold hfr hcells
  have hB : B ≠ w5.heap.size := by have := World.block_lt_of_cell? w5 _ hc0; simp at this; omega
  have hge := hg.size
  generalize w5.heap.size = G at hcv hold hfr hcells hB hge
  have hc0 := hg1.cell hc0 (by simp)
  have hc1 := hg1.cell hc1 (by simp)
  have hg := gr_then hg hg1
  have hd0 : W1.drew.cell? ⟨B, 0, none⟩ = some (.int .u8 (q0 : Int)) := hc0
  have hd1 : W1.drew.cell? ⟨B, 1, none⟩ = some (.int .u8 (q1 : Int)) := hc1
  have hdm : W1.drew.cell? ⟨G, m, none⟩ = some old := hold
  have hdf : W1.drew.frozen? ⟨G, m, none⟩ = false := hfr
  obtain ⟨U, hU⟩ : ∃ U : ByteArray, U = strOfNums xs := ⟨_, rfl⟩
  have hUs : U.size = T.size := by rw [hU, ← hxs]; unfold strOfNums; show (List.toArray _).size = _; simp
  have hcv2 := run_convert_bytes_arg (P := Tryz.prog) (W1.setCell ⟨G, m, none⟩ (.int .u8 (q1 : Int))).drew.drew 22 5 Tryz.underlying22 Tryz.underlying5 G 0 T.size cap xs hxs (fun i hi => hcells i hi) 9 Tryz.underlying9
  rw [← hU] at hcv2
  obtain ⟨mr, hmr⟩ : ∃ mr, mr = min raw.size 100 := ⟨_, rfl⟩
  have hmin : min (raw.size : Int) 100 = (mr : Int) := by omega
  have hmr1 : mr ≤ raw.size := by omega
  have hmr2 : mr ≤ 100 := by omega
  have hrs : (raw.extract 0 mr).size ≤ 200 := by rw [ByteArray.size_extract]; omega
  have hts : (T.extract 1 T.size).size ≤ 200 := by rw [ByteArray.size_extract]; omega
  clear hm hfz hfz1 hW1 hg1 hxs hcells hG hU hmr hcap
  obtain ⟨W2, hW2⟩ : ∃ W2 : World, W2 = W1.setCell ⟨G, m, none⟩ (.int .u8 (q1 : Int)) := ⟨_, rfl⟩
  have hs2 : W2.heap.size = W1.heap.size := by rw [hW2]; simp [World.setCell]
  have hgw2 : w.grownBy W2 none := by rw [hW2]; exact gr_new hg (gr_set _ _ _ _) hge
  obtain ⟨W3, hW3⟩ : ∃ W3 : World, W3 = (W2.alloc (.cells #[.string (raw.extract 0 mr), .string U, .string (⟨#[48]⟩ ++ T), .string (T ++ ⟨#[48]⟩), .string (T.extract 1 T.size), .string (T ++ ⟨#[32]⟩)] 9)).drew.drew := ⟨_, rfl⟩
  have hgw3 : w.grownBy W3 none := by rw [hW3]; exact gr_then hgw2 (gr_then (gr_alloc W2 _ none) (gr_then (gr_drew _ none) (gr_drew _ none)))
  have hsix : ∀ i, i < 6 → ∃ t : ByteArray, W3.cell? ⟨W1.heap.size, i, none⟩ = some (.string t) ∧ t.size ≤ 200 := by
    have key : ∀ (e : TypeId) (ys : Array Value) (j : Nat), (W2.alloc (.cells ys e)).drew.drew.cell? ⟨W1.heap.size, j, none⟩ = ys[j]? := fun e ys j => by
      rw [← hs2]
      exact cell_of_row (W2.alloc (.cells ys e)).drew.drew W2.heap.size j ys e (0, 0) (heap_alloc_new W2 _)
    rw [hW3]
    intro i hi
    rcases i with _ | _ | _ | _ | _ | _ | i
    · exact ⟨_, by rw [key]; rfl, hrs⟩
    · exact ⟨U, by rw [key]; rfl, by omega⟩
    · refine ⟨_, by rw [key]; rfl, ?_⟩
      rw [ByteArray.size_append]; show 1 + T.size ≤ _; omega
    · refine ⟨_, by rw [key]; rfl, ?_⟩
      rw [ByteArray.size_append]; show T.size + 1 ≤ _; omega
    · exact ⟨_, by rw [key]; rfl, hts⟩
    · refine ⟨_, by rw [key]; rfl, ?_⟩
      rw [ByteArray.size_append]; show T.size + 1 ≤ _; omega
    · omega
  have HSIX := Lib.hid hsix
  have HW2 := Lib.hid hW2
  have HW3 := Lib.hid hW3
  clear hsix hs2 hgw2 hW2 hW3 hge
  go_wp2
  go_region
  go_wp2
  go_region
  go_wp2
  rw [← HW2.out, ← HW3.out]
  go_loopw [77] (fun kv wr => ∃ k : Nat, k ≤ 6 ∧ kv = .int .i64 k ∧ W3.grownBy wr none) (fun kv _ => 6 - (RowKit.intOf kv).toNat)
  case atStart => exact ⟨0, by omega, rfl, World.grownBy.refl _ _⟩
  case round =>
    obtain ⟨k, hk, rfl, hgr⟩ := hrel
    by_cases hlt : k < 6
    · obtain ⟨t, hct, ht⟩ := HSIX.out k hlt
      have hct := hgr.cell hct (by simp)
      obtain ⟨x, o2, hpx⟩ := parsed_some t
      have HPX := Lib.hid hpx
      clear hpx
      go_wp2_with fail
      refine (s_parse t _ ht).mono ?_
      rintro _ w9 ⟨rfl, h9⟩
      rw [HPX.out]
      have hgr := gr_then hgr h9
      go_wp2_with fail
      refine (s_rparse t _ ht).mono ?_
      rintro _ w10 ⟨rfl, h10⟩
      rw [HPX.out]
      have hgr := gr_then hgr h10
      go_wp2
      exact ⟨⟨k + 1, by omega, by go_num, hgr⟩, by simp [RowKit.intOf]; omega⟩
    · obtain rfl : k = 6 := by omega
      go_wp2
      go_ret
      exact ⟨rfl, gr_then hgw3 hgr⟩
end Go.Proofs.YtoadjhmehgkeaaaGreatDoor
namespace Go.Proofs.YtoadjhmehgkeaaaGreatDoor
open Go.ChangeShapes Go.WideShapes Go.ChangeAt Go.RowKit Mth

theorem own0 : ownKnob Tryz.prog.godebug = none := by kernel_rfl
theorem laidOut0 : laidOutB Tryz.prog = true := by kernel_rfl
theorem cellsU8 : Tryz.prog.cellsOf 5 = 1 := by kernel_rfl

def u8of (zs : List Int) (m : Nat) : List UInt8 := (zs.take m).map fun z => UInt8.ofNat z.toNat
set_option maxRecDepth 100000 in
theorem made_at (a : Addr) (len cap m : Nat) (zs : List Int) (w : World) (hl : len ≤ cap) (hm : cap ≤ maxLen) (hz : zs.length = cap) (hcell : ∀ i, i < zs.length → w.cell? (a.add i) = some (.int .u8 (zs.getD i 0))) (hw : ∀ n ∈ zs, (Lit.int .u8 n).wf = true) (hmin : m = min len 40) :
    Calls Tryz.prog 15 #[.slice (some a) len cap] w fun e w' => e = .returned (.string ⟨(u8of zs m).toArray⟩) ∧ w = w' := by
  unfold maxLen at hm
  have hm1 : min (len : Int) 40 = (m : Int) := by omega
  have hm2 : m ≤ cap := by omega
  have hlen : (u8of zs m).length = m := by unfold u8of; simp; omega
  have hcv := run_convert_bytes_back (P := Tryz.prog) w 22 24 5 a cap (u8of zs m) Tryz.underlying22 Tryz.underlying5 Tryz.underlying24 (fun j hj => by
    rw [hlen] at hj
    rw [hcell j (by omega)]
    have h1 : j < zs.length := by omega
    have hwf := hw zs[j] (List.getElem_mem _)
    have w1 : 0 ≤ zs[j] ∧ zs[j] ≤ 255 := by
      have a1 : IntKind.u8.min = 0 := rfl
      have a2 : IntKind.u8.max = 255 := rfl
      simpa [Lit.wf, a1, a2] using hwf
    have e : (u8of zs m)[j]'(by rw [hlen]; exact hj) = UInt8.ofNat zs[j].toNat := by unfold u8of; simp
    rw [e]
    have e2 : zs.getD j 0 = zs[j] := by simp [List.getD, h1]
    rw [e2]
    have e3 : (UInt8.ofNat zs[j].toNat).toNat = zs[j].toNat := by simp; omega
    rw [e3]
    congr 2
    omega)
  rw [hlen] at hcv
  generalize (⟨(u8of zs m).toArray⟩ : ByteArray) = str at hcv
  clear hcell hw hz hmin hlen
  go_enter Tryz.func15, Tryz.ntmps15
  go_wp2
  go_ret
  exact ⟨rfl, rfl⟩

theorem made_as (a : Addr) (len cap : Nat) (zs : List Int) (w : World) (hl : len ≤ cap) (hm : cap ≤ maxLen) (hz : zs.length = cap) (hcell : ∀ i, i < zs.length → w.cell? (a.add i) = some (.int .u8 (zs.getD i 0))) (hw : ∀ n ∈ zs, (Lit.int .u8 n).wf = true) : ∃ b : ByteArray, MadeAs w (.slice (some a) len cap) b ∧ b.size ≤ 40 := by
  refine ⟨⟨(u8of zs (min len 40)).toArray⟩, fun w' hg => made_at a len cap _ zs w' hl hm hz (fun i hi => hg.cell (hcell i hi) (by simp)) hw rfl, ?_⟩
  show (u8of zs (min len 40)).toArray.size ≤ 40
  unfold u8of
  simp
  omega
theorem made_as_nil (w : World) : ∃ b : ByteArray, MadeAs w (.slice none 0 0) b ∧ b.size ≤ 40 := ⟨⟨#[]⟩, fun w' _ => made_nil w', by decide⟩

def cellsD : DataW Unit → Array Value
  | .agg l => (l.map fun | .lit (.int k z) => Value.int k z | _ => Value.nilIface).toArray
  | _ => #[]
noncomputable def laidWorld (os : Os) : World :=
  let w0 := World.holding Tryz.prog os ⟨#[], #[], []⟩
  let put (h : Array Obj) (g : Nat) (cs : Array Value) : Array Obj := h.modify g fun
    | .cells _ t frozen => .cells cs t frozen
    | o => o
  { w0 with heap := put (put (put w0.heap 4 (cellsD Rows.laid_math_bits_deBruijn32tab)) 5 (cellsD Rows.laid_math_bits_deBruijn64tab)) 2 (cellsD Rows.laid_internal_strconv_uint64pow10) }

set_option maxRecDepth 100000 in
/-- An argument of bytes. -/
theorem bytes_arg {H : Type} {enc : TypeId × Value → H} {W : World} {base : Nat} {v : Value} {d : DataW H} {p : List MemPlace} (hok : Value.okWide Tryz.prog W .any base 22 v) (h : DataW.Trod enc Tryz.prog W 0 (fun _ => true) true 22 v d p) : ∃ b : ByteArray, MadeAs W v b ∧ b.size ≤ 40 := by
  obtain ⟨a0, len, cap, rfl⟩ := okWide_slice Tryz.underlying22 hok
  obtain ⟨fuel, hf⟩ := h
  rcases open_ints Tryz.underlying22 Tryz.underlying5 cellsU8 hf with ⟨hcs, hx⟩ | ⟨a, len', cap', zs, hcs, _, hl, hm, hz, hx, hcell, hwz⟩
  · simp [Value.cells] at hcs
    obtain ⟨rfl, rfl, rfl⟩ := hcs
    exact made_as_nil W
  · simp [Value.cells] at hcs
    obtain ⟨rfl, rfl, rfl⟩ := hcs
    simp only [if_true] at hz
    exact made_as a len cap zs W hl hm hz hcell hwz
set_option maxRecDepth 100000 in
theorem int_arg {H : Type} {enc : TypeId × Value → H} {W : World} {base : Nat} {v : Value} {d : DataW H} {p : List MemPlace} (hok : Value.okWide Tryz.prog W .any base 3 v) (h : DataW.Trod enc Tryz.prog W 0 (fun _ => true) true 3 v d p) : ∃ n : Int, v = .int .i64 n ∧ -9223372036854775808 ≤ n ∧ n ≤ 9223372036854775807 := by
  obtain ⟨n, rfl, _, _, hw⟩ := open_int Tryz.underlying3 hok h
  have a1 : IntKind.i64.min = -9223372036854775808 := rfl
  have a2 : IntKind.i64.max = 9223372036854775807 := rfl
  refine ⟨n, rfl, ?_⟩
  simpa [Lit.wf, a1, a2] using hw
set_option maxRecDepth 100000 in
theorem byte_arg {H : Type} {enc : TypeId × Value → H} {W : World} {base : Nat} {v : Value} {d : DataW H} {p : List MemPlace} (hok : Value.okWide Tryz.prog W .any base 5 v) (h : DataW.Trod enc Tryz.prog W 0 (fun _ => true) true 5 v d p) : ∃ n : Nat, v = .int .u8 (n : Int) ∧ n ≤ 255 := by
  obtain ⟨n, rfl, _, _, hw⟩ := open_int Tryz.underlying5 hok h
  have a1 : IntKind.u8.min = 0 := rfl
  have a2 : IntKind.u8.max = 255 := rfl
  have hb : 0 ≤ n ∧ n ≤ 255 := by simpa [Lit.wf, a1, a2] using hw
  exact ⟨n.toNat, by rw [Int.toNat_of_nonneg hb.1], by omega⟩
set_option maxRecDepth 100000 in
theorem str_arg {H : Type} {enc : TypeId × Value → H} {W : World} {base : Nat} {v : Value} {d : DataW H} {p : List MemPlace} (hok : Value.okWide Tryz.prog W .any base 9 v) (h : DataW.Trod enc Tryz.prog W 0 (fun _ => true) true 9 v d p) : ∃ s : ByteArray, v = .string s ∧ s.size ≤ maxLen := by
  obtain ⟨s, rfl⟩ := okWide_string Tryz.underlying9 hok
  obtain ⟨fuel, hf⟩ := h
  refine ⟨s, rfl, ?_⟩
  cases fuel with
  | zero => simp [DataW.trod] at hf
  | succ n =>
    simp [DataW.trod, Value.cells, Tryz.underlying9] at hf
    exact hf.1
/-- An argument that is an array of two numbers. -/
theorem two_arg {P : Program} {k : IntKind} {t e : TypeId} (ht : P.underlying t = some (.array 2 e)) (he : P.underlying e = some (.int k)) (hc : P.cellsOf t = 2) (hce : P.cellsOf e = 1) {H : Type} {enc : TypeId × Value → H} {W : World} {base : Nat} {v : Value} {d : DataW H} {p : List MemPlace} (hok : Value.okWide P W .any base t v) (h : DataW.Trod enc P W 0 (fun _ => true) true t v d p) : ∃ a b : Int, v = .agg #[.int k a, .int k b] ∧ (Lit.int k a).wf = true ∧ (Lit.int k b).wf = true := by
  simp only [Value.okWide, ht] at hok
  obtain ⟨cs, rfl, hsz, _⟩ := hok
  obtain ⟨fuel, hf⟩ := h
  rw [hc] at hsz
  obtain ⟨x, y, rfl⟩ : ∃ x y, cs = #[x, y] := by
    rcases cs with ⟨l⟩
    match l, hsz with
    | [x, y], _ => exact ⟨x, y, rfl⟩
  obtain ⟨xs, m, _, _, _, hlen, hf2⟩ := DataW.trod_array ht hf
  have h0 := hf2 0 (by decide)
  have h1 := hf2 1 (by decide)
  rw [hce] at h0 h1
  match xs, hlen with
  | [y0, y1], _ =>
    obtain ⟨a, ha, _, hw0⟩ := DataW.trod_int he (x := y0) (by simpa using h0)
    obtain ⟨b, hb, _, hw1⟩ := DataW.trod_int he (x := y1) (by simpa using h1)
    simp [Value.cells] at ha hb
    exact ⟨a, b, by rw [ha, hb], hw0, hw1⟩
end Go.Proofs.YtoadjhmehgkeaaaGreatDoor
namespace Go.Proofs.YtoadjhmehgkeaaaGreatDoor
open Go.ChangeShapes Go.WideShapes Go.ChangeAt Go.RowKit Mth

set_option maxRecDepth 100000 in
theorem pair_arg {H : Type} {enc : TypeId × Value → H} {W : World} {base : Nat} {v : Value} {d : DataW H} {p : List MemPlace} (hok : Value.okWide Tryz.prog W .any base 41 v) (h : DataW.Trod enc Tryz.prog W 0 (fun _ => true) true 41 v d p) : ∃ x y : Nat, v = .agg #[.int .u8 (x : Int), .int .u8 (y : Int)] ∧ x ≤ 255 ∧ y ≤ 255 := by
  obtain ⟨a, b, rfl, h1, h2⟩ := two_arg (P := Tryz.prog) (k := .u8) (e := 5) Tryz.underlying41 Tryz.underlying5 (by kernel_rfl) (by kernel_rfl) hok h
  have a1 : IntKind.u8.min = 0 := rfl
  have a2 : IntKind.u8.max = 255 := rfl
  have w1 : 0 ≤ a ∧ a ≤ 255 := by simpa [Lit.wf, a1, a2] using h1
  have w2 : 0 ≤ b ∧ b ≤ 255 := by simpa [Lit.wf, a1, a2] using h2
  exact ⟨a.toNat, b.toNat, by rw [Int.toNat_of_nonneg w1.1, Int.toNat_of_nonneg w2.1], by omega, by omega⟩
end Go.Proofs.YtoadjhmehgkeaaaGreatDoor
namespace Go.Proofs.YtoadjhmehgkeaaaGreatDoor
open Go.ChangeShapes Go.WideShapes Go.ChangeAt Go.RowKit Mth

set_option maxRecDepth 1000000 in
theorem texts_laid (os : Os) (args : Array Value) : laidMet Tryz.prog Rows.natTextsRow.laid ((laidWorld os).forCall (fun _ _ => 0) ⟨#[], args, []⟩).memory :=
  have h : LaidIn Tryz.prog ((laidWorld os).forCall (fun _ _ => 0) ⟨#[], args, []⟩).memory Rows.natTextsRow.laid [4, 5, 2] :=
    LaidIn.of_run [4, 5, 2] 8 (by kernel_rfl) (by kernel_rfl) (by kernel_rfl) (by kernel_rfl)
  h.met
theorem texts_tab {w : World} (h : laidMet Tryz.prog Rows.natTextsRow.laid w) : Tab w :=
  Lib.tabIs_of_head (g := 2) (t := 178) (e := 96) (n := 20) (by kernel_rfl) (by kernel_rfl) (by kernel_rfl) (by kernel_rfl) (by kernel_rfl) (by kernel_rfl) (show laidMet Tryz.prog [("internal/strconv.uint64pow10", Lib.tabData .u64 Lib.pow10Tab)] w from h.tail.tail)

set_option maxRecDepth 1000000 in
set_option maxHeartbeats 4000000 in
theorem texts_lifted (os : Os) (started : os.Started) (H : Type) (enc : TypeId × Value → H) :
    ReturnsInHanded {} Tryz.checked os 7 .any (fun w args => (Rows.natTextsSpec.pre enc Tryz.prog Tryz.f7 Rows.natTextsRow.domain false w args ∧ laidMet Tryz.prog Rows.natTextsRow.laid w) ∧ sizedMet enc Tryz.prog Tryz.f7 (OpenSpec.ofChange Rows.natTextsSpec) false w args)
      (Rows.natTextsSpec.post enc Tryz.prog Tryz.f7 false true false false) := by
  refine returnsInHanded_of_change_and (C := Tryz.checked) (X := fun w _ => laidMet Tryz.prog Rows.natTextsRow.laid w) (fun _ _ _ hh h => h.of_heap hh) own0 started (by kernel_rfl) Tryz.func7
    (ChangeSpec.witness_at (enc := enc) (C := Tryz.checked) (os := os) (X := fun w _ => laidMet Tryz.prog Rows.natTextsRow.laid w) false (laidWorld os) #[.slice none 0 0, .string ⟨#[]⟩, .agg #[.int .u8 0, .int .u8 0]] 8 rfl (by kernel_rfl) (by kernel_rfl) (by kernel_rfl) (by kernel_rfl) (by kernel_rfl) (texts_laid os _)) ?_
  intro W base args ds gs before hval0 hW hcnd0 _ hL _
  have hval : ∀ (j : Nat) t v, Tryz.f7.params[j]? = some t → args[j]? = some v → Value.okWide Tryz.prog W .any base t v := hval0
  have hW' := hW
  obtain ⟨p, q, hA0, hV, rfl, hfz, hnd⟩ := hW
  have hA : DataW.TrodAll enc Tryz.prog W 0 (fun _ => true) true Tryz.f7.params.toList args.toList ds p := hA0
  rw [Tryz.params7] at hA hval
  obtain ⟨v0, v1, v2, d0, d1, d2, p0, p1, p2, rfl, rfl, rfl, h0, h1, h2⟩ := trodAll_three hA
  obtain ⟨rfl, rfl⟩ := trodVars_none hV
  clear hA0 hval0 hA
  simp only [List.append_nil] at hW'
  have k0 := hval 0 22 v0 rfl rfl
  have k1 := hval 1 9 v1 rfl rfl
  have k2 := hval 2 41 v2 rfl rfl
  obtain ⟨b0, m0, s0⟩ := bytes_arg k0 h0
  obtain ⟨t1, rfl, w1⟩ := str_arg k1 h1
  obtain ⟨n2a, n2b, rfl, w2a, w2b⟩ := pair_arg k2 h2
  refine (texts_true v0 b0 t1 n2a n2b W (texts_tab hL) m0 s0 w1 w2a w2b).mono fun e W' ⟨he, hg⟩ => ?_
  subst he
  have hb : Below W.heap.size W W' := gr_low hg (Nat.le_refl _)
  have hlt : ∀ x ∈ p0 ++ p1 ++ p2, x.block < W.heap.size := fun x hx => by simpa using hW'.lt x hx
  have hl0 : ∀ x ∈ p0, x.block < W.heap.size := fun x hx => hlt x (by simp [hx])
  have hl1 : ∀ x ∈ p1, x.block < W.heap.size := fun x hx => hlt x (by simp [hx])
  have hl2 : ∀ x ∈ p2, x.block < W.heap.size := fun x hx => hlt x (by simp [hx])
  refine ⟨_, rfl, _, _, _, [], p0 ++ p1 ++ p2, [], hW', ?_, ?_, rfl, hb.frame _, fun h => by cases h⟩
  · exact trodAll_mk1 (shut_bool Tryz.underlying4 true)
  · have h3 := trodAll_mk3 (Below.trod laidOut0 (by kernel_rfl) (of_decide_eq_true (by kernel_rfl)) h0 hb hl0) (Below.trod laidOut0 (by kernel_rfl) (of_decide_eq_true (by kernel_rfl)) h1 hb hl1) (Below.trod laidOut0 (by kernel_rfl) (of_decide_eq_true (by kernel_rfl)) h2 hb hl2)
    rw [← List.append_assoc] at h3
    exact h3

theorem texts_row : Rows.NatTextsSaid :=
  OpenClaim.holds_of_wide 7 Tryz.f7 rfl rfl rfl rfl rfl rfl rfl ⟨rfl, rfl, rfl, rfl, rfl⟩ rfl rfl rfl rfl rfl (by kernel_rfl) Tryz.func7 (by kernel_rfl)
    (of_decide_eq_true (by kernel_rfl)) (by unfold Func.isWrapper; first | (rw [if_pos (by decide +kernel)]; kernel_rfl) | (rw [if_neg (by decide +kernel)]; exact ⟨rfl, rfl⟩))
    (fun os started H enc _ => texts_lifted os started H enc)
end Go.Proofs.YtoadjhmehgkeaaaGreatDoor
