/- Contracts of the program and of the reference, part 14: Parse, ParseY, RefX, RefY, Rp, Rh. -/
import Derived.Test.YteajpefbmiiioaaGreatDoorBRat13
import Derived.Lib.Strings
import Derived.Deep.RegionWith
namespace Go.Proofs.YteajpefbmiiioaaGreatDoor
open Go.RowKit Mth

theorem isDig_isDg : isDig = isDg := rfl
theorem dig_at {s : ByteArray} (h : s.data.toList.all isDg = true) {k : Nat} (hk : k < s.size) : 48 ≤ s[k].toNat ∧ s[k].toNat ≤ 57 := by
  rw [List.all_eq_true] at h
  have hm : s[k] ∈ s.data.toList := by
    have : s[k] = s.data.toList[k]'(by simpa using hk) := rfl
    rw [this]; exact List.getElem_mem _
  have := h _ hm
  simpa [isDg] using this
theorem dnum_take_succ (s : ByteArray) {k : Nat} (h : k < s.size) : dnum (s.data.toList.take (k + 1)) = 10 * dnum (s.data.toList.take k) + (s[k].toNat - 48) := by
  rw [List.take_succ_eq_append_getElem (by rw [len_toList]; exact h), dnum_snoc]; rfl
theorem all_take {l : List UInt8} (h : l.all isDg = true) (k : Nat) : (l.take k).all isDg = true := by
  rw [List.all_eq_true] at *
  intro x hx; exact h x (List.mem_of_mem_take hx)
theorem all_drop {l : List UInt8} (h : l.all isDg = true) (k : Nat) : (l.drop k).all isDg = true := by
  rw [List.all_eq_true] at *
  intro x hx; exact h x (List.mem_of_mem_drop hx)

set_option maxRecDepth 100000 in
theorem groupOf_any (s : ByteArray) (w : World) (hs : s.size ≤ 19) (hd : s.data.toList.all isDg = true) :
    Calls Tryz.prog 98 #[.string s] w fun e w' => e = .returned (.int .u64 ((dnum s.data.toList : Nat) : Int)) ∧ w = w' := by
  have HD := Lib.hid hd
  clear hd
  go_enter Tryz.func98, Tryz.ntmps98
  go_wp2
  go_loop [3, 7] (fun u v => ∃ (k g : Nat), k ≤ s.size ∧ v = .int .i64 k ∧ u = .int .u64 g ∧ Hid (g = dnum (s.data.toList.take k))) (fun _ v => s.size - (intOf v).toNat)
  case atStart => exact ⟨0, 0, Nat.zero_le _, rfl, rfl, rfl⟩
  case round =>
    obtain ⟨k, g, hk, rfl, rfl, HG⟩ := hrel
    by_cases hlt : k < s.size
    · obtain ⟨h1, h2⟩ := dig_at HD.out hlt
      have hgb : g ≤ 999999999999999999 := by
        have e1 := dnum_lt _ (all_take HD.out k)
        rw [← HG.out] at e1
        have e2 : 10 ^ (s.data.toList.take k).length ≤ 10 ^ 18 := Nat.pow_le_pow_right (by decide) (by rw [List.length_take]; omega)
        omega
      have hnx := dnum_take_succ s hlt
      rw [← HG.out] at hnx
      obtain ⟨d, hdd⟩ : ∃ d, d = s[k].toNat - 48 := ⟨_, rfl⟩
      rw [← hdd] at hnx
      have HNX := Lib.hid hnx
      have hsub : (s[k].toNat : Int) - 48 = (d : Int) := by omega
      have hd9 : d ≤ 9 := by omega
      clear hnx hdd
      go_wp2
      refine ⟨⟨k + 1, 10 * g + d, by omega, by go_num, by go_num, HNX.out.symm⟩, by simp [intOf]; omega⟩
    · obtain rfl : k = s.size := by omega
      have hf := HG.out
      rw [List.take_of_length_le (by rw [len_toList]; omega)] at hf
      have HF := Lib.hid hf
      clear hf
      go_wp2
      go_ret
      exact ⟨by rw [← HF.out]; rfl, rfl⟩

/-- A list of words that the call gathers since the world w0. -/
structure AccW (w0 w : World) (v : Value) (l : List Nat) : Prop where
  own : ∃ zs, Own .u64 96 w v l.length zs ∧ zs.take l.length = l ∧ Dg W64 zs
  fresh : v.ownBlock = none ∨ ∃ g, v.ownBlock = some g ∧ w0.heap.size ≤ g
  gr : w0.grownBy w none
theorem AccW.nil (w : World) : AccW w w (.slice none 0 0) [] := ⟨⟨[], .nil _ _ _, rfl, fun i => by simp [gt, W64_pos]⟩, .inl rfl, World.grownBy.refl _ _⟩
theorem AccW.kept {w0 w w' : World} {v : Value} {l : List Nat} (h : AccW w0 w v l) (hg : w.grownBy w' none) : AccW w0 w' v l := by
  obtain ⟨zs, ho, ht, hd⟩ := h.own
  refine ⟨⟨zs, ho.kept hg ?_, ht, hd⟩, h.fresh, gr_then h.gr hg⟩
  cases v.ownBlock with
  | none => exact .inl rfl
  | some g => exact .inr (by simp)
theorem run_accW {w0 w : World} (ty : TypeId) (i : TypeInfo) (hi : Tryz.prog.info? 96 = some i) (hz : i.zero = some (.int .u64 0)) (hsize : i.size = 1) (hby : i.bytes = 8)
    (v : Value) (l : List Nat) (x : Nat) (hx : x < W64) (hacc : AccW w0 w v l) (h63 : l.length + 1 ≤ maxLen) (hbytes : (l.length + 1) * 8 ≤ 140737488355328) :
    ∃ v' w', (Builtin.append_ #[81, 81] ty #[v, .slice (some ⟨w.heap.size, 0, none⟩) 1 1]).run Tryz.prog (w.alloc (.cells #[.int .u64 (x : Int)] 96)) = .ok v' w' ∧ AccW w0 w' v' (l ++ [x]) := by
  obtain ⟨zs, hown, htake, hdz⟩ := hacc.own
  have hb : Blk .u64 96 (w.alloc (.cells #[.int .u64 (x : Int)] 96)) w.heap.size [x] := heap_alloc_new w _
  have hown' := hown.kept (gr_alloc w (.cells #[.int .u64 (x : Int)] 96) none) (by cases v.ownBlock with | none => exact .inl rfl | some g => exact .inr (by simp))
  obtain ⟨v', w', us, hrun, ho', hg, happ, hblk⟩ := run_append_blk (P := Tryz.prog) (w := w.alloc (.cells #[.int .u64 (x : Int)] 96)) .u64 96 81 ty i 8 Tryz.underlying81 hi hz hsize hby v l.length zs hown' w.heap.size 0 1 1 [x] (fun j hj => hb.cell (by simp; omega)) (by simp) (by omega) h63 hbytes
  have hdu : Dg W64 us := happ.dg W64_pos hdz (fun j => by
    rcases j with _ | j
    · exact hx
    · rw [gt_of_ge (by simp)]; exact W64_pos)
  refine ⟨v', w', hrun, ⟨us, by rw [List.length_append]; exact ho', ?_, hdu⟩, ?_, ?_⟩
  · have hlu : l.length + 1 ≤ us.length := by
      rcases ho' with ⟨_, h0, _⟩ | ⟨_, _, _, h1, _⟩
      · omega
      · exact h1
    have hlz : l.length ≤ zs.length := by
      have := congrArg List.length htake
      simp at this; omega
    apply gt_ext
    · simp; omega
    · intro j hj
      simp at hj
      rw [gt_take (by simp; omega)]
      by_cases h1 : j < l.length
      · rw [gt_append_left h1, happ.old j h1]
        rw [← gt_take (xs := zs) h1, htake]
      · rw [gt_append_right (by omega)]
        have := happ.new (j - l.length) (by omega)
        rw [Nat.zero_add, show l.length + (j - l.length) = j from by omega] at this
        exact this
  · rcases hblk with e1 | ⟨g, e1, e2⟩
    · rw [e1]; exact hacc.fresh
    · refine .inr ⟨g, e1, ?_⟩
      have h1 := hacc.gr.size
      simp at e2; omega
  · refine gr_trans (gr_then hacc.gr (gr_alloc w _ none)) hg (.inl rfl) ?_
    rcases hacc.fresh with e1 | ⟨g, e1, e2⟩
    · rw [e1]; exact .inl rfl
    · exact .inr (.inr fun j e3 => by rw [e1] at e3; cases e3; exact e2)
theorem wpList_accW {w0 w : World} {ops : Array Oper} {rest : List Oper} {o : Oper} {a : Act} {Q : Exit → Act → World → Prop} (hgd : o.guard = none) (s y : Operand)
    (ho : o.op = .call { callee := .builtin .append, args := #[s, y], argTypes := #[81, 81] })
    (i : TypeInfo) (hi : Tryz.prog.info? 96 = some i) (hz : i.zero = some (.int .u64 0)) (hsize : i.size = 1) (hby : i.bytes = 8)
    (v : Value) (l : List Nat) (x : Nat) (hx : x < W64) (hacc : AccW w0 w v l) (hs : a.eval s = v) (hy : a.eval y = .slice (some ⟨w.heap.size, 0, none⟩) 1 1)
    (h63 : l.length + 1 ≤ maxLen) (hbytes : (l.length + 1) * 8 ≤ 140737488355328)
    (h : ∀ v' w', AccW w0 w' v' (l ++ [x]) → wpList Tryz.prog ops Q rest (a.put o.dst v') w') : wpList Tryz.prog ops Q (o :: rest) a (w.alloc (.cells #[.int .u64 (x : Int)] 96)) := by
  refine wpList_plain hgd fun K hK => ?_
  obtain ⟨v', w', hr, h2⟩ := run_accW o.type i hi hz hsize hby v l x hx hacc h63 hbytes
  unfold Oper.wp execOp
  simp only [ho, resolve, invoke, builtin, Sem.run_bind, Sem.run_pure, Result.andThen_ok, List.map_toArray, List.map_cons, List.map_nil, hs, hy, hr]
  exact hK _ _ (h v' w' h2)
theorem AccW.set {w0 w : World} {g n c : Nat} {l : List Nat} (h : AccW w0 w (.slice (some ⟨g, 0, none⟩) n c) l) {i : Nat} (x : Nat) (hx : x < W64) : AccW w0 (w.setCell ⟨g, i, none⟩ (.int .u64 (x : Int))) (.slice (some ⟨g, 0, none⟩) n c) (l.set i x) := by
  obtain ⟨zs, hown, ht, hd⟩ := h.own
  have hfr : w0.heap.size ≤ g := by
    rcases h.fresh with e | ⟨g', e, e'⟩
    · cases e
    · simp only [Value.ownBlock, Option.some.injEq] at e; omega
  refine ⟨⟨zs.set i x, ?_, ?_, hd.set hx⟩, h.fresh, gr_new h.gr (gr_set _ _ _ _) hfr⟩
  · rcases hown with ⟨h1, _, _⟩ | ⟨g', h1, hb, h2, h3⟩
    · cases h1
    · have hv := h1
      simp only [Value.slice.injEq, Option.some.injEq, Addr.mk.injEq, and_true] at h1
      obtain ⟨rfl, hn, hc⟩ := h1
      exact .inr ⟨g, by rw [List.length_set, List.length_set]; exact hv, hb.set i x, by rw [List.length_set, List.length_set]; exact h2, by rw [List.length_set]; exact h3⟩
  · rw [List.length_set, List.take_set, ht]
/-- What a slice of words holds at a place. -/
theorem AccW.cell_ {w0 w : World} {g n c : Nat} {l : List Nat} (h : AccW w0 w (.slice (some ⟨g, 0, none⟩) n c) l) {i : Nat} (hi : i < l.length) : w.cell? ⟨g, i, none⟩ = some (.int .u64 ((gt l i : Nat) : Int)) ∧ w.frozen? ⟨g, i, none⟩ = false ∧ n = l.length ∧ l.length ≤ c ∧ c ≤ maxLen := by
  obtain ⟨zs, hown, ht, _⟩ := h.own
  rcases hown with ⟨h1, _, _⟩ | ⟨g', h1, hb, h2, h3⟩
  · cases h1
  · simp only [Value.slice.injEq, Option.some.injEq, Addr.mk.injEq, and_true] at h1
    obtain ⟨rfl, hn, hc⟩ := h1
    refine ⟨?_, hb.frozen i, hn, by omega, by omega⟩
    rw [hb.cell (by omega), ← ht, gt_take hi]

/-- Words times a factor plus a word, i of them. -/
def TpInv (l : List Nat) (f p i : Nat) (us : List Nat) (q : Nat) : Prop := us.length = l.length ∧ Dg W64 us ∧ q < W64 ∧ (∀ j, i ≤ j → gt us j = gt l j) ∧ vs W64 us 0 i + W64 ^ i * q = vs W64 l 0 i * f + p
theorem tp_split (x f q : Nat) : addLo (mulLo x f) q 0 + W64 * (mulHi x f + addHi (mulLo x f) q 0) = x * f + q := by
  have h1 := mul_split x f
  have h2 := add_split (mulLo x f) q 0
  rw [Nat.mul_add]; omega
theorem tp_hi {x f q : Nat} (hx : x < W64) (hf : f < W64) (hq : q < W64) : mulHi x f + addHi (mulLo x f) q 0 < W64 := by
  have h := tp_split x f q
  have h1 : x * f ≤ (W64 - 1) * (W64 - 1) := Nat.mul_le_mul (by omega) (by omega)
  have h2 : (W64 - 1) * (W64 - 1) + (W64 - 1) < W64 * W64 := by decide
  refine Nat.lt_of_mul_lt_mul_left (a := W64) ?_
  omega
theorem TpInv.next {l us : List Nat} {f p i q : Nat} (h : TpInv l f p i us q) (hf : f < W64) (hi : i < l.length) : TpInv l f p (i + 1) (us.set i (addLo (mulLo (gt l i) f) q 0)) (mulHi (gt l i) f + addHi (mulLo (gt l i) f) q 0) := by
  obtain ⟨h1, h2, h3, h4, h5⟩ := h
  have hlt : i < us.length := by omega
  have hx : gt l i < W64 := by rw [← h4 i (Nat.le_refl _)]; exact h2 i
  refine ⟨by rw [List.length_set]; exact h1, h2.set (addLo_lt _ _ _), tp_hi hx hf h3, fun j hj => ?_, ?_⟩
  · rw [gt_set hlt, if_neg (by omega)]; exact h4 j (by omega)
  · have hs := tp_split (gt l i) f q
    simp only [vs, Nat.zero_add]
    rw [gt_set hlt, if_pos rfl, vs_congr (ys := us) (off' := 0) (fun j hj => by rw [gt_set hlt, if_neg (by omega)])]
    have e : W64 ^ i * addLo (mulLo (gt l i) f) q 0 + W64 ^ (i + 1) * (mulHi (gt l i) f + addHi (mulLo (gt l i) f) q 0) = W64 ^ i * gt l i * f + W64 ^ i * q := by
      rw [Nat.pow_succ, Nat.mul_assoc (W64 ^ i) W64, ← Nat.mul_add, hs, Nat.mul_add, Nat.mul_assoc]
    rw [Nat.add_mul]
    omega

set_option maxHeartbeats 2000000 in
set_option maxRecDepth 100000 in
theorem timesPlus_any (v : Value) (l : List Nat) (w0 w : World) (f p : Nat) (hacc : AccW w0 w v l) (hd : Dg W64 l) (hf : f < W64) (hp : p < W64) (hm : l.length ≤ 1000000000) :
    Calls Tryz.prog 97 #[v, .int .u64 (f : Int), .int .u64 (p : Int)] w fun e w' => ∃ v' l', e = .returned v' ∧ AccW w0 w' v' l' ∧ Dg W64 l' ∧ val W64 l' = val W64 l * f + p ∧ l'.length ≤ l.length + 1 := by
  obtain ⟨i0, hi, hz0, hz1, hz2⟩ := info_parts infoW
  have ha := add64_run0
  obtain ⟨a, n, c, rfl⟩ : ∃ a n c, v = .slice a n c := by
    obtain ⟨zs, hown, _, _⟩ := hacc.own
    rcases hown with ⟨rfl, _, _⟩ | ⟨g, rfl, _⟩
    · exact ⟨_, _, _, rfl⟩
    · exact ⟨_, _, _, rfl⟩
  have hn : n = l.length := by
    obtain ⟨zs, hown, _, _⟩ := hacc.own
    rcases hown with ⟨h1, h2, _⟩ | ⟨g, h1, _⟩
    · simp only [Value.slice.injEq] at h1; omega
    · simp only [Value.slice.injEq] at h1; exact h1.2.1
  have H0 := Lib.hid (show TpInv l f p 0 l p from ⟨rfl, hd, hp, fun _ _ => rfl, by simp [vs]⟩)
  have HN := Lib.hid hn
  have hm' : n ≤ 1000000000 := by omega
  clear hn hm
  go_enter Tryz.func97, Tryz.ntmps97
  go_wp2
  go_loopw [2, 14] (fun pv kv wr => ∃ (i q : Nat) (us : List Nat), i ≤ n ∧ kv = .int .i64 i ∧ pv = .int .u64 q ∧ AccW w0 wr (.slice a n c) us ∧ Hid (TpInv l f p i us q)) (fun _ kv _ => n - (intOf kv).toNat)
  case atStart => exact ⟨0, p, l, Nat.zero_le _, rfl, rfl, hacc, H0⟩
  case round =>
    obtain ⟨i, q, us, hi', rfl, rfl, hacc, HI⟩ := hrel
    have hq := HI.out.2.2.1
    have hlu : us.length = l.length := HI.out.1
    have HLU := Lib.hid hlu
    clear hlu
    by_cases hlt : i < n
    · obtain ⟨g, rfl⟩ : ∃ g, a = some ⟨g, 0, none⟩ := by
        obtain ⟨zs, hown, _, _⟩ := hacc.own
        rcases hown with ⟨h1, _, _⟩ | ⟨g, h1, _⟩
        · simp only [Value.slice.injEq] at h1; omega
        · simp only [Value.slice.injEq] at h1; exact ⟨g, h1.1⟩
      obtain ⟨hcell, hfr, hneq, hnc, hcm⟩ := hacc.cell_ (i := i) (by rw [HLU.out, ← HN.out]; exact hlt)
      clear hneq
      have hnc' : n ≤ c := by rw [HN.out, ← HLU.out]; exact hnc
      have hold := HI.out.2.2.2.1 i (Nat.le_refl _)
      have hx : gt l i < W64 := by rw [← hold]; exact HI.out.2.1 i
      rw [hold] at hcell
      have HNX := Lib.hid (HI.out.next hf (by rw [← HN.out]; exact hlt))
      have hhi := tp_hi hx hf hq
      generalize gt l i = X at hcell hx HNX hhi
      have HA := Lib.hid hacc
      have hsum : IntKind.u64.wrap (((mulHi X f : Nat) : Int) + ((addHi (mulLo X f) q 0 : Nat) : Int)) = ((mulHi X f + addHi (mulLo X f) q 0 : Nat) : Int) := by rw [← Int.natCast_add, wrap_u64 _ hhi]
      have HS := Lib.hid hsum
      clear hold hnc hacc hsum
      go_wp2_with fail
      refine (mul64_run X f hx hf _).mono ?_
      rintro e w' ⟨rfl, rfl⟩
      go_wp2
      go_roundw
      case rel => exact ⟨i + 1, mulHi X f + addHi (mulLo X f) q 0, _, by omega, by go_num, by rw [HS.out], HA.out.set _ (addLo_lt _ _ _), HNX⟩
      case measure => simp [intOf]; omega
    · obtain rfl : i = n := by omega
      have hlast := HI.out.2.2.2.2
      rw [HN.out, vs_val, ← HLU.out, vs_val] at hlast
      have hdu := HI.out.2.1
      rcases Nat.eq_zero_or_pos q with h0 | h0
      · subst h0
        rw [Nat.mul_zero, Nat.add_zero] at hlast
        have HL := Lib.hid hlast
        have HA := Lib.hid hacc
        clear hlast hacc hi hz0 hz1 hz2
        go_wp2
        go_ret
        exact ⟨_, us, rfl, HA.out, hdu, HL.out, by rw [HLU.out]; omega⟩
      · have HL := Lib.hid hlast
        clear hlast
        go_wp2_with (at_builtin; refine wpList_accW rfl (.tmp 41) (.tmp 43) rfl i0 hi hz0 hz1 hz2 _ us q hq hacc rfl rfl ?_ ?_ ?_)
        case refine_1 => rw [HLU.out, ← HN.out]; show i + 1 ≤ maxLen; unfold maxLen; omega
        case refine_2 => rw [HLU.out, ← HN.out]; show (i + 1) * 8 ≤ _; omega
        intro v' w' hacc'
        have HA := Lib.hid hacc'
        clear hacc hacc' hi hz0 hz1 hz2
        go_wp2
        go_ret
        refine ⟨_, us ++ [q], rfl, HA.out, ?_, ?_, by rw [List.length_append, HLU.out]; exact Nat.le_refl _⟩
        · refine Dg.of_mem W64_pos fun x hx => ?_
          rcases List.mem_append.1 hx with h1 | h1
          · exact hdu.mem x h1
          · rw [List.mem_singleton.1 h1]; exact hq
        · rw [val_snoc]; exact HL.out

end Go.Proofs.YteajpefbmiiioaaGreatDoor
namespace Go.Proofs.YteajpefbmiiioaaGreatDoor
open Go.RowKit Mth

theorem timesPlus_19 (v : Value) (l : List Nat) (w0 w : World) (p : Nat) (hacc : AccW w0 w v l) (hd : Dg W64 l) (hp : p < W64) (hm : l.length ≤ 1000000000) :
    Calls Tryz.prog 97 #[v, .int .u64 10000000000000000000, .int .u64 (p : Int)] w fun e w' => ∃ v' l', e = .returned v' ∧ AccW w0 w' v' l' ∧ Dg W64 l' ∧ val W64 l' = val W64 l * 10000000000000000000 + p ∧ l'.length ≤ l.length + 1 := by
  obtain ⟨F, hF⟩ : ∃ F, F = 10000000000000000000 := ⟨_, rfl⟩
  have hFi : (F : Int) = 10000000000000000000 := by omega
  have h := timesPlus_any v l w0 w F p hacc hd (by rw [hF]; decide) hp hm
  rw [hFi] at h
  rw [← hF]
  exact h

set_option maxHeartbeats 4000000 in
set_option maxRecDepth 100000 in
theorem parse_yes (s : ByteArray) (w : World) (hs : s.size ≤ 1000000) (h : isTxt s.data.toList = true) :
    Calls Tryz.prog 33 #[.string s] w fun e w' => e = .returned (.tuple #[.string ⟨(enc (dnum s.data.toList)).toArray⟩, .bool true]) ∧ w.grownBy w' none := by
  have hall : s.data.toList.all isDg = true := by
    unfold isTxt at h
    rw [Bool.and_eq_true] at h
    exact h.1
  have HAll := Lib.hid hall
  have HT := Lib.hid h
  clear h hall
  go_enter Tryz.func33, Tryz.ntmps33
  go_wp2_with fail
  refine (isText_any s w (by omega)).mono ?_
  rintro e w1 ⟨rfl, hg⟩
  rw [HT.out]
  go_wp2
  go_loopw [0, 4] (fun sv wv wr => ∃ (r : ByteArray) (p : List UInt8) (l : List Nat), sv = .string r ∧ AccW w1 wr wv l ∧ r.size ≤ s.size ∧ l.length + r.size ≤ s.size ∧ Hid (Dg W64 l ∧ val W64 l = dnum p ∧ p ++ r.data.toList = s.data.toList ∧ (p = [] ∨ r.size % 19 = 0))) (fun sv _ _ => match sv with | .string r => r.size | _ => 0)
  case atStart => exact ⟨s, [], [], rfl, .nil _, Nat.le_refl _, by simp, Lib.hid ⟨fun i => by simp [gt, W64_pos], rfl, rfl, .inl rfl⟩⟩
  case round =>
    obtain ⟨r, p, l, rfl, hacc, hr1, hr2, HI⟩ := hrel
    rcases Nat.eq_zero_or_pos r.size with h0 | h0
    · have hi := HI.out
      have hp : p = s.data.toList := by
        have := hi.2.2.1
        rw [nil_of_size h0, List.append_nil] at this
        exact this
      have HV := Lib.hid (show val W64 l = dnum s.data.toList by rw [hi.2.1, hp])
      have HD := Lib.hid hi.1
      have HG := Lib.hid (gr_then hg hacc.gr)
      have hz : (r.size : Int) = 0 := by omega
      have hll : l.length ≤ 1000000 := by omega
      obtain ⟨zs, hown, ht, hdz⟩ := hacc.own
      rcases hown with ⟨rfl, hl0, hzs⟩ | ⟨g, rfl, hb, hl1, hl2⟩
      · have hl : l = [] := List.eq_nil_of_length_eq_zero hl0
        subst hl
        have he : (⟨(enc (dnum s.data.toList)).toArray⟩ : ByteArray) = ⟨#[]⟩ := by rw [← HV.out, val_nil, enc_zero]
        have HE := Lib.hid he
        clear hi hp hacc hl0 hzs ht he
        go_wp2_with fail
        refine (natOf_nil _).mono ?_
        rintro e w3 ⟨rfl, rfl⟩
        go_wp2
        go_ret2
        exact ⟨by rw [HE.out]; rfl, HG.out⟩
      · have hlz : l.length ≤ zs.length := hl1
        have hlz2 : zs.length ≤ maxLen := hl2
        have hvs : vs W64 zs 0 l.length = dnum s.data.toList := by rw [vs_take zs _ hl1, ht, HV.out]
        have HVS := Lib.hid hvs
        have HB := Lib.hid hb
        have HDZ := Lib.hid hdz
        clear hi hp hacc hvs ht hb hdz
        go_wp2_with fail
        refine (natOf_any g 0 l.length zs.length zs _ HB.out (by omega) HDZ.out hl1 hl2 (by omega)).mono ?_
        rintro e w3 ⟨rfl, h3⟩
        rw [HVS.out]
        go_wp2
        go_ret2
        exact ⟨rfl, gr_then HG.out h3⟩
    · obtain ⟨k, hk⟩ : ∃ k, k = (r.size - 1) % 19 + 1 := ⟨_, rfl⟩
      have hk1 : 1 ≤ k := by omega
      have hk2 : k ≤ 19 := by omega
      have hk3 : k ≤ r.size := by omega
      have hk4 : (r.size - k) % 19 = 0 := by omega
      have hkc : ((r.size : Int) - 1) % 19 + 1 = (k : Int) := by omega
      have hi' := HI.out
      have hrall : r.data.toList.all isDg = true := by
        have := HAll.out
        rw [← hi'.2.2.1, List.all_append, Bool.and_eq_true] at this
        exact this.2
      have hex1 : (r.extract 0 k).data.toList = r.data.toList.take k := by simp
      have hex2 : (r.extract k r.size).data.toList = r.data.toList.drop k := Lib.extract_to_end r k
      have hes1 : (r.extract 0 k).size = k := by rw [← len_toList, hex1, List.length_take, len_toList]; omega
      have hes2 : (r.extract k r.size).size = r.size - k := by rw [← len_toList, hex2, List.length_drop, len_toList]
      have hgd : (r.extract 0 k).data.toList.all isDg = true := by rw [hex1]; exact all_take hrall k
      have hglt := dnum_lt _ hgd
      rw [len_toList, hes1] at hglt
      have hg64 : dnum (r.extract 0 k).data.toList < W64 := by
        have e1 : 10 ^ k ≤ 10 ^ 19 := Nat.pow_le_pow_right (by decide) hk2
        have e2 : 10 ^ 19 < W64 := by decide
        omega
      have hnum : val W64 l * 10000000000000000000 + dnum (r.extract 0 k).data.toList = dnum (p ++ r.data.toList.take k) := by
        rw [dnum_append, hex1, hi'.2.1, List.length_take, len_toList, Nat.min_eq_left hk3]
        rcases hi'.2.2.2 with h1 | h1
        · rw [h1, dnum_nil, Nat.zero_mul, Nat.zero_mul]
        · have : k = 19 := by omega
          rw [this]
      have hpre : (p ++ r.data.toList.take k) ++ (r.extract k r.size).data.toList = s.data.toList := by
        rw [hex2, List.append_assoc, List.take_append_drop]; exact hi'.2.2.1
      obtain ⟨gv, hgv⟩ : ∃ gv, gv = dnum (r.extract 0 k).data.toList := ⟨_, rfl⟩
      have hgo := fun w => groupOf_any (r.extract 0 k) w (by rw [hes1]; exact hk2) hgd
      rw [← hgv] at hg64 hnum hgo
      have HGO := Lib.hid hgo
      have HNUM := Lib.hid hnum
      have HPRE := Lib.hid hpre
      have HD := Lib.hid hi'.1
      have HGD := Lib.hid hgd
      have HG64 := Lib.hid hg64
      have HES1 := Lib.hid hes1
      have HES2 := Lib.hid hes2
      have HACC := Lib.hid hacc
      have hll : l.length ≤ 1000000 := by omega
      clear hi' hrall hex1 hex2 hes1 hes2 hgd hglt hg64 hnum hpre hacc hk hgo hgv
      go_wp2_with fail
      refine (HGO.out _).mono ?_
      rintro e w2 ⟨rfl, rfl⟩
      go_wp2_with fail
      refine (timesPlus_19 _ l w1 _ _ HACC.out HD.out HG64.out (by omega)).mono ?_
      rintro e w3 ⟨v', l', rfl, hacc', hd', hv', hl'⟩
      rw [HNUM.out] at hv'
      have HI' := Lib.hid (show Dg W64 l' ∧ val W64 l' = dnum (p ++ r.data.toList.take k) ∧ (p ++ r.data.toList.take k) ++ (r.extract k r.size).data.toList = s.data.toList ∧ (p ++ r.data.toList.take k = [] ∨ (r.extract k r.size).size % 19 = 0) from ⟨hd', hv', HPRE.out, .inr (by rw [HES2.out]; exact hk4)⟩)
      clear hd' hv'
      go_wp2
      refine ⟨⟨r.extract k r.size, p ++ r.data.toList.take k, l', rfl, hacc', by rw [HES2.out]; omega, by rw [HES2.out]; omega, HI'⟩, ?_⟩
      show (r.extract k r.size).size < r.size
      rw [HES2.out]; omega
end Go.Proofs.YteajpefbmiiioaaGreatDoor
namespace Go.Proofs.YteajpefbmiiioaaGreatDoor
open Go.RowKit Mth Go.Lib

theorem dec_big {n : Nat} (h : 10 ≤ n) : decDigits n = decDigits (n / 10) ++ [UInt8.ofNat (48 + n % 10)] := by rw [decDigits, dif_neg (by omega)]
/-- One byte that the call has laid. -/
theorem acc_one (w : World) (c : Nat) : Acc .u8 5 w (w.alloc (.cells #[.int .u8 (c : Int)] 5)) (.slice (some ⟨w.heap.size, 0, none⟩) 1 1) [c] := by
  have hb : Blk .u8 5 (w.alloc (.cells #[.int .u8 (c : Int)] 5)) w.heap.size [c] := heap_alloc_new w _
  exact ⟨⟨[c], .inr ⟨w.heap.size, rfl, hb, Nat.le_refl _, by unfold maxLen; simp⟩, rfl⟩, .inr ⟨_, rfl, Nat.le_refl _⟩, gr_alloc w _ none⟩

set_option maxHeartbeats 600000 in
set_option maxRecDepth 100000 in
theorem s_rtext (s : ByteArray) (n : Nat) (w : World) (hn : num s.data.toList = n) (hs : s.size ≤ 1000000000) (hn2 : n < 256 ^ 200) (hL : (decDigits n).length ≤ 1000) : Gives 34 #[.string s] w (.string ⟨(decDigits n).toArray⟩) := by
  have HN := Lib.hid hn
  have HN2 := Lib.hid hn2
  have HL := Lib.hid hL
  clear hn hn2 hL
  rcases Nat.eq_zero_or_pos n with h0 | h0
  · subst h0
    have hz := s_len_zero
    go_enter Tryz.func34, Tryz.ntmps34
    go_wp2_with fail
    refine (s_canon s 0 _ HN.out (by omega)).mono ?_
    rintro e w1 ⟨rfl, hg⟩
    go_wp2
    go_ret
    exact ⟨by rw [decDigits_one (by omega)]; rfl, hg⟩
  · have hp := s_len_pos h0
    have hz : (((S n).size : Int) == 0) = false := by rw [beq_eq_false_iff_ne]; omega
    go_enter Tryz.func34, Tryz.ntmps34
    go_wp2_with fail
    refine (s_canon s n _ HN.out (by omega)).mono ?_
    rintro e w1 ⟨rfl, hg⟩
    have H0 := Lib.hid h0
    have hst : (0 < n → decDigits n ++ (⟨#[]⟩ : ByteArray).data.toList = decDigits n) ∧ (n = 0 → (⟨#[]⟩ : ByteArray).data.toList = decDigits n) := ⟨fun _ => by simp, fun h => by omega⟩
    have HST := Lib.hid hst
    clear h0 hst
    go_wp2
    go_loopw [0, 3] (fun u v wr => ∃ (x : Nat) (str : ByteArray), u = .string (S x) ∧ v = .string str ∧ w.grownBy wr none ∧ Hid (x ≤ n ∧ (0 < x → decDigits x ++ str.data.toList = decDigits n) ∧ (x = 0 → str.data.toList = decDigits n))) (fun u _ _ => numOf u)
    case atStart => exact ⟨n, ⟨#[]⟩, rfl, rfl, hg, Lib.hid ⟨Nat.le_refl _, HST.out⟩⟩
    case round =>
      obtain ⟨x, str, rfl, rfl, hg, HI⟩ := hrel
      rcases Nat.eq_zero_or_pos x with h0 | h0
      · subst h0
        have hz0 := s_len_zero
        have hfin : str = ⟨(decDigits n).toArray⟩ := by
          have := HI.out.2.2 rfl
          cases str with | mk d => rw [← this]
        have HF := Lib.hid hfin
        clear hfin
        go_wp2
        go_ret
        exact ⟨by rw [← HF.out]; rfl, hg⟩
      · have hp := s_len_pos h0
        have hx := Nat.lt_of_le_of_lt HI.out.1 HN2.out
        have HX := Lib.hid hx
        have HX0 := Lib.hid h0
        obtain ⟨d, hd⟩ : ∃ d, d = x % 10 := ⟨_, rfl⟩
        have hd9 : d ≤ 9 := by omega
        obtain ⟨c, hc⟩ : ∃ c, c = 48 + d := ⟨_, rfl⟩
        have hci : (48 : Int) + (d : Int) = (c : Int) := by omega
        have hc57 : c ≤ 57 := by omega
        have hint : ∀ w, Gives 99 #[.string (S (x % 10))] w (.tuple #[.int .i64 (d : Int), .bool true]) := fun w => by
          have hr := rint_yes (S (x % 10)) w (by have := s_size9 (n := x % 10) (Nat.lt_of_le_of_lt (Nat.mod_le _ _) hx); omega) (by rw [s_num]; omega)
          rw [s_num] at hr
          rw [hd]
          refine hr.mono ?_
          rintro e w' ⟨rfl, rfl⟩
          exact ⟨rfl, World.grownBy.refl _ _⟩
        have HINT := Lib.hid hint
        have hu : u8s [c] = [UInt8.ofNat (48 + x % 10)] := by rw [hc, hd]; rfl
        have hnx : x / 10 ≤ n ∧ (0 < x / 10 → decDigits (x / 10) ++ (u8s [c] ++ str.data.toList) = decDigits n) ∧ (x / 10 = 0 → u8s [c] ++ str.data.toList = decDigits n) := by
          have hi := HI.out
          refine ⟨by have := hi.1; omega, fun h => ?_, fun h => ?_⟩
          · rw [← hi.2.1 h0, dec_big (n := x) (by omega), hu, List.append_assoc]
          · rw [← hi.2.1 h0, hu, decDigits_one (by omega), show x % 10 = x from by omega]
        have HNX := Lib.hid hnx
        have hstr : str.size ≤ 1000 := by
          have e1 := HI.out.2.1 h0
          have e2 := congrArg List.length e1
          rw [List.length_append, len_toList] at e2
          have := HL.out
          omega
        have hlen1 : (u8s [c]).length = 1 := rfl
        clear hx h0 hint hu hnx hd hc
        go_wp2_with fail
        refine (rof_any 10 _ (by omega)).mono ?_
        rintro e w2 ⟨rfl, h2⟩
        have hg := gr_then hg h2
        rw [show (⟨(enc 10).toArray⟩ : ByteArray) = S 10 from rfl]
        go_wp2_with fail
        refine (s_rquo (S x) (S 10) x 10 _ (s_num _) (s_num _) (by decide) (s_size9 HX.out) (s_size9 (by decide))).mono ?_
        rintro e w3 ⟨rfl, h3⟩
        have hg := gr_then hg h3
        go_wp2_with fail
        refine (HINT.out _).mono ?_
        rintro e w4 ⟨rfl, h4⟩
        have hg := gr_then hg h4
        clear h2 h3 h4
        have hcv := (acc_one w4 c).str (P := Tryz.prog) 22 9 Tryz.underlying22 Tryz.underlying5 Tryz.underlying9
        have hga := gr_then hg (gr_alloc w4 (.cells #[.int .u8 (c : Int)] 5) none)
        go_wp2
        refine ⟨⟨x / 10, ⟨(u8s [c]).toArray⟩ ++ str, rfl, rfl, hga, Lib.hid ?_⟩, ?_⟩
        · rw [ByteArray.data_append, Array.toList_append]; exact HNX.out
        · show numOf (.string (S (x / 10))) < numOf (.string (S x))
          rw [numOf_s, numOf_s]
          have := HX0.out
          omega

/-- What Parse gives of any string. -/
def parsed (s : ByteArray) : Value := if isTxt s.data.toList = true then .tuple #[.string (S (dnum s.data.toList)), .bool true] else .tuple #[.string ⟨#[]⟩, .bool false]
theorem isTxt_zero {s : ByteArray} (h : s.size = 0) : isTxt s.data.toList = false := by rw [nil_of_size h]; rfl
theorem isTxt_lead {s : ByteArray} (h1 : 1 < s.size) (h : s[0].toNat = 48) : isTxt s.data.toList = false := by
  have e : s[0] = 48 := UInt8.toNat_inj.1 (by rw [h]; rfl)
  have hc := cons_of_size (show 0 < s.size by omega)
  rw [hc, e]
  have hl : (s.data.toList.drop 1).length ≠ 0 := by rw [List.length_drop, len_toList]; omega
  unfold isTxt
  rw [Bool.and_eq_false_iff]
  right
  cases hd : s.data.toList.drop 1 with
  | nil => rw [hd] at hl; exact absurd rfl hl
  | cons a l => simp
theorem isTxt_fine {s : ByteArray} (h0 : 0 < s.size) (hall : s.data.toList.all isDg = true) (h : s.size = 1 ∨ s[0].toNat ≠ 48) : isTxt s.data.toList = true := by
  unfold isTxt
  rw [isDig_isDg, hall, Bool.true_and, Bool.or_eq_true]
  by_cases e : s[0].toNat = 48
  · left
    have h1 : s.size = 1 := by rcases h with h | h; exact h; exact absurd e h
    have e' : s[0] = 48 := UInt8.toNat_inj.1 (by rw [e]; rfl)
    rw [cons_of_size h0, e', List.drop_eq_nil_of_le (by rw [len_toList]; omega)]
    rfl
  · right
    have hne : s[0] ≠ 48 := fun e2 => e (by rw [e2]; rfl)
    rw [cons_of_size h0]
    simp [hne]
theorem pow_small {k : Nat} (hk : k ≤ 200) : 10 ^ k * 10 + 9 < 256 ^ 200 := by
  have h1 : 10 ^ k ≤ 10 ^ 200 := Nat.pow_le_pow_right (by decide) hk
  have h2 : 10 ^ 200 * 10 + 9 < 256 ^ 200 := by decide
  omega

end Go.Proofs.YteajpefbmiiioaaGreatDoor
namespace Go.Proofs.YteajpefbmiiioaaGreatDoor
open Go.RowKit Mth Go.Lib

set_option maxHeartbeats 1000000 in
set_option maxRecDepth 100000 in
theorem s_rparse (s : ByteArray) (w : World) (hs : s.size ≤ 200) : Gives 36 #[.string s] w (parsed s) := by
  rcases Nat.eq_zero_or_pos s.size with h0 | h0
  · have hp : parsed s = .tuple #[.string ⟨#[]⟩, .bool false] := by unfold parsed; rw [isTxt_zero h0]; rfl
    have hz : ((s.size : Int) == 0) = true := by rw [h0]; rfl
    rw [hp]
    clear hp
    go_enter Tryz.func36, Tryz.ntmps36
    go_wp2
    go_ret2
    exact ⟨rfl, World.grownBy.refl _ _⟩
  by_cases hlead : 1 < s.size ∧ s[0].toNat = 48
  · have hp : parsed s = .tuple #[.string ⟨#[]⟩, .bool false] := by unfold parsed; rw [isTxt_lead hlead.1 hlead.2]; rfl
    have hz : ((s.size : Int) == 0) = false := by rw [beq_eq_false_iff_ne]; omega
    have h1 : (1 : Int) < (s.size : Int) := by omega
    have h48 : ((s[0].toNat : Int) == 48) = true := by rw [hlead.2]; rfl
    rw [hp]
    clear hp hlead
    go_enter Tryz.func36, Tryz.ntmps36
    go_wp2
    go_ret2
    exact ⟨rfl, World.grownBy.refl _ _⟩
  have hfine : s.size = 1 ∨ s[0].toNat ≠ 48 := by omega
  have hz : ((s.size : Int) == 0) = false := by rw [beq_eq_false_iff_ne]; omega
  have HFINE := Lib.hid (fun hall => isTxt_fine h0 hall hfine)
  have hcase : (¬ (1 : Int) < (s.size : Int)) ∨ ((1 : Int) < (s.size : Int) ∧ ((s[0].toNat : Int) == 48) = false) := by
    rcases hfine with h | h
    · left; omega
    · by_cases h1 : 1 < s.size
      · right; exact ⟨by omega, by rw [beq_eq_false_iff_ne]; omega⟩
      · left; omega
  have H0 := Lib.hid h0
  clear hlead hfine
  rcases hcase with h1 | ⟨h1, h48⟩
  all_goals
    go_enter Tryz.func36, Tryz.ntmps36
    go_wp2
    go_loopw [4, 5] (fun av kv wr => ∃ k : Nat, k ≤ s.size ∧ kv = .int .i64 k ∧ av = .string (S (dnum (s.data.toList.take k))) ∧ w.grownBy wr none ∧ Hid ((s.data.toList.take k).all isDg = true)) (fun _ kv _ => s.size - (RowKit.intOf kv).toNat)
    case atStart => exact ⟨0, Nat.zero_le _, rfl, by rw [List.take_zero, dnum_nil, s_zero], World.grownBy.refl _ _, Lib.hid rfl⟩
    case round =>
      obtain ⟨k, hk, rfl, rfl, hg, HA⟩ := hrel
      by_cases hlt : k < s.size
      · by_cases hdig : isDig s[k] = true
        · have hb : 48 ≤ s[k].toNat ∧ s[k].toNat ≤ 57 := by simpa [isDig] using hdig
          obtain ⟨b1, b2⟩ := hb
          obtain ⟨d, hd⟩ : ∃ d, d = s[k].toNat - 48 := ⟨_, rfl⟩
          have hd9 : d ≤ 9 := by omega
          have hdb : d ≤ 9223372036854775807 := by omega
          have hw8 : IntKind.u8.wrap (d : Int) = (d : Int) := by rw [IntKind.wrap_u8]; omega
          have hw64 : IntKind.i64.wrap (d : Int) = (d : Int) := by rw [IntKind.wrap_i64]; omega
          have hsub : (s[k].toNat : Int) - 48 = (d : Int) := by omega
          have hnx := dnum_take_succ s hlt
          rw [← hd] at hnx
          have hall : (s.data.toList.take (k + 1)).all isDg = true := by
            rw [List.take_succ_eq_append_getElem (by rw [len_toList]; exact hlt), List.all_append, HA.out, Bool.true_and]
            show ([s[k]].all isDg) = true
            simp only [List.all_cons, List.all_nil, Bool.and_true]
            exact hdig
          have HALL := Lib.hid hall
          have hlt10 := dnum_lt _ HA.out
          rw [List.length_take, len_toList, Nat.min_eq_left hk] at hlt10
          have hbig := pow_small (show k ≤ 200 by omega)
          generalize hX : dnum (s.data.toList.take k) = X at hnx hlt10
          have HNX := Lib.hid (show X * 10 + d = dnum (s.data.toList.take (k + 1)) by rw [hnx]; omega)
          have HZ1 := Lib.hid (show X * 10 < 256 ^ 200 by omega)
          have HZ2 := Lib.hid (show X < 256 ^ 200 by omega)
          have hc1 : ¬ (s[k].toNat : Int) < 48 := by omega
          have hc2 : ¬ (57 : Int) < (s[k].toNat : Int) := by omega
          have h10 : (10 : Nat) ≤ 9223372036854775807 := by decide
          have hgd := gr_then hg (gr_drew wr none)
          clear hdig hd hnx hall hlt10 hbig hX
          go_wp2_with fail
          go_region_with (first
            | (go_at_call_of 25 (Value.int IntKind.i64 10); refine (rof_any 10 _ h10).mono ?_; rintro _ w5 ⟨rfl, h5⟩; have hk5 : w.grownBy w5 none := gr_then (by assumption) h5)
            | (go_at_call_of 25 (Value.int IntKind.i64 (d : Int)); refine (rof_any d _ hdb).mono ?_; rintro _ w6 ⟨rfl, h6⟩; have hk6 : w.grownBy w6 none := gr_then (by assumption) h6)
            | (go_at_call 24; refine (s_rmul (S X) (S 10) X 10 _ (s_num _) (s_num _) (by have := s_size9 HZ2.out; omega) (by have := s_size9 (n := 10) (by decide); omega)).mono ?_; rintro _ w7 ⟨rfl, h7⟩; have hk7 : w.grownBy w7 none := gr_then (by assumption) h7)
            | (go_at_call 19; refine (s_radd (S (X * 10)) (S d) (X * 10) d _ (s_num _) (s_num _) (s_size9 HZ1.out) (s_size9 (Nat.lt_of_le_of_lt hd9 (by decide)))).mono ?_; rintro _ w8 ⟨rfl, h8⟩; have hk8 : w.grownBy w8 none := gr_then (by assumption) h8))
          all_goals
            rw [HNX.out]
            go_wp2
            exact ⟨⟨k + 1, by omega, by go_num, rfl, by assumption, HALL⟩, by simp [RowKit.intOf]; omega⟩
        · have hp : parsed s = .tuple #[.string ⟨#[]⟩, .bool false] := by unfold parsed; rw [isTxt_bad hlt (by simpa using hdig)]; rfl
          have hb : s[k].toNat < 48 ∨ 57 < s[k].toNat := by
            have : ¬ (48 ≤ s[k].toNat ∧ s[k].toNat ≤ 57) := fun h => hdig (by simpa [isDig] using h)
            omega
          have HP := Lib.hid hp
          clear hp hdig
          rcases hb with hb | hb
          · have hc1 : (s[k].toNat : Int) < 48 := by omega
            go_wp2
            go_ret2
            exact ⟨by rw [HP.out]; rfl, hg⟩
          · have hc1 : ¬ (s[k].toNat : Int) < 48 := by omega
            have hc2 : (57 : Int) < (s[k].toNat : Int) := by omega
            go_wp2
            go_ret2
            exact ⟨by rw [HP.out]; rfl, hg⟩
      · obtain rfl : k = s.size := by omega
        have hall := HA.out
        have ht : s.data.toList.take s.size = s.data.toList := List.take_of_length_le (by rw [len_toList]; omega)
        rw [ht] at hall ⊢
        have hp : parsed s = .tuple #[.string (S (dnum s.data.toList)), .bool true] := by unfold parsed; rw [if_pos (HFINE.out hall)]
        have HP := Lib.hid hp
        clear hp hall ht
        go_wp2
        go_ret2
        exact ⟨by rw [HP.out]; rfl, hg⟩
theorem s_parse (s : ByteArray) (w : World) (hs : s.size ≤ 200) : Gives 33 #[.string s] w (parsed s) := by
  unfold parsed
  split
  · rename_i h; exact parse_yes s w (by omega) h
  · rename_i h; exact parse_no s w (by omega) (by simpa using h)
end Go.Proofs.YteajpefbmiiioaaGreatDoor
namespace Go.Proofs.YteajpefbmiiioaaGreatDoor
open Go.RowKit Mth Go.Lib

theorem lcut_no (s : ByteArray) (w : World) (h : Lib.indexByte s.data.toList 47 = -1) : Gives 155 #[.string s, .string ⟨#[47]⟩] w (.tuple #[.string s, .string ⟨#[]⟩, .bool false]) := by
  have H := Lib.hid h
  clear h
  go_enter Tryz.func155, Tryz.ntmps155
  go_wp2_with fail
  refine (Tryz.stringslite_Index_one _ _ _).mono ?_
  rintro e w1 ⟨rfl, rfl⟩
  rw [H.out]
  go_wp2
  go_ret3
  exact ⟨rfl, gr_rfl _⟩
theorem lcut_yes (s : ByteArray) (i : Nat) (w : World) (h : Lib.indexByte s.data.toList 47 = (i : Int)) (hi : i < s.size) (hs : s.size ≤ 1000000) : Gives 155 #[.string s, .string ⟨#[47]⟩] w (.tuple #[.string (s.extract 0 i), .string (s.extract (i + 1) s.size), .bool true]) := by
  have H := Lib.hid h
  clear h
  have h1 : decide (0 ≤ (i : Int)) = true := by simp
  have h2 : (i : Int) ≤ (s.size : Int) := by omega
  have h3 : (i : Int) + 1 ≤ (s.size : Int) := by omega
  go_enter Tryz.func155, Tryz.ntmps155
  go_wp2_with fail
  refine (Tryz.stringslite_Index_one _ _ _).mono ?_
  rintro e w1 ⟨rfl, rfl⟩
  rw [H.out]
  go_wp2_with fail
  go_region
  go_wp2
  go_ret3
  exact ⟨rfl, gr_dr (gr_rfl _)⟩
theorem cutq_no (s : ByteArray) (w : World) (h : Lib.indexByte s.data.toList 47 = -1) : Gives 122 #[.string s, .string ⟨#[47]⟩] w (.tuple #[.string s, .string ⟨#[]⟩, .bool false]) := by
  have H := Lib.hid (fun w => lcut_no s w h)
  clear h
  go_enter Tryz.func122, Tryz.ntmps122
  go_wp2_with fail
  refine (H.out _).mono ?_
  rintro e w1 ⟨rfl, g1⟩
  go_wp2
  go_ret3
  exact ⟨rfl, g1⟩
theorem cutq_yes (s : ByteArray) (i : Nat) (w : World) (h : Lib.indexByte s.data.toList 47 = (i : Int)) (hi : i < s.size) (hs : s.size ≤ 1000000) : Gives 122 #[.string s, .string ⟨#[47]⟩] w (.tuple #[.string (s.extract 0 i), .string (s.extract (i + 1) s.size), .bool true]) := by
  have H := Lib.hid (fun w => lcut_yes s i w h hi hs)
  clear h
  generalize s.extract 0 i = x at *
  generalize s.extract (i + 1) s.size = y at *
  go_enter Tryz.func122, Tryz.ntmps122
  go_wp2_with fail
  refine (H.out _).mono ?_
  rintro e w1 ⟨rfl, g1⟩
  go_wp2
  go_ret3
  exact ⟨rfl, g1⟩
set_option maxRecDepth 100000 in
theorem rightq_no (b : Bool) (m n k : Nat) (w : World) (hn : n ≠ 0) (h1 : m < 256 ^ k) (h2 : n < 256 ^ k) (hk : k ≤ 1000000) (hne : ¬ RW b m n = RV (mkRat (sg b m) n)) : Gives 58 #[RW b m n] w (.bool false) := by
  have HM := Lib.hid (fun w => make_yes b m n k w hn h1 h2 hk)
  generalize mkRat (sg b m) n = q at *
  unfold RV RW at *
  have hf := fields hne
  generalize decide (q.num < 0) = b2 at *
  generalize S q.num.natAbs = x2 at *
  generalize S q.den = y2 at *
  generalize S m = x at *
  generalize S n = y at *
  clear h1 h2 hk hn hne
  have hT0 := Three.new w (.bool b) (.string x) (.string y) 49
  rcases hf with hf | ⟨rfl, hf⟩ | ⟨rfl, rfl, hf⟩
  · go_enter Tryz.func58, Tryz.ntmps58
    go_wp2_with fail
    refine (HM.out _).mono ?_
    rintro e w1 ⟨rfl, g1⟩
    have hT := hT0.kept g1
    have hT2 := hT.alloc (.cells #[.bool b2, .string x2, .string y2] 49)
    have d0 := hT2.c0
    have d1 := hT2.c1
    have d2 := hT2.c2
    have c0 := hT.c0
    have c1 := hT.c1
    have c2 := hT.c2
    go_wp2
    go_ret
    exact ⟨rfl, gr_al (gr_one g1)⟩
  · go_enter Tryz.func58, Tryz.ntmps58
    go_wp2_with fail
    refine (HM.out _).mono ?_
    rintro e w1 ⟨rfl, g1⟩
    have hT := hT0.kept g1
    have hT2 := hT.alloc (.cells #[.bool b, .string x2, .string y2] 49)
    have d0 := hT2.c0
    have d1 := hT2.c1
    have d2 := hT2.c2
    have c0 := hT.c0
    have c1 := hT.c1
    have c2 := hT.c2
    go_wp2
    go_ret
    exact ⟨rfl, gr_al (gr_one g1)⟩
  · go_enter Tryz.func58, Tryz.ntmps58
    go_wp2_with fail
    refine (HM.out _).mono ?_
    rintro e w1 ⟨rfl, g1⟩
    have hT := hT0.kept g1
    have hT2 := hT.alloc (.cells #[.bool b, .string x, .string y2] 49)
    have d0 := hT2.c0
    have d1 := hT2.c1
    have d2 := hT2.c2
    have c0 := hT.c0
    have c1 := hT.c1
    have c2 := hT.c2
    go_wp2
    go_ret
    exact ⟨rfl, gr_al (gr_one g1)⟩
theorem make_nil (b : Bool) (m : Nat) (w : World) : Gives 53 #[.bool b, .string (S m), .string ⟨#[]⟩] w (.tuple #[.agg #[.bool false, .string ⟨#[]⟩, .string ⟨#[]⟩], .bool false]) := by
  have HRm := Lib.hid (s_right m)
  have HRn := Lib.hid (s_right 0)
  rw [s_zero] at HRn
  generalize S m = x at *
  have hT0 := Three.new w (.bool false) (.string ⟨#[]⟩) (.string ⟨#[]⟩) 49
  go_enter Tryz.func53, Tryz.ntmps53
  go_wp2_with fail
  refine (HRm.out _).mono ?_
  rintro e w1 ⟨rfl, g1⟩
  have hT1 := hT0.kept g1
  have G1 := Lib.hid (gr_one g1)
  clear g1 hT0
  go_wp2_with fail
  refine (HRn.out _).mono ?_
  rintro e w2 ⟨rfl, g1⟩
  have hT := hT1.kept g1
  have G := Lib.hid (gr_then G1.out g1)
  clear g1 hT1 G1
  have f0 := hT.fr 0
  have f1 := hT.fr 1
  have f2 := hT.fr 2
  have c0 := hT.c0
  have c1 := hT.c1
  have c2 := hT.c2
  go_wp2
  exact bodyPost_ret (v := .tuple #[.agg #[.bool false, .string ⟨#[]⟩, .string ⟨#[]⟩], .bool false]) (by simp [results, Tryz.results53, go_sem, c0, c1, c2]) rfl ⟨rfl, gr_setn (gr_setn (gr_setn G.out (Nat.le_refl _)) (Nat.le_refl _)) (Nat.le_refl _)⟩
end Go.Proofs.YteajpefbmiiioaaGreatDoor
namespace Go.Proofs.YteajpefbmiiioaaGreatDoor
open Go.RowKit Mth Go.Lib

set_option maxHeartbeats 1000000 in
set_option maxRecDepth 100000 in
theorem rmulq_any (p q : Rat) (k : Nat) (w : World) (hp : Bd k p) (hq : Bd k q) (hk : k ≤ 100) : Gives 46 #[RV p, RV q] w (RV (p * q)) := by
  have HV1 := Lib.hid (fun w => rvalue_rv p k w hp (by omega))
  have HV2 := Lib.hid (fun w => rvalue_rv q k w hq (by omega))
  have b1 := lt_le256 hp.1 (by omega : k ≤ 100)
  have b2 := lt_le256 hp.2 (by omega : k ≤ 100)
  have b3 := lt_le256 hq.1 (by omega : k ≤ 100)
  have b4 := lt_le256 hq.2 (by omega : k ≤ 100)
  have h100 : 100 ≤ 200 := by decide
  have z1 := s_size9 (lt_le256 b1 h100)
  have z2 := s_size9 (lt_le256 b2 h100)
  have z3 := s_size9 (lt_le256 b3 h100)
  have z4 := s_size9 (lt_le256 b4 h100)
  have HM1 := Lib.hid (fun w => s_rmul (S p.num.natAbs) (S q.num.natAbs) _ _ w (s_num _) (s_num _) (by omega) (by omega))
  have HM2 := Lib.hid (fun w => s_rmul (S p.den) (S q.den) _ _ w (s_num _) (s_num _) (by omega) (by omega))
  have HL := Lib.hid (fun w => rlow_any (decide (p.num < 0) != decide (q.num < 0)) (p.num.natAbs * q.num.natAbs) (p.den * q.den) w (Nat.mul_pos (Nat.pos_of_ne_zero p.den_nz) (Nat.pos_of_ne_zero q.den_nz)) (lt_mul256 b1 b3) (lt_mul256 b2 b4))
  rw [mul_mk] at HL
  clear b1 b2 b3 b4 h100 z1 z2 z3 z4 hk hp hq
  unfold RV RW at *
  generalize S (p * q).num.natAbs = zs at *
  generalize S (p * q).den = zd at *
  generalize decide ((p * q).num < 0) = c at *
  generalize S (p.num.natAbs * q.num.natAbs) = m1 at *
  generalize S (p.den * q.den) = m2 at *
  generalize decide (p.num < 0) = a at *
  generalize decide (q.num < 0) = b at *
  generalize S p.num.natAbs = pn at *
  generalize S p.den = pd at *
  generalize S q.num.natAbs = qn at *
  generalize S q.den = qd at *
  have n01 : w.heap.size ≠ w.heap.size + 1 := by omega
  have n10 : w.heap.size + 1 ≠ w.heap.size := by omega
  have n02 : w.heap.size ≠ w.heap.size + 1 + 1 := by omega
  have n20 : w.heap.size + 1 + 1 ≠ w.heap.size := by omega
  have n12 : w.heap.size + 1 ≠ w.heap.size + 1 + 1 := by omega
  have n21 : w.heap.size + 1 + 1 ≠ w.heap.size + 1 := by omega
  have hA0 := ((Three.new w (.bool a) (.string pn) (.string pd) 49).alloc (.cells #[.bool b, .string qn, .string qd] 49)).alloc (.cells #[.bool false, .string ⟨#[]⟩, .string ⟨#[]⟩] 49)
  have hB0 := (Three.new1 w (.cells #[.bool a, .string pn, .string pd] 49) (.bool b) (.string qn) (.string qd) 49).alloc (.cells #[.bool false, .string ⟨#[]⟩, .string ⟨#[]⟩] 49)
  have hC0 := Three.new2 w (.cells #[.bool a, .string pn, .string pd] 49) (.cells #[.bool b, .string qn, .string qd] 49) (.bool false) (.string ⟨#[]⟩) (.string ⟨#[]⟩) 49
  go_enter Tryz.func46, Tryz.ntmps46
  go_wp2_with fail
  refine (HV1.out _).mono ?_
  rintro e v1 ⟨rfl, g1⟩
  have hAv1 := hA0.kept g1
  have hBv1 := hB0.kept g1
  have hCv1 := hC0.kept g1
  have Gv1 := Lib.hid (gr_three g1)
  clear g1 hA0 hB0 hC0
  have a0v1 := hAv1.c0
  have a1v1 := hAv1.c1
  have a2v1 := hAv1.c2
  have fa0v1 := hAv1.fr 0
  have fa1v1 := hAv1.fr 1
  have fa2v1 := hAv1.fr 2
  have b0v1 := hBv1.c0
  have b1v1 := hBv1.c1
  have b2v1 := hBv1.c2
  go_wp2_with fail
  refine (HV2.out _).mono ?_
  rintro e v2 ⟨rfl, g2⟩
  have hAv2 := (hAv1.all (.bool a) (.string pn) (.string pd)).kept g2
  have hBv2 := (hBv1.oth3 n10 (.bool a) (.string pn) (.string pd)).kept g2
  have hCv2 := (hCv1.oth3 n20 (.bool a) (.string pn) (.string pd)).kept g2
  have Gv2 := Lib.hid (gr_then (gr_set3 Gv1.out (Nat.le_refl _) (.bool a) (.string pn) (.string pd)) g2)
  clear g2 Gv1 hAv1 hBv1 hCv1 a0v1 a1v1 a2v1 fa0v1 fa1v1 fa2v1 b0v1 b1v1 b2v1
  have hAv3 := hAv2.oth3 n01 (.bool b) (.string qn) (.string qd)
  have hBv3 := hBv2.all (.bool b) (.string qn) (.string qd)
  have hCv3 := hCv2.oth3 n21 (.bool b) (.string qn) (.string qd)
  have Gv3 := gr_set3 Gv2.out (Nat.le_succ _) (.bool b) (.string qn) (.string qd)
  have a0v2 := hAv2.c0
  have a1v2 := hAv2.c1
  have a2v2 := hAv2.c2
  have b0v2 := hBv2.c0
  have b1v2 := hBv2.c1
  have b2v2 := hBv2.c2
  have fb0v2 := hBv2.fr 0
  have fb1v2 := hBv2.fr 1
  have fb2v2 := hBv2.fr 2
  go_wp2_with fail
  have hAv4 := hAv3.drew
  have hBv4 := hBv3.drew
  have hCv4 := hCv3.drew
  have Gv4 := gr_dr Gv3
  go_region_held3 (fun w' => w'.cell? ⟨w.heap.size, 0, none⟩ = some (.bool a) ∧ w'.cell? ⟨w.heap.size, 1, none⟩ = some (.string pn) ∧ w'.cell? ⟨w.heap.size, 2, none⟩ = some (.string pd) ∧ w'.cell? ⟨w.heap.size + 1, 0, none⟩ = some (.bool b) ∧ w'.cell? ⟨w.heap.size + 1, 1, none⟩ = some (.string qn) ∧ w'.cell? ⟨w.heap.size + 1, 2, none⟩ = some (.string qd)) (first | exact ⟨Three.c0 (by assumption), Three.c1 (by assumption), Three.c2 (by assumption), Three.c0 (by assumption), Three.c1 (by assumption), Three.c2 (by assumption)⟩ | go_keep)
    (first
      | (go_at_call_of 24 (Value.string pn); refine (HM1.out _).mono ?_; rintro e v5 ⟨rfl, gv5⟩; have hAv5 : Three v5 (w.heap.size) (.bool a) (.string pn) (.string pd) 49 := Three.kept (by assumption) gv5; have hBv5 : Three v5 (w.heap.size + 1) (.bool b) (.string qn) (.string qd) 49 := Three.kept (by assumption) gv5; have hCv5 : Three v5 (w.heap.size + 1 + 1) (.bool false) (.string ⟨#[]⟩) (.string ⟨#[]⟩) 49 := Three.kept (by assumption) gv5; have Gv5 : w.grownBy v5 none := gr_then (by assumption) gv5)
      | (go_at_call_of 24 (Value.string pd); refine (HM2.out _).mono ?_; rintro e v6 ⟨rfl, gv6⟩; have hAv6 : Three v6 (w.heap.size) (.bool a) (.string pn) (.string pd) 49 := Three.kept (by assumption) gv6; have hBv6 : Three v6 (w.heap.size + 1) (.bool b) (.string qn) (.string qd) 49 := Three.kept (by assumption) gv6; have hCv6 : Three v6 (w.heap.size + 1 + 1) (.bool false) (.string ⟨#[]⟩) (.string ⟨#[]⟩) 49 := Three.kept (by assumption) gv6; have Gv6 : w.grownBy v6 none := gr_then (by assumption) gv6)
      | (go_at_call 101; refine (HL.out _).mono ?_; rintro e v7 ⟨rfl, gv7⟩; have hAv7 : Three v7 (w.heap.size) (.bool a) (.string pn) (.string pd) 49 := Three.kept (by assumption) gv7; have hBv7 : Three v7 (w.heap.size + 1) (.bool b) (.string qn) (.string qd) 49 := Three.kept (by assumption) gv7; have hCv7 : Three v7 (w.heap.size + 1 + 1) (.bool false) (.string ⟨#[]⟩) (.string ⟨#[]⟩) 49 := Three.kept (by assumption) gv7; have Gv7 : w.grownBy v7 none := gr_then (by assumption) gv7; have k0 := hCv7.c0; have k1 := hCv7.c1; have k2 := hCv7.c2; have f0 := hCv7.fr 0; have f1 := hCv7.fr 1; have f2 := hCv7.fr 2))
  all_goals
    go_wp2
    exact bodyPost_ret (v := .agg #[.bool c, .string zs, .string zd]) (by simp [results, Tryz.results46, go_sem, k0, k1, k2]) rfl ⟨rfl, gr_set3 Gv7 (by omega) _ _ _⟩
end Go.Proofs.YteajpefbmiiioaaGreatDoor
