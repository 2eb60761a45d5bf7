/- Contracts of the program and of the reference, part 6: RefG, RefQ, RefA, RefX, Dm4. -/
import Derived.Test.YtmlmjhlakpgagaaDoorBRing5
import Derived.Deep.RegionWith
import Derived.Deep.Upon
import Derived.Lib.Strings
import Derived.Deep.RegionHeld3
import Derived.Deep.DeepCutAuto
namespace Go.Proofs.YtmlmjhlakpgagaaDoor
open Go.RowKit Mth

theorem dgt_mul_len {N d : Nat} (hd : d < D24) : (dgt (N * d)).length ≤ (dgt N).length + 1 := by
  refine dgt_len_le _ _ ?_
  rw [Nat.pow_succ]
  rcases Nat.eq_zero_or_pos d with h | h
  · subst h; rw [Nat.mul_zero]; exact Nat.mul_pos (Nat.pow_pos D24_pos) D24_pos
  · exact Nat.mul_lt_mul'' (dgt_lt N) hd
set_option maxHeartbeats 2000000 in
set_option maxRecDepth 100000 in
theorem rdigit_any (a : Option Addr) (m c M : Nat) (a2 : Option Addr) (m2 c2 N : Nat) (w : World) (h : Ls w a m c (dgt M)) (h2 : Ls w a2 m2 c2 (dgt N)) (hN : 0 < N) (hlt : M < N * D24) (hm : m ≤ 10000000000) (hm2 : m2 ≤ 10000000000) :
    Calls Tryd.prog 69 #[.slice a m c, .slice a2 m2 c2] w fun e w' => e = .returned (.int .i64 ((M / N : Nat) : Int)) ∧ w.grownBy w' none := by
  have H := Lib.hid h
  have H2 := Lib.hid h2
  have HM2 := Lib.hid h2.len
  have HB := Lib.hid hlt
  have HN := Lib.hid hN
  clear h h2 hlt hN
  go_enter Tryd.func69, Tryd.ntmps69
  go_wp2
  go_loopw [5, 6] (fun lv hv wr => ∃ lo hi : Nat, lv = .int .i64 lo ∧ hv = .int .i64 hi ∧ lo ≤ hi ∧ hi ≤ 16777215 ∧ w.grownBy wr none ∧ Hid (N * lo ≤ M ∧ M < N * (hi + 1))) (fun lv hv _ => (intOf hv - intOf lv).toNat)
  case atStart => exact ⟨0, 16777215, rfl, rfl, by omega, by omega, World.grownBy.refl _ _, Lib.hid ⟨by rw [Nat.mul_zero]; exact Nat.zero_le _, HB.out⟩⟩
  case round =>
    obtain ⟨lo, hi, rfl, rfl, hle, hhi, hg, HI⟩ := hrel
    by_cases hlt : lo < hi
    · obtain ⟨mid, hmid⟩ : ∃ mid, mid = (lo + hi + 1) / 2 := ⟨_, rfl⟩
      have HQ := Lib.hid (show ((lo : Int) + (hi : Int) + 1) / 2 = (mid : Int) by omega)
      have hml : lo < mid := by omega
      have hmh : mid ≤ hi := by omega
      have hmd : mid < D24 := by rw [D24_eq]; omega
      clear hmid
      go_wp2_with fail
      rw [HQ.out]
      refine (rtimes_any a2 m2 c2 N mid _ (H2.out.kept hg) hmd (by omega)).mono ?_
      rintro e w1 ⟨v1, rfl, hr1, h1⟩
      have hg1 := gr_then hg h1
      obtain ⟨a1, m1, c1, rfl, hs1⟩ := hr1
      have hm1 : m1 ≤ 100000000000 := by
        have e1 := hs1.len
        have e2 := dgt_mul_len (N := N) hmd
        have e3 := HM2.out
        omega
      have HS1 := Lib.hid hs1
      clear hs1 h1
      go_wp2_with fail
      refine (rcmp_any a1 m1 c1 (N * mid) a m c M _ HS1.out (H.out.kept hg1) hm1 (by omega)).mono ?_
      rintro e w2 ⟨z, rfl, hz1, _, h2⟩
      have hg2 := gr_then hg1 h2
      clear h2 hg1
      by_cases hz : z ≤ 0
      · have HNX := Lib.hid (show N * mid ≤ M ∧ M < N * (hi + 1) from ⟨hz1.1 hz, HI.out.2⟩)
        clear hz1
        go_wp2
        exact ⟨⟨mid, hi, rfl, rfl, hmh, hhi, hg2, HNX⟩, by simp [intOf]; omega⟩
      · have HNX := Lib.hid (show N * lo ≤ M ∧ M < N * (mid - 1 + 1) from ⟨HI.out.1, by rw [show mid - 1 + 1 = mid from by omega]; have := mt hz1.2 hz; omega⟩)
        clear hz1
        go_wp2
        exact ⟨⟨lo, mid - 1, rfl, by go_num, by omega, by omega, hg2, HNX⟩, by simp [intOf]; omega⟩
    · obtain rfl : lo = hi := by omega
      have hfin : M / N = lo := by
        refine Nat.div_eq_of_lt_le ?_ ?_
        · rw [Nat.mul_comm]; exact HI.out.1
        · rw [Nat.mul_comm]; exact HI.out.2
      have HF := Lib.hid hfin
      clear hfin
      go_wp2
      go_ret
      exact ⟨by rw [HF.out]; rfl, hg⟩
end Go.Proofs.YtmlmjhlakpgagaaDoor
namespace Go.Proofs.YtmlmjhlakpgagaaDoor
open Go.RowKit Mth

set_option maxRecDepth 100000 in
theorem rquo_none (s t : ByteArray) (w : World) (ht : t.size ≤ 1000000000000) (h0 : num t.data.toList = 0) :
    Calls Tryd.prog 53 #[.string s, .string t] w fun e w' => e = .returned (.tuple #[.string ⟨#[]⟩, .string ⟨#[]⟩, .bool false]) ∧ w.grownBy w' none := by
  have hc : (⟨(canon t.data.toList).toArray⟩ : ByteArray) = ⟨#[]⟩ := by
    rw [← enc_num_canon, h0, enc_zero]
  have HC := Lib.hid hc
  clear hc h0
  go_enter Tryd.func53, Tryd.ntmps53
  go_wp2_with fail
  refine (canon_any t _ ht).mono ?_
  rintro e w' ⟨rfl, rfl⟩
  rw [HC.out]
  go_wp2
  go_ret3
  exact ⟨rfl, World.grownBy.refl _ _⟩

theorem canon_enc (t : ByteArray) : (⟨(canon t.data.toList).toArray⟩ : ByteArray) = ⟨(enc (num t.data.toList)).toArray⟩ := by rw [enc_num_canon]
theorem enc_size_pos {n : Nat} (h : 0 < n) : 0 < (⟨(enc n).toArray⟩ : ByteArray).size := by
  show 0 < (enc n).toArray.size
  rcases Nat.eq_zero_or_pos (enc n).length with h1 | h1
  · have := num_enc n
    rw [List.eq_nil_of_length_eq_zero h1] at this
    simp [num] at this; omega
  · simpa using h1
theorem enc_size_le {t : ByteArray} : (⟨(enc (num t.data.toList)).toArray⟩ : ByteArray).size ≤ t.size := by
  rw [enc_num_canon]
  show (canon t.data.toList).toArray.size ≤ _
  have := canon_length_le t.data.toList
  rw [len_toList] at this
  simpa using this

set_option maxHeartbeats 400000 in
set_option maxRecDepth 100000 in
theorem rquo_small (s t : ByteArray) (w : World) (hs : s.size ≤ 1000000000000) (ht : t.size ≤ 1000000000000) (h0 : 0 < num t.data.toList) (h1 : num s.data.toList < 256 ^ 7) (h2 : num t.data.toList < 256 ^ 7) :
    Calls Tryd.prog 53 #[.string s, .string t] w fun e w' => e = .returned (.tuple #[.string ⟨(enc (num s.data.toList / num t.data.toList)).toArray⟩, .string ⟨(enc (num s.data.toList % num t.data.toList)).toArray⟩, .bool true]) ∧ w.grownBy w' none := by
  have hpos := enc_size_pos h0
  have hle := enc_size_le (t := t)
  have HC := Lib.hid (canon_enc t)
  have hnum : num (⟨(enc (num t.data.toList)).toArray⟩ : ByteArray).data.toList = num t.data.toList := by simp [num_enc]
  have H1 := Lib.hid h1
  have H2 := Lib.hid h2
  generalize hm : num s.data.toList = m at h1 H1
  generalize hn : num t.data.toList = n at h2 H2 h0 hpos hle hnum HC
  generalize (⟨(enc n).toArray⟩ : ByteArray) = u at hpos hle hnum HC
  have HM := Lib.hid hm
  have HN := Lib.hid hnum
  obtain ⟨Q, hQ⟩ : ∃ Q, Q = m / n := ⟨_, rfl⟩
  obtain ⟨R, hR⟩ : ∃ R, R = m % n := ⟨_, rfl⟩
  have hq : (m : Int) / (n : Int) = (Q : Int) := by rw [hQ]; simp
  have hr : (m : Int) % (n : Int) = (R : Int) := by rw [hR]; simp
  have hr2 : (m : Int).tmod (n : Int) = (R : Int) := by rw [hR]; rfl
  have hQb : Q ≤ 9223372036854775807 := by
    have : m / n ≤ m := Nat.div_le_self _ _
    omega
  have hRb : R ≤ 9223372036854775807 := by
    have : m % n ≤ m := Nat.mod_le _ _
    omega
  have hnz : ((u.size : Int) == 0) = false := by rw [beq_eq_false_iff_ne]; omega
  have hn0 : ¬ (n : Int) = 0 := by omega
  have hn1 : ¬ n = 0 := by omega
  have hwq : IntKind.i64.wrap (Q : Int) = (Q : Int) := by rw [IntKind.wrap_i64]; omega
  have hwr : IntKind.i64.wrap (R : Int) = (R : Int) := by rw [IntKind.wrap_i64]; omega
  have hmb : m ≤ 72057594037927935 := by omega
  have hnb : n ≤ 72057594037927935 := by omega
  rw [← hQ, ← hR]
  clear h1 h2 hm hn hQ hR hnum
  go_enter Tryd.func53, Tryd.ntmps53
  go_wp2_with fail
  refine (canon_any t _ ht).mono ?_
  rintro e w' ⟨rfl, rfl⟩
  rw [HC.out]
  go_wp2_with fail
  refine (small_yes s 7 (by omega) _ hs (by rw [HM.out]; exact H1.out)).mono ?_
  rintro e w1 ⟨rfl, rfl⟩
  rw [HM.out]
  go_wp2_with fail
  refine (small_yes u 7 (by omega) _ (by omega) (by rw [HN.out]; exact H2.out)).mono ?_
  rintro e w1 ⟨rfl, rfl⟩
  rw [HN.out]
  go_wp2_with fail
  go_region_with (first
    | (go_at_call 52; refine (rof_any _ _ (by first | exact hQb | exact hRb)).mono ?_; rintro e w5 ⟨rfl, h5⟩))
  all_goals
    go_wp2
    go_ret3
    exact ⟨rfl, gr_then (gr_drew w none) (gr_then ‹_› h5)⟩

theorem Ls.keptNe {w w' : World} {a : Option Addr} {m c G : Nat} {l : List Nat} (h : Ls w a m c l) (hg : w.grownBy w' (some G)) (hne : ∀ g, a = some ⟨g, 0, none⟩ → g ≠ G) : Ls w' a m c l := by
  refine ⟨h.len, fun h0 => ?_⟩
  obtain ⟨g, zs, h1, h2, h3⟩ := h.mem h0
  exact ⟨g, zs, h1, h2.kept hg (by have := hne g h1; simpa using this), h3⟩
/-- One number in front of a list. -/
theorem run_prepend {w : World} (t ty : TypeId) (i : TypeInfo) (ht : Tryd.prog.underlying t = some (.slice 3)) (hi : Tryd.prog.info? 3 = some i) (hz : i.zero = some (.int .i64 0)) (hsize : i.size = 1) (hby : i.bytes = 8)
    (x : Nat) (a : Option Addr) (m c : Nat) (l : List Nat) (hl : Ls w a m c l) (h63 : 1 + m ≤ maxLen) (hbytes : (1 + m) * 8 ≤ 140737488355328) :
    ∃ v' w', (Builtin.append_ #[t, t] ty #[.slice (some ⟨w.heap.size, 0, none⟩) 1 1, .slice a m c]).run Tryd.prog (w.alloc (.cells #[.int .i64 (x : Int)] 3)) = .ok v' w' ∧ Acc .i64 3 w w' v' (x :: l) := by
  have hb : Blk .i64 3 (w.alloc (.cells #[.int .i64 (x : Int)] 3)) w.heap.size [x] := heap_alloc_new w _
  have hown : Own .i64 3 (w.alloc (.cells #[.int .i64 (x : Int)] 3)) (.slice (some ⟨w.heap.size, 0, none⟩) 1 1) 1 [x] := .inr ⟨w.heap.size, rfl, hb, Nat.le_refl _, by unfold maxLen; simp⟩
  have hl' := hl.kept (gr_alloc w (.cells #[.int .i64 (x : Int)] 3) none)
  have hlen := hl.len
  rcases Nat.eq_zero_or_pos m with h0 | h0
  · subst h0
    obtain rfl : l = [] := List.eq_nil_of_length_eq_zero hlen.symm
    have hs : Src Tryd.prog i.size t (.slice a 0 c) 0 [] (w.alloc (.cells #[.int .i64 (x : Int)] 3)) := by
      cases a with
      | none => exact Src.ofNil _ ht c
      | some ad => exact Src.ofSlice _ ht ad 0 c [] (by simp) (fun j u h => by simp at h) (fun u h => by cases h)
    exact ⟨_, _, run_append_nothing _ t t ty 3 i ht hi _ 1 1 (Nat.le_refl _) _ hs, ⟨⟨[x], hown, rfl⟩, .inr ⟨_, rfl, Nat.le_refl _⟩, gr_alloc w _ none⟩⟩
  · obtain ⟨g, zs, rfl, hbl, hlz, hmc, hmx, htk⟩ := hl'.mem h0
    obtain ⟨v', w', us, hrun, ho', hg, happ, hblk⟩ := run_append_blk (P := Tryd.prog) .i64 3 t ty i 8 ht hi hz hsize hby _ 1 [x] hown g 0 m c l (fun j hj => by rw [Nat.zero_add]; rw [hbl.cell (by omega), ← htk, gt_take hj]) (by omega) h0 h63 hbytes
    refine ⟨v', w', hrun, ⟨⟨us, by rw [List.length_cons, ← hlen, Nat.add_comm]; exact ho', ?_⟩, ?_, ?_⟩⟩
    · have hlu : 1 + m ≤ us.length := by
        rcases ho' with ⟨_, h0, _⟩ | ⟨_, _, _, h1, _⟩
        · omega
        · exact h1
      apply gt_ext
      · simp; omega
      · intro j hj
        simp at hj
        rw [gt_take (by simp; omega)]
        rcases j with _ | j
        · rw [happ.old 0 (by omega)]; rfl
        · have := happ.new j (by omega)
          rw [Nat.zero_add, Nat.add_comm] at this
          rw [this]; rfl
    · refine .inr ?_
      rcases hblk with e1 | ⟨g', e1, e2⟩
      · exact ⟨w.heap.size, by rw [e1]; rfl, Nat.le_refl _⟩
      · exact ⟨g', e1, by simp at e2; omega⟩
    · exact gr_new (gr_alloc w _ none) hg (Nat.le_refl _)
theorem wpList_prepend {w : World} {ops : Array Oper} {rest : List Oper} {o : Oper} {act : Act} {Q : Exit → Act → World → Prop} (hgd : o.guard = none) (s y : Operand) (t : TypeId)
    (ho : o.op = .call { callee := .builtin .append, args := #[s, y], argTypes := #[t, t] })
    (i : TypeInfo) (ht : Tryd.prog.underlying t = some (.slice 3)) (hi : Tryd.prog.info? 3 = some i) (hz : i.zero = some (.int .i64 0)) (hsize : i.size = 1) (hby : i.bytes = 8)
    (x : Nat) (a : Option Addr) (m c : Nat) (l : List Nat) (hl : Ls w a m c l) (hs : act.eval s = .slice (some ⟨w.heap.size, 0, none⟩) 1 1) (hx : act.eval y = .slice a m c)
    (h63 : 1 + m ≤ maxLen) (hbytes : (1 + m) * 8 ≤ 140737488355328)
    (h : ∀ v' w', Acc .i64 3 w w' v' (x :: l) → wpList Tryd.prog ops Q rest (act.put o.dst v') w') : wpList Tryd.prog ops Q (o :: rest) act (w.alloc (.cells #[.int .i64 (x : Int)] 3)) := by
  refine wpList_plain hgd fun K hK => ?_
  obtain ⟨v', w', hr, h2⟩ := run_prepend t o.type i ht hi hz hsize hby x a m c l hl h63 hbytes
  unfold Oper.wp execOp
  simp only [ho, resolve, invoke, builtin, Sem.run_bind, Sem.run_pure, Result.andThen_ok, List.map_toArray, List.map_cons, List.map_nil, hs, hx, hr]
  exact hK _ _ (h v' w' h2)

set_option maxHeartbeats 8000000 in
set_option maxRecDepth 100000 in
theorem rquo_big (s t : ByteArray) (w : World) (hs : s.size ≤ 1000000000) (ht : t.size ≤ 1000000000) (h0 : 0 < num t.data.toList) (h : 256 ^ 7 ≤ num s.data.toList ∨ 256 ^ 7 ≤ num t.data.toList) :
    Calls Tryd.prog 53 #[.string s, .string t] w fun e w' => e = .returned (.tuple #[.string ⟨(enc (num s.data.toList / num t.data.toList)).toArray⟩, .string ⟨(enc (num s.data.toList % num t.data.toList)).toArray⟩, .bool true]) ∧ w.grownBy w' none := by
  obtain ⟨i0, hi, hz0, hz1, hz2⟩ := info_parts infoI
  have hpos := enc_size_pos h0
  have hle := enc_size_le (t := t)
  have HC := Lib.hid (canon_enc t)
  have hnum : num (⟨(enc (num t.data.toList)).toArray⟩ : ByteArray).data.toList = num t.data.toList := by simp [num_enc]
  have hl1 := dgt_bytes hs
  have hl2 := dgt_bytes ht
  obtain ⟨A, hA⟩ : ∃ A, A = num s.data.toList := ⟨_, rfl⟩
  generalize hB : num t.data.toList = B at h h0 hpos hle hnum HC hl2
  generalize (⟨(enc B).toArray⟩ : ByteArray) = u at hpos hle hnum HC
  have hu : u.size ≤ 1000000000 := by omega
  have hsm : (∃ x p, Calls Tryd.prog 63 #[.string s, .int .i64 7] w (fun e w' => e = .returned (.tuple #[.int .i64 x, .bool p]) ∧ w = w') ∧ (256 ^ 7 ≤ num s.data.toList → p = false)) := by
    rcases Nat.lt_or_ge (num s.data.toList) (256 ^ 7) with h1 | h1
    · exact ⟨_, _, small_yes s 7 (by omega) w (by omega) h1, fun h2 => by omega⟩
    · exact ⟨_, _, small_no s 7 w (by omega) h1, fun _ => rfl⟩
  have htm : (∃ x p, Calls Tryd.prog 63 #[.string u, .int .i64 7] w (fun e w' => e = .returned (.tuple #[.int .i64 x, .bool p]) ∧ w = w') ∧ (256 ^ 7 ≤ B → p = false)) := by
    rcases Nat.lt_or_ge (num u.data.toList) (256 ^ 7) with h1 | h1
    · exact ⟨_, _, small_yes u 7 (by omega) w (by omega) h1, fun h2 => by omega⟩
    · exact ⟨_, _, small_no u 7 w (by omega) h1, fun _ => rfl⟩
  obtain ⟨x, p, hx, hxp⟩ := hsm
  obtain ⟨y, q, hy, hyq⟩ := htm
  have hpq : p = false ∨ q = false := by
    rcases h with h | h
    · exact .inl (hxp h)
    · exact .inr (hyq h)
  have hnz : ((u.size : Int) == 0) = false := by rw [beq_eq_false_iff_ne]; omega
  rw [← hA] at hl1 ⊢
  have HA := Lib.hid hA
  have HB := Lib.hid hnum
  have HX := Lib.hid hx
  have HY := Lib.hid hy
  have H0 := Lib.hid h0
  clear hA hB hnum h h0 hxp hyq hx hy
  go_enter Tryd.func53, Tryd.ntmps53
  go_wp2_with fail
  refine (canon_any t _ (by omega)).mono ?_
  rintro e w' ⟨rfl, rfl⟩
  rw [HC.out]
  go_wp2_with fail
  refine HX.out.mono ?_
  rintro e w1 ⟨rfl, rfl⟩
  go_wp2_with fail
  refine HY.out.mono ?_
  rintro e w1 ⟨rfl, rfl⟩
  rcases (show (p = false) ∨ (p = true ∧ q = false) by cases p <;> simp_all) with rfl | ⟨rfl, rfl⟩
  all_goals clear hpq
  all_goals
    go_wp2_with fail
    refine (rdig_any s _ (by omega)).mono ?_
    rintro e w1 ⟨v1, rfl, hr1, h1⟩
    have hg := h1
    go_wp2_with fail
    refine (rdig_any u _ (by omega)).mono ?_
    rintro e w2 ⟨v2, rfl, hr2, h2⟩
    have hr1 := hr1.kept h2
    have hg := gr_then hg h2
    clear h1 h2
    rw [← HA.out] at hr1
    rw [HB.out] at hr2
    obtain ⟨a1, m1, c1, rfl, hs1⟩ := hr1
    obtain ⟨a2, m2, c2, rfl, hs2⟩ := hr2
    rw [← hs1.len] at hl1
    rw [← hs2.len] at hl2
    have HL1 := Lib.hid hs1.len
    have HL2 := Lib.hid hs2.len
    have HS1 := Lib.hid hs1
    have HS2 := Lib.hid hs2
    clear hs1 hs2
    go_wp2_with (at_make; refine wpList_make_full _ rfl _ _ 26 rfl 0 3 i0 (.int .i64 0) 1 Tryd.underlying26 hi hz0 hz1 .i64 .i64 _ _ m1 rfl rfl ?_ ?_ ?_ ?_ (Nat.zero_le _) ?_)
    case refine_1 => omega
    case refine_2 => omega
    case refine_3 => rw [hz2]; omega
    case refine_4 => unfold maxLen; omega
    intro w3 hown hgr
    have hb0 := blk_made' hown
    have hge := hg.size
    have hl0 : (List.replicate m1 0 : List Nat).length = m1 := List.length_replicate
    have hi0 := QuoInv.start A B
    rw [← HL1.out] at hi0
    generalize (List.replicate m1 0 : List Nat) = z0 at hb0 hl0 hi0
    generalize hG : w2.heap.size = G at hb0 hge
    have HG := Lib.hid hG
    have HI0 := Lib.hid hi0
    have hgr0 := gr_then (r := some G) hgr (World.grownBy.refl w3 (some G))
    have hstart : Ls w3 none 0 0 (dgt (A / D24 ^ m1 % B)) := by
      have e1 : A / D24 ^ m1 = 0 := Nat.div_eq_of_lt (by rw [HL1.out]; exact dgt_lt A)
      rw [e1, Nat.zero_mod, dgt_zero]
      exact ⟨rfl, fun h => by omega⟩
    have HST := Lib.hid hstart
    clear hown hG hi0 hstart
    go_wp2
    go_loopw [14, 15] (fun rv kv wr => ∃ (k : Nat) (zs : List Nat) (ar : Option Addr) (mr cr : Nat), k ≤ m1 ∧ kv = .int .i64 ((k : Int) - 1) ∧ rv = .slice ar mr cr ∧ Ls wr ar mr cr (dgt (A / D24 ^ k % B)) ∧ (∀ g, ar = some ⟨g, 0, none⟩ → g ≠ G) ∧ Blk .i64 3 wr G zs ∧ zs.length = m1 ∧ w2.grownBy wr (some G) ∧ Hid (QuoInv A B k zs)) (fun _ kv _ => (intOf kv + 1).toNat)
    case atStart => exact ⟨m1, z0, none, 0, 0, Nat.le_refl _, rfl, rfl, HST.out, (fun g h => by cases h), hb0, hl0, hgr0, HI0⟩
    case round =>
      obtain ⟨k, zs, ar, mr, cr, hk, rfl, rfl, hlsr, hfr, hbz, hlz, hgr, HINV⟩ := hrel
      rcases k with _ | k
      · have hinv := HINV.out.last
        have hls : Ls wr (some ⟨G, 0, none⟩) m1 m1 zs := ⟨hlz.symm, fun _ => ⟨G, zs, rfl, hbz, hlz, Nat.le_refl _, by unfold maxLen; omega, by rw [← hlz, List.take_length]⟩⟩
        rw [Nat.pow_zero, Nat.div_one] at hlsr
        have hmr : mr ≤ 100000000000 := by
          have e1 := hlsr.len
          have e2 := dgt_inj_len (Nat.le_of_lt (Nat.mod_lt A H0.out))
          have e3 := HL2.out
          omega
        have HLS := Lib.hid hls
        have HLR := Lib.hid hlsr
        have HV := Lib.hid hinv
        have HGR := Lib.hid (gr_new hg hgr hge)
        clear hinv hls hlsr hbz hlz
        go_wp2_with fail
        refine (rnumber_any _ _ _ zs _ HLS.out HV.out.1 (by omega)).mono ?_
        rintro e w5 ⟨rfl, h5⟩
        rw [HV.out.2]
        go_wp2_with fail
        refine (rnumber_any _ _ _ _ _ (HLR.out.kept h5) (dg_dgt _) hmr).mono ?_
        rintro e w6 ⟨rfl, h6⟩
        rw [val_dgt]
        go_wp2
        go_ret3
        exact ⟨rfl, gr_then (gr_then HGR.out h5) h6⟩
      · rw [show (((k + 1 : Nat) : Int) - 1) = (k : Int) from by omega]
        have hkm : k < m1 := by omega
        obtain ⟨g1, rfl, hmc1, hmx1, hcell1⟩ := (HS1.out.keptG hgr (by rw [HG.out]; exact Nat.le_refl _)).at_ hkm
        rw [Nat.zero_add] at hcell1
        have hX := dg_dgt A k
        obtain ⟨q1, q2, q3⟩ := quo_digit (A := A) (k := k) H0.out
        have hRl : (dgt (A / D24 ^ (k + 1) % B)).length ≤ m2 := by
          have e2 := dgt_inj_len (Nat.le_of_lt (Nat.mod_lt (A / D24 ^ (k + 1)) H0.out))
          rw [HL2.out]; exact e2
        have hmr : mr ≤ m2 := by rw [hlsr.len]; exact hRl
        have hcd := HINV.out
        generalize gt (dgt A) k = X at hcell1 hX q1 q2 q3
        generalize A / D24 ^ (k + 1) % B = R at hlsr q1 q2 q3 hRl
        obtain ⟨V, hV⟩ : ∃ V, V = X + D24 * R := ⟨_, rfl⟩
        rw [← hV] at q1 q2 q3
        have HV := Lib.hid hV
        have HX := Lib.hid hX
        have Q1 := Lib.hid q1
        have Q2 := Lib.hid q2
        have Q3 := Lib.hid q3
        have HQI := Lib.hid hcd
        have HLSR := Lib.hid hlsr
        have hGlt := hbz.lt
        clear hV hX q1 q2 q3 hcd hlsr hRl
        go_wp2_with (at_builtin; refine wpList_prepend rfl (.tmp 61) (.tmp 62) 26 rfl i0 Tryd.underlying26 hi hz0 hz1 hz2 X ar mr cr _ HLSR.out rfl rfl ?_ ?_ ?_)
        case refine_1 => unfold maxLen; omega
        case refine_2 => omega
        intro v' w4 hacc
        obtain ⟨a3, m3, c3, rfl, hls3, hfr3⟩ := hacc.lsf
        have HG4 := Lib.hid hacc.gr
        have HLS3 := Lib.hid hls3
        have hm3 : m3 ≤ mr + 1 := by rw [hls3.len, List.length_cons, ← HLSR.out.len]; exact Nat.le_refl _
        clear hacc hls3
        go_wp2_with fail
        refine (rtrim_any a3 m3 c3 _ _ HLS3.out (dg_consD HX.out)).mono ?_
        rintro e w5 ⟨k3, rfl, hls4, hk3, rfl⟩
        rw [val_consD, ← HV.out] at hls4
        have HLS4 := Lib.hid hls4
        have hg4 := gr_trans (r := some G) hgr HG4.out (.inr rfl) (.inl rfl)
        have hbz4 := hbz.kept HG4.out (by simp)
        clear hls4
        go_wp2_with fail
        refine (rcmp_any a3 k3 c3 V a2 m2 c2 B _ HLS4.out (HS2.out.keptG hg4 (by rw [HG.out]; exact Nat.le_refl _)) (by omega) (by omega)).mono ?_
        rintro e w6 ⟨z, rfl, _, hz, h6⟩
        have hg6 := gr_trans (r := some G) hg4 h6 (.inr rfl) (.inl rfl)
        have hbz6 := hbz4.kept h6 (by simp)
        have HLS6 := Lib.hid (HLS4.out.kept h6)
        by_cases hz0' : 0 ≤ z
        · have hBV := hz.1 hz0'
          have HBV := Lib.hid hBV
          clear hz hBV
          go_wp2_with fail
          refine (rdigit_any a3 k3 c3 V a2 m2 c2 B _ HLS6.out (HS2.out.keptG hg6 (by rw [HG.out]; exact Nat.le_refl _)) H0.out Q3.out (by omega) (by omega)).mono ?_
          rintro e w7 ⟨rfl, h7⟩
          have hg7 := gr_trans (r := some G) hg6 h7 (.inr rfl) (.inl rfl)
          have hbz7 := hbz6.kept h7 (by simp)
          have HLS7 := Lib.hid (HLS6.out.kept h7)
          obtain ⟨dq, hdq⟩ : ∃ dq, dq = V / B := ⟨_, rfl⟩
          have hdq24 : dq < D24 := by rw [hdq]; exact Nat.div_lt_of_lt_mul Q3.out
          rw [← hdq]
          have HDQ := Lib.hid hdq
          have hold : w7.cell? ⟨G, k, none⟩ = some (.int .i64 ((gt zs k : Nat) : Int)) := hbz7.cell (by omega)
          have hfrz := hbz7.frozen k
          have hb8 := hbz7.set k dq
          have hg8 := gr_set w7 G k (.int .i64 (dq : Int))
          have hc8 : (w7.setCell ⟨G, k, none⟩ (.int .i64 (dq : Int))).cell? ⟨G, k, none⟩ = some (.int .i64 (dq : Int)) := by
            have := hb8.cell (i := k) (by simp; omega)
            rwa [gt_set (by omega), if_pos rfl] at this
          have hne3 : ∀ g, a3 = some ⟨g, 0, none⟩ → g ≠ G := fun g e => by have := hfr3 g e; omega
          have HLS8 := Lib.hid (HLS7.out.keptNe hg8 hne3)
          have hg9 := gr_trans (r := some G) hg7 hg8 (.inr rfl) (.inr (.inl rfl))
          have HLEN8 := Lib.hid (show (zs.set k dq).length = m1 by rw [List.length_set]; exact hlz)
          clear hdq
          go_wp2_with fail
          refine (rtimes_any a2 m2 c2 B dq _ (HS2.out.keptG hg9 (by rw [HG.out]; exact Nat.le_refl _)) hdq24 (by omega)).mono ?_
          rintro e w10 ⟨v10, rfl, hr10, h10⟩
          obtain ⟨a5, m5, c5, rfl, hs5⟩ := hr10
          have HLS10 := Lib.hid (HLS8.out.kept h10)
          have hg10 := gr_trans (r := some G) hg9 h10 (.inr rfl) (.inl rfl)
          have hb10 := hb8.kept h10 (by simp)
          have hBq : B * dq ≤ V := by rw [HDQ.out]; exact Nat.mul_div_le V B
          go_wp2_with fail
          refine (rminus_any a3 k3 c3 V a5 m5 c5 (B * dq) _ HLS10.out hs5 hBq (by omega)).mono ?_
          rintro e w11 ⟨a6, m6, c6, rfl, hs6, hfr6, h11⟩
          have hV6 : V - B * dq = A / D24 ^ k % B := by
            rw [Q2.out, HDQ.out]
            have := Nat.div_add_mod V B
            omega
          rw [hV6] at hs6
          have hg11 := gr_trans (r := some G) hg10 h11 (.inr rfl) (.inl rfl)
          have hb11 := hb10.kept h11 (by simp)
          have hQN := HQI.out.next (by rw [← HL1.out]; exact hkm)
          rw [Q1.out, ← HDQ.out] at hQN
          have HQN := Lib.hid hQN
          have hG10 := hb10.lt
          clear hQN hV6
          go_wp2
          exact ⟨⟨k, zs.set k dq, a6, m6, c6, by omega, rfl, rfl, hs6, (fun g e => by have := hfr6 g e; omega), hb11, HLEN8.out, hg11, HQN⟩, by simp [intOf]⟩
        · have hVB : V < B := by have := mt hz.2 hz0'; omega
          have hQN := HQI.out.skip (by rw [Q1.out]; exact Nat.div_eq_of_lt hVB)
          have HQN := Lib.hid hQN
          have hls7 := HLS6.out
          have hV6 : V = A / D24 ^ k % B := by rw [Q2.out, Nat.mod_eq_of_lt hVB]
          rw [hV6] at hls7
          clear hz hQN hVB hV6
          go_wp2
          exact ⟨⟨k, zs, a3, k3, c3, by omega, rfl, rfl, hls7, (fun g e => by have := hfr3 g e; omega), hbz6, hlz, hg6, HQN⟩, by simp [intOf]⟩
end Go.Proofs.YtmlmjhlakpgagaaDoor
namespace Go.Proofs.YtmlmjhlakpgagaaDoor
open Go.RowKit Mth

theorem s_rquo (s t : ByteArray) (m n : Nat) (w : World) (hm : num s.data.toList = m) (hn : num t.data.toList = n) (h0 : 0 < n) (h1 : s.size ≤ 1000000000) (h2 : t.size ≤ 1000000000) : Gives 53 #[.string s, .string t] w (.tuple #[.string (S (m / n)), .string (S (m % n)), .bool true]) := by
  subst hm hn
  by_cases h : num s.data.toList < 256 ^ 7 ∧ num t.data.toList < 256 ^ 7
  · exact rquo_small s t w (by omega) (by omega) h0 h.1 h.2
  · exact rquo_big s t w h1 h2 h0 (by omega)
theorem s_rquo0 (s t : ByteArray) (w : World) (hn : num t.data.toList = 0) (h2 : t.size ≤ 1000000000) : Gives 53 #[.string s, .string t] w (.tuple #[.string ⟨#[]⟩, .string ⟨#[]⟩, .bool false]) := rquo_none s t w (by omega) hn
theorem s_rmul (s t : ByteArray) (m n : Nat) (w : World) (hm : num s.data.toList = m) (hn : num t.data.toList = n) (h1 : s.size ≤ 10000000000) (h2 : t.size ≤ 10000000000) : Gives 48 #[.string s, .string t] w (.string (S (m * n))) := by
  subst hm hn; exact rmul_any s t w h1 h2

set_option maxRecDepth 100000 in
theorem radd_small (s t : ByteArray) (w : World) (hs : s.size ≤ 1000000000000) (ht : t.size ≤ 1000000000000) (h1 : num s.data.toList < 256 ^ 7) (h2 : num t.data.toList < 256 ^ 7) :
    Calls Tryd.prog 51 #[.string s, .string t] w fun e w' => e = .returned (.string ⟨(enc (num s.data.toList + num t.data.toList)).toArray⟩) ∧ w.grownBy w' none := by
  have H1 := Lib.hid h1
  have H2 := Lib.hid h2
  generalize hm : num s.data.toList = m at h1 H1
  generalize hn : num t.data.toList = n at h2 H2
  have HM := Lib.hid hm
  have HN := Lib.hid hn
  obtain ⟨p, hp⟩ : ∃ p, p = m + n := ⟨_, rfl⟩
  have hc : (m : Int) + (n : Int) = (p : Int) := by omega
  have hpb : p ≤ 9223372036854775807 := by omega
  have hmb : m ≤ 72057594037927935 := by omega
  have hnb : n ≤ 72057594037927935 := by omega
  rw [← hp]
  clear h1 h2 hm hn hp
  go_enter Tryd.func51, Tryd.ntmps51
  go_wp2_with fail
  refine (small_yes s 7 (by omega) _ hs (by rw [HM.out]; exact H1.out)).mono ?_
  rintro e w1 ⟨rfl, rfl⟩
  rw [HM.out]
  go_wp2_with fail
  refine (small_yes t 7 (by omega) _ ht (by rw [HN.out]; exact H2.out)).mono ?_
  rintro e w1 ⟨rfl, rfl⟩
  rw [HN.out]
  go_wp2_with fail
  refine (rof_any p _ hpb).mono ?_
  rintro e w1 ⟨rfl, h3⟩
  go_wp2
  go_ret
  exact ⟨rfl, h3⟩

set_option maxHeartbeats 8000000 in
set_option maxRecDepth 100000 in
theorem radd_big (s t : ByteArray) (w : World) (hs : s.size ≤ 1000000000) (ht : t.size ≤ 1000000000) (h : 256 ^ 7 ≤ num s.data.toList ∨ 256 ^ 7 ≤ num t.data.toList) :
    Calls Tryd.prog 51 #[.string s, .string t] w fun e w' => e = .returned (.string ⟨(enc (num s.data.toList + num t.data.toList)).toArray⟩) ∧ w.grownBy w' none := by
  obtain ⟨i0, hi, hz0, hz1, hz2⟩ := info_parts infoI
  have hl1 := dgt_bytes hs
  have hl2 := dgt_bytes ht
  obtain ⟨M, hM⟩ : ∃ M, M = num s.data.toList := ⟨_, rfl⟩
  obtain ⟨N, hN⟩ : ∃ N, N = num t.data.toList := ⟨_, rfl⟩
  have hsm : (∃ x p, Calls Tryd.prog 63 #[.string s, .int .i64 7] w (fun e w' => e = .returned (.tuple #[.int .i64 x, .bool p]) ∧ w = w') ∧ (256 ^ 7 ≤ num s.data.toList → p = false)) := by
    rcases Nat.lt_or_ge (num s.data.toList) (256 ^ 7) with h1 | h1
    · exact ⟨_, _, small_yes s 7 (by omega) w (by omega) h1, fun h2 => by omega⟩
    · exact ⟨_, _, small_no s 7 w (by omega) h1, fun _ => rfl⟩
  have htm : (∃ x p, Calls Tryd.prog 63 #[.string t, .int .i64 7] w (fun e w' => e = .returned (.tuple #[.int .i64 x, .bool p]) ∧ w = w') ∧ (256 ^ 7 ≤ num t.data.toList → p = false)) := by
    rcases Nat.lt_or_ge (num t.data.toList) (256 ^ 7) with h1 | h1
    · exact ⟨_, _, small_yes t 7 (by omega) w (by omega) h1, fun h2 => by omega⟩
    · exact ⟨_, _, small_no t 7 w (by omega) h1, fun _ => rfl⟩
  obtain ⟨x, p, hx, hxp⟩ := hsm
  obtain ⟨y, q, hy, hyq⟩ := htm
  have hpq : p = false ∨ q = false := by
    rcases h with h | h
    · exact .inl (hxp h)
    · exact .inr (hyq h)
  rw [← hM] at hl1 ⊢
  rw [← hN] at hl2 ⊢
  have HM := Lib.hid hM
  have HN := Lib.hid hN
  have HX := Lib.hid hx
  have HY := Lib.hid hy
  clear hM hN h hxp hyq hx hy
  go_enter Tryd.func51, Tryd.ntmps51
  go_wp2_with fail
  refine HX.out.mono ?_
  rintro e w1 ⟨rfl, rfl⟩
  go_wp2_with fail
  refine HY.out.mono ?_
  rintro e w1 ⟨rfl, rfl⟩
  rcases (show (p = false) ∨ (p = true ∧ q = false) by cases p <;> simp_all) with rfl | ⟨rfl, rfl⟩
  all_goals clear hpq
  all_goals
    go_wp2_with fail
    refine (rdig_any s _ (by omega)).mono ?_
    rintro e w1 ⟨v1, rfl, hr1, h1⟩
    have hg := h1
    go_wp2_with fail
    refine (rdig_any t _ (by omega)).mono ?_
    rintro e w2 ⟨v2, rfl, hr2, h2⟩
    have hr1 := hr1.kept h2
    have hg := gr_then hg h2
    clear h1 h2
    rw [← HM.out] at hr1
    rw [← HN.out] at hr2
    obtain ⟨a1, m1, c1, rfl, hs1⟩ := hr1
    obtain ⟨a2, m2, c2, rfl, hs2⟩ := hr2
    rw [← hs1.len] at hl1
    rw [← hs2.len] at hl2
    have HL1 := Lib.hid hs1.len
    have HL2 := Lib.hid hs2.len
    have H1 := Lib.hid hs1
    have H2 := Lib.hid hs2
    have hd1 := dg_dgt M
    have hd2 := dg_dgt N
    have HT0 := Lib.hid (Mth.AddInv.zero (dgt M) (dgt N))
    have HG := Lib.hid hg
    obtain ⟨mx, hx1, hx2, hx3, hx4⟩ : ∃ mx, m1 ≤ mx ∧ m2 ≤ mx ∧ mx ≤ 1000000000 ∧ (mx ≤ m1 ∨ mx ≤ m2) := ⟨max m1 m2, by omega, by omega, by omega, by omega⟩
    have HX4 := Lib.hid hx4
    clear hs1 hs2 hx4
    go_wp2
    go_loopw [11, 12, 13] (fun o cv kv wr => ∃ (k cc : Nat) (l : List Nat), (k ≤ mx ∨ (k = mx + 1 ∧ cc = 0)) ∧ kv = .int .i64 k ∧ cv = .int .i64 cc ∧ Acc .i64 3 w2 wr o l ∧ Hid (Mth.AddInv (dgt M) (dgt N) k l cc)) (fun _ _ kv _ => mx + 1 - (intOf kv).toNat)
    case atStart => exact ⟨0, 0, [], .inl (Nat.zero_le _), rfl, rfl, .nil _ _ _, HT0⟩
    case round =>
      obtain ⟨k, cc, l, hkm, rfl, rfl, hacc, HT⟩ := hrel
      have hcc := HT.out.2.2.1
      have hll : l.length = k := HT.out.1
      have HLL := Lib.hid hll
      clear hll
      by_cases hu : k < m1
      · by_cases hv : k < m2
        · skip
          have hnx := HT.out.next hd1 hd2
          obtain ⟨g1, rfl, hmc1, hmx1, hcell1⟩ := (H1.out.kept hacc.gr).at_ hu
          rw [Nat.zero_add] at hcell1
          have hx := hd1 k
          generalize gt (dgt M) k = X at hcell1 hx hnx
          rw [D24_eq] at hx
          obtain ⟨g2, rfl, hmc2, hmx2, hcell2⟩ := (H2.out.kept hacc.gr).at_ hv
          rw [Nat.zero_add] at hcell2
          have hy := hd2 k
          generalize gt (dgt N) k = Y at hcell2 hy hnx
          rw [D24_eq] at hy
          obtain ⟨lo, hlo⟩ : ∃ lo, lo = (cc + X + Y) % D24 := ⟨_, rfl⟩
          obtain ⟨hi', hhi⟩ : ∃ hi', hi' = (cc + X + Y) / D24 := ⟨_, rfl⟩
          rw [← hlo, ← hhi] at hnx
          have HR := Lib.hid (show (((cc : Int) + (X : Int) + (Y : Int)) % 16777216) = (lo : Int) by rw [hlo, D24_eq]; omega)
          have HQ := Lib.hid (show (((cc : Int) + (X : Int) + (Y : Int)) / 16777216) = (hi' : Int) by rw [hhi, D24_eq]; omega)
          have HK := Lib.hid (show k + 1 ≤ mx ∨ (k + 1 = mx + 1 ∧ hi' = 0) by omega)
          have hkb : k ≤ mx := by omega
          have HNX := Lib.hid hnx
          clear hnx hlo hhi hkm
          go_wp2_with (at_builtin; rw [HR.out]; refine wpList_acc rfl (.tmp 74) (.tmp 77) 26 rfl .i64 3 i0 8 Tryd.underlying26 hi hz0 hz1 hz2 _ l [lo] hacc rfl rfl (by simp) ?_ ?_ ?_)
          case refine_1 => rw [HLL.out]; show k + 1 ≤ maxLen; unfold maxLen; omega
          case refine_2 => rw [HLL.out]; show (k + 1) * 8 ≤ _; omega
          intro v' w' hacc'
          clear hacc hi hz0 hz1 hz2
          go_wp2
          exact ⟨⟨k + 1, hi', l ++ [lo], HK.out, by go_num, by rw [HQ.out], hacc', HNX⟩, by simp [intOf]; omega⟩
        · skip
          have hnx := HT.out.next hd1 hd2
          obtain ⟨g1, rfl, hmc1, hmx1, hcell1⟩ := (H1.out.kept hacc.gr).at_ hu
          rw [Nat.zero_add] at hcell1
          have hx := hd1 k
          generalize gt (dgt M) k = X at hcell1 hx hnx
          rw [D24_eq] at hx
          have hy0 : gt (dgt N) k = 0 := gt_of_ge (by have := HL2.out; omega)
          rw [hy0] at hnx
          simp only [Nat.add_zero] at hnx
          clear hy0
          obtain ⟨lo, hlo⟩ : ∃ lo, lo = (cc + X) % D24 := ⟨_, rfl⟩
          obtain ⟨hi', hhi⟩ : ∃ hi', hi' = (cc + X) / D24 := ⟨_, rfl⟩
          rw [← hlo, ← hhi] at hnx
          have HR := Lib.hid (show (((cc : Int) + (X : Int)) % 16777216) = (lo : Int) by rw [hlo, D24_eq]; omega)
          have HQ := Lib.hid (show (((cc : Int) + (X : Int)) / 16777216) = (hi' : Int) by rw [hhi, D24_eq]; omega)
          have HK := Lib.hid (show k + 1 ≤ mx ∨ (k + 1 = mx + 1 ∧ hi' = 0) by omega)
          have hkb : k ≤ mx := by omega
          have HNX := Lib.hid hnx
          clear hnx hlo hhi hkm
          go_wp2_with (at_builtin; rw [HR.out]; refine wpList_acc rfl (.tmp 74) (.tmp 77) 26 rfl .i64 3 i0 8 Tryd.underlying26 hi hz0 hz1 hz2 _ l [lo] hacc rfl rfl (by simp) ?_ ?_ ?_)
          case refine_1 => rw [HLL.out]; show k + 1 ≤ maxLen; unfold maxLen; omega
          case refine_2 => rw [HLL.out]; show (k + 1) * 8 ≤ _; omega
          intro v' w' hacc'
          clear hacc hi hz0 hz1 hz2
          go_wp2
          exact ⟨⟨k + 1, hi', l ++ [lo], HK.out, by go_num, by rw [HQ.out], hacc', HNX⟩, by simp [intOf]; omega⟩
      · by_cases hv : k < m2
        · skip
          have hnx := HT.out.next hd1 hd2
          have hx0 : gt (dgt M) k = 0 := gt_of_ge (by have := HL1.out; omega)
          rw [hx0] at hnx
          simp only [Nat.add_zero] at hnx
          clear hx0
          obtain ⟨g2, rfl, hmc2, hmx2, hcell2⟩ := (H2.out.kept hacc.gr).at_ hv
          rw [Nat.zero_add] at hcell2
          have hy := hd2 k
          generalize gt (dgt N) k = Y at hcell2 hy hnx
          rw [D24_eq] at hy
          obtain ⟨lo, hlo⟩ : ∃ lo, lo = (cc + Y) % D24 := ⟨_, rfl⟩
          obtain ⟨hi', hhi⟩ : ∃ hi', hi' = (cc + Y) / D24 := ⟨_, rfl⟩
          rw [← hlo, ← hhi] at hnx
          have HR := Lib.hid (show (((cc : Int) + (Y : Int)) % 16777216) = (lo : Int) by rw [hlo, D24_eq]; omega)
          have HQ := Lib.hid (show (((cc : Int) + (Y : Int)) / 16777216) = (hi' : Int) by rw [hhi, D24_eq]; omega)
          have HK := Lib.hid (show k + 1 ≤ mx ∨ (k + 1 = mx + 1 ∧ hi' = 0) by omega)
          have hkb : k ≤ mx := by omega
          have HNX := Lib.hid hnx
          clear hnx hlo hhi hkm
          go_wp2_with (at_builtin; rw [HR.out]; refine wpList_acc rfl (.tmp 74) (.tmp 77) 26 rfl .i64 3 i0 8 Tryd.underlying26 hi hz0 hz1 hz2 _ l [lo] hacc rfl rfl (by simp) ?_ ?_ ?_)
          case refine_1 => rw [HLL.out]; show k + 1 ≤ maxLen; unfold maxLen; omega
          case refine_2 => rw [HLL.out]; show (k + 1) * 8 ≤ _; omega
          intro v' w' hacc'
          clear hacc hi hz0 hz1 hz2
          go_wp2
          exact ⟨⟨k + 1, hi', l ++ [lo], HK.out, by go_num, by rw [HQ.out], hacc', HNX⟩, by simp [intOf]; omega⟩
        · by_cases hc0 : 0 < cc
          · skip
            have hnx := HT.out.next hd1 hd2
            have hx0 : gt (dgt M) k = 0 := gt_of_ge (by have := HL1.out; omega)
            rw [hx0] at hnx
            simp only [Nat.add_zero] at hnx
            clear hx0
            have hy0 : gt (dgt N) k = 0 := gt_of_ge (by have := HL2.out; omega)
            rw [hy0] at hnx
            simp only [Nat.add_zero] at hnx
            clear hy0
            obtain ⟨lo, hlo⟩ : ∃ lo, lo = (cc) % D24 := ⟨_, rfl⟩
            obtain ⟨hi', hhi⟩ : ∃ hi', hi' = (cc) / D24 := ⟨_, rfl⟩
            rw [← hlo, ← hhi] at hnx
            have HR := Lib.hid (show (((cc : Int)) % 16777216) = (lo : Int) by rw [hlo, D24_eq]; omega)
            have HQ := Lib.hid (show (((cc : Int)) / 16777216) = (hi' : Int) by rw [hhi, D24_eq]; omega)
            have HK := Lib.hid (show k + 1 ≤ mx ∨ (k + 1 = mx + 1 ∧ hi' = 0) by right; refine ⟨by have := HX4.out; omega, ?_⟩; rw [hhi, D24_eq]; omega)
            have hkb : k ≤ mx := by omega
            have HNX := Lib.hid hnx
            clear hnx hlo hhi hkm
            go_wp2_with (at_builtin; rw [HR.out]; refine wpList_acc rfl (.tmp 74) (.tmp 77) 26 rfl .i64 3 i0 8 Tryd.underlying26 hi hz0 hz1 hz2 _ l [lo] hacc rfl rfl (by simp) ?_ ?_ ?_)
            case refine_1 => rw [HLL.out]; show k + 1 ≤ maxLen; unfold maxLen; omega
            case refine_2 => rw [HLL.out]; show (k + 1) * 8 ≤ _; omega
            intro v' w' hacc'
            clear hacc hi hz0 hz1 hz2
            go_wp2
            exact ⟨⟨k + 1, hi', l ++ [lo], HK.out, by go_num, by rw [HQ.out], hacc', HNX⟩, by simp [intOf]; omega⟩
          · obtain rfl : cc = 0 := by omega
            have hlast := HT.out.last (by rw [← HL1.out]; omega) (by rw [← HL2.out]; omega)
            obtain ⟨a', m', c', rfl, hls⟩ := hacc.ls
            have HG' := Lib.hid (gr_then HG.out hacc.gr)
            have hm' : m' ≤ 100000000000 := by rw [hls.len, HLL.out]; omega
            have HLS := Lib.hid hls
            have HLAST := Lib.hid hlast
            clear hls hacc hlast hi hz0 hz1 hz2
            go_wp2_with fail
            refine (rnumber_any _ _ _ _ _ HLS.out HLAST.out.1 hm').mono ?_
            rintro e w5 ⟨rfl, h5⟩
            rw [HLAST.out.2]
            go_wp2
            go_ret
            exact ⟨rfl, gr_then HG'.out h5⟩

theorem s_radd (s t : ByteArray) (m n : Nat) (w : World) (hm : num s.data.toList = m) (hn : num t.data.toList = n) (h1 : s.size ≤ 1000000000) (h2 : t.size ≤ 1000000000) : Gives 51 #[.string s, .string t] w (.string (S (m + n))) := by
  subst hm hn
  by_cases h : num s.data.toList < 256 ^ 7 ∧ num t.data.toList < 256 ^ 7
  · exact radd_small s t w (by omega) (by omega) h.1 h.2
  · exact radd_big s t w h1 h2 (by omega)

set_option maxHeartbeats 2000000 in
set_option maxRecDepth 100000 in
theorem s_rcmp (s t : ByteArray) (m n : Nat) (w : World) (hm : num s.data.toList = m) (hn : num t.data.toList = n) (h1 : s.size ≤ 1000000000) (h2 : t.size ≤ 1000000000) : Gives 60 #[.string s, .string t] w (.int .i64 (cmpN m n)) := by
  subst hm hn
  have hn1 : num (bytesOf s).data.toList = num s.data.toList := num_canon _
  have hn2 : num (bytesOf t).data.toList = num t.data.toList := num_canon _
  have hr1 : Rt (bytesOf s).data.toList := rt_canon _
  have hr2 : Rt (bytesOf t).data.toList := rt_canon _
  rw [← hn1, ← hn2]
  generalize h1' : (bytesOf s) = a at hn1 hr1
  generalize h2' : (bytesOf t) = b at hn2 hr2
  have H1 := Lib.hid h1'
  have H2 := Lib.hid h2'
  have hl : (a.size < b.size ∧ cmpN (num a.data.toList) (num b.data.toList) = -1) ∨ (b.size < a.size ∧ cmpN (num a.data.toList) (num b.data.toList) = 1) ∨ (a.size = b.size ∧ num a.data.toList < num b.data.toList) ∨ (a.size = b.size ∧ num a.data.toList = num b.data.toList) ∨ (a.size = b.size ∧ num b.data.toList < num a.data.toList) := by
    rcases Nat.lt_trichotomy a.size b.size with h | h | h
    · have h3 := num_lt_of_len hr2 h
      exact .inl ⟨h, by unfold cmpN; rw [if_pos h3]⟩
    · rcases Nat.lt_trichotomy (num a.data.toList) (num b.data.toList) with h3 | h3 | h3
      · exact .inr (.inr (.inl ⟨h, h3⟩))
      · exact .inr (.inr (.inr (.inl ⟨h, h3⟩)))
      · exact .inr (.inr (.inr (.inr ⟨h, h3⟩)))
    · have h3 := num_lt_of_len hr1 h
      exact .inr (.inl ⟨h, by unfold cmpN; rw [if_neg (by omega), if_pos h3]⟩)
  clear h1' h2' hn1 hn2 hr1 hr2
  go_enter Tryd.func60, Tryd.ntmps60
  go_wp2_with fail
  refine (canon_any s _ (by omega)).mono ?_
  rintro e w' ⟨rfl, rfl⟩
  rw [show (⟨(canon s.data.toList).toArray⟩ : ByteArray) = a from H1.out]
  go_wp2_with fail
  refine (canon_any t _ (by omega)).mono ?_
  rintro e w' ⟨rfl, rfl⟩
  rw [show (⟨(canon t.data.toList).toArray⟩ : ByteArray) = b from H2.out]
  rcases hl with ⟨hl, hc⟩ | ⟨hl, hc⟩ | ⟨hl, hc⟩ | ⟨hl, hc⟩ | ⟨hl, hc⟩
  · have hb : ((a.size : Int) != (b.size : Int)) = true := by rw [bne_iff_ne]; omega
    have HC := Lib.hid hc
    clear hc
    go_wp2
    go_ret
    exact ⟨by rw [HC.out]; rfl, World.grownBy.refl _ _⟩
  · have hb : ((a.size : Int) != (b.size : Int)) = true := by rw [bne_iff_ne]; omega
    have HC := Lib.hid hc
    clear hc
    go_wp2
    go_ret
    exact ⟨by rw [HC.out]; rfl, World.grownBy.refl _ _⟩
  · have hb : ((a.size : Int) != (b.size : Int)) = false := by rw [bne_eq_false_iff_eq, hl]
    have hlt : Op.bytesLess a.toList b.toList = true := by rw [Lib.toList_data, Lib.toList_data, bytesLess_num _ _ (by rw [len_toList, len_toList, hl])]; exact decide_eq_true hc
    have HC := Lib.hid (show cmpN (num a.data.toList) (num b.data.toList) = -1 by unfold cmpN; rw [if_pos hc])
    clear hc hl
    go_wp2
    go_ret
    exact ⟨by rw [HC.out]; rfl, World.grownBy.refl _ _⟩
  · have hb : ((a.size : Int) != (b.size : Int)) = false := by rw [bne_eq_false_iff_eq, hl]
    have hlt : Op.bytesLess a.toList b.toList = false := by rw [Lib.toList_data, Lib.toList_data, bytesLess_num _ _ (by rw [len_toList, len_toList, hl])]; exact decide_eq_false (by omega)
    have hgt : (a.toList == b.toList) = true := by rw [Lib.toList_data, Lib.toList_data, num_inj_len (by rw [len_toList, len_toList, hl]) hc]; simp
    have HC := Lib.hid (show cmpN (num a.data.toList) (num b.data.toList) = 0 by unfold cmpN; rw [if_neg (by omega), if_neg (by omega)])
    clear hc hl
    go_wp2
    go_ret
    exact ⟨by rw [HC.out]; rfl, World.grownBy.refl _ _⟩
  · have hb : ((a.size : Int) != (b.size : Int)) = false := by rw [bne_eq_false_iff_eq, hl]
    have hlt : Op.bytesLess a.toList b.toList = false := by rw [Lib.toList_data, Lib.toList_data, bytesLess_num _ _ (by rw [len_toList, len_toList, hl])]; exact decide_eq_false (by omega)
    have hgt : (a.toList == b.toList) = false := by
      rw [beq_eq_false_iff_ne, Lib.toList_data, Lib.toList_data]
      intro e
      rw [e] at hc
      omega
    have HC := Lib.hid (show cmpN (num a.data.toList) (num b.data.toList) = 1 by unfold cmpN; rw [if_neg (by omega), if_pos hc])
    clear hc hl
    go_wp2
    go_ret
    exact ⟨by rw [HC.out]; rfl, World.grownBy.refl _ _⟩

set_option maxHeartbeats 2000000 in
set_option maxRecDepth 100000 in
theorem s_rsub (s t : ByteArray) (m n : Nat) (w : World) (hm : num s.data.toList = m) (hn : num t.data.toList = n) (h1 : s.size ≤ 1000000000) (h2 : t.size ≤ 1000000000) (hle : n ≤ m) : Gives 61 #[.string s, .string t] w (.tuple #[.string (S (m - n)), .bool true]) := by
  have hl1 := dgt_bytes h1
  rw [hm] at hl1
  have HM := Lib.hid hm
  have HN := Lib.hid hn
  have HLE := Lib.hid hle
  have hz : ¬ cmpN m n < 0 := by unfold cmpN; rw [if_neg (by omega)]; split <;> decide
  generalize hzz : cmpN m n = z at hz
  have HZ := Lib.hid hzz
  clear hm hn hle hzz
  go_enter Tryd.func61, Tryd.ntmps61
  go_wp2_with fail
  refine (s_rcmp s t m n _ HM.out HN.out h1 h2).mono ?_
  rintro e w1 ⟨rfl, hg⟩
  rw [HZ.out]
  go_wp2_with fail
  refine (rdig_any s _ (by omega)).mono ?_
  rintro e w2 ⟨v2, rfl, hr2, h2'⟩
  have hg := gr_then hg h2'
  go_wp2_with fail
  refine (rdig_any t _ (by omega)).mono ?_
  rintro e w3 ⟨v3, rfl, hr3, h3'⟩
  have hr2 := hr2.kept h3'
  have hg := gr_then hg h3'
  clear h2' h3'
  rw [HM.out] at hr2
  rw [HN.out] at hr3
  obtain ⟨a1, m1, c1, rfl, hs1⟩ := hr2
  obtain ⟨a2, m2, c2, rfl, hs2⟩ := hr3
  have H1 := Lib.hid hs1
  have H2 := Lib.hid hs2
  have hmb : m1 ≤ 1000000000 := by rw [hs1.len]; exact hl1
  clear hs1 hs2
  go_wp2_with fail
  refine (rminus_any a1 m1 c1 m a2 m2 c2 n _ H1.out H2.out HLE.out (by omega)).mono ?_
  rintro e w4 ⟨a3, m3, c3, rfl, hs3, _, h4'⟩
  have hg := gr_then hg h4'
  have hmb3 : m3 ≤ 100000000000 := by
    have e1 := dgt_inj_len (Nat.sub_le m n)
    rw [hs3.len]; omega
  have H3 := Lib.hid hs3
  clear hs3 h4'
  go_wp2_with fail
  refine (rnumber_any _ _ _ _ _ H3.out (dg_dgt _) hmb3).mono ?_
  rintro e w5 ⟨rfl, h5⟩
  rw [val_dgt]
  go_wp2
  go_ret2
  exact ⟨rfl, gr_then hg h5⟩
set_option maxRecDepth 100000 in
theorem s_rsub0 (s t : ByteArray) (m n : Nat) (w : World) (hm : num s.data.toList = m) (hn : num t.data.toList = n) (h1 : s.size ≤ 1000000000) (h2 : t.size ≤ 1000000000) (hlt : m < n) : Gives 61 #[.string s, .string t] w (.tuple #[.string ⟨#[]⟩, .bool false]) := by
  have HC := Lib.hid (show cmpN m n = -1 by unfold cmpN; rw [if_pos hlt])
  have HM := Lib.hid hm
  have HN := Lib.hid hn
  clear hm hn hlt
  go_enter Tryd.func61, Tryd.ntmps61
  go_wp2_with fail
  refine (s_rcmp s t m n _ HM.out HN.out h1 h2).mono ?_
  rintro e w1 ⟨rfl, hg⟩
  rw [HC.out]
  go_wp2
  go_ret2
  exact ⟨rfl, hg⟩
end Go.Proofs.YtmlmjhlakpgagaaDoor
namespace Go.Proofs.YtmlmjhlakpgagaaDoor
open Go.RowKit Mth Go.Lib

def numOf : Value → Nat
  | .string s => num s.data.toList
  | _ => 0

theorem numOf_s (n : Nat) : numOf (.string (S n)) = n := s_num n

theorem s_len_pos {n : Nat} (h : 0 < n) : 0 < (S n).size := enc_size_pos h

theorem s_len_zero : (S 0).size = 0 := by rw [s_zero]; rfl

theorem s_size9 {n : Nat} (h : n < 256 ^ 200) : (S n).size ≤ 1000000000 := by
  have := enc_len 200 n h
  have e : (S n).size = (enc n).length := by unfold S; show (enc n).toArray.size = _; simp
  omega
theorem dec_big {n : Nat} (h : 10 ≤ n) : decDigits n = decDigits (n / 10) ++ [UInt8.ofNat (48 + n % 10)] := by rw [decDigits, dif_neg (by omega)]
/-- One byte that the call has laid. -/
theorem acc_one (w : World) (c : Nat) : Acc .u8 5 w (w.alloc (.cells #[.int .u8 (c : Int)] 5)) (.slice (some ⟨w.heap.size, 0, none⟩) 1 1) [c] := by
  have hb : Blk .u8 5 (w.alloc (.cells #[.int .u8 (c : Int)] 5)) w.heap.size [c] := heap_alloc_new w _
  exact ⟨⟨[c], .inr ⟨w.heap.size, rfl, hb, Nat.le_refl _, by unfold maxLen; simp⟩, rfl⟩, .inr ⟨_, rfl, Nat.le_refl _⟩, gr_alloc w _ none⟩

set_option maxHeartbeats 600000 in
set_option maxRecDepth 100000 in
theorem s_rtext (s : ByteArray) (n : Nat) (w : World) (hn : num s.data.toList = n) (hs : s.size ≤ 1000000000) (hn2 : n < 256 ^ 200) (hL : (decDigits n).length ≤ 1000) : Gives 55 #[.string s] w (.string ⟨(decDigits n).toArray⟩) := by
  have HN := Lib.hid hn
  have HN2 := Lib.hid hn2
  have HL := Lib.hid hL
  clear hn hn2 hL
  rcases Nat.eq_zero_or_pos n with h0 | h0
  · subst h0
    have hz := s_len_zero
    go_enter Tryd.func55, Tryd.ntmps55
    go_wp2_with fail
    refine (s_canon s 0 _ HN.out (by omega)).mono ?_
    rintro e w1 ⟨rfl, hg⟩
    go_wp2
    go_ret
    exact ⟨by rw [decDigits_one (by omega)]; rfl, hg⟩
  · have hp := s_len_pos h0
    have hz : (((S n).size : Int) == 0) = false := by rw [beq_eq_false_iff_ne]; omega
    go_enter Tryd.func55, Tryd.ntmps55
    go_wp2_with fail
    refine (s_canon s n _ HN.out (by omega)).mono ?_
    rintro e w1 ⟨rfl, hg⟩
    have H0 := Lib.hid h0
    have hst : (0 < n → decDigits n ++ (⟨#[]⟩ : ByteArray).data.toList = decDigits n) ∧ (n = 0 → (⟨#[]⟩ : ByteArray).data.toList = decDigits n) := ⟨fun _ => by simp, fun h => by omega⟩
    have HST := Lib.hid hst
    clear h0 hst
    go_wp2
    go_loopw [0, 3] (fun u v wr => ∃ (x : Nat) (str : ByteArray), u = .string (S x) ∧ v = .string str ∧ w.grownBy wr none ∧ Hid (x ≤ n ∧ (0 < x → decDigits x ++ str.data.toList = decDigits n) ∧ (x = 0 → str.data.toList = decDigits n))) (fun u _ _ => numOf u)
    case atStart => exact ⟨n, ⟨#[]⟩, rfl, rfl, hg, Lib.hid ⟨Nat.le_refl _, HST.out⟩⟩
    case round =>
      obtain ⟨x, str, rfl, rfl, hg, HI⟩ := hrel
      rcases Nat.eq_zero_or_pos x with h0 | h0
      · subst h0
        have hz0 := s_len_zero
        have hfin : str = ⟨(decDigits n).toArray⟩ := by
          have := HI.out.2.2 rfl
          cases str with | mk d => rw [← this]
        have HF := Lib.hid hfin
        clear hfin
        go_wp2
        go_ret
        exact ⟨by rw [← HF.out]; rfl, hg⟩
      · have hp := s_len_pos h0
        have hx := Nat.lt_of_le_of_lt HI.out.1 HN2.out
        have HX := Lib.hid hx
        have HX0 := Lib.hid h0
        obtain ⟨d, hd⟩ : ∃ d, d = x % 10 := ⟨_, rfl⟩
        have hd9 : d ≤ 9 := by omega
        obtain ⟨c, hc⟩ : ∃ c, c = 48 + d := ⟨_, rfl⟩
        have hci : (48 : Int) + (d : Int) = (c : Int) := by omega
        have hc57 : c ≤ 57 := by omega
        have hint : ∀ w, Gives 58 #[.string (S (x % 10))] w (.tuple #[.int .i64 (d : Int), .bool true]) := fun w => by
          have hr := rint_yes (S (x % 10)) w (by have := s_size9 (n := x % 10) (Nat.lt_of_le_of_lt (Nat.mod_le _ _) hx); omega) (by rw [s_num]; omega)
          rw [s_num] at hr
          rw [hd]
          refine hr.mono ?_
          rintro e w' ⟨rfl, rfl⟩
          exact ⟨rfl, World.grownBy.refl _ _⟩
        have HINT := Lib.hid hint
        have hu : u8s [c] = [UInt8.ofNat (48 + x % 10)] := by rw [hc, hd]; rfl
        have hnx : x / 10 ≤ n ∧ (0 < x / 10 → decDigits (x / 10) ++ (u8s [c] ++ str.data.toList) = decDigits n) ∧ (x / 10 = 0 → u8s [c] ++ str.data.toList = decDigits n) := by
          have hi := HI.out
          refine ⟨by have := hi.1; omega, fun h => ?_, fun h => ?_⟩
          · rw [← hi.2.1 h0, dec_big (n := x) (by omega), hu, List.append_assoc]
          · rw [← hi.2.1 h0, hu, decDigits_one (by omega), show x % 10 = x from by omega]
        have HNX := Lib.hid hnx
        have hstr : str.size ≤ 1000 := by
          have e1 := HI.out.2.1 h0
          have e2 := congrArg List.length e1
          rw [List.length_append, len_toList] at e2
          have := HL.out
          omega
        have hlen1 : (u8s [c]).length = 1 := rfl
        clear hx h0 hint hu hnx hd hc
        go_wp2_with fail
        refine (rof_any 10 _ (by omega)).mono ?_
        rintro e w2 ⟨rfl, h2⟩
        have hg := gr_then hg h2
        rw [show (⟨(enc 10).toArray⟩ : ByteArray) = S 10 from rfl]
        go_wp2_with fail
        refine (s_rquo (S x) (S 10) x 10 _ (s_num _) (s_num _) (by decide) (s_size9 HX.out) (s_size9 (by decide))).mono ?_
        rintro e w3 ⟨rfl, h3⟩
        have hg := gr_then hg h3
        go_wp2_with fail
        refine (HINT.out _).mono ?_
        rintro e w4 ⟨rfl, h4⟩
        have hg := gr_then hg h4
        clear h2 h3 h4
        have hcv := (acc_one w4 c).str (P := Tryd.prog) 90 9 Tryd.underlying90 Tryd.underlying5 Tryd.underlying9
        have hga := gr_then hg (gr_alloc w4 (.cells #[.int .u8 (c : Int)] 5) none)
        go_wp2
        refine ⟨⟨x / 10, ⟨(u8s [c]).toArray⟩ ++ str, rfl, rfl, hga, Lib.hid ?_⟩, ?_⟩
        · rw [ByteArray.data_append, Array.toList_append]; exact HNX.out
        · show numOf (.string (S (x / 10))) < numOf (.string (S x))
          rw [numOf_s, numOf_s]
          have := HX0.out
          omega

end Go.Proofs.YtmlmjhlakpgagaaDoor
namespace Go.Proofs.YtmlmjhlakpgagaaDoor
open Go.RowKit Mth Dm

theorem qright_any (n s : Int) (w : World) :
    Calls Tryd.prog 18 #[.agg #[.int .i64 n, .int .i64 s]] w fun e w' => e = .returned (.bool (rightD n s)) ∧ w.grownBy w' none := by
  have hr := rightD_eq n s
  generalize rightD n s = b at hr
  have HR := Lib.hid hr
  clear hr
  go_enter Tryd.func18, Tryd.ntmps18
  go_wp2
  all_goals
    go_ret
    refine ⟨?_, gr_alloc _ _ _⟩
    rw [HR.out]
    show Ending.returned (.bool _) = _
    congr 2
    symm
    first | (simp [*]; done) | (simp [*]; omega) | trace_state
theorem lt200 {n : Nat} (h : n ≤ 9223372036854775807) : n < 256 ^ 200 := Nat.lt_of_le_of_lt h (by decide +kernel)
theorem sz63 {n : Nat} (h : n ≤ 9223372036854775807) : (S n).size ≤ 1000000000 := s_size9 (lt200 h)
theorem natural_any (n : Int) (w : World) (h1 : -9223372036854775808 ≤ n) (h2 : n ≤ 9223372036854775807) :
    Gives 38 #[.int .i64 n] w (.string (S n.natAbs)) := by
  rcases Int.lt_or_le n 0 with h | h
  · obtain ⟨m, rfl⟩ : ∃ m : Nat, n = -(m : Int) - 1 := ⟨(n + 1).natAbs, by omega⟩
    rw [show (-(m : Int) - 1).natAbs = m + 1 from by omega]
    have hm : m ≤ 9223372036854775807 := by omega
    have hneg : -(-(m : Int) - 1 + 1) = (m : Int) := by omega
    go_enter Tryd.func38, Tryd.ntmps38
    have H1 := Lib.hid (sz63 hm)
    go_wp2_with fail
    refine (rof_any m _ hm).mono ?_
    rintro e w1 ⟨rfl, g1⟩
    rw [show (⟨(enc m).toArray⟩ : ByteArray) = S m from rfl]
    go_wp2_with fail
    refine (rof_any 1 _ (by omega)).mono ?_
    rintro e w2 ⟨rfl, g2⟩
    rw [show (⟨(enc 1).toArray⟩ : ByteArray) = S 1 from rfl]
    go_wp2_with fail
    refine (s_radd (S m) (S 1) m 1 _ (s_num _) (s_num _) H1.out (by have := s_size9 (n := 1) (by decide +kernel); omega)).mono ?_
    rintro e w3 ⟨rfl, g3⟩
    go_wp2
    go_ret
    exact ⟨rfl, gr_then (gr_then g1 g2) g3⟩
  · obtain ⟨m, rfl⟩ := Int.eq_ofNat_of_zero_le h
    rw [Int.natAbs_natCast]
    go_enter Tryd.func38, Tryd.ntmps38
    go_wp2_with fail
    refine (rof_any m _ (by omega)).mono ?_
    rintro e w1 ⟨rfl, g1⟩
    go_wp2
    go_ret
    exact ⟨rfl, g1⟩
/-- A number of the reference as a value. -/
def bv (neg : Bool) (N s : Nat) : Value := .agg #[.bool neg, .string (S N), .int .i64 (s : Int)]
theorem power_any (k : Nat) (w : World) (hk : k ≤ 12) : Gives 50 #[.int .i64 k] w (.string (S (P10 k))) := by
  go_enter Tryd.func50, Tryd.ntmps50
  go_wp2_with fail
  refine (rof_any 1 _ (by omega)).mono ?_
  rintro e w1 ⟨rfl, g1⟩
  rw [show (⟨(enc 1).toArray⟩ : ByteArray) = S 1 from rfl]
  go_wp2
  go_loopw [3, 4] (fun u v wr => ∃ i p : Nat, i ≤ k ∧ v = .int .i64 i ∧ u = .string (S p) ∧ w.grownBy wr none ∧ Hid (p = P10 i)) (fun _ v _ => k - (intOf v).toNat)
  case atStart => exact ⟨0, 1, by omega, rfl, rfl, g1, Lib.hid rfl⟩
  case round =>
    obtain ⟨i, p, hi, rfl, rfl, hg, HP⟩ := hrel
    by_cases hlt : i < k
    · have hb : p < 256 ^ 200 := by
        have h1 : p ≤ P10 12 := by rw [HP.out]; exact P10_le (by omega)
        have h2 : P10 12 < 256 ^ 200 := by decide +kernel
        omega
      have HB := Lib.hid hb
      clear hb
      go_wp2_with fail
      refine (rof_any 10 _ (by omega)).mono ?_
      rintro e w2 ⟨rfl, g2⟩
      rw [show (⟨(enc 10).toArray⟩ : ByteArray) = S 10 from rfl]
      have hg := gr_then hg g2
      go_wp2_with fail
      refine (s_rmul (S p) (S 10) p 10 _ (s_num _) (s_num _) (by have := s_size9 HB.out; omega) (by have := s_size9 (n := 10) (by decide +kernel); omega)).mono ?_
      rintro e w3 ⟨rfl, g3⟩
      have hg := gr_then hg g3
      clear g2 g3
      go_wp2
      refine ⟨⟨i + 1, p * 10, by omega, by go_num, rfl, hg, Lib.hid (by rw [HP.out, P10_succ])⟩, by simp [intOf]; omega⟩
    · obtain rfl : i = k := by omega
      go_wp2
      go_ret
      exact ⟨by rw [← HP.out]; rfl, hg⟩
/-- A block of three cells. -/
def Three (w : World) (b : Nat) (x y z : Value) (t : TypeId) : Prop := w.heap[b]? = some (.cells #[x, y, z] t (0, 0))
section
variable {w w1 : World} {b b' i : Nat} {x y z v : Value} {t : TypeId}
theorem Three.lt (h : Three w b x y z t) : b < w.heap.size := (Array.getElem?_eq_some_iff.1 h).1
theorem Three.c0 (h : Three w b x y z t) : w.cell? ⟨b, 0, none⟩ = some x := by rw [cell_of_row w b 0 _ t (0, 0) h]; rfl
theorem Three.c1 (h : Three w b x y z t) : w.cell? ⟨b, 1, none⟩ = some y := by rw [cell_of_row w b 1 _ t (0, 0) h]; rfl
theorem Three.c2 (h : Three w b x y z t) : w.cell? ⟨b, 2, none⟩ = some z := by rw [cell_of_row w b 2 _ t (0, 0) h]; rfl
theorem Three.fr (h : Three w b x y z t) (i : Nat) : w.frozen? ⟨b, i, none⟩ = false := by
  simp only [World.frozen?]
  rw [show w.heap[b]? = some (.cells #[x, y, z] t (0, 0)) from h]
  simp
theorem Three.kept (h : Three w b x y z t) (hg : w.grownBy w1 none) : Three w1 b x y z t := by
  unfold Three at *; rw [hg.block b (Array.getElem?_eq_some_iff.1 h).1 (by simp)]; exact h
theorem Three.alloc (h : Three w b x y z t) (o : Obj) : Three (w.alloc o) b x y z t := h.kept (gr_alloc w o none)
theorem Three.drew (h : Three w b x y z t) : Three w.drew b x y z t := h
theorem Three.new (w : World) (x y z : Value) (t : TypeId) : Three (w.alloc (.cells #[x, y, z] t)) w.heap.size x y z t := heap_alloc_new w _
theorem Three.new1 (w : World) (o : Obj) (x y z : Value) (t : TypeId) : Three ((w.alloc o).alloc (.cells #[x, y, z] t)) (w.heap.size + 1) x y z t := by
  have h := Three.new (w.alloc o) x y z t
  rwa [show (w.alloc o).heap.size = w.heap.size + 1 from by simp] at h
theorem Three.new2 (w : World) (o p : Obj) (x y z : Value) (t : TypeId) : Three (((w.alloc o).alloc p).alloc (.cells #[x, y, z] t)) (w.heap.size + 1 + 1) x y z t := by
  have h := Three.new1 (w.alloc o) p x y z t
  rwa [show (w.alloc o).heap.size = w.heap.size + 1 from by simp] at h
theorem Three.other (h : Three w b x y z t) (hne : b ≠ b') : Three (w.setCell ⟨b', i, none⟩ v) b x y z t := by
  unfold Three at h ⊢
  rw [Below.heap_setCell _ _ _ _ hne]; exact h
theorem Three.s1 (h : Three w b x y z t) (v : Value) : Three (w.setCell ⟨b, 1, none⟩ v) b x v z t := by
  unfold Three at h ⊢
  rw [setCell_eq_setRow w b 1 _ t (0, 0) _ h, setRow_heap w b _ _ t (0, 0) h]; rfl
theorem Three.s2 (h : Three w b x y z t) (v : Value) : Three (w.setCell ⟨b, 2, none⟩ v) b x y v t := by
  unfold Three at h ⊢
  rw [setCell_eq_setRow w b 2 _ t (0, 0) _ h, setRow_heap w b _ _ t (0, 0) h]; rfl
theorem Three.s0 (h : Three w b x y z t) (v : Value) : Three (w.setCell ⟨b, 0, none⟩ v) b v y z t := by
  unfold Three at h ⊢
  rw [setCell_eq_setRow w b 0 _ t (0, 0) _ h, setRow_heap w b _ _ t (0, 0) h]; rfl
end
/-- What the reference makes of a decimal. -/
def bigV (a : Int × Nat) : Value := bv (decide (a.1 < 0)) a.1.natAbs a.2
set_option maxHeartbeats 1000000 in
set_option maxRecDepth 100000 in
theorem big_any (n s : Int) (w : World) : Gives 42 #[.agg #[.int .i64 n, .int .i64 s]] w (bigV (valD n s)) := by
  have T0 := (Two.new w (.int .i64 n) (.int .i64 s) 23).alloc (.cells #[.bool false, .string ⟨#[]⟩, .int .i64 0] 59)
  have T1 := Three.new1 w (.cells #[.int .i64 n, .int .i64 s] 23) (.bool false) (.string ⟨#[]⟩) (.int .i64 0) 59
  cases hr : rightD n s with
  | false =>
    rw [valD_wrong hr]
    have HR := Lib.hid hr
    clear hr
    go_enter Tryd.func42, Tryd.ntmps42
    go_wp2_with fail
    refine (qright_any n s _).mono ?_
    rintro e w1 ⟨rfl, g1⟩
    rw [HR.out]
    have T1 := T1.kept g1
    have G := Lib.hid (gr_two g1)
    have d0 := T1.c0
    have d1 := T1.c1
    have d2 := T1.c2
    have f0 := T1.fr 0
    have f1 := T1.fr 1
    have f2 := T1.fr 2
    clear g1
    go_wp2
    exact bodyPost_ret (v := .agg #[.bool false, .string ⟨#[]⟩, .int .i64 0]) (by simp [results, Tryd.results42, go_sem, d0, d1, d2]) rfl ⟨by unfold bigV bv; rw [show (0 : Int).natAbs = 0 from rfl, s_zero]; rfl, gr_setn (gr_setn (gr_setn G.out (by omega)) (by omega)) (by omega)⟩
  | true =>
    rw [valD_right hr]
    have hrr := rightD_iff.1 hr
    have hn1 := hrr.2.2.1
    have hn2 := hrr.2.2.2.1
    obtain ⟨k, rfl⟩ := Int.eq_ofNat_of_zero_le hrr.1
    rw [Int.toNat_natCast]
    have hna := fun w => natural_any n w (by omega) (by omega)
    have HNA := Lib.hid hna
    have HR := Lib.hid hr
    clear hr hrr hna
    go_enter Tryd.func42, Tryd.ntmps42
    go_wp2_with fail
    refine (qright_any n k _).mono ?_
    rintro e w1 ⟨rfl, g1⟩
    rw [HR.out]
    have T0 := T0.kept g1
    have T1 := T1.kept g1
    have G := Lib.hid (gr_two g1)
    have T0 := T0.drew
    have T1 := T1.drew
    have c0 := T0.c0
    have c1 := T0.c1
    clear g1
    go_wp2_with fail
    go_region_held3 (fun w' => w'.cell? ⟨w.heap.size, 0, none⟩ = some (.int .i64 n) ∧ w'.cell? ⟨w.heap.size, 1, none⟩ = some (.int .i64 (k : Int))) (first | exact ⟨c0, c1⟩ | go_keep)
      (first
      | (go_at_call 38; refine (HNA.out _).mono ?_; rintro e w2 ⟨rfl, g2⟩; have T2 := T0.kept g2; have T3 := T1.kept g2; have d0 := T2.c0; have d1 := T2.c1; have f0 := T3.fr 0; have f1 := T3.fr 1; have f2 := T3.fr 2; have k0 := T3.c0; have k1 := T3.c1; have k2 := T3.c2))
    all_goals
      have G := Lib.hid (gr_then (gr_then G.out (gr_drew _ none)) g2)
      go_wp2
      exact bodyPost_ret (v := .agg #[.bool (decide (n < 0)), .string (S n.natAbs), .int .i64 (k : Int)]) (by simp [results, Tryd.results42, go_sem, k0, k1, k2]) rfl ⟨rfl, gr_setn (gr_setn (gr_setn G.out (by omega)) (by omega)) (by omega)⟩
end Go.Proofs.YtmlmjhlakpgagaaDoor
