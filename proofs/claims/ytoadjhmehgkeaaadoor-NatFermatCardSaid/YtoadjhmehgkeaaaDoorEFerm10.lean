/- Contracts of package nat and of the reference, part 10: Fermat, Pair, FermatRow. -/
import Derived.Test.YtoadjhmehgkeaaaDoorEFerm9
import Derived.BigRegion
import Derived.Deep.RegionHeld3
namespace Go.Proofs.YtoadjhmehgkeaaaDoor
open Go.RowKit Mth

theorem s_one : S 1 = ⟨#[1]⟩ := by
  unfold S
  rw [enc_pos (by decide), show 1 / 256 = 0 from rfl, enc_zero]; rfl
theorem s_len_pos {n : Nat} (h : 0 < n) : 0 < (S n).size := by
  unfold S
  show 0 < (enc n).toArray.size
  rcases Nat.eq_zero_or_pos (enc n).length with h1 | h1
  · have := num_enc n
    rw [List.eq_nil_of_length_eq_zero h1] at this
    simp [num] at this; omega
  · simpa using h1
theorem s_size9 {n : Nat} (h : n < 256 ^ 200) : (S n).size ≤ 1000000000 := by
  have := enc_len 200 n h
  have e : (S n).size = (enc n).length := by unfold S; show (enc n).toArray.size = _; simp
  omega
/-- The two ends of the law. -/
def FermatEnd (r one : ByteArray) : Prop := (r = ⟨#[]⟩ ∧ one = ⟨#[]⟩) ∨ (0 < r.size ∧ one = ⟨#[1]⟩)
theorem fermat_end (A p : Nat) (hp : p = 2305843009213691579) : FermatEnd (S (A % p)) (S (A ^ (p - 1) % p)) := by
  by_cases h : A % p = 0
  · left
    have h1 : A ^ (p - 1) % p = 0 := by
      rw [Nat.pow_mod, h, Nat.zero_pow (by omega), Nat.zero_mod]
    rw [h, h1]; exact ⟨s_zero, s_zero⟩
  · right
    rw [fermat_large A p hp h]
    exact ⟨s_len_pos (by omega), s_one⟩
theorem pow_add_mod (A u v M : Nat) : A ^ u % M * (A ^ v % M) % M = A ^ (u + v) % M := by rw [← Nat.mul_mod, ← Nat.pow_add]
theorem fer_sz (A u v M : Nat) (h0 : 0 < M) (hM : M < 256 ^ 24) : A ^ u % M * (A ^ v % M) < 256 ^ 200 := by
  have h2 : 256 ^ 24 * 256 ^ 24 ≤ 256 ^ 200 := by decide
  exact Nat.lt_of_lt_of_le (Nat.mul_lt_mul'' (Nat.lt_trans (Nat.mod_lt _ h0) hM) (Nat.lt_trans (Nat.mod_lt _ h0) hM)) h2
theorem size_num (c : ByteArray) (hc : c.size ≤ 24) : num c.data.toList < 256 ^ 24 := by
  have h1 := num_lt c.data.toList
  rw [len_toList] at h1
  have h2 := Nat.pow_le_pow_right (n := 256) (by decide) hc
  omega
/-- The two parts of the law that do not depend on memory. -/
theorem fermat_pows (a c : ByteArray) (hsa : a.size ≤ 24) (hsc : c.size ≤ 24) (u v : Nat) (hu : u ≤ 4294967295) (hv : v ≤ 4294967295) :
    ∃ (p q r : ByteArray) (ok : Bool) (k : Nat), (∀ w, Gives 25 #[.string a, .string (S u), .string c] w (.tuple #[.string p, .bool ok])) ∧ (∀ w, Gives 25 #[.string a, .string (S v), .string c] w (.tuple #[.string q, .bool ok])) ∧ (∀ w, Gives 25 #[.string a, .string (S (u + v)), .string c] w (.tuple #[.string r, .bool ok])) ∧ (∀ w, Gives 16 #[.string c] w (.int .i64 (k : Int))) ∧ ((ok = false ∧ k = 0) ∨ (ok = true ∧ 0 < k ∧ ∃ m d, (∀ w, Gives 10 #[.string p, .string q] w (.string m)) ∧ (∀ w, Gives 23 #[.string m, .string c] w (.tuple #[.string d, .string r, .bool true])))) := by
  have hu9 : (S u).size ≤ 1000000000 := s_size9 (Nat.lt_of_le_of_lt hu (by decide))
  have hv9 : (S v).size ≤ 1000000000 := s_size9 (Nat.lt_of_le_of_lt hv (by decide))
  have huv9 : (S (u + v)).size ≤ 1000000000 := s_size9 (Nat.lt_of_le_of_lt (show u + v ≤ 8589934590 by omega) (by decide))
  rcases Nat.eq_zero_or_pos (num c.data.toList) with h | h
  · refine ⟨_, _, _, _, 0, fun w => s_pow0 a (S u) c w h (by omega), fun w => s_pow0 a (S v) c w h (by omega), fun w => s_pow0 a (S (u + v)) c w h (by omega), fun w => ?_, .inl ⟨rfl, rfl⟩⟩
    exact s_bits c 0 w h (by omega)
  · have hM := size_num c hsc
    refine ⟨_, _, _, _, bitsN (num c.data.toList), fun w => s_pow a (S u) c _ _ _ w rfl (s_num _) rfl (by omega) hu9 (by omega) h, fun w => s_pow a (S v) c _ _ _ w rfl (s_num _) rfl (by omega) hv9 (by omega) h, fun w => s_pow a (S (u + v)) c _ _ _ w rfl (s_num _) rfl (by omega) huv9 (by omega) h, fun w => s_bits c _ w rfl (by omega), .inr ⟨rfl, ?_, ?_⟩⟩
    · unfold bitsN; rw [if_neg (by omega)]; omega
    · have h1 : num a.data.toList ^ u % num c.data.toList < 256 ^ 200 := Nat.lt_trans (Nat.mod_lt _ h) (Nat.lt_of_lt_of_le hM (by decide))
      have h2 : num a.data.toList ^ v % num c.data.toList < 256 ^ 200 := Nat.lt_trans (Nat.mod_lt _ h) (Nat.lt_of_lt_of_le hM (by decide))
      refine ⟨_, S (num a.data.toList ^ u % num c.data.toList * (num a.data.toList ^ v % num c.data.toList) / num c.data.toList), fun w => s_mul _ _ _ _ w (s_num _) (s_num _) (s_size h1) (s_size h2), fun w => ?_⟩
      have hq := s_quo (S (num a.data.toList ^ u % num c.data.toList * (num a.data.toList ^ v % num c.data.toList))) c _ _ w (s_num _) rfl h (s_size (fer_sz _ u v _ h hM)) (by omega)
      rw [pow_add_mod] at hq
      exact hq
/-- The prime number's part. -/
theorem fermat_prime (a : ByteArray) (hsa : a.size ≤ 24) :
    ∃ (pr pm : ByteArray) (one d r : ByteArray), (∀ w, Gives 14 #[.int .i64 2305843009213691579] w (.string pr)) ∧ (∀ w, Gives 14 #[.int .i64 2305843009213691578] w (.string pm)) ∧ (∀ w, Gives 25 #[.string a, .string pm, .string pr] w (.tuple #[.string one, .bool true])) ∧ (∀ w, Gives 23 #[.string a, .string pr] w (.tuple #[.string d, .string r, .bool true])) ∧ FermatEnd r one := by
  obtain ⟨p, hp⟩ : ∃ p, p = 2305843009213691579 := ⟨_, rfl⟩
  have hsp : (S p).size ≤ 1000000000 := s_size9 (by rw [hp]; decide)
  have hsm : (S (p - 1)).size ≤ 1000000000 := s_size9 (by rw [hp]; decide)
  have h0 : 0 < p := by omega
  refine ⟨S p, S (p - 1), _, _, _, fun w => ?_, fun w => ?_, fun w => s_pow a (S (p - 1)) (S p) _ _ _ w rfl (s_num _) (s_num _) (by omega) hsm hsp h0, fun w => s_quo a (S p) _ _ w rfl (s_num _) h0 (by omega) (by omega), fermat_end _ p hp⟩
  · have := rof_any p w (by omega)
    rw [show ((p : Nat) : Int) = 2305843009213691579 by omega] at this
    exact this
  · have := rof_any (p - 1) w (by omega)
    rw [show ((p - 1 : Nat) : Int) = 2305843009213691578 by omega] at this
    exact this

set_option maxHeartbeats 4000000 in
set_option maxRecDepth 100000 in
theorem fermat_true (vx vm : Value) (a : ByteArray) (u v : Nat) (c : ByteArray) (w : World) (htab : Tab w) (hx : CutAs w 24 vx a) (hm : CutAs w 24 vm c) (hsa : a.size ≤ 24) (hub : u ≤ 4294967295) (hvb : v ≤ 4294967295) (hsc : c.size ≤ 24) :
    Gives 7 #[vx, .agg #[.int .u32 (u : Int), .int .u32 (v : Int)], vm] w (.bool true) := by
  have hub2 : u ≤ 9223372036854775807 := by omega
  have hvb2 : v ≤ 9223372036854775807 := by omega
  have hwu : IntKind.i64.wrap (u : Int) = (u : Int) := by rw [IntKind.wrap_i64]; omega
  have hwv : IntKind.i64.wrap (v : Int) = (v : Int) := by rw [IntKind.wrap_i64]; omega
  have hw0 := gr_alloc w (.cells #[.int .u32 (u : Int), .int .u32 (v : Int)] 45) none
  have hb0 : (w.alloc (.cells #[.int .u32 (u : Int), .int .u32 (v : Int)] 45)).cell? ⟨w.heap.size, 0, none⟩ = some (.int .u32 (u : Int)) := by rw [cell_of_row _ _ _ _ _ (0, 0) (heap_alloc_new w _)]; rfl
  have hb1 : (w.alloc (.cells #[.int .u32 (u : Int), .int .u32 (v : Int)] 45)).cell? ⟨w.heap.size, 1, none⟩ = some (.int .u32 (v : Int)) := by rw [cell_of_row _ _ _ _ _ (0, 0) (heap_alloc_new w _)]; rfl
  rcases hx with ⟨rfl, rfl⟩ | ⟨aa, la, ca, ma, rfl, ha1, ha2, ha3, ha4, _⟩ <;> rcases hm with ⟨rfl, rfl⟩ | ⟨am, lm, cm, mm, rfl, hm1, hm2, hm3, hm4, _⟩
  · obtain ⟨p, q, r, ok, k, P1, P2, P3, P4, P5⟩ := fermat_pows ⟨#[]⟩ ⟨#[]⟩ (by decide) (by decide) u v hub hvb
    obtain ⟨pr, pm, one, d2, r2, Q1, Q2, Q3, Q4, Q5⟩ := fermat_prime ⟨#[]⟩ (by decide)
    have HP1 := Lib.hid P1
    have HP2 := Lib.hid P2
    have HP3 := Lib.hid P3
    have HP4 := Lib.hid P4
    have HP5 := Lib.hid P5
    have HQ1 := Lib.hid Q1
    have HQ2 := Lib.hid Q2
    have HQ3 := Lib.hid Q3
    have HQ4 := Lib.hid Q4
    have HQ5 := Lib.hid Q5
    have HAdd := Lib.hid (fun w => s_add (S u) (S v) u v w (s_num _) (s_num _) (s_size (Nat.lt_of_le_of_lt hub (by decide))) (s_size (Nat.lt_of_le_of_lt hvb (by decide))))
    clear P1 P2 P3 P4 P5 Q1 Q2 Q3 Q4 Q5
    go_enter Tryd.func7, Tryd.ntmps7
    go_wp2_with fail
    refine (sanity_true _ (tab_gr htab hw0)).mono ?_
    rintro _ w0 ⟨rfl, h0⟩
    have hg := gr_then hw0 (gr_then h0 (gr_drew w0 none))
    have hc0 := h0.cell hb0 (by simp)
    have hc1 := h0.cell hb1 (by simp)
    generalize w.heap.size = B at hc0 hc1 ⊢
    have hd0 : w0.drew.drew.cell? ⟨B, 0, none⟩ = some (.int .u32 (u : Int)) := hc0
    have hd1 : w0.drew.drew.cell? ⟨B, 1, none⟩ = some (.int .u32 (v : Int)) := hc1
    have hg2 := gr_then hg (gr_drew w0.drew none)
    have hcn : Sem.run Tryd.prog (convert 22 24 (.slice none 0 0)) w0.drew = .ok (.string ⟨#[]⟩) w0.drew := run_convert_bytes_nil (P := Tryd.prog) w0.drew 22 5 Tryd.underlying22 Tryd.underlying5 0 0 24 Tryd.underlying24
    have hmin24 : min (0 : Int) 24 = 0 := by decide
    clear hw0 hb0 hb1
    go_wp2
    go_region
    go_wp2_with fail
    go_region_held3 (fun w' => w'.cell? ⟨B, 0, none⟩ = some (.int .u32 (u : Int)) ∧ w'.cell? ⟨B, 1, none⟩ = some (.int .u32 (v : Int))) (first | exact ⟨hd0, hd1⟩ | go_keep)
      (first
        | (go_at_call 14; refine (rof_any _ _ (by first | exact hub2 | exact hvb2)).mono ?_; rintro _ w11 ⟨rfl, h11⟩; have hk0 : w11.cell? ⟨B, 0, none⟩ = some (.int .u32 (u : Int)) := h11.cell (by assumption) (by simp); have hk1 : w11.cell? ⟨B, 1, none⟩ = some (.int .u32 (v : Int)) := h11.cell (by assumption) (by simp); have hk2 : w.grownBy w11 none := gr_then (by assumption) h11))
    all_goals
      rw [show (⟨(enc u).toArray⟩ : ByteArray) = S u from rfl, show (⟨(enc v).toArray⟩ : ByteArray) = S v from rfl]
      go_wp2_with fail
      refine (HP1.out _).mono ?_
      rintro _ w12 ⟨rfl, h12⟩
      have hg : w.grownBy _ none := gr_then (by assumption) h12
      clear h12
      go_wp2_with fail
      refine (HP2.out _).mono ?_
      rintro _ w13 ⟨rfl, h13⟩
      have hg := gr_then hg h13
      clear h13
      go_wp2_with fail
      refine (HAdd.out _).mono ?_
      rintro _ w14 ⟨rfl, h14⟩
      have hg := gr_then hg h14
      clear h14
      go_wp2_with fail
      refine (HP3.out _).mono ?_
      rintro _ w15 ⟨rfl, h15⟩
      have hg := gr_then hg h15
      clear h15
      go_wp2_with fail
      refine (HP4.out _).mono ?_
      rintro _ w16 ⟨rfl, h16⟩
      have hg := gr_then hg h16
      clear h16
      rcases HP5.out with ⟨rfl, rfl⟩ | ⟨rfl, hk, m, d, M1, M2⟩
      · go_wp2_with fail
        refine (HQ1.out _).mono ?_
        rintro _ w19 ⟨rfl, h19⟩
        have hg := gr_then hg h19
        clear h19
        go_wp2_with fail
        refine (HQ2.out _).mono ?_
        rintro _ w20 ⟨rfl, h20⟩
        have hg := gr_then hg h20
        clear h20
        go_wp2_with fail
        refine (HQ3.out _).mono ?_
        rintro _ w21 ⟨rfl, h21⟩
        have hg := gr_then hg h21
        clear h21
        go_wp2_with fail
        refine (HQ4.out _).mono ?_
        rintro _ w22 ⟨rfl, h22⟩
        have hg := gr_then hg h22
        clear h22
        rcases HQ5.out with ⟨rfl, rfl⟩ | ⟨hr, rfl⟩
        · go_wp2
          go_ret
          exact ⟨rfl, hg⟩
        · have hne : (r2.toList == []) = false := by
            rw [beq_eq_false_iff_ne]
            intro e
            have := len_toList r2
            rw [← Lib.toList_data, e] at this
            simp at this; omega
          go_wp2
          go_ret
          exact ⟨rfl, hg⟩
      · have HM1 := Lib.hid M1
        have HM2 := Lib.hid M2
        clear M1 M2
        go_wp2_with fail
        refine (HM1.out _).mono ?_
        rintro _ w17 ⟨rfl, h17⟩
        have hg := gr_then hg h17
        clear h17
        go_wp2_with fail
        refine (HM2.out _).mono ?_
        rintro _ w18 ⟨rfl, h18⟩
        have hg := gr_then hg h18
        clear h18
        go_wp2_with fail
        refine (HQ1.out _).mono ?_
        rintro _ w19 ⟨rfl, h19⟩
        have hg := gr_then hg h19
        clear h19
        go_wp2_with fail
        refine (HQ2.out _).mono ?_
        rintro _ w20 ⟨rfl, h20⟩
        have hg := gr_then hg h20
        clear h20
        go_wp2_with fail
        refine (HQ3.out _).mono ?_
        rintro _ w21 ⟨rfl, h21⟩
        have hg := gr_then hg h21
        clear h21
        go_wp2_with fail
        refine (HQ4.out _).mono ?_
        rintro _ w22 ⟨rfl, h22⟩
        have hg := gr_then hg h22
        clear h22
        rcases HQ5.out with ⟨rfl, rfl⟩ | ⟨hr, rfl⟩
        · go_wp2
          go_ret
          exact ⟨rfl, hg⟩
        · have hne : (r2.toList == []) = false := by
            rw [beq_eq_false_iff_ne]
            intro e
            have := len_toList r2
            rw [← Lib.toList_data, e] at this
            simp at this; omega
          go_wp2
          go_ret
          exact ⟨rfl, hg⟩
  · have hm1 : min (lm : Int) 24 = (mm : Int) := hm1
    obtain ⟨p, q, r, ok, k, P1, P2, P3, P4, P5⟩ := fermat_pows ⟨#[]⟩ c (by decide) hsc u v hub hvb
    obtain ⟨pr, pm, one, d2, r2, Q1, Q2, Q3, Q4, Q5⟩ := fermat_prime ⟨#[]⟩ (by decide)
    have HP1 := Lib.hid P1
    have HP2 := Lib.hid P2
    have HP3 := Lib.hid P3
    have HP4 := Lib.hid P4
    have HP5 := Lib.hid P5
    have HQ1 := Lib.hid Q1
    have HQ2 := Lib.hid Q2
    have HQ3 := Lib.hid Q3
    have HQ4 := Lib.hid Q4
    have HQ5 := Lib.hid Q5
    have HAdd := Lib.hid (fun w => s_add (S u) (S v) u v w (s_num _) (s_num _) (s_size (Nat.lt_of_le_of_lt hub (by decide))) (s_size (Nat.lt_of_le_of_lt hvb (by decide))))
    clear P1 P2 P3 P4 P5 Q1 Q2 Q3 Q4 Q5
    go_enter Tryd.func7, Tryd.ntmps7
    go_wp2_with fail
    refine (sanity_true _ (tab_gr htab hw0)).mono ?_
    rintro _ w0 ⟨rfl, h0⟩
    have hg := gr_then hw0 (gr_then h0 (gr_drew w0 none))
    have hc0 := h0.cell hb0 (by simp)
    have hc1 := h0.cell hb1 (by simp)
    generalize w.heap.size = B at hc0 hc1 ⊢
    have hd0 : w0.drew.drew.cell? ⟨B, 0, none⟩ = some (.int .u32 (u : Int)) := hc0
    have hd1 : w0.drew.drew.cell? ⟨B, 1, none⟩ = some (.int .u32 (v : Int)) := hc1
    have hg2 := gr_then hg (gr_drew w0.drew none)
    have hcn : Sem.run Tryd.prog (convert 22 24 (.slice none 0 0)) w0.drew = .ok (.string ⟨#[]⟩) w0.drew := run_convert_bytes_nil (P := Tryd.prog) w0.drew 22 5 Tryd.underlying22 Tryd.underlying5 0 0 24 Tryd.underlying24
    have hmin24 : min (0 : Int) 24 = 0 := by decide
    have hcm := hm4 _ hg
    clear hw0 hb0 hb1
    go_wp2
    go_region
    go_wp2_with fail
    go_region_held3 (fun w' => w'.cell? ⟨B, 0, none⟩ = some (.int .u32 (u : Int)) ∧ w'.cell? ⟨B, 1, none⟩ = some (.int .u32 (v : Int))) (first | exact ⟨hd0, hd1⟩ | go_keep)
      (first
        | (go_at_call 14; refine (rof_any _ _ (by first | exact hub2 | exact hvb2)).mono ?_; rintro _ w11 ⟨rfl, h11⟩; have hk0 : w11.cell? ⟨B, 0, none⟩ = some (.int .u32 (u : Int)) := h11.cell (by assumption) (by simp); have hk1 : w11.cell? ⟨B, 1, none⟩ = some (.int .u32 (v : Int)) := h11.cell (by assumption) (by simp); have hk2 : w.grownBy w11 none := gr_then (by assumption) h11))
    all_goals
      rw [show (⟨(enc u).toArray⟩ : ByteArray) = S u from rfl, show (⟨(enc v).toArray⟩ : ByteArray) = S v from rfl]
      go_wp2_with fail
      refine (HP1.out _).mono ?_
      rintro _ w12 ⟨rfl, h12⟩
      have hg : w.grownBy _ none := gr_then (by assumption) h12
      clear h12
      go_wp2_with fail
      refine (HP2.out _).mono ?_
      rintro _ w13 ⟨rfl, h13⟩
      have hg := gr_then hg h13
      clear h13
      go_wp2_with fail
      refine (HAdd.out _).mono ?_
      rintro _ w14 ⟨rfl, h14⟩
      have hg := gr_then hg h14
      clear h14
      go_wp2_with fail
      refine (HP3.out _).mono ?_
      rintro _ w15 ⟨rfl, h15⟩
      have hg := gr_then hg h15
      clear h15
      go_wp2_with fail
      refine (HP4.out _).mono ?_
      rintro _ w16 ⟨rfl, h16⟩
      have hg := gr_then hg h16
      clear h16
      rcases HP5.out with ⟨rfl, rfl⟩ | ⟨rfl, hk, m, d, M1, M2⟩
      · go_wp2_with fail
        refine (HQ1.out _).mono ?_
        rintro _ w19 ⟨rfl, h19⟩
        have hg := gr_then hg h19
        clear h19
        go_wp2_with fail
        refine (HQ2.out _).mono ?_
        rintro _ w20 ⟨rfl, h20⟩
        have hg := gr_then hg h20
        clear h20
        go_wp2_with fail
        refine (HQ3.out _).mono ?_
        rintro _ w21 ⟨rfl, h21⟩
        have hg := gr_then hg h21
        clear h21
        go_wp2_with fail
        refine (HQ4.out _).mono ?_
        rintro _ w22 ⟨rfl, h22⟩
        have hg := gr_then hg h22
        clear h22
        rcases HQ5.out with ⟨rfl, rfl⟩ | ⟨hr, rfl⟩
        · go_wp2
          go_ret
          exact ⟨rfl, hg⟩
        · have hne : (r2.toList == []) = false := by
            rw [beq_eq_false_iff_ne]
            intro e
            have := len_toList r2
            rw [← Lib.toList_data, e] at this
            simp at this; omega
          go_wp2
          go_ret
          exact ⟨rfl, hg⟩
      · have HM1 := Lib.hid M1
        have HM2 := Lib.hid M2
        clear M1 M2
        go_wp2_with fail
        refine (HM1.out _).mono ?_
        rintro _ w17 ⟨rfl, h17⟩
        have hg := gr_then hg h17
        clear h17
        go_wp2_with fail
        refine (HM2.out _).mono ?_
        rintro _ w18 ⟨rfl, h18⟩
        have hg := gr_then hg h18
        clear h18
        go_wp2_with fail
        refine (HQ1.out _).mono ?_
        rintro _ w19 ⟨rfl, h19⟩
        have hg := gr_then hg h19
        clear h19
        go_wp2_with fail
        refine (HQ2.out _).mono ?_
        rintro _ w20 ⟨rfl, h20⟩
        have hg := gr_then hg h20
        clear h20
        go_wp2_with fail
        refine (HQ3.out _).mono ?_
        rintro _ w21 ⟨rfl, h21⟩
        have hg := gr_then hg h21
        clear h21
        go_wp2_with fail
        refine (HQ4.out _).mono ?_
        rintro _ w22 ⟨rfl, h22⟩
        have hg := gr_then hg h22
        clear h22
        rcases HQ5.out with ⟨rfl, rfl⟩ | ⟨hr, rfl⟩
        · go_wp2
          go_ret
          exact ⟨rfl, hg⟩
        · have hne : (r2.toList == []) = false := by
            rw [beq_eq_false_iff_ne]
            intro e
            have := len_toList r2
            rw [← Lib.toList_data, e] at this
            simp at this; omega
          go_wp2
          go_ret
          exact ⟨rfl, hg⟩
  · have ha1 : min (la : Int) 24 = (ma : Int) := ha1
    obtain ⟨p, q, r, ok, k, P1, P2, P3, P4, P5⟩ := fermat_pows a ⟨#[]⟩ hsa (by decide) u v hub hvb
    obtain ⟨pr, pm, one, d2, r2, Q1, Q2, Q3, Q4, Q5⟩ := fermat_prime a hsa
    have HP1 := Lib.hid P1
    have HP2 := Lib.hid P2
    have HP3 := Lib.hid P3
    have HP4 := Lib.hid P4
    have HP5 := Lib.hid P5
    have HQ1 := Lib.hid Q1
    have HQ2 := Lib.hid Q2
    have HQ3 := Lib.hid Q3
    have HQ4 := Lib.hid Q4
    have HQ5 := Lib.hid Q5
    have HAdd := Lib.hid (fun w => s_add (S u) (S v) u v w (s_num _) (s_num _) (s_size (Nat.lt_of_le_of_lt hub (by decide))) (s_size (Nat.lt_of_le_of_lt hvb (by decide))))
    clear P1 P2 P3 P4 P5 Q1 Q2 Q3 Q4 Q5
    go_enter Tryd.func7, Tryd.ntmps7
    go_wp2_with fail
    refine (sanity_true _ (tab_gr htab hw0)).mono ?_
    rintro _ w0 ⟨rfl, h0⟩
    have hg := gr_then hw0 (gr_then h0 (gr_drew w0 none))
    have hc0 := h0.cell hb0 (by simp)
    have hc1 := h0.cell hb1 (by simp)
    generalize w.heap.size = B at hc0 hc1 ⊢
    have hd0 : w0.drew.drew.cell? ⟨B, 0, none⟩ = some (.int .u32 (u : Int)) := hc0
    have hd1 : w0.drew.drew.cell? ⟨B, 1, none⟩ = some (.int .u32 (v : Int)) := hc1
    have hg2 := gr_then hg (gr_drew w0.drew none)
    have hcn : Sem.run Tryd.prog (convert 22 24 (.slice none 0 0)) w0.drew = .ok (.string ⟨#[]⟩) w0.drew := run_convert_bytes_nil (P := Tryd.prog) w0.drew 22 5 Tryd.underlying22 Tryd.underlying5 0 0 24 Tryd.underlying24
    have hmin24 : min (0 : Int) 24 = 0 := by decide
    have hca := ha4 _ hg
    clear hw0 hb0 hb1
    go_wp2
    go_region
    go_wp2_with fail
    go_region_held3 (fun w' => w'.cell? ⟨B, 0, none⟩ = some (.int .u32 (u : Int)) ∧ w'.cell? ⟨B, 1, none⟩ = some (.int .u32 (v : Int))) (first | exact ⟨hd0, hd1⟩ | go_keep)
      (first
        | (go_at_call 14; refine (rof_any _ _ (by first | exact hub2 | exact hvb2)).mono ?_; rintro _ w11 ⟨rfl, h11⟩; have hk0 : w11.cell? ⟨B, 0, none⟩ = some (.int .u32 (u : Int)) := h11.cell (by assumption) (by simp); have hk1 : w11.cell? ⟨B, 1, none⟩ = some (.int .u32 (v : Int)) := h11.cell (by assumption) (by simp); have hk2 : w.grownBy w11 none := gr_then (by assumption) h11))
    all_goals
      rw [show (⟨(enc u).toArray⟩ : ByteArray) = S u from rfl, show (⟨(enc v).toArray⟩ : ByteArray) = S v from rfl]
      go_wp2_with fail
      refine (HP1.out _).mono ?_
      rintro _ w12 ⟨rfl, h12⟩
      have hg : w.grownBy _ none := gr_then (by assumption) h12
      clear h12
      go_wp2_with fail
      refine (HP2.out _).mono ?_
      rintro _ w13 ⟨rfl, h13⟩
      have hg := gr_then hg h13
      clear h13
      go_wp2_with fail
      refine (HAdd.out _).mono ?_
      rintro _ w14 ⟨rfl, h14⟩
      have hg := gr_then hg h14
      clear h14
      go_wp2_with fail
      refine (HP3.out _).mono ?_
      rintro _ w15 ⟨rfl, h15⟩
      have hg := gr_then hg h15
      clear h15
      go_wp2_with fail
      refine (HP4.out _).mono ?_
      rintro _ w16 ⟨rfl, h16⟩
      have hg := gr_then hg h16
      clear h16
      rcases HP5.out with ⟨rfl, rfl⟩ | ⟨rfl, hk, m, d, M1, M2⟩
      · go_wp2_with fail
        refine (HQ1.out _).mono ?_
        rintro _ w19 ⟨rfl, h19⟩
        have hg := gr_then hg h19
        clear h19
        go_wp2_with fail
        refine (HQ2.out _).mono ?_
        rintro _ w20 ⟨rfl, h20⟩
        have hg := gr_then hg h20
        clear h20
        go_wp2_with fail
        refine (HQ3.out _).mono ?_
        rintro _ w21 ⟨rfl, h21⟩
        have hg := gr_then hg h21
        clear h21
        go_wp2_with fail
        refine (HQ4.out _).mono ?_
        rintro _ w22 ⟨rfl, h22⟩
        have hg := gr_then hg h22
        clear h22
        rcases HQ5.out with ⟨rfl, rfl⟩ | ⟨hr, rfl⟩
        · go_wp2
          go_ret
          exact ⟨rfl, hg⟩
        · have hne : (r2.toList == []) = false := by
            rw [beq_eq_false_iff_ne]
            intro e
            have := len_toList r2
            rw [← Lib.toList_data, e] at this
            simp at this; omega
          go_wp2
          go_ret
          exact ⟨rfl, hg⟩
      · have HM1 := Lib.hid M1
        have HM2 := Lib.hid M2
        clear M1 M2
        go_wp2_with fail
        refine (HM1.out _).mono ?_
        rintro _ w17 ⟨rfl, h17⟩
        have hg := gr_then hg h17
        clear h17
        go_wp2_with fail
        refine (HM2.out _).mono ?_
        rintro _ w18 ⟨rfl, h18⟩
        have hg := gr_then hg h18
        clear h18
        go_wp2_with fail
        refine (HQ1.out _).mono ?_
        rintro _ w19 ⟨rfl, h19⟩
        have hg := gr_then hg h19
        clear h19
        go_wp2_with fail
        refine (HQ2.out _).mono ?_
        rintro _ w20 ⟨rfl, h20⟩
        have hg := gr_then hg h20
        clear h20
        go_wp2_with fail
        refine (HQ3.out _).mono ?_
        rintro _ w21 ⟨rfl, h21⟩
        have hg := gr_then hg h21
        clear h21
        go_wp2_with fail
        refine (HQ4.out _).mono ?_
        rintro _ w22 ⟨rfl, h22⟩
        have hg := gr_then hg h22
        clear h22
        rcases HQ5.out with ⟨rfl, rfl⟩ | ⟨hr, rfl⟩
        · go_wp2
          go_ret
          exact ⟨rfl, hg⟩
        · have hne : (r2.toList == []) = false := by
            rw [beq_eq_false_iff_ne]
            intro e
            have := len_toList r2
            rw [← Lib.toList_data, e] at this
            simp at this; omega
          go_wp2
          go_ret
          exact ⟨rfl, hg⟩
  · have ha1 : min (la : Int) 24 = (ma : Int) := ha1
    have hm1 : min (lm : Int) 24 = (mm : Int) := hm1
    obtain ⟨p, q, r, ok, k, P1, P2, P3, P4, P5⟩ := fermat_pows a c hsa hsc u v hub hvb
    obtain ⟨pr, pm, one, d2, r2, Q1, Q2, Q3, Q4, Q5⟩ := fermat_prime a hsa
    have HP1 := Lib.hid P1
    have HP2 := Lib.hid P2
    have HP3 := Lib.hid P3
    have HP4 := Lib.hid P4
    have HP5 := Lib.hid P5
    have HQ1 := Lib.hid Q1
    have HQ2 := Lib.hid Q2
    have HQ3 := Lib.hid Q3
    have HQ4 := Lib.hid Q4
    have HQ5 := Lib.hid Q5
    have HAdd := Lib.hid (fun w => s_add (S u) (S v) u v w (s_num _) (s_num _) (s_size (Nat.lt_of_le_of_lt hub (by decide))) (s_size (Nat.lt_of_le_of_lt hvb (by decide))))
    clear P1 P2 P3 P4 P5 Q1 Q2 Q3 Q4 Q5
    go_enter Tryd.func7, Tryd.ntmps7
    go_wp2_with fail
    refine (sanity_true _ (tab_gr htab hw0)).mono ?_
    rintro _ w0 ⟨rfl, h0⟩
    have hg := gr_then hw0 (gr_then h0 (gr_drew w0 none))
    have hc0 := h0.cell hb0 (by simp)
    have hc1 := h0.cell hb1 (by simp)
    generalize w.heap.size = B at hc0 hc1 ⊢
    have hd0 : w0.drew.drew.cell? ⟨B, 0, none⟩ = some (.int .u32 (u : Int)) := hc0
    have hd1 : w0.drew.drew.cell? ⟨B, 1, none⟩ = some (.int .u32 (v : Int)) := hc1
    have hg2 := gr_then hg (gr_drew w0.drew none)
    have hca := ha4 _ hg
    have hcm := hm4 _ hg
    clear hw0 hb0 hb1
    go_wp2
    go_region
    go_wp2_with fail
    go_region_held3 (fun w' => w'.cell? ⟨B, 0, none⟩ = some (.int .u32 (u : Int)) ∧ w'.cell? ⟨B, 1, none⟩ = some (.int .u32 (v : Int))) (first | exact ⟨hd0, hd1⟩ | go_keep)
      (first
        | (go_at_call 14; refine (rof_any _ _ (by first | exact hub2 | exact hvb2)).mono ?_; rintro _ w11 ⟨rfl, h11⟩; have hk0 : w11.cell? ⟨B, 0, none⟩ = some (.int .u32 (u : Int)) := h11.cell (by assumption) (by simp); have hk1 : w11.cell? ⟨B, 1, none⟩ = some (.int .u32 (v : Int)) := h11.cell (by assumption) (by simp); have hk2 : w.grownBy w11 none := gr_then (by assumption) h11))
    all_goals
      rw [show (⟨(enc u).toArray⟩ : ByteArray) = S u from rfl, show (⟨(enc v).toArray⟩ : ByteArray) = S v from rfl]
      go_wp2_with fail
      refine (HP1.out _).mono ?_
      rintro _ w12 ⟨rfl, h12⟩
      have hg : w.grownBy _ none := gr_then (by assumption) h12
      clear h12
      go_wp2_with fail
      refine (HP2.out _).mono ?_
      rintro _ w13 ⟨rfl, h13⟩
      have hg := gr_then hg h13
      clear h13
      go_wp2_with fail
      refine (HAdd.out _).mono ?_
      rintro _ w14 ⟨rfl, h14⟩
      have hg := gr_then hg h14
      clear h14
      go_wp2_with fail
      refine (HP3.out _).mono ?_
      rintro _ w15 ⟨rfl, h15⟩
      have hg := gr_then hg h15
      clear h15
      go_wp2_with fail
      refine (HP4.out _).mono ?_
      rintro _ w16 ⟨rfl, h16⟩
      have hg := gr_then hg h16
      clear h16
      rcases HP5.out with ⟨rfl, rfl⟩ | ⟨rfl, hk, m, d, M1, M2⟩
      · go_wp2_with fail
        refine (HQ1.out _).mono ?_
        rintro _ w19 ⟨rfl, h19⟩
        have hg := gr_then hg h19
        clear h19
        go_wp2_with fail
        refine (HQ2.out _).mono ?_
        rintro _ w20 ⟨rfl, h20⟩
        have hg := gr_then hg h20
        clear h20
        go_wp2_with fail
        refine (HQ3.out _).mono ?_
        rintro _ w21 ⟨rfl, h21⟩
        have hg := gr_then hg h21
        clear h21
        go_wp2_with fail
        refine (HQ4.out _).mono ?_
        rintro _ w22 ⟨rfl, h22⟩
        have hg := gr_then hg h22
        clear h22
        rcases HQ5.out with ⟨rfl, rfl⟩ | ⟨hr, rfl⟩
        · go_wp2
          go_ret
          exact ⟨rfl, hg⟩
        · have hne : (r2.toList == []) = false := by
            rw [beq_eq_false_iff_ne]
            intro e
            have := len_toList r2
            rw [← Lib.toList_data, e] at this
            simp at this; omega
          go_wp2
          go_ret
          exact ⟨rfl, hg⟩
      · have HM1 := Lib.hid M1
        have HM2 := Lib.hid M2
        clear M1 M2
        go_wp2_with fail
        refine (HM1.out _).mono ?_
        rintro _ w17 ⟨rfl, h17⟩
        have hg := gr_then hg h17
        clear h17
        go_wp2_with fail
        refine (HM2.out _).mono ?_
        rintro _ w18 ⟨rfl, h18⟩
        have hg := gr_then hg h18
        clear h18
        go_wp2_with fail
        refine (HQ1.out _).mono ?_
        rintro _ w19 ⟨rfl, h19⟩
        have hg := gr_then hg h19
        clear h19
        go_wp2_with fail
        refine (HQ2.out _).mono ?_
        rintro _ w20 ⟨rfl, h20⟩
        have hg := gr_then hg h20
        clear h20
        go_wp2_with fail
        refine (HQ3.out _).mono ?_
        rintro _ w21 ⟨rfl, h21⟩
        have hg := gr_then hg h21
        clear h21
        go_wp2_with fail
        refine (HQ4.out _).mono ?_
        rintro _ w22 ⟨rfl, h22⟩
        have hg := gr_then hg h22
        clear h22
        rcases HQ5.out with ⟨rfl, rfl⟩ | ⟨hr, rfl⟩
        · go_wp2
          go_ret
          exact ⟨rfl, hg⟩
        · have hne : (r2.toList == []) = false := by
            rw [beq_eq_false_iff_ne]
            intro e
            have := len_toList r2
            rw [← Lib.toList_data, e] at this
            simp at this; omega
          go_wp2
          go_ret
          exact ⟨rfl, hg⟩
end Go.Proofs.YtoadjhmehgkeaaaDoor
namespace Go.Proofs.YtoadjhmehgkeaaaDoor
open Go.ChangeShapes Go.WideShapes Go.ChangeAt Go.RowKit Mth

set_option maxRecDepth 100000 in
theorem pair_arg {H : Type} {enc : TypeId × Value → H} {W : World} {base : Nat} {v : Value} {d : DataW H} {p : List MemPlace} (hok : Value.okWide Tryd.prog W .any base 45 v) (h : DataW.Trod enc Tryd.prog W 0 (fun _ => true) true 45 v d p) : ∃ x y : Nat, v = .agg #[.int .u32 (x : Int), .int .u32 (y : Int)] ∧ x ≤ 4294967295 ∧ y ≤ 4294967295 := by
  obtain ⟨a, b, rfl, h1, h2⟩ := two_arg (P := Tryd.prog) (k := .u32) (e := 44) Tryd.underlying45 Tryd.underlying44 (by kernel_rfl) (by kernel_rfl) hok h
  have a1 : IntKind.u32.min = 0 := rfl
  have a2 : IntKind.u32.max = 4294967295 := rfl
  have w1 : 0 ≤ a ∧ a ≤ 4294967295 := by simpa [Lit.wf, a1, a2] using h1
  have w2 : 0 ≤ b ∧ b ≤ 4294967295 := by simpa [Lit.wf, a1, a2] using h2
  exact ⟨a.toNat, b.toNat, by rw [Int.toNat_of_nonneg w1.1, Int.toNat_of_nonneg w2.1], by omega, by omega⟩
end Go.Proofs.YtoadjhmehgkeaaaDoor
namespace Go.Proofs.YtoadjhmehgkeaaaDoor
open Go.ChangeShapes Go.WideShapes Go.ChangeAt Go.RowKit Mth

set_option maxRecDepth 1000000 in
theorem fermat_laid (os : Os) (args : Array Value) : laidMet Tryd.prog Rows.natFermatRow.laid ((laidWorld os).forCall (fun _ _ => 0) ⟨#[], args, []⟩).memory :=
  have h : LaidIn Tryd.prog ((laidWorld os).forCall (fun _ _ => 0) ⟨#[], args, []⟩).memory Rows.natFermatRow.laid [4, 5, 2] :=
    LaidIn.of_run [4, 5, 2] 8 (by kernel_rfl) (by kernel_rfl) (by kernel_rfl) (by kernel_rfl)
  h.met
theorem fermat_tab {w : World} (h : laidMet Tryd.prog Rows.natFermatRow.laid w) : Tab w :=
  Lib.tabIs_of_head (g := 2) (t := 120) (e := 57) (n := 20) (by kernel_rfl) (by kernel_rfl) (by kernel_rfl) (by kernel_rfl) (by kernel_rfl) (by kernel_rfl) (show laidMet Tryd.prog [("internal/strconv.uint64pow10", Lib.tabData .u64 Lib.pow10Tab)] w from h.tail.tail)

set_option maxRecDepth 1000000 in
set_option maxHeartbeats 4000000 in
theorem fermat_lifted (os : Os) (started : os.Started) (H : Type) (enc : TypeId × Value → H) :
    ReturnsInHanded {} Tryd.checked os 7 .any (fun w args => (Rows.natFermatSpec.pre enc Tryd.prog Tryd.f7 Rows.natFermatRow.domain false w args ∧ laidMet Tryd.prog Rows.natFermatRow.laid w) ∧ sizedMet enc Tryd.prog Tryd.f7 (OpenSpec.ofChange Rows.natFermatSpec) false w args)
      (Rows.natFermatSpec.post enc Tryd.prog Tryd.f7 false true false false) := by
  refine returnsInHanded_of_change_and (C := Tryd.checked) (X := fun w _ => laidMet Tryd.prog Rows.natFermatRow.laid w) (fun _ _ _ hh h => h.of_heap hh) own0 started (by kernel_rfl) Tryd.func7
    (ChangeSpec.witness_at (enc := enc) (C := Tryd.checked) (os := os) (X := fun w _ => laidMet Tryd.prog Rows.natFermatRow.laid w) false (laidWorld os) #[.slice none 0 0, .agg #[.int .u32 0, .int .u32 0], .slice none 0 0] 8 rfl (by kernel_rfl) (by kernel_rfl) (by kernel_rfl) (by kernel_rfl) (by kernel_rfl) (fermat_laid os _)) ?_
  intro W base args ds gs before hval0 hW hcnd0 _ hL _
  have hval : ∀ (j : Nat) t v, Tryd.f7.params[j]? = some t → args[j]? = some v → Value.okWide Tryd.prog W .any base t v := hval0
  have hW' := hW
  obtain ⟨p, q, hA0, hV, rfl, hfz, hnd⟩ := hW
  have hA : DataW.TrodAll enc Tryd.prog W 0 (fun _ => true) true Tryd.f7.params.toList args.toList ds p := hA0
  rw [Tryd.params7] at hA hval
  obtain ⟨v0, v1, v2, d0, d1, d2, p0, p1, p2, rfl, rfl, rfl, h0, h1, h2⟩ := trodAll_three hA
  obtain ⟨rfl, rfl⟩ := trodVars_none hV
  clear hA0 hval0 hA
  simp only [List.append_nil] at hW'
  have k0 := hval 0 22 v0 rfl rfl
  have k1 := hval 1 45 v1 rfl rfl
  have k2 := hval 2 22 v2 rfl rfl
  obtain ⟨b0, m0, s0⟩ := cut_arg 24 (by decide) k0 h0
  obtain ⟨n1a, n1b, rfl, w1a, w1b⟩ := pair_arg k1 h1
  obtain ⟨b2, m2, s2⟩ := cut_arg 24 (by decide) k2 h2
  refine (fermat_true v0 v2 b0 n1a n1b b2 W (fermat_tab hL) m0 m2 s0 w1a w1b s2).mono fun e W' ⟨he, hg⟩ => ?_
  subst he
  have hb : Below W.heap.size W W' := gr_low hg (Nat.le_refl _)
  have hlt : ∀ x ∈ p0 ++ p1 ++ p2, x.block < W.heap.size := fun x hx => by simpa using hW'.lt x hx
  have hl0 : ∀ x ∈ p0, x.block < W.heap.size := fun x hx => hlt x (by simp [hx])
  have hl1 : ∀ x ∈ p1, x.block < W.heap.size := fun x hx => hlt x (by simp [hx])
  have hl2 : ∀ x ∈ p2, x.block < W.heap.size := fun x hx => hlt x (by simp [hx])
  refine ⟨_, rfl, _, _, _, [], p0 ++ p1 ++ p2, [], hW', ?_, ?_, rfl, hb.frame _, fun h => by cases h⟩
  · exact trodAll_mk1 (shut_bool Tryd.underlying4 true)
  · have h3 := trodAll_mk3 (Below.trod laidOut0 (by kernel_rfl) (of_decide_eq_true (by kernel_rfl)) h0 hb hl0) (Below.trod laidOut0 (by kernel_rfl) (of_decide_eq_true (by kernel_rfl)) h1 hb hl1) (Below.trod laidOut0 (by kernel_rfl) (of_decide_eq_true (by kernel_rfl)) h2 hb hl2)
    rw [← List.append_assoc] at h3
    exact h3

theorem fermat_row : Rows.NatFermatSaid :=
  OpenClaim.holds_of_wide 7 Tryd.f7 rfl rfl rfl rfl rfl rfl rfl ⟨rfl, rfl, rfl, rfl, rfl⟩ rfl rfl rfl rfl rfl (by kernel_rfl) Tryd.func7 (by kernel_rfl)
    (of_decide_eq_true (by kernel_rfl)) (by unfold Func.isWrapper; first | (rw [if_pos (by decide +kernel)]; kernel_rfl) | (rw [if_neg (by decide +kernel)]; exact ⟨rfl, rfl⟩))
    (fun os started H enc _ => fermat_lifted os started H enc)
end Go.Proofs.YtoadjhmehgkeaaaDoor
