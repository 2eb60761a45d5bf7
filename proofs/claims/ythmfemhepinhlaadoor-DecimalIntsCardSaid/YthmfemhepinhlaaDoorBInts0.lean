/- The law of the claim at the level of the call, and its row: Dj, Ints, RowN, IntsRow. -/
import Derived.Test.YthmfemhepinhlaaDoorBRounds7
import Derived.Lib.AtoiTie
import Derived.Test.YthmfemhepinhlaaDoorRows
import Derived.ProofKit
import Derived.ChangeSlices
import Derived.LaidLaws
import Derived.Lib.LaidIn
import Derived.Lib.LaidTab
import Derived.Lib.SmallJoins
import Derived.Stop.LaidErr
import Derived.OpenShut
namespace Go.Proofs.YthmfemhepinhlaaDoor
open Go.RowKit Mth Dm

theorem modD_eq (n m : Int) : (n.tmod m + m) % m = n % m := by
  rw [Int.add_emod_right]
  have e := Int.mul_tdiv_add_tmod n m
  conv => rhs; rw [← e, Int.add_comm, Int.add_mul_emod_self_left]
set_option maxRecDepth 100000 in
set_option maxHeartbeats 1000000 in
theorem mod_any (n m : Int) (h : 0 < m) (h2 : m ≤ 1000000) (w : World) :
    Calls Tryd.prog 12 #[.int .i64 n, .int .i64 m] w fun e w' => e = .returned (.int .i64 (n % m)) ∧ w = w' := by
  rw [← modD_eq n m]
  have h0 : (m == 0) = false := by rw [beq_eq_false_iff_ne]; omega
  have hm : ¬ m = 0 := by omega
  have l1 : -m < n.tmod m := Int.lt_tmod_of_pos n h
  have l2 : n.tmod m < m := Int.tmod_lt_of_pos n h
  have l3 : 0 ≤ (n.tmod m + m) % m := Int.emod_nonneg _ (by omega)
  have l4 : (n.tmod m + m) % m < m := Int.emod_lt_of_pos _ h
  have u1 : wrap64 (n.tmod m) = n.tmod m := by unfold wrap64; omega
  have u2 : wrap64 (n.tmod m + m) = n.tmod m + m := by unfold wrap64; omega
  have u3 : wrap64 ((n.tmod m + m) % m) = (n.tmod m + m) % m := by unfold wrap64; omega
  go_enter Tryd.func12, Tryd.ntmps12
  go_wp2
  go_ret
  exact ⟨rfl, rfl⟩
/-- The right decimal of two numbers. -/
def madeD (n s : Int) : Int × Nat := ((fitD (n.tmod 1000000000000001) (s % 7).toNat).1, (fitD (n.tmod 1000000000000001) (s % 7).toNat).2.1)
theorem made_rt (n s : Int) : Dm.Rt (madeD n s) := rt_fit _ _
set_option maxRecDepth 100000 in
theorem made_any (n s : Int) (w : World) : Gives 19 #[.int .i64 n, .int .i64 s] w (.agg #[.int .i64 (madeD n s).1, .int .i64 ((madeD n s).2 : Nat)]) := by
  have l1 : -1000000000000001 < n.tmod 1000000000000001 := Int.lt_tmod_of_pos n (by decide)
  have l2 : n.tmod 1000000000000001 < 1000000000000001 := Int.tmod_lt_of_pos n (by decide)
  have hmk := fun w => qmake_in (n.tmod 1000000000000001) (s % 7).toNat w (by omega) (by omega) (by omega)
  rw [show (((s % 7).toNat : Nat) : Int) = s % 7 from by omega] at hmk
  have u1 : wrap64 (n.tmod 1000000000000001) = n.tmod 1000000000000001 := by unfold wrap64; omega
  unfold madeD
  generalize fitD (n.tmod 1000000000000001) (s % 7).toNat = r at *
  generalize hq : n.tmod 1000000000000001 = q at *
  have HMK := Lib.hid hmk
  clear hmk
  go_enter Tryd.func19, Tryd.ntmps19
  go_wp2_with fail
  refine (mod_any s 7 (by decide) (by decide) _).mono ?_
  rintro e w1 ⟨rfl, rfl⟩
  go_wp2_with fail
  refine (HMK.out _).mono ?_
  rintro e w2 ⟨rfl, g2⟩
  have T := (Two.new w (.int .i64 0) (.int .i64 0) 23).kept g2
  have G := Lib.hid (gr_then (gr_alloc w (.cells #[.int .i64 0, .int .i64 0] 23) none) g2)
  have d0 := T.c0
  have d1 := T.c1
  have f0 := T.fr 0
  have f1 := T.fr 1
  have lt := T.lt
  clear g2
  unfold dres
  go_wp2
  exact bodyPost_ret (v := .agg #[.int .i64 r.1, .int .i64 (r.2.1 : Nat)]) (by simp [results, Tryd.results19, go_sem, d0, d1, lt]) rfl ⟨rfl, gr_then (gr_setn (gr_setn G.out (by omega)) (by omega)) (gr_alloc _ _ none)⟩
end Go.Proofs.YthmfemhepinhlaaDoor
namespace Go.Proofs.YthmfemhepinhlaaDoor
open Go.RowKit Mth Dm

theorem int_fit {m : Int} (h1 : -1000000000000000 ≤ m) (h2 : m ≤ 1000000000000000) : fitD m 0 = (m, 0, true) := by
  rw [fitD_stop (.inl rfl), if_pos ⟨by decide, h1, h2⟩]
theorem int_val {m : Int} (h1 : -1000000000000000 ≤ m) (h2 : m ≤ 1000000000000000) : valD m 0 = (m, 0) :=
  Rt.val (a := (m, 0)) ⟨h1, h2, by show (0 : Nat) ≤ 6; decide, .inl rfl⟩
theorem prod_le {m n : Int} (h1 : -10000000 < m) (h2 : m < 10000000) (h3 : -10000000 < n) (h4 : n < 10000000) : -1000000000000000 ≤ m * n ∧ m * n ≤ 1000000000000000 := by
  have h := Int.natAbs_mul m n
  have hm : m.natAbs ≤ 10000000 := by omega
  have hn : n.natAbs ≤ 10000000 := by omega
  have := Nat.mul_le_mul hm hn
  omega
theorem cmp_lt (m n : Int) : decide (cmpD (m, 0) (n, 0) < 0) = decide (m < n) := by
  unfold cmpD cmpI
  dsimp only
  by_cases h : m < n
  · rw [if_pos (by omega)]; simp [h]
  · rw [if_neg (by omega)]; split <;> simp [h]

theorem ints_add {m n : Int} (h1 : -10000000 < m) (h2 : m < 10000000) (h3 : -10000000 < n) (h4 : n < 10000000) : addD (m, 0) (n, 0) = (m + n, 0, true) := by
  unfold addD
  simpa using int_fit (m := m + n) (by omega) (by omega)
theorem ints_mul {m n : Int} (h1 : -10000000 < m) (h2 : m < 10000000) (h3 : -10000000 < n) (h4 : n < 10000000) : mulD (m, 0) (n, 0) = (m * n, 0, true) := by
  have h := prod_le h1 h2 h3 h4
  unfold mulD
  simpa using int_fit h.1 h.2
theorem dig_val (c : Nat) (hc : c < 10) : Lib.digitVal (UInt8.ofNat (48 + c)) = some c := by
  have h : (UInt8.ofNat (48 + c)).toNat = 48 + c := by rw [UInt8.toNat_ofNat']; exact Nat.mod_eq_of_lt (by omega)
  unfold Lib.digitVal
  rw [h, if_pos (by omega)]
  congr 1; omega
theorem from_snoc (l : List UInt8) (acc n c : Nat) (hc : c < 10) (h : Lib.decFrom acc l = some n) : Lib.decFrom acc (l ++ [UInt8.ofNat (48 + c)]) = some (n * 10 + c) := by
  induction l generalizing acc with
  | nil =>
    simp only [Lib.decFrom, Option.some.injEq] at h
    subst h
    simp only [List.nil_append, Lib.decFrom, dig_val c hc]
  | cons b t ih =>
    simp only [Lib.decFrom, List.cons_append] at h ⊢
    cases hb : Lib.digitVal b with
    | none => rw [hb] at h; cases h
    | some d =>
      rw [hb] at h
      exact ih _ h
theorem from_digits (n : Nat) : Lib.decFrom 0 (Lib.decDigits n) = some n := by
  induction n using Nat.strongRecOn with
  | ind n ih =>
    by_cases h : n < 10
    · rw [Lib.decDigits_one h]
      simp only [Lib.decFrom, dig_val n h]
      congr 1; omega
    · rw [show Lib.decDigits n = Lib.decDigits (n / 10) ++ [UInt8.ofNat (48 + n % 10)] from by rw [Lib.decDigits, dif_neg h], from_snoc _ 0 (n / 10) (n % 10) (by omega) (ih (n / 10) (by omega))]
      congr 1; omega
theorem nat_digits (n : Nat) : Lib.decNat (Lib.decDigits n) = some n := by
  unfold Lib.decNat
  rw [if_neg, from_digits]
  have := dec_pos n
  cases hd : Lib.decDigits n with
  | nil => rw [hd] at this; simp at this
  | cons a l => simp
theorem sp_none (l : List UInt8) (h : l.all isDg = true) : sp l = (l, []) := by
  induction l with
  | nil => rfl
  | cons b l ih =>
    rw [List.all_cons, Bool.and_eq_true] at h
    have hb : ¬ b = 46 := by intro hb; subst hb; exact absurd h.1 (by decide)
    simp only [sp]
    rw [if_neg hb, ih h.2]
theorem parse_text {v : Int} (h1 : -1000000000000000 ≤ v) (h2 : v ≤ 1000000000000000) : parseD (textD (v, 0)) = (v, 0, true) := by
  have hl := dec_len17 (n := v.natAbs) (by omega)
  have hn := nat_digits v.natAbs
  have hs := sp_none _ (dec_all v.natAbs)
  have hp := dec_pos v.natAbs
  have hr : rightD v ((0 : Nat) : Int) = true := Rt.right (a := (v, 0)) ⟨h1, h2, by show (0 : Nat) ≤ 6; decide, .inl rfl⟩
  have key : ∀ L : List UInt8, textD (v, 0) = L → sp L = (L, []) → Lib.atoiAll L = .ok v → parseD L = (v, 0, true) := by
    intro L hL hS hA
    rw [parse_ok (n := v) (by rw [hS]; simpa using hA), hS]
    rw [if_pos ⟨hr, hL⟩]
    rfl
  by_cases hv : v < 0
  · have hT : textD (v, 0) = 45 :: Lib.decDigits v.natAbs := by unfold textD; simp [hv]
    rw [hT]
    refine key _ hT (by simp [sp, hs]) ?_
    rw [Lib.atoiAll_short _ (by simp; omega)]
    simp only [Lib.atoi]
    rw [if_pos (by decide), hn]
    show Lib.NumEnd.ok (-((v.natAbs : Nat) : Int)) = _
    congr 1; omega
  · have hT : textD (v, 0) = Lib.decDigits v.natAbs := by unfold textD; simp [hv]
    rw [hT]
    refine key _ hT hs ?_
    rw [Lib.atoiAll_short _ (by omega)]
    have hh := dec_all v.natAbs
    cases hd : Lib.decDigits v.natAbs with
    | nil => rw [hd] at hp; simp at hp
    | cons a l =>
      rw [hd, List.all_cons, Bool.and_eq_true] at hh
      have ha : ¬ (a == 45) = true := by intro hb; rw [beq_iff_eq] at hb; subst hb; exact absurd hh.1 (by decide)
      have hb : ¬ (a == 43) = true := by intro hb; rw [beq_iff_eq] at hb; subst hb; exact absurd hh.1 (by decide)
      simp only [Lib.atoi]
      rw [if_neg ha, if_neg hb, ← hd, hn]
      show Lib.NumEnd.ok ((v.natAbs : Nat) : Int) = _
      congr 1; omega
set_option maxHeartbeats 8000000 in
set_option maxRecDepth 100000 in
theorem ints_true (m0 n0 : Int) (W : World) (hd : EV W) (_hm : -9223372036854775808 ≤ m0 ∧ m0 ≤ 9223372036854775807) (_hn : -9223372036854775808 ≤ n0 ∧ n0 ≤ 9223372036854775807) :
    Gives 10 #[.int .i64 m0, .int .i64 n0] W (.bool true) := by
  have l1 : -10000000 < m0.tmod 10000000 := Int.lt_tmod_of_pos m0 (by decide)
  have l2 : m0.tmod 10000000 < 10000000 := Int.tmod_lt_of_pos m0 (by decide)
  have l3 : -10000000 < n0.tmod 10000000 := Int.lt_tmod_of_pos n0 (by decide)
  have l4 : n0.tmod 10000000 < 10000000 := Int.tmod_lt_of_pos n0 (by decide)
  generalize hqm : m0.tmod 10000000 = m at l1 l2
  generalize hqn : n0.tmod 10000000 = n at l3 l4
  have hpr := prod_le l1 l2 l3 l4
  have HOF1 := Lib.hid (fun w => (int_fit (m := m) (by omega) (by omega)) ▸ of_any m w (by omega) (by omega) : ∀ w, Gives 16 #[.int .i64 m] w (dres (m, 0, true)))
  have HOF2 := Lib.hid (fun w => (int_fit (m := n) (by omega) (by omega)) ▸ of_any n w (by omega) (by omega) : ∀ w, Gives 16 #[.int .i64 n] w (dres (n, 0, true)))
  have vm := int_val (m := m) (by omega) (by omega)
  have vn := int_val (m := n) (by omega) (by omega)
  have vt := int_val hpr.1 hpr.2
  have hadd := fun w => add_any m 0 n 0 w
  rw [vm, vn, ints_add l1 l2 l3 l4] at hadd
  have hmul := fun w hv => mul_any m 0 n 0 w hv
  rw [vm, vn, ints_mul l1 l2 l3 l4] at hmul
  have hcmp := fun w => cmp_any m 0 n 0 w
  rw [vm, vn] at hcmp
  have hcl := cmp_lt m n
  have htx := fun w ht => text_any (m * n) 0 w ht
  rw [vt] at htx
  have hln := text_len (a := (m * n, 0)) ⟨hpr.1, hpr.2, by show (0 : Nat) ≤ 6; decide, .inl rfl⟩
  have hpa := fun w hd => parse_any ⟨(textD (m * n, 0)).toArray⟩ w (by show (textD (m * n, 0)).toArray.size ≤ 1000; simp; omega) hd
  have hpt := parse_text hpr.1 hpr.2
  rw [show (ByteArray.mk (textD (m * n, 0)).toArray).data.toList = textD (m * n, 0) from rfl, hpt] at hpa
  clear hpt hln vm vn vt
  generalize cmpD (m, 0) (n, 0) = c at hcmp hcl
  generalize (textD (m * n, 0)).toArray = T at htx hpa
  have hs1 : IntKind.i64.wrap (m + n) = m + n := IntWalk.i64_in _ (by omega)
  have hs2 : IntKind.i64.wrap (m * n) = m * n := IntWalk.i64_in _ (by omega)
  have HADD := Lib.hid hadd
  have HMUL := Lib.hid hmul
  have HCMP := Lib.hid hcmp
  have HTX := Lib.hid htx
  have HPA := Lib.hid hpa
  have HCL := Lib.hid hcl
  have HD := Lib.hid hd
  clear hadd hmul hcmp htx hpa hcl hd
  go_enter Tryd.func10, Tryd.ntmps10
  go_wp2_with fail
  refine (sanity_any _ HD.out).mono ?_
  rintro e w1 ⟨rfl, g1⟩
  go_wp2_with fail
  refine (HOF1.out _).mono ?_
  rintro e w2 ⟨rfl, g2⟩
  have T6 := Two.new w2 (.int .i64 m) (.int .i64 0) 23
  have G := gr_then (gr_then g1 g2) (gr_alloc w2 (.cells #[.int .i64 m, .int .i64 0] 23) none)
  unfold dres
  dsimp only
  go_wp2_with fail
  refine (HOF2.out _).mono ?_
  rintro e w3 ⟨rfl, g3⟩
  have T6 := T6.kept g3
  have T8 := Two.new w3 (.int .i64 n) (.int .i64 0) 23
  have T6 := T6.alloc (.cells #[.int .i64 n, .int .i64 0] 23)
  have G := gr_then (gr_then G g3) (gr_alloc w3 (.cells #[.int .i64 n, .int .i64 0] 23) none)
  have c60 := T6.c0
  have c61 := T6.c1
  have c80 := T8.c0
  have c81 := T8.c1
  unfold dres
  dsimp only
  go_wp2_with fail
  refine (HADD.out _).mono ?_
  rintro e w4 ⟨rfl, g4⟩
  have T6 := (T6.kept g4).alloc (.cells #[.int .i64 (m + n), .int .i64 0] 23)
  have T8 := (T8.kept g4).alloc (.cells #[.int .i64 (m + n), .int .i64 0] 23)
  have T10 := Two.new w4 (.int .i64 (m + n)) (.int .i64 0) 23
  have G := gr_then (gr_then G g4) (gr_alloc w4 (.cells #[.int .i64 (m + n), .int .i64 0] 23) none)
  have d60 := T6.c0
  have d61 := T6.c1
  have d80 := T8.c0
  have d81 := T8.c1
  unfold dres
  dsimp only
  go_wp2_with fail
  refine (HMUL.out _ ?_).mono ?_
  · exact (HD.out.grown G).p
  rintro e w5 ⟨rfl, g5⟩
  have T6 := (T6.kept g5).alloc (.cells #[.int .i64 (m * n), .int .i64 0] 23)
  have T8 := (T8.kept g5).alloc (.cells #[.int .i64 (m * n), .int .i64 0] 23)
  have T10 := (T10.kept g5).alloc (.cells #[.int .i64 (m * n), .int .i64 0] 23)
  have T12 := Two.new w5 (.int .i64 (m * n)) (.int .i64 0) 23
  have G := gr_then (gr_then G g5) (gr_alloc w5 (.cells #[.int .i64 (m * n), .int .i64 0] 23) none)
  unfold dres
  dsimp only
  go_wp2_with fail
  have T6 := T6.drew
  have T8 := T8.drew
  have T10 := T10.drew
  have T12 := T12.drew
  have G := gr_then G (gr_drew _ none)
  have e0 := T10.c0
  have e1 := T10.c1
  have e2 := T12.c0
  have e3 := T12.c1
  go_region_held3 (fun w' => w'.cell? ⟨w4.heap.size, 0, none⟩ = some (.int .i64 (m + n)) ∧ w'.cell? ⟨w4.heap.size, 1, none⟩ = some (.int .i64 0) ∧ w'.cell? ⟨w5.heap.size, 0, none⟩ = some (.int .i64 (m * n)) ∧ w'.cell? ⟨w5.heap.size, 1, none⟩ = some (.int .i64 0)) (first | exact ⟨e0, e1, e2, e3⟩ | exact ⟨ca0, ca1, ca2, ca3⟩ | exact ⟨cb0, cb1, cb2, cb3⟩ | go_keep)
    (first
    | (have h__ := ca0; clear h__; go_at_call 34; refine (d_any (m * n) 0 _).mono ?_; rintro e wb ⟨rfl, gb⟩; have hB6 := hA6.kept gb; have hB8 := hA8.kept gb; have hB10 := hA10.kept gb; have hB12 := hA12.kept gb; have gB := gr_then gA gb; have cb0 := hB10.c0; have cb1 := hB10.c1; have cb2 := hB12.c0; have cb3 := hB12.c1)
    | (go_at_call 34; refine (d_any (m + n) 0 _).mono ?_; rintro e wa ⟨rfl, ga⟩; have hA6 := T6.kept ga; have hA8 := T8.kept ga; have hA10 := T10.kept ga; have hA12 := T12.kept ga; have gA := gr_then G ga; have ca0 := hA10.c0; have ca1 := hA10.c1; have ca2 := hA12.c0; have ca3 := hA12.c1))
  all_goals
    go_wp2_with fail
    refine (HTX.out _ (HD.out.grown gB).t).mono ?_
    rintro e w6 ⟨rfl, g6⟩
    have gC := gr_then gB g6
    go_wp2_with fail
    refine (HPA.out _ (HD.out.grown gC)).mono ?_
    rintro e w7 ⟨rfl, g7⟩
    have U6 := (hB6.kept g6).kept g7
    have U8 := (hB8.kept g6).kept g7
    have U12 := (hB12.kept g6).kept g7
    have gD := gr_then (gr_then gC g7) (gr_alloc w7 (.cells #[.int .i64 (m * n), .int .i64 0] 23) none)
    have U14 := Two.new w7 (.int .i64 (m * n)) (.int .i64 0) 23
    have U6 := U6.alloc (.cells #[.int .i64 (m * n), .int .i64 0] 23)
    have U8 := U8.alloc (.cells #[.int .i64 (m * n), .int .i64 0] 23)
    have U12 := U12.alloc (.cells #[.int .i64 (m * n), .int .i64 0] 23)
    have f60 := U6.c0
    have f61 := U6.c1
    have f80 := U8.c0
    have f81 := U8.c1
    have f120 := U12.c0
    have f121 := U12.c1
    have f140 := U14.c0
    have f141 := U14.c1
    unfold dres
    dsimp only
    go_wp2_with fail
    refine (HCMP.out _).mono ?_
    rintro e w8 ⟨rfl, g8⟩
    have gE := gr_then gD g8
    have hcl := HCL.out
    go_wp2
    go_ret
    exact ⟨by simp, gE⟩
end Go.Proofs.YthmfemhepinhlaaDoor
namespace Go.Proofs.YthmfemhepinhlaaDoor
open Go.ChangeShapes Go.WideShapes Go.ChangeAt Go.RowKit Mth

theorem own0 : ownKnob Tryd.prog.godebug = none := by kernel_rfl
theorem laidOut0 : laidOutB Tryd.prog = true := by kernel_rfl

def cellsD : DataW Unit → Array Value
  | .agg l => (l.map fun | .lit (.int k z) => Value.int k z | .lit (.string s) => Value.string ⟨s.toArray⟩ | _ => Value.nilIface).toArray
  | _ => #[]
abbrev synS : ByteArray := { data := #[105, 110, 118, 97, 108, 105, 100, 32, 115, 121, 110, 116, 97, 120] }
abbrev rngS : ByteArray := { data := #[118, 97, 108, 117, 101, 32, 111, 117, 116, 32, 111, 102, 32, 114, 97, 110, 103, 101] }
/-- So many blocks has the settled world. -/
noncomputable def low : Nat := (World.holding Tryd.prog default ⟨#[], #[], []⟩).heap.size
noncomputable def laidWorld (os : Os) : World :=
  let w0 := World.holding Tryd.prog os ⟨#[.cells #[.string synS] 131, .cells #[.string rngS] 131], #[], []⟩
  let put (h : Array Obj) (g : Nat) (cs : Array Value) : Array Obj := h.modify g fun
    | .cells _ t frozen => .cells cs t frozen
    | o => o
  { w0 with heap := put (put (put (put (put (put w0.heap 5 (cellsD Rows.laid_math_bits_deBruijn32tab)) 6 (cellsD Rows.laid_math_bits_deBruijn64tab)) 4 (cellsD Rows.laid_internal_strconv_uint64pow10)) 0 (cellsD Rows.laid_concord_decimal_primes)) 2 #[.iface 129 (.pointer (some ⟨low, 0, none⟩))]) 3 #[.iface 129 (.pointer (some ⟨low + 1, 0, none⟩))] }
abbrev laidL : List (String × DataW Unit) := [("math/bits.deBruijn32tab", Rows.laid_math_bits_deBruijn32tab), ("math/bits.deBruijn64tab", Rows.laid_math_bits_deBruijn64tab), ("internal/strconv.uint64pow10", Rows.laid_internal_strconv_uint64pow10), ("strconv.ErrRange", Rows.laid_strconv_ErrRange), ("strconv.ErrSyntax", Rows.laid_strconv_ErrSyntax), ("concord/decimal.primes", Rows.laid_concord_decimal_primes)]
theorem starE : "*" ++ "errors.errorString" = "*errors.errorString" := by decide
theorem rowE (u : TypeId) (h : Tryd.prog.typeName? 3 u = some "*errors.errorString") : u = 129 :=
  typeName_ptr_named (nm := "errors.errorString") (by rw [starE]; kernel_rfl) (by kernel_rfl) (by decide) u (by rw [starE]; exact h)
theorem gES : Tryd.prog.globalNamed "strconv.ErrSyntax" = some 2 := by kernel_rfl
theorem gER : Tryd.prog.globalNamed "strconv.ErrRange" = some 3 := by kernel_rfl
theorem ev_of {w : World} (h : laidMet Tryd.prog laidL w) : EV w := by
  have hR : laidMet Tryd.prog (("strconv.ErrRange", .iface "*errors.errorString" (.ptr (.agg [.lit (.string [118, 97, 108, 117, 101, 32, 111, 117, 116, 32, 111, 102, 32, 114, 97, 110, 103, 101])]))) :: [("strconv.ErrSyntax", Rows.laid_strconv_ErrSyntax), ("concord/decimal.primes", Rows.laid_concord_decimal_primes)]) w := h.tail.tail.tail
  have hS : laidMet Tryd.prog (("strconv.ErrSyntax", .iface "*errors.errorString" (.ptr (.agg [.lit (.string [105, 110, 118, 97, 108, 105, 100, 32, 115, 121, 110, 116, 97, 120])]))) :: [("concord/decimal.primes", Rows.laid_concord_decimal_primes)]) w := h.tail.tail.tail.tail
  obtain ⟨a0, s0, hv0, -, -, -⟩ := laid_sentinel hR gER (ti := 78) (by kernel_rfl) Tryd.underlying78 rowE Tryd.underlying129 Tryd.underlying131 rfl rfl Tryd.underlying9 (by kernel_rfl) (by kernel_rfl)
  obtain ⟨a1, s1, hv1, -, -, -⟩ := laid_sentinel hS gES (ti := 78) (by kernel_rfl) Tryd.underlying78 rowE Tryd.underlying129 Tryd.underlying131 rfl rfl Tryd.underlying9 (by kernel_rfl) (by kernel_rfl)
  refine ⟨?_, ?_, ⟨_, _, by have h0 := World.var?_cell gES hv1 0; simpa using h0⟩, ⟨_, _, by have h0 := World.var?_cell gER hv0 0; simpa using h0⟩⟩
  · exact Lib.tabIs_of_head (g := 4) (t := 120) (e := 107) (n := 20) (by kernel_rfl) (by kernel_rfl) (by kernel_rfl) (by kernel_rfl) (by kernel_rfl) (by kernel_rfl) (show laidMet Tryd.prog [("internal/strconv.uint64pow10", Lib.tabData .u64 Lib.pow10Tab), ("strconv.ErrRange", Rows.laid_strconv_ErrRange), ("strconv.ErrSyntax", Rows.laid_strconv_ErrSyntax), ("concord/decimal.primes", Rows.laid_concord_decimal_primes)] w from h.tail.tail)
  · exact Lib.tabIs_of_head (g := 0) (t := 39) (e := 3) (n := 2) (by kernel_rfl) (by kernel_rfl) (by kernel_rfl) (by kernel_rfl) (by kernel_rfl) (by kernel_rfl) (show laidMet Tryd.prog [("concord/decimal.primes", Lib.tabData .i64 [2, 5])] w from h.tail.tail.tail.tail.tail)
set_option maxRecDepth 1000000 in
theorem laid_at (os : Os) (args : Array Value) : laidMet Tryd.prog laidL ((laidWorld os).forCall (fun _ _ => 0) ⟨#[], args, []⟩).memory :=
  have h : LaidIn Tryd.prog ((laidWorld os).forCall (fun _ _ => 0) ⟨#[], args, []⟩).memory laidL [5, 6, 4, 3, 2, 0, low, low + 1] :=
    LaidIn.of_run [5, 6, 4, 3, 2, 0, low, low + 1] 8 (by kernel_rfl) (by kernel_rfl) (by kernel_rfl) (by kernel_rfl)
  h.met

set_option maxRecDepth 100000 in
theorem int_arg {H : Type} {enc : TypeId × Value → H} {W : World} {base : Nat} {v : Value} {d : DataW H} {p : List MemPlace} (hok : Value.okWide Tryd.prog W .any base 3 v) (h : DataW.Trod enc Tryd.prog W 0 (fun _ => true) true 3 v d p) : ∃ n : Int, v = .int .i64 n ∧ -9223372036854775808 ≤ n ∧ n ≤ 9223372036854775807 := by
  obtain ⟨n, rfl, _, _, hw⟩ := open_int Tryd.underlying3 hok h
  have a1 : IntKind.i64.min = -9223372036854775808 := rfl
  have a2 : IntKind.i64.max = 9223372036854775807 := rfl
  refine ⟨n, rfl, ?_⟩
  simpa [Lit.wf, a1, a2] using hw
set_option maxRecDepth 100000 in
theorem byte_arg {H : Type} {enc : TypeId × Value → H} {W : World} {base : Nat} {v : Value} {d : DataW H} {p : List MemPlace} (hok : Value.okWide Tryd.prog W .any base 5 v) (h : DataW.Trod enc Tryd.prog W 0 (fun _ => true) true 5 v d p) : ∃ n : Nat, v = .int .u8 (n : Int) ∧ n ≤ 255 := by
  obtain ⟨n, rfl, _, _, hw⟩ := open_int Tryd.underlying5 hok h
  have a1 : IntKind.u8.min = 0 := rfl
  have a2 : IntKind.u8.max = 255 := rfl
  have hb : 0 ≤ n ∧ n ≤ 255 := by simpa [Lit.wf, a1, a2] using hw
  exact ⟨n.toNat, by rw [Int.toNat_of_nonneg hb.1], by omega⟩
set_option maxRecDepth 100000 in
theorem str_arg {H : Type} {enc : TypeId × Value → H} {W : World} {base : Nat} {v : Value} {d : DataW H} {p : List MemPlace} (hok : Value.okWide Tryd.prog W .any base 9 v) (h : DataW.Trod enc Tryd.prog W 0 (fun _ => true) true 9 v d p) : ∃ s : ByteArray, v = .string s ∧ s.size ≤ maxLen := by
  obtain ⟨s, rfl⟩ := okWide_string Tryd.underlying9 hok
  obtain ⟨fuel, hf⟩ := h
  refine ⟨s, rfl, ?_⟩
  cases fuel with
  | zero => simp [DataW.trod] at hf
  | succ n =>
    simp [DataW.trod, Value.cells, Tryd.underlying9] at hf
    exact hf.1
theorem wf_i64 {n : Int} (h : (Lit.int .i64 n).wf = true) : -9223372036854775808 ≤ n ∧ n ≤ 9223372036854775807 := by
  have a1 : IntKind.i64.min = -9223372036854775808 := rfl
  have a2 : IntKind.i64.max = 9223372036854775807 := rfl
  simpa [Lit.wf, a1, a2] using h
theorem wf_u8 {n : Int} (h : (Lit.int .u8 n).wf = true) : ∃ m : Nat, n = (m : Int) ∧ m ≤ 255 := by
  have a1 : IntKind.u8.min = 0 := rfl
  have a2 : IntKind.u8.max = 255 := rfl
  have hb : 0 ≤ n ∧ n ≤ 255 := by simpa [Lit.wf, a1, a2] using h
  exact ⟨n.toNat, by rw [Int.toNat_of_nonneg hb.1], by omega⟩
/-- An argument that is an array of 2 numbers. -/
theorem arr2_arg {P : Program} {k : IntKind} {t e : TypeId} (ht : P.underlying t = some (.array 2 e)) (he : P.underlying e = some (.int k)) (hc : P.cellsOf t = 2) (hce : P.cellsOf e = 1) {H : Type} {enc : TypeId × Value → H} {W : World} {base : Nat} {v : Value} {d : DataW H} {p : List MemPlace} (hok : Value.okWide P W .any base t v) (h : DataW.Trod enc P W 0 (fun _ => true) true t v d p) : ∃ a0 a1 : Int, v = .agg #[.int k a0, .int k a1] ∧ (Lit.int k a0).wf = true ∧ (Lit.int k a1).wf = true := by
  simp only [Value.okWide, ht] at hok
  obtain ⟨cs, rfl, hsz, _⟩ := hok
  obtain ⟨fuel, hf⟩ := h
  rw [hc] at hsz
  obtain ⟨x0, x1, rfl⟩ : ∃ x0 x1, cs = #[x0, x1] := by
    rcases cs with ⟨l⟩
    match l, hsz with
    | [x0, x1], _ => exact ⟨x0, x1, rfl⟩
  obtain ⟨xs, m, _, _, _, hlen, hf2⟩ := DataW.trod_array ht hf
  have h0 := hf2 0 (by decide)
  have h1 := hf2 1 (by decide)
  rw [hce] at h0 h1
  match xs, hlen with
  | [y0, y1], _ =>
    obtain ⟨a0, e0, _, w0⟩ := DataW.trod_int he (x := y0) (by simpa using h0)
    obtain ⟨a1, e1, _, w1⟩ := DataW.trod_int he (x := y1) (by simpa using h1)
    simp [Value.cells] at e0 e1
    exact ⟨a0, a1, by rw [e0, e1], w0, w1⟩
/-- An argument that is an array of 4 numbers. -/
theorem arr4_arg {P : Program} {k : IntKind} {t e : TypeId} (ht : P.underlying t = some (.array 4 e)) (he : P.underlying e = some (.int k)) (hc : P.cellsOf t = 4) (hce : P.cellsOf e = 1) {H : Type} {enc : TypeId × Value → H} {W : World} {base : Nat} {v : Value} {d : DataW H} {p : List MemPlace} (hok : Value.okWide P W .any base t v) (h : DataW.Trod enc P W 0 (fun _ => true) true t v d p) : ∃ a0 a1 a2 a3 : Int, v = .agg #[.int k a0, .int k a1, .int k a2, .int k a3] ∧ (Lit.int k a0).wf = true ∧ (Lit.int k a1).wf = true ∧ (Lit.int k a2).wf = true ∧ (Lit.int k a3).wf = true := by
  simp only [Value.okWide, ht] at hok
  obtain ⟨cs, rfl, hsz, _⟩ := hok
  obtain ⟨fuel, hf⟩ := h
  rw [hc] at hsz
  obtain ⟨x0, x1, x2, x3, rfl⟩ : ∃ x0 x1 x2 x3, cs = #[x0, x1, x2, x3] := by
    rcases cs with ⟨l⟩
    match l, hsz with
    | [x0, x1, x2, x3], _ => exact ⟨x0, x1, x2, x3, rfl⟩
  obtain ⟨xs, m, _, _, _, hlen, hf2⟩ := DataW.trod_array ht hf
  have h0 := hf2 0 (by decide)
  have h1 := hf2 1 (by decide)
  have h2 := hf2 2 (by decide)
  have h3 := hf2 3 (by decide)
  rw [hce] at h0 h1 h2 h3
  match xs, hlen with
  | [y0, y1, y2, y3], _ =>
    obtain ⟨a0, e0, _, w0⟩ := DataW.trod_int he (x := y0) (by simpa using h0)
    obtain ⟨a1, e1, _, w1⟩ := DataW.trod_int he (x := y1) (by simpa using h1)
    obtain ⟨a2, e2, _, w2⟩ := DataW.trod_int he (x := y2) (by simpa using h2)
    obtain ⟨a3, e3, _, w3⟩ := DataW.trod_int he (x := y3) (by simpa using h3)
    simp [Value.cells] at e0 e1 e2 e3
    exact ⟨a0, a1, a2, a3, by rw [e0, e1, e2, e3], w0, w1, w2, w3⟩
set_option maxRecDepth 100000 in
theorem dec_arg {H : Type} {enc : TypeId × Value → H} {W : World} {base : Nat} {v : Value} {d : DataW H} {p : List MemPlace} (hok : Value.okWide Tryd.prog W .any base 23 v) (h : DataW.Trod enc Tryd.prog W 0 (fun _ => true) true 23 v d p) : ∃ a0 a1 : Int, v = .agg #[.int .i64 a0, .int .i64 a1] ∧ (Lit.int .i64 a0).wf = true ∧ (Lit.int .i64 a1).wf = true := by
  obtain ⟨v0, v1, y0, y1, n, rfl, _, _, h0, h1⟩ := Joins.open_agg2 Tryd.underlying23 (by kernel_rfl) (by kernel_rfl) hok h
  obtain ⟨a0, e0, _, w0⟩ := DataW.trod_int Tryd.underlying3 h0
  obtain ⟨a1, e1, _, w1⟩ := DataW.trod_int Tryd.underlying3 h1
  simp at e0 e1
  exact ⟨a0, a1, by rw [e0, e1], w0, w1⟩
/-- An argument that is three pairs of numbers. -/
theorem arr32_arg {P : Program} {k : IntKind} {t e2 e : TypeId} (ht : P.underlying t = some (.array 3 e2)) (ht2 : P.underlying e2 = some (.array 2 e)) (he : P.underlying e = some (.int k)) (hc : P.cellsOf t = 6) (hc2 : P.cellsOf e2 = 2) (hce : P.cellsOf e = 1) {H : Type} {enc : TypeId × Value → H} {W : World} {base : Nat} {v : Value} {d : DataW H} {p : List MemPlace} (hok : Value.okWide P W .any base t v) (h : DataW.Trod enc P W 0 (fun _ => true) true t v d p) : ∃ a0 a1 a2 a3 a4 a5 : Int, v = .agg #[.int k a0, .int k a1, .int k a2, .int k a3, .int k a4, .int k a5] ∧ (Lit.int k a0).wf = true ∧ (Lit.int k a1).wf = true ∧ (Lit.int k a2).wf = true ∧ (Lit.int k a3).wf = true ∧ (Lit.int k a4).wf = true ∧ (Lit.int k a5).wf = true := by
  simp only [Value.okWide, ht] at hok
  obtain ⟨cs, rfl, hsz, _⟩ := hok
  obtain ⟨fuel, hf⟩ := h
  rw [hc] at hsz
  obtain ⟨x0, x1, x2, x3, x4, x5, rfl⟩ : ∃ x0 x1 x2 x3 x4 x5, cs = #[x0, x1, x2, x3, x4, x5] := by
    rcases cs with ⟨l⟩
    match l, hsz with
    | [x0, x1, x2, x3, x4, x5], _ => exact ⟨x0, x1, x2, x3, x4, x5, rfl⟩
  obtain ⟨xs, m, _, _, _, hlen, hf2⟩ := DataW.trod_array ht hf
  have h0 := hf2 0 (by decide)
  have h1 := hf2 1 (by decide)
  have h2 := hf2 2 (by decide)
  rw [hc2] at h0 h1 h2
  match xs, hlen with
  | [y0, y1, y2], _ =>
    have key : ∀ {c0 c1 : Value} {y}, DataW.trod enc P W 0 (fun _ => true) true m e2 [c0, c1] = some y → ∃ b0 b1 : Int, c0 = .int k b0 ∧ c1 = .int k b1 ∧ (Lit.int k b0).wf = true ∧ (Lit.int k b1).wf = true := by
      intro c0 c1 y hy
      obtain ⟨zs, m', _, _, _, hl2, hg⟩ := DataW.trod_array ht2 hy
      have g0 := hg 0 (by decide)
      have g1 := hg 1 (by decide)
      rw [hce] at g0 g1
      match zs, hl2 with
      | [z0, z1], _ =>
        obtain ⟨b0, e0, _, w0⟩ := DataW.trod_int he (x := z0) (by simpa using g0)
        obtain ⟨b1, e1, _, w1⟩ := DataW.trod_int he (x := z1) (by simpa using g1)
        simp at e0 e1
        exact ⟨b0, b1, e0, e1, w0, w1⟩
    obtain ⟨a0, a1, rfl, rfl, w0, w1⟩ := key (y := y0) (by simpa [Value.cells] using h0)
    obtain ⟨a2, a3, rfl, rfl, w2, w3⟩ := key (y := y1) (by simpa [Value.cells] using h1)
    obtain ⟨a4, a5, rfl, rfl, w4, w5⟩ := key (y := y2) (by simpa [Value.cells] using h2)
    exact ⟨a0, a1, a2, a3, a4, a5, rfl, w0, w1, w2, w3, w4, w5⟩
theorem gr_low {w w' : World} (hg : w.grownBy w' none) : Below w.heap.size w w' := ⟨hg.os, hg.tape, hg.output, hg.size, fun k hk => hg.block k hk (by simp)⟩
end Go.Proofs.YthmfemhepinhlaaDoor
namespace Go.Proofs.YthmfemhepinhlaaDoor
open Go.ChangeShapes Go.WideShapes Go.ChangeAt Go.RowKit Mth

set_option maxRecDepth 1000000 in
set_option maxHeartbeats 4000000 in
theorem ints_lifted (os : Os) (started : os.Started) (H : Type) (enc : TypeId × Value → H) :
    ReturnsInHanded {} Tryd.checked os 10 .any (fun w args => (Rows.decimalIntsSpec.pre enc Tryd.prog Tryd.f10 Rows.decimalIntsRow.domain false w args ∧ laidMet Tryd.prog Rows.decimalIntsRow.laid w) ∧ sizedMet enc Tryd.prog Tryd.f10 (OpenSpec.ofChange Rows.decimalIntsSpec) false w args)
      (Rows.decimalIntsSpec.post enc Tryd.prog Tryd.f10 false true false false) := by
  refine returnsInHanded_of_change_and (C := Tryd.checked) (X := fun w _ => laidMet Tryd.prog Rows.decimalIntsRow.laid w) (fun _ _ _ hh h => h.of_heap hh) own0 started (by kernel_rfl) Tryd.func10
    (ChangeSpec.witness_at (enc := enc) (C := Tryd.checked) (os := os) (X := fun w _ => laidMet Tryd.prog Rows.decimalIntsRow.laid w) false (laidWorld os) #[.int .i64 0, .int .i64 0] 8 rfl (by kernel_rfl) (by kernel_rfl) (by kernel_rfl) (by kernel_rfl) (by kernel_rfl) (laid_at os _)) ?_
  intro W base args ds gs before hval0 hW hcnd0 _ hL _
  have hval : ∀ (j : Nat) t v, Tryd.f10.params[j]? = some t → args[j]? = some v → Value.okWide Tryd.prog W .any base t v := hval0
  have hW' := hW
  obtain ⟨p, q, hA0, hV, rfl, hfz, hnd⟩ := hW
  have hA : DataW.TrodAll enc Tryd.prog W 0 (fun _ => true) true Tryd.f10.params.toList args.toList ds p := hA0
  rw [Tryd.params10] at hA hval
  obtain ⟨v0, v1, d0, d1, p0, p1, rfl, rfl, rfl, h0, h1⟩ := trodAll_two hA
  obtain ⟨rfl, rfl⟩ := trodVars_none hV
  clear hA0 hval0 hA
  simp only [List.append_nil] at hW'
  have k0 := hval 0 3 v0 rfl rfl
  have k1 := hval 1 3 v1 rfl rfl
  obtain ⟨n0, rfl, w0⟩ := int_arg k0 h0
  obtain ⟨n1, rfl, w1⟩ := int_arg k1 h1
  refine (ints_true n0 n1 W (ev_of hL) w0 w1).mono fun e W' ⟨he, hg⟩ => ?_
  subst he
  have hb : Below W.heap.size W W' := gr_low hg
  have hlt : ∀ x ∈ p0 ++ p1, x.block < W.heap.size := fun x hx => by simpa using hW'.lt x hx
  have hl0 : ∀ x ∈ p0, x.block < W.heap.size := fun x hx => hlt x (by simp [hx])
  have hl1 : ∀ x ∈ p1, x.block < W.heap.size := fun x hx => hlt x (by simp [hx])
  refine ⟨_, rfl, _, _, _, [], p0 ++ p1, [], hW', ?_, ?_, rfl, hb.frame _, fun h => by cases h⟩
  · exact trodAll_mk1 (shut_bool Tryd.underlying4 true)
  · have h3 := trodAll_mk2 (Below.trod laidOut0 (by kernel_rfl) (of_decide_eq_true (by kernel_rfl)) h0 hb hl0) (Below.trod laidOut0 (by kernel_rfl) (of_decide_eq_true (by kernel_rfl)) h1 hb hl1)
    exact h3

theorem ints_row : Rows.DecimalIntsSaid :=
  OpenClaim.holds_of_wide 10 Tryd.f10 rfl rfl rfl rfl rfl rfl rfl ⟨rfl, rfl, rfl, rfl, rfl⟩ rfl rfl rfl rfl rfl (by kernel_rfl) Tryd.func10 (by kernel_rfl)
    (of_decide_eq_true (by kernel_rfl)) (by unfold Func.isWrapper; first | (rw [if_pos (by decide +kernel)]; kernel_rfl) | (rw [if_neg (by decide +kernel)]; exact ⟨rfl, rfl⟩))
    (fun os started H enc _ => ints_lifted os started H enc)
end Go.Proofs.YthmfemhepinhlaaDoor
