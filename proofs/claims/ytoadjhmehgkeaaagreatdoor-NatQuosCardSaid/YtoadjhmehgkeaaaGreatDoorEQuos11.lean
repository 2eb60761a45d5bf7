/- Contracts of package nat and of the reference, part 11: Quos, RowK, QuosRow. -/
import Derived.Test.YtoadjhmehgkeaaaGreatDoorEQuos10
import Derived.Test.YtoadjhmehgkeaaaGreatDoorRows
import Derived.ProofKit
import Derived.ChangeSlices
import Derived.LaidLaws
import Derived.Lib.LaidIn
import Derived.Lib.LaidTab
import Derived.Stop.LaidErr
import Derived.OpenShut
namespace Go.Proofs.YtoadjhmehgkeaaaGreatDoor
open Go.RowKit Mth

/-- Both divisions give the same of two numbers. -/
def SameQ (p q : ByteArray) : Prop := ∃ (x y : ByteArray) (b : Bool), (∀ w, Gives 26 #[.string p, .string q] w (.tuple #[.string x, .string y, .bool b])) ∧ (∀ w, Gives 27 #[.string p, .string q] w (.tuple #[.string x, .string y, .bool b]))
theorem sameQ (p q : ByteArray) (h1 : p.size ≤ 1000000000) (h2 : q.size ≤ 1000000000) : SameQ p q := by
  rcases Nat.eq_zero_or_pos (num q.data.toList) with h | h
  · exact ⟨_, _, _, fun w => s_quo0 p q w h (by omega), fun w => s_rquo0 p q w h h2⟩
  · exact ⟨_, _, _, fun w => s_quo p q _ _ w rfl rfl h (by omega) (by omega), fun w => s_rquo p q _ _ w rfl rfl h h1 h2⟩

set_option maxHeartbeats 4000000 in
set_option maxRecDepth 100000 in
theorem quos_true (vx vy : Value) (a b : ByteArray) (n : Nat) (w : World) (htab : Tab w) (hx : MadeAs w vx a) (hy : MadeAs w vy b) (hsa : a.size ≤ 40) (hsb : b.size ≤ 40) (hn : n ≤ 255) :
    Gives 4 #[vx, vy, .int .u8 (n : Int)] w (.bool true) := by
  obtain ⟨A, hA⟩ : ∃ A, num a.data.toList = A := ⟨_, rfl⟩
  obtain ⟨B, hB⟩ : ∃ B, num b.data.toList = B := ⟨_, rfl⟩
  have pa := bnum a hsa
  have pb := bnum b hsb
  rw [hA] at pa
  rw [hB] at pb
  have HA := Lib.hid hA
  have HB := Lib.hid hB
  have HAB := Lib.hid (sz_mul pa pb)
  have HABn : A * B + n < 256 ^ 200 := by
    have h2 : 256 ^ 40 * 256 ^ 40 + 255 < 256 ^ 200 := by decide
    have h3 := Nat.mul_lt_mul'' pa pb
    omega
  have HABN := Lib.hid HABn
  clear hA hB pa pb HABn
  go_enter Tryz.func4, Tryz.ntmps4
  go_wp2_with fail
  refine (sanity_true _ htab).mono ?_
  rintro e w0 ⟨rfl, h0⟩
  have hg := h0
  go_wp2_with fail
  refine (hx _ hg).mono ?_
  rintro e w1 ⟨rfl, rfl⟩
  go_wp2_with fail
  refine (hy _ hg).mono ?_
  rintro e w2 ⟨rfl, rfl⟩
  go_wp2_with fail
  refine (s_rmul a b A B _ HA.out HB.out (by omega) (by omega)).mono ?_
  rintro e w3 ⟨rfl, h3⟩
  have hg := gr_then hg h3
  clear h3
  go_wp2_with fail
  refine (rof_any n _ (by omega)).mono ?_
  rintro e w4 ⟨rfl, h4⟩
  have hg := gr_then hg h4
  clear h4
  rw [show (⟨(enc n).toArray⟩ : ByteArray) = S n from rfl]
  go_wp2_with fail
  refine (s_radd (S (A * B)) (S n) (A * B) n _ (s_num _) (s_num _) (s_size9 HAB.out) (s_size9 (Nat.lt_of_le_of_lt hn (by decide)))).mono ?_
  rintro e w5 ⟨rfl, h5⟩
  have hg := gr_then hg h5
  clear h5
  go_wp2_with fail
  refine (s_rmul a b A B _ HA.out HB.out (by omega) (by omega)).mono ?_
  rintro e w6 ⟨rfl, h6⟩
  have hg := gr_then hg h6
  clear h6
  go_wp2_with fail
  refine (rof_any n _ (by omega)).mono ?_
  rintro e w7 ⟨rfl, h7⟩
  have hg := gr_then hg h7
  clear h7
  rw [show (⟨(enc n).toArray⟩ : ByteArray) = S n from rfl]
  have hsub : ∃ (x : ByteArray) (o : Bool), x.size ≤ 1000000000 ∧ Gives 17 #[.string (S (A * B)), .string (S n)] w7 (.tuple #[.string x, .bool o]) := by
    rcases Nat.lt_or_ge (A * B) n with h | h
    · exact ⟨_, _, by decide, s_rsub0 (S (A * B)) (S n) (A * B) n w7 (s_num _) (s_num _) (s_size9 HAB.out) (s_size9 (Nat.lt_of_le_of_lt hn (by decide))) h⟩
    · exact ⟨_, _, s_size9 (Nat.lt_of_le_of_lt (Nat.sub_le _ _) HAB.out), s_rsub (S (A * B)) (S n) (A * B) n w7 (s_num _) (s_num _) (s_size9 HAB.out) (s_size9 (Nat.lt_of_le_of_lt hn (by decide))) h⟩
  obtain ⟨lo, o, hlo, hsub⟩ := hsub
  have HSUB := Lib.hid hsub
  clear hsub
  go_wp2_with fail
  refine HSUB.out.mono ?_
  rintro e w8 ⟨rfl, h8⟩
  have hg := gr_then hg h8
  clear h8
  have hnear : (S (A * B + n)).size ≤ 1000000000 := s_size9 HABN.out
  generalize S (A * B + n) = nr at hnear
  obtain ⟨W0, hW0⟩ : ∃ W0 : World, W0 = (w8.alloc (.cells #[.string ⟨#[127, 255, 255, 255, 128, 0, 0, 0, 0, 0, 0, 0, 0, 0, 0, 0]⟩, .string ⟨#[128, 0, 0, 0, 0, 0, 0, 0, 0, 0, 0, 1]⟩] 26)).alloc (.cells #[.string a, .string b, .string b, .string a, .string nr, .string b, .string lo, .string b, .string nr, .string a, .string ⟨#[127, 255, 255, 255, 128, 0, 0, 0, 0, 0, 0, 0, 0, 0, 0, 0]⟩, .string ⟨#[128, 0, 0, 0, 0, 0, 0, 0, 0, 0, 0, 1]⟩, .string (⟨#[127, 255, 255, 255, 128, 0, 0, 0, 0, 0, 0, 0, 0, 0, 0, 0]⟩ ++ a), .string (⟨#[128, 0, 0, 0, 0, 0, 0, 0, 0, 0, 0, 1]⟩ ++ b)] 26) := ⟨_, rfl⟩
  have hpair : ∀ i, i < 7 → ∃ p q : ByteArray, W0.cell? ⟨w8.heap.size + 1, i * 2, none⟩ = some (.string p) ∧ W0.cell? ⟨w8.heap.size + 1, i * 2 + 1, none⟩ = some (.string q) ∧ p.size ≤ 1000000000 ∧ q.size ≤ 1000000000 := by
    have key : ∀ (t u : TypeId) (xs ys : Array Value) (j : Nat), ((w8.alloc (.cells xs t)).alloc (.cells ys u)).cell? ⟨w8.heap.size + 1, j, none⟩ = ys[j]? := fun t u xs ys j => by
      have := cell_of_row ((w8.alloc (.cells xs t)).alloc (.cells ys u)) (w8.heap.size + 1) j ys u (0, 0) (by have := heap_alloc_new (w8.alloc (.cells xs t)) (.cells ys u); simpa using this)
      exact this
    rw [hW0]
    intro i hi
    rcases i with _ | _ | _ | _ | _ | _ | _ | i
    · exact ⟨a, b, by rw [key]; rfl, by rw [key]; rfl, by omega, by omega⟩
    · exact ⟨b, a, by rw [key]; rfl, by rw [key]; rfl, by omega, by omega⟩
    · exact ⟨nr, b, by rw [key]; rfl, by rw [key]; rfl, by omega, by omega⟩
    · exact ⟨lo, b, by rw [key]; rfl, by rw [key]; rfl, by omega, by omega⟩
    · exact ⟨nr, a, by rw [key]; rfl, by rw [key]; rfl, by omega, by omega⟩
    · exact ⟨_, _, by rw [key]; rfl, by rw [key]; rfl, by decide, by decide⟩
    · refine ⟨_, _, by rw [key]; rfl, by rw [key]; rfl, ?_, ?_⟩
      · rw [ByteArray.size_append]; show 16 + a.size ≤ _; omega
      · rw [ByteArray.size_append]; show 12 + b.size ≤ _; omega
    · omega
  have hgw : w.grownBy W0 none := by
    rw [hW0]; exact gr_then hg (gr_then (gr_alloc w8 _ none) (gr_alloc (w8.alloc _) _ none))
  go_wp2
  rw [← hW0]
  generalize w8.heap.size + 1 = G at hpair ⊢
  have HP := Lib.hid hpair
  clear hW0 hpair
  go_loopw [72] (fun kv wr => ∃ k : Nat, k ≤ 7 ∧ kv = .int .i64 k ∧ W0.grownBy wr none) (fun kv _ => 7 - (intOf kv).toNat)
  case atStart => exact ⟨0, by omega, rfl, World.grownBy.refl _ _⟩
  case round =>
    obtain ⟨k, hk, rfl, hgr⟩ := hrel
    by_cases hlt : k < 7
    · obtain ⟨p, q, hc0, hc1, hp, hq⟩ := HP.out k hlt
      have hc0 := hgr.cell hc0 (by simp)
      have hc1 := hgr.cell hc1 (by simp)
      obtain ⟨x, y, o2, hn1, hn2⟩ := sameQ p q hp hq
      have HN1 := Lib.hid hn1
      have HN2 := Lib.hid hn2
      clear hn1 hn2
      have hcp0 : (wr.alloc (.cells #[.string p, .string q] 26)).cell? ⟨wr.heap.size, 0, none⟩ = some (.string p) := by rw [cell_of_row _ _ _ _ _ (0, 0) (heap_alloc_new wr _)]; rfl
      have hcq0 : (wr.alloc (.cells #[.string p, .string q] 26)).cell? ⟨wr.heap.size, 1, none⟩ = some (.string q) := by rw [cell_of_row _ _ _ _ _ (0, 0) (heap_alloc_new wr _)]; rfl
      go_wp2_with fail
      refine (HN1.out _).mono ?_
      rintro e w9 ⟨rfl, h9⟩
      have hcp := h9.cell hcp0 (by simp)
      have hcq := h9.cell hcq0 (by simp)
      have hg9 := gr_then hgr (gr_then (gr_alloc wr _ none) h9)
      clear h9 hcp0 hcq0 hc0 hc1
      go_wp2_with fail
      refine (HN2.out _).mono ?_
      rintro e w10 ⟨rfl, h10⟩
      have hg10 := gr_then hg9 h10
      clear h10 hg9
      go_wp2
      exact ⟨⟨k + 1, by omega, by go_num, hg10⟩, by simp [intOf]; omega⟩
    · obtain rfl : k = 7 := by omega
      go_wp2
      go_ret
      exact ⟨rfl, gr_then hgw hgr⟩
end Go.Proofs.YtoadjhmehgkeaaaGreatDoor
namespace Go.Proofs.YtoadjhmehgkeaaaGreatDoor
open Go.ChangeShapes Go.WideShapes Go.ChangeAt Go.RowKit Mth

theorem own0 : ownKnob Tryz.prog.godebug = none := by kernel_rfl
theorem laidOut0 : laidOutB Tryz.prog = true := by kernel_rfl
theorem cellsU8 : Tryz.prog.cellsOf 5 = 1 := by kernel_rfl

def u8of (zs : List Int) (m : Nat) : List UInt8 := (zs.take m).map fun z => UInt8.ofNat z.toNat
set_option maxRecDepth 100000 in
theorem made_at (a : Addr) (len cap m : Nat) (zs : List Int) (w : World) (hl : len ≤ cap) (hm : cap ≤ maxLen) (hz : zs.length = cap) (hcell : ∀ i, i < zs.length → w.cell? (a.add i) = some (.int .u8 (zs.getD i 0))) (hw : ∀ n ∈ zs, (Lit.int .u8 n).wf = true) (hmin : m = min len 40) :
    Calls Tryz.prog 15 #[.slice (some a) len cap] w fun e w' => e = .returned (.string ⟨(u8of zs m).toArray⟩) ∧ w = w' := by
  unfold maxLen at hm
  have hm1 : min (len : Int) 40 = (m : Int) := by omega
  have hm2 : m ≤ cap := by omega
  have hlen : (u8of zs m).length = m := by unfold u8of; simp; omega
  have hcv := run_convert_bytes_back (P := Tryz.prog) w 22 24 5 a cap (u8of zs m) Tryz.underlying22 Tryz.underlying5 Tryz.underlying24 (fun j hj => by
    rw [hlen] at hj
    rw [hcell j (by omega)]
    have h1 : j < zs.length := by omega
    have hwf := hw zs[j] (List.getElem_mem _)
    have w1 : 0 ≤ zs[j] ∧ zs[j] ≤ 255 := by
      have a1 : IntKind.u8.min = 0 := rfl
      have a2 : IntKind.u8.max = 255 := rfl
      simpa [Lit.wf, a1, a2] using hwf
    have e : (u8of zs m)[j]'(by rw [hlen]; exact hj) = UInt8.ofNat zs[j].toNat := by unfold u8of; simp
    rw [e]
    have e2 : zs.getD j 0 = zs[j] := by simp [List.getD, h1]
    rw [e2]
    have e3 : (UInt8.ofNat zs[j].toNat).toNat = zs[j].toNat := by simp; omega
    rw [e3]
    congr 2
    omega)
  rw [hlen] at hcv
  generalize (⟨(u8of zs m).toArray⟩ : ByteArray) = str at hcv
  clear hcell hw hz hmin hlen
  go_enter Tryz.func15, Tryz.ntmps15
  go_wp2
  go_ret
  exact ⟨rfl, rfl⟩

theorem made_as (a : Addr) (len cap : Nat) (zs : List Int) (w : World) (hl : len ≤ cap) (hm : cap ≤ maxLen) (hz : zs.length = cap) (hcell : ∀ i, i < zs.length → w.cell? (a.add i) = some (.int .u8 (zs.getD i 0))) (hw : ∀ n ∈ zs, (Lit.int .u8 n).wf = true) : ∃ b : ByteArray, MadeAs w (.slice (some a) len cap) b ∧ b.size ≤ 40 := by
  refine ⟨⟨(u8of zs (min len 40)).toArray⟩, fun w' hg => made_at a len cap _ zs w' hl hm hz (fun i hi => hg.cell (hcell i hi) (by simp)) hw rfl, ?_⟩
  show (u8of zs (min len 40)).toArray.size ≤ 40
  unfold u8of
  simp
  omega
theorem made_as_nil (w : World) : ∃ b : ByteArray, MadeAs w (.slice none 0 0) b ∧ b.size ≤ 40 := ⟨⟨#[]⟩, fun w' _ => made_nil w', by decide⟩

def cellsD : DataW Unit → Array Value
  | .agg l => (l.map fun | .lit (.int k z) => Value.int k z | _ => Value.nilIface).toArray
  | _ => #[]
noncomputable def laidWorld (os : Os) : World :=
  let w0 := World.holding Tryz.prog os ⟨#[], #[], []⟩
  let put (h : Array Obj) (g : Nat) (cs : Array Value) : Array Obj := h.modify g fun
    | .cells _ t frozen => .cells cs t frozen
    | o => o
  { w0 with heap := put (put (put w0.heap 4 (cellsD Rows.laid_math_bits_deBruijn32tab)) 5 (cellsD Rows.laid_math_bits_deBruijn64tab)) 2 (cellsD Rows.laid_internal_strconv_uint64pow10) }

set_option maxRecDepth 100000 in
/-- An argument of bytes. -/
theorem bytes_arg {H : Type} {enc : TypeId × Value → H} {W : World} {base : Nat} {v : Value} {d : DataW H} {p : List MemPlace} (hok : Value.okWide Tryz.prog W .any base 22 v) (h : DataW.Trod enc Tryz.prog W 0 (fun _ => true) true 22 v d p) : ∃ b : ByteArray, MadeAs W v b ∧ b.size ≤ 40 := by
  obtain ⟨a0, len, cap, rfl⟩ := okWide_slice Tryz.underlying22 hok
  obtain ⟨fuel, hf⟩ := h
  rcases open_ints Tryz.underlying22 Tryz.underlying5 cellsU8 hf with ⟨hcs, hx⟩ | ⟨a, len', cap', zs, hcs, _, hl, hm, hz, hx, hcell, hwz⟩
  · simp [Value.cells] at hcs
    obtain ⟨rfl, rfl, rfl⟩ := hcs
    exact made_as_nil W
  · simp [Value.cells] at hcs
    obtain ⟨rfl, rfl, rfl⟩ := hcs
    simp only [if_true] at hz
    exact made_as a len cap zs W hl hm hz hcell hwz
set_option maxRecDepth 100000 in
theorem int_arg {H : Type} {enc : TypeId × Value → H} {W : World} {base : Nat} {v : Value} {d : DataW H} {p : List MemPlace} (hok : Value.okWide Tryz.prog W .any base 3 v) (h : DataW.Trod enc Tryz.prog W 0 (fun _ => true) true 3 v d p) : ∃ n : Int, v = .int .i64 n ∧ -9223372036854775808 ≤ n ∧ n ≤ 9223372036854775807 := by
  obtain ⟨n, rfl, _, _, hw⟩ := open_int Tryz.underlying3 hok h
  have a1 : IntKind.i64.min = -9223372036854775808 := rfl
  have a2 : IntKind.i64.max = 9223372036854775807 := rfl
  refine ⟨n, rfl, ?_⟩
  simpa [Lit.wf, a1, a2] using hw
set_option maxRecDepth 100000 in
theorem byte_arg {H : Type} {enc : TypeId × Value → H} {W : World} {base : Nat} {v : Value} {d : DataW H} {p : List MemPlace} (hok : Value.okWide Tryz.prog W .any base 5 v) (h : DataW.Trod enc Tryz.prog W 0 (fun _ => true) true 5 v d p) : ∃ n : Nat, v = .int .u8 (n : Int) ∧ n ≤ 255 := by
  obtain ⟨n, rfl, _, _, hw⟩ := open_int Tryz.underlying5 hok h
  have a1 : IntKind.u8.min = 0 := rfl
  have a2 : IntKind.u8.max = 255 := rfl
  have hb : 0 ≤ n ∧ n ≤ 255 := by simpa [Lit.wf, a1, a2] using hw
  exact ⟨n.toNat, by rw [Int.toNat_of_nonneg hb.1], by omega⟩
set_option maxRecDepth 100000 in
theorem str_arg {H : Type} {enc : TypeId × Value → H} {W : World} {base : Nat} {v : Value} {d : DataW H} {p : List MemPlace} (hok : Value.okWide Tryz.prog W .any base 9 v) (h : DataW.Trod enc Tryz.prog W 0 (fun _ => true) true 9 v d p) : ∃ s : ByteArray, v = .string s ∧ s.size ≤ maxLen := by
  obtain ⟨s, rfl⟩ := okWide_string Tryz.underlying9 hok
  obtain ⟨fuel, hf⟩ := h
  refine ⟨s, rfl, ?_⟩
  cases fuel with
  | zero => simp [DataW.trod] at hf
  | succ n =>
    simp [DataW.trod, Value.cells, Tryz.underlying9] at hf
    exact hf.1
/-- An argument that is an array of two numbers. -/
theorem two_arg {P : Program} {k : IntKind} {t e : TypeId} (ht : P.underlying t = some (.array 2 e)) (he : P.underlying e = some (.int k)) (hc : P.cellsOf t = 2) (hce : P.cellsOf e = 1) {H : Type} {enc : TypeId × Value → H} {W : World} {base : Nat} {v : Value} {d : DataW H} {p : List MemPlace} (hok : Value.okWide P W .any base t v) (h : DataW.Trod enc P W 0 (fun _ => true) true t v d p) : ∃ a b : Int, v = .agg #[.int k a, .int k b] ∧ (Lit.int k a).wf = true ∧ (Lit.int k b).wf = true := by
  simp only [Value.okWide, ht] at hok
  obtain ⟨cs, rfl, hsz, _⟩ := hok
  obtain ⟨fuel, hf⟩ := h
  rw [hc] at hsz
  obtain ⟨x, y, rfl⟩ : ∃ x y, cs = #[x, y] := by
    rcases cs with ⟨l⟩
    match l, hsz with
    | [x, y], _ => exact ⟨x, y, rfl⟩
  obtain ⟨xs, m, _, _, _, hlen, hf2⟩ := DataW.trod_array ht hf
  have h0 := hf2 0 (by decide)
  have h1 := hf2 1 (by decide)
  rw [hce] at h0 h1
  match xs, hlen with
  | [y0, y1], _ =>
    obtain ⟨a, ha, _, hw0⟩ := DataW.trod_int he (x := y0) (by simpa using h0)
    obtain ⟨b, hb, _, hw1⟩ := DataW.trod_int he (x := y1) (by simpa using h1)
    simp [Value.cells] at ha hb
    exact ⟨a, b, by rw [ha, hb], hw0, hw1⟩
end Go.Proofs.YtoadjhmehgkeaaaGreatDoor
namespace Go.Proofs.YtoadjhmehgkeaaaGreatDoor
open Go.ChangeShapes Go.WideShapes Go.ChangeAt Go.RowKit Mth

set_option maxRecDepth 1000000 in
theorem quos_laid (os : Os) (args : Array Value) : laidMet Tryz.prog Rows.natQuosRow.laid ((laidWorld os).forCall (fun _ _ => 0) ⟨#[], args, []⟩).memory :=
  have h : LaidIn Tryz.prog ((laidWorld os).forCall (fun _ _ => 0) ⟨#[], args, []⟩).memory Rows.natQuosRow.laid [4, 5, 2] :=
    LaidIn.of_run [4, 5, 2] 8 (by kernel_rfl) (by kernel_rfl) (by kernel_rfl) (by kernel_rfl)
  h.met
theorem quos_tab {w : World} (h : laidMet Tryz.prog Rows.natQuosRow.laid w) : Tab w :=
  Lib.tabIs_of_head (g := 2) (t := 178) (e := 96) (n := 20) (by kernel_rfl) (by kernel_rfl) (by kernel_rfl) (by kernel_rfl) (by kernel_rfl) (by kernel_rfl) (show laidMet Tryz.prog [("internal/strconv.uint64pow10", Lib.tabData .u64 Lib.pow10Tab)] w from h.tail.tail)

set_option maxRecDepth 1000000 in
set_option maxHeartbeats 4000000 in
theorem quos_lifted (os : Os) (started : os.Started) (H : Type) (enc : TypeId × Value → H) :
    ReturnsInHanded {} Tryz.checked os 4 .any (fun w args => (Rows.natQuosSpec.pre enc Tryz.prog Tryz.f4 Rows.natQuosRow.domain false w args ∧ laidMet Tryz.prog Rows.natQuosRow.laid w) ∧ sizedMet enc Tryz.prog Tryz.f4 (OpenSpec.ofChange Rows.natQuosSpec) false w args)
      (Rows.natQuosSpec.post enc Tryz.prog Tryz.f4 false true false false) := by
  refine returnsInHanded_of_change_and (C := Tryz.checked) (X := fun w _ => laidMet Tryz.prog Rows.natQuosRow.laid w) (fun _ _ _ hh h => h.of_heap hh) own0 started (by kernel_rfl) Tryz.func4
    (ChangeSpec.witness_at (enc := enc) (C := Tryz.checked) (os := os) (X := fun w _ => laidMet Tryz.prog Rows.natQuosRow.laid w) false (laidWorld os) #[.slice none 0 0, .slice none 0 0, .int .u8 0] 8 rfl (by kernel_rfl) (by kernel_rfl) (by kernel_rfl) (by kernel_rfl) (by kernel_rfl) (quos_laid os _)) ?_
  intro W base args ds gs before hval0 hW hcnd0 _ hL _
  have hval : ∀ (j : Nat) t v, Tryz.f4.params[j]? = some t → args[j]? = some v → Value.okWide Tryz.prog W .any base t v := hval0
  have hW' := hW
  obtain ⟨p, q, hA0, hV, rfl, hfz, hnd⟩ := hW
  have hA : DataW.TrodAll enc Tryz.prog W 0 (fun _ => true) true Tryz.f4.params.toList args.toList ds p := hA0
  rw [Tryz.params4] at hA hval
  obtain ⟨v0, v1, v2, d0, d1, d2, p0, p1, p2, rfl, rfl, rfl, h0, h1, h2⟩ := trodAll_three hA
  obtain ⟨rfl, rfl⟩ := trodVars_none hV
  clear hA0 hval0 hA
  simp only [List.append_nil] at hW'
  have k0 := hval 0 22 v0 rfl rfl
  have k1 := hval 1 22 v1 rfl rfl
  have k2 := hval 2 5 v2 rfl rfl
  obtain ⟨b0, m0, s0⟩ := bytes_arg k0 h0
  obtain ⟨b1, m1, s1⟩ := bytes_arg k1 h1
  obtain ⟨n2, rfl, w2⟩ := byte_arg k2 h2
  refine (quos_true v0 v1 b0 b1 n2 W (quos_tab hL) m0 m1 s0 s1 w2).mono fun e W' ⟨he, hg⟩ => ?_
  subst he
  have hb : Below W.heap.size W W' := gr_low hg (Nat.le_refl _)
  have hlt : ∀ x ∈ p0 ++ p1 ++ p2, x.block < W.heap.size := fun x hx => by simpa using hW'.lt x hx
  have hl0 : ∀ x ∈ p0, x.block < W.heap.size := fun x hx => hlt x (by simp [hx])
  have hl1 : ∀ x ∈ p1, x.block < W.heap.size := fun x hx => hlt x (by simp [hx])
  have hl2 : ∀ x ∈ p2, x.block < W.heap.size := fun x hx => hlt x (by simp [hx])
  refine ⟨_, rfl, _, _, _, [], p0 ++ p1 ++ p2, [], hW', ?_, ?_, rfl, hb.frame _, fun h => by cases h⟩
  · exact trodAll_mk1 (shut_bool Tryz.underlying4 true)
  · have h3 := trodAll_mk3 (Below.trod laidOut0 (by kernel_rfl) (of_decide_eq_true (by kernel_rfl)) h0 hb hl0) (Below.trod laidOut0 (by kernel_rfl) (of_decide_eq_true (by kernel_rfl)) h1 hb hl1) (Below.trod laidOut0 (by kernel_rfl) (of_decide_eq_true (by kernel_rfl)) h2 hb hl2)
    rw [← List.append_assoc] at h3
    exact h3

theorem quos_row : Rows.NatQuosSaid :=
  OpenClaim.holds_of_wide 4 Tryz.f4 rfl rfl rfl rfl rfl rfl rfl ⟨rfl, rfl, rfl, rfl, rfl⟩ rfl rfl rfl rfl rfl (by kernel_rfl) Tryz.func4 (by kernel_rfl)
    (of_decide_eq_true (by kernel_rfl)) (by unfold Func.isWrapper; first | (rw [if_pos (by decide +kernel)]; kernel_rfl) | (rw [if_neg (by decide +kernel)]; exact ⟨rfl, rfl⟩))
    (fun os started H enc _ => quos_lifted os started H enc)
end Go.Proofs.YtoadjhmehgkeaaaGreatDoor
