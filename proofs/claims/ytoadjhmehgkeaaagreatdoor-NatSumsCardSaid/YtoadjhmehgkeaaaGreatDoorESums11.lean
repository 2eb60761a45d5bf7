/- Contracts of package nat and of the reference, part 11: Sums, RowK, SumsRow. -/
import Derived.Test.YtoadjhmehgkeaaaGreatDoorESums10
import Derived.Deep.RegionHeld3
import Derived.Test.YtoadjhmehgkeaaaGreatDoorRows
import Derived.ProofKit
import Derived.ChangeSlices
import Derived.LaidLaws
import Derived.Lib.LaidIn
import Derived.Lib.LaidTab
import Derived.Stop.LaidErr
import Derived.OpenShut
namespace Go.Proofs.YtoadjhmehgkeaaaGreatDoor
open Go.RowKit Mth

/-- Both differences are the same of two numbers. -/
def SameD (p q : ByteArray) : Prop := ∃ (x : ByteArray) (b : Bool), (∀ w, Gives 16 #[.string p, .string q] w (.tuple #[.string x, .bool b])) ∧ (∀ w, Gives 17 #[.string p, .string q] w (.tuple #[.string x, .bool b]))
theorem sameD (p q : ByteArray) (h1 : p.size ≤ 1000000000) (h2 : q.size ≤ 1000000000) : SameD p q := by
  rcases Nat.lt_or_ge (num p.data.toList) (num q.data.toList) with h | h
  · exact ⟨_, _, fun w => sub_no p q w h, fun w => s_rsub0 p q _ _ w rfl rfl h1 h2 h⟩
  · exact ⟨_, _, fun w => s_sub p q _ _ w rfl rfl h (by omega) (by omega), fun w => s_rsub p q _ _ w rfl rfl h1 h2 h⟩
theorem s_cmp0 (s t : ByteArray) (m n : Nat) (w : World) (hm : num s.data.toList = m) (hn : num t.data.toList = n) : Gives 20 #[.string s, .string t] w (.int .i64 (cmpN m n)) := s_cmp s t m n w hm hn

set_option maxHeartbeats 4000000 in
set_option maxRecDepth 100000 in
theorem sums_true (vx vy : Value) (a b : ByteArray) (w : World) (htab : Tab w) (hx : MadeAs w vx a) (hy : MadeAs w vy b) (hsa : a.size ≤ 40) (hsb : b.size ≤ 40) :
    Gives 3 #[vx, vy] w (.bool true) := by
  go_enter Tryz.func3, Tryz.ntmps3
  go_wp2_with fail
  refine (sanity_true _ htab).mono ?_
  rintro e w0 ⟨rfl, h0⟩
  have hg := h0
  go_wp2_with fail
  refine (hx _ hg).mono ?_
  rintro e w1 ⟨rfl, rfl⟩
  go_wp2_with fail
  refine (hy _ hg).mono ?_
  rintro e w2 ⟨rfl, rfl⟩
  obtain ⟨W0, hW0⟩ : ∃ W0 : World, W0 = w0.alloc (.cells #[.string a, .string b, .string b, .string a, .string a, .string a, .string (a ++ ⟨#[0]⟩), .string b] 26) := ⟨_, rfl⟩
  have hpair : ∀ i, i < 4 → ∃ p q : ByteArray, W0.cell? ⟨w0.heap.size, i * 2, none⟩ = some (.string p) ∧ W0.cell? ⟨w0.heap.size, i * 2 + 1, none⟩ = some (.string q) ∧ p.size ≤ 1000000000 ∧ q.size ≤ 1000000000 := by
    have key : ∀ (t : TypeId) (xs : Array Value) (j : Nat), (w0.alloc (.cells xs t)).cell? ⟨w0.heap.size, j, none⟩ = xs[j]? := fun t xs j => cell_of_row _ _ j xs t (0, 0) (heap_alloc_new w0 _)
    rw [hW0]
    intro i hi
    rcases i with _ | _ | _ | _ | i
    · exact ⟨a, b, by rw [key]; rfl, by rw [key]; rfl, by omega, by omega⟩
    · exact ⟨b, a, by rw [key]; rfl, by rw [key]; rfl, by omega, by omega⟩
    · exact ⟨a, a, by rw [key]; rfl, by rw [key]; rfl, by omega, by omega⟩
    · refine ⟨_, b, by rw [key]; rfl, by rw [key]; rfl, ?_, by omega⟩
      rw [ByteArray.size_append]; show a.size + 1 ≤ _; omega
    · omega
  have hgw : w.grownBy W0 none := by rw [hW0]; exact gr_then hg (gr_alloc w0 _ none)
  go_wp2
  rw [← hW0]
  generalize w0.heap.size = G at hpair ⊢
  have HP := Lib.hid hpair
  clear hW0 hpair
  go_loopw [34] (fun kv wr => ∃ k : Nat, k ≤ 4 ∧ kv = .int .i64 k ∧ W0.grownBy wr none) (fun kv _ => 4 - (intOf kv).toNat)
  case atStart => exact ⟨0, by omega, rfl, World.grownBy.refl _ _⟩
  case round =>
    obtain ⟨k, hk, rfl, hgr⟩ := hrel
    by_cases hlt : k < 4
    · obtain ⟨p, q, hc0, hc1, hp, hq⟩ := HP.out k hlt
      have hc0 := hgr.cell hc0 (by simp)
      have hc1 := hgr.cell hc1 (by simp)
      obtain ⟨x, o2, hn1, hn2⟩ := sameD p q hp hq
      have HN1 := Lib.hid hn1
      have HN2 := Lib.hid hn2
      clear hn1 hn2
      have hcp0 : (wr.alloc (.cells #[.string p, .string q] 26)).cell? ⟨wr.heap.size, 0, none⟩ = some (.string p) := by rw [cell_of_row _ _ _ _ _ (0, 0) (heap_alloc_new wr _)]; rfl
      have hcq0 : (wr.alloc (.cells #[.string p, .string q] 26)).cell? ⟨wr.heap.size, 1, none⟩ = some (.string q) := by rw [cell_of_row _ _ _ _ _ (0, 0) (heap_alloc_new wr _)]; rfl
      go_wp2_with fail
      refine (HN1.out _).mono ?_
      rintro e w9 ⟨rfl, h9⟩
      have hcp := h9.cell hcp0 (by simp)
      have hcq := h9.cell hcq0 (by simp)
      have hg9 := gr_then hgr (gr_then (gr_alloc wr _ none) h9)
      generalize wr.heap.size = B at hcp hcq ⊢
      clear h9 hcp0 hcq0 hc0 hc1
      go_wp2_with fail
      refine (HN2.out _).mono ?_
      rintro e w10 ⟨rfl, h10⟩
      have hcp := h10.cell hcp (by simp)
      have hcq := h10.cell hcq (by simp)
      have hg10 := gr_then (gr_then hg9 h10) (gr_drew w10 none)
      have hdp : w10.drew.cell? ⟨B, 0, none⟩ = some (.string p) := hcp
      have hdq : w10.drew.cell? ⟨B, 1, none⟩ = some (.string q) := hcq
      obtain ⟨z, hz⟩ : ∃ z, z = cmpN (num p.data.toList) (num q.data.toList) := ⟨_, rfl⟩
      have HC1 := Lib.hid (fun w => hz ▸ s_cmp p q _ _ w rfl rfl)
      have HC2 := Lib.hid (fun w => hz ▸ s_rcmp p q _ _ w rfl rfl hp hq)
      have HA1 := Lib.hid (fun w => s_add p q _ _ w rfl rfl (by omega) (by omega))
      have HA2 := Lib.hid (fun w => s_radd p q _ _ w rfl rfl hp hq)
      generalize S (num p.data.toList + num q.data.toList) = sm at HA1 HA2
      clear h10 hg9 hz
      go_wp2_with fail
      go_region_held3 (fun w' => w'.cell? ⟨B, 0, none⟩ = some (.string p) ∧ w'.cell? ⟨B, 1, none⟩ = some (.string q)) (first | exact ⟨hdp, hdq⟩ | go_keep)
        (first
          | (go_at_call 18; refine (HA1.out _).mono ?_; rintro e w11 ⟨rfl, h11⟩; have hk0 : w11.cell? ⟨B, 0, none⟩ = some (.string p) := h11.cell (by assumption) (by simp); have hk1 : w11.cell? ⟨B, 1, none⟩ = some (.string q) := h11.cell (by assumption) (by simp); have hk2 : W0.grownBy w11 none := gr_then (by assumption) h11)
          | (go_at_call 19; refine (HA2.out _).mono ?_; rintro e w12 ⟨rfl, h12⟩; have hl0 : w12.cell? ⟨B, 0, none⟩ = some (.string p) := h12.cell (by assumption) (by simp); have hl1 : w12.cell? ⟨B, 1, none⟩ = some (.string q) := h12.cell (by assumption) (by simp); have hl2 : W0.grownBy w12 none := gr_then (by assumption) h12)
          | (go_at_call 20; refine (HC1.out _).mono ?_; rintro e w13 ⟨rfl, h13⟩; have hm0 : w13.cell? ⟨B, 0, none⟩ = some (.string p) := h13.cell (by assumption) (by simp); have hm1 : w13.cell? ⟨B, 1, none⟩ = some (.string q) := h13.cell (by assumption) (by simp); have hm2 : W0.grownBy w13 none := gr_then (by assumption) h13)
          | (go_at_call 21; refine (HC2.out _).mono ?_; rintro e w14 ⟨rfl, h14⟩; have hn0 : w14.cell? ⟨B, 0, none⟩ = some (.string p) := h14.cell (by assumption) (by simp); have hn1 : w14.cell? ⟨B, 1, none⟩ = some (.string q) := h14.cell (by assumption) (by simp); have hn2 : W0.grownBy w14 none := gr_then (by assumption) h14))
      all_goals
        go_wp2
        exact ⟨⟨k + 1, by omega, by go_num, by assumption⟩, by simp [intOf]; omega⟩
    · obtain rfl : k = 4 := by omega
      have hgx := gr_then hgw hgr
      clear hgr
      go_wp2_with fail
      refine (right_any a _).mono ?_
      rintro e w5 ⟨rfl, rfl⟩
      go_wp2_with fail
      refine (rright_any a _).mono ?_
      rintro e w6 ⟨rfl, rfl⟩
      generalize rtB a.data.toList = r
      go_wp2_with fail
      refine (s_add a b _ _ _ rfl rfl (by omega) (by omega)).mono ?_
      rintro e w7 ⟨rfl, h7⟩
      have hgx := gr_then hgx h7
      clear h7
      go_wp2_with fail
      refine (s_right _ _).mono ?_
      rintro e w8 ⟨rfl, h8⟩
      have hgx := gr_then hgx h8
      go_wp2
      go_ret
      exact ⟨rfl, hgx⟩
end Go.Proofs.YtoadjhmehgkeaaaGreatDoor
namespace Go.Proofs.YtoadjhmehgkeaaaGreatDoor
open Go.ChangeShapes Go.WideShapes Go.ChangeAt Go.RowKit Mth

theorem own0 : ownKnob Tryz.prog.godebug = none := by kernel_rfl
theorem laidOut0 : laidOutB Tryz.prog = true := by kernel_rfl
theorem cellsU8 : Tryz.prog.cellsOf 5 = 1 := by kernel_rfl

def u8of (zs : List Int) (m : Nat) : List UInt8 := (zs.take m).map fun z => UInt8.ofNat z.toNat
set_option maxRecDepth 100000 in
theorem made_at (a : Addr) (len cap m : Nat) (zs : List Int) (w : World) (hl : len ≤ cap) (hm : cap ≤ maxLen) (hz : zs.length = cap) (hcell : ∀ i, i < zs.length → w.cell? (a.add i) = some (.int .u8 (zs.getD i 0))) (hw : ∀ n ∈ zs, (Lit.int .u8 n).wf = true) (hmin : m = min len 40) :
    Calls Tryz.prog 15 #[.slice (some a) len cap] w fun e w' => e = .returned (.string ⟨(u8of zs m).toArray⟩) ∧ w = w' := by
  unfold maxLen at hm
  have hm1 : min (len : Int) 40 = (m : Int) := by omega
  have hm2 : m ≤ cap := by omega
  have hlen : (u8of zs m).length = m := by unfold u8of; simp; omega
  have hcv := run_convert_bytes_back (P := Tryz.prog) w 22 24 5 a cap (u8of zs m) Tryz.underlying22 Tryz.underlying5 Tryz.underlying24 (fun j hj => by
    rw [hlen] at hj
    rw [hcell j (by omega)]
    have h1 : j < zs.length := by omega
    have hwf := hw zs[j] (List.getElem_mem _)
    have w1 : 0 ≤ zs[j] ∧ zs[j] ≤ 255 := by
      have a1 : IntKind.u8.min = 0 := rfl
      have a2 : IntKind.u8.max = 255 := rfl
      simpa [Lit.wf, a1, a2] using hwf
    have e : (u8of zs m)[j]'(by rw [hlen]; exact hj) = UInt8.ofNat zs[j].toNat := by unfold u8of; simp
    rw [e]
    have e2 : zs.getD j 0 = zs[j] := by simp [List.getD, h1]
    rw [e2]
    have e3 : (UInt8.ofNat zs[j].toNat).toNat = zs[j].toNat := by simp; omega
    rw [e3]
    congr 2
    omega)
  rw [hlen] at hcv
  generalize (⟨(u8of zs m).toArray⟩ : ByteArray) = str at hcv
  clear hcell hw hz hmin hlen
  go_enter Tryz.func15, Tryz.ntmps15
  go_wp2
  go_ret
  exact ⟨rfl, rfl⟩

theorem made_as (a : Addr) (len cap : Nat) (zs : List Int) (w : World) (hl : len ≤ cap) (hm : cap ≤ maxLen) (hz : zs.length = cap) (hcell : ∀ i, i < zs.length → w.cell? (a.add i) = some (.int .u8 (zs.getD i 0))) (hw : ∀ n ∈ zs, (Lit.int .u8 n).wf = true) : ∃ b : ByteArray, MadeAs w (.slice (some a) len cap) b ∧ b.size ≤ 40 := by
  refine ⟨⟨(u8of zs (min len 40)).toArray⟩, fun w' hg => made_at a len cap _ zs w' hl hm hz (fun i hi => hg.cell (hcell i hi) (by simp)) hw rfl, ?_⟩
  show (u8of zs (min len 40)).toArray.size ≤ 40
  unfold u8of
  simp
  omega
theorem made_as_nil (w : World) : ∃ b : ByteArray, MadeAs w (.slice none 0 0) b ∧ b.size ≤ 40 := ⟨⟨#[]⟩, fun w' _ => made_nil w', by decide⟩

def cellsD : DataW Unit → Array Value
  | .agg l => (l.map fun | .lit (.int k z) => Value.int k z | _ => Value.nilIface).toArray
  | _ => #[]
noncomputable def laidWorld (os : Os) : World :=
  let w0 := World.holding Tryz.prog os ⟨#[], #[], []⟩
  let put (h : Array Obj) (g : Nat) (cs : Array Value) : Array Obj := h.modify g fun
    | .cells _ t frozen => .cells cs t frozen
    | o => o
  { w0 with heap := put (put (put w0.heap 4 (cellsD Rows.laid_math_bits_deBruijn32tab)) 5 (cellsD Rows.laid_math_bits_deBruijn64tab)) 2 (cellsD Rows.laid_internal_strconv_uint64pow10) }

set_option maxRecDepth 100000 in
/-- An argument of bytes. -/
theorem bytes_arg {H : Type} {enc : TypeId × Value → H} {W : World} {base : Nat} {v : Value} {d : DataW H} {p : List MemPlace} (hok : Value.okWide Tryz.prog W .any base 22 v) (h : DataW.Trod enc Tryz.prog W 0 (fun _ => true) true 22 v d p) : ∃ b : ByteArray, MadeAs W v b ∧ b.size ≤ 40 := by
  obtain ⟨a0, len, cap, rfl⟩ := okWide_slice Tryz.underlying22 hok
  obtain ⟨fuel, hf⟩ := h
  rcases open_ints Tryz.underlying22 Tryz.underlying5 cellsU8 hf with ⟨hcs, hx⟩ | ⟨a, len', cap', zs, hcs, _, hl, hm, hz, hx, hcell, hwz⟩
  · simp [Value.cells] at hcs
    obtain ⟨rfl, rfl, rfl⟩ := hcs
    exact made_as_nil W
  · simp [Value.cells] at hcs
    obtain ⟨rfl, rfl, rfl⟩ := hcs
    simp only [if_true] at hz
    exact made_as a len cap zs W hl hm hz hcell hwz
set_option maxRecDepth 100000 in
theorem int_arg {H : Type} {enc : TypeId × Value → H} {W : World} {base : Nat} {v : Value} {d : DataW H} {p : List MemPlace} (hok : Value.okWide Tryz.prog W .any base 3 v) (h : DataW.Trod enc Tryz.prog W 0 (fun _ => true) true 3 v d p) : ∃ n : Int, v = .int .i64 n ∧ -9223372036854775808 ≤ n ∧ n ≤ 9223372036854775807 := by
  obtain ⟨n, rfl, _, _, hw⟩ := open_int Tryz.underlying3 hok h
  have a1 : IntKind.i64.min = -9223372036854775808 := rfl
  have a2 : IntKind.i64.max = 9223372036854775807 := rfl
  refine ⟨n, rfl, ?_⟩
  simpa [Lit.wf, a1, a2] using hw
set_option maxRecDepth 100000 in
theorem byte_arg {H : Type} {enc : TypeId × Value → H} {W : World} {base : Nat} {v : Value} {d : DataW H} {p : List MemPlace} (hok : Value.okWide Tryz.prog W .any base 5 v) (h : DataW.Trod enc Tryz.prog W 0 (fun _ => true) true 5 v d p) : ∃ n : Nat, v = .int .u8 (n : Int) ∧ n ≤ 255 := by
  obtain ⟨n, rfl, _, _, hw⟩ := open_int Tryz.underlying5 hok h
  have a1 : IntKind.u8.min = 0 := rfl
  have a2 : IntKind.u8.max = 255 := rfl
  have hb : 0 ≤ n ∧ n ≤ 255 := by simpa [Lit.wf, a1, a2] using hw
  exact ⟨n.toNat, by rw [Int.toNat_of_nonneg hb.1], by omega⟩
set_option maxRecDepth 100000 in
theorem str_arg {H : Type} {enc : TypeId × Value → H} {W : World} {base : Nat} {v : Value} {d : DataW H} {p : List MemPlace} (hok : Value.okWide Tryz.prog W .any base 9 v) (h : DataW.Trod enc Tryz.prog W 0 (fun _ => true) true 9 v d p) : ∃ s : ByteArray, v = .string s ∧ s.size ≤ maxLen := by
  obtain ⟨s, rfl⟩ := okWide_string Tryz.underlying9 hok
  obtain ⟨fuel, hf⟩ := h
  refine ⟨s, rfl, ?_⟩
  cases fuel with
  | zero => simp [DataW.trod] at hf
  | succ n =>
    simp [DataW.trod, Value.cells, Tryz.underlying9] at hf
    exact hf.1
/-- An argument that is an array of two numbers. -/
theorem two_arg {P : Program} {k : IntKind} {t e : TypeId} (ht : P.underlying t = some (.array 2 e)) (he : P.underlying e = some (.int k)) (hc : P.cellsOf t = 2) (hce : P.cellsOf e = 1) {H : Type} {enc : TypeId × Value → H} {W : World} {base : Nat} {v : Value} {d : DataW H} {p : List MemPlace} (hok : Value.okWide P W .any base t v) (h : DataW.Trod enc P W 0 (fun _ => true) true t v d p) : ∃ a b : Int, v = .agg #[.int k a, .int k b] ∧ (Lit.int k a).wf = true ∧ (Lit.int k b).wf = true := by
  simp only [Value.okWide, ht] at hok
  obtain ⟨cs, rfl, hsz, _⟩ := hok
  obtain ⟨fuel, hf⟩ := h
  rw [hc] at hsz
  obtain ⟨x, y, rfl⟩ : ∃ x y, cs = #[x, y] := by
    rcases cs with ⟨l⟩
    match l, hsz with
    | [x, y], _ => exact ⟨x, y, rfl⟩
  obtain ⟨xs, m, _, _, _, hlen, hf2⟩ := DataW.trod_array ht hf
  have h0 := hf2 0 (by decide)
  have h1 := hf2 1 (by decide)
  rw [hce] at h0 h1
  match xs, hlen with
  | [y0, y1], _ =>
    obtain ⟨a, ha, _, hw0⟩ := DataW.trod_int he (x := y0) (by simpa using h0)
    obtain ⟨b, hb, _, hw1⟩ := DataW.trod_int he (x := y1) (by simpa using h1)
    simp [Value.cells] at ha hb
    exact ⟨a, b, by rw [ha, hb], hw0, hw1⟩
end Go.Proofs.YtoadjhmehgkeaaaGreatDoor
namespace Go.Proofs.YtoadjhmehgkeaaaGreatDoor
open Go.ChangeShapes Go.WideShapes Go.ChangeAt Go.RowKit Mth

set_option maxRecDepth 1000000 in
theorem sums_laid (os : Os) (args : Array Value) : laidMet Tryz.prog Rows.natSumsRow.laid ((laidWorld os).forCall (fun _ _ => 0) ⟨#[], args, []⟩).memory :=
  have h : LaidIn Tryz.prog ((laidWorld os).forCall (fun _ _ => 0) ⟨#[], args, []⟩).memory Rows.natSumsRow.laid [4, 5, 2] :=
    LaidIn.of_run [4, 5, 2] 8 (by kernel_rfl) (by kernel_rfl) (by kernel_rfl) (by kernel_rfl)
  h.met
theorem sums_tab {w : World} (h : laidMet Tryz.prog Rows.natSumsRow.laid w) : Tab w :=
  Lib.tabIs_of_head (g := 2) (t := 178) (e := 96) (n := 20) (by kernel_rfl) (by kernel_rfl) (by kernel_rfl) (by kernel_rfl) (by kernel_rfl) (by kernel_rfl) (show laidMet Tryz.prog [("internal/strconv.uint64pow10", Lib.tabData .u64 Lib.pow10Tab)] w from h.tail.tail)

set_option maxRecDepth 1000000 in
set_option maxHeartbeats 4000000 in
theorem sums_lifted (os : Os) (started : os.Started) (H : Type) (enc : TypeId × Value → H) :
    ReturnsInHanded {} Tryz.checked os 3 .any (fun w args => (Rows.natSumsSpec.pre enc Tryz.prog Tryz.f3 Rows.natSumsRow.domain false w args ∧ laidMet Tryz.prog Rows.natSumsRow.laid w) ∧ sizedMet enc Tryz.prog Tryz.f3 (OpenSpec.ofChange Rows.natSumsSpec) false w args)
      (Rows.natSumsSpec.post enc Tryz.prog Tryz.f3 false true false false) := by
  refine returnsInHanded_of_change_and (C := Tryz.checked) (X := fun w _ => laidMet Tryz.prog Rows.natSumsRow.laid w) (fun _ _ _ hh h => h.of_heap hh) own0 started (by kernel_rfl) Tryz.func3
    (ChangeSpec.witness_at (enc := enc) (C := Tryz.checked) (os := os) (X := fun w _ => laidMet Tryz.prog Rows.natSumsRow.laid w) false (laidWorld os) #[.slice none 0 0, .slice none 0 0] 8 rfl (by kernel_rfl) (by kernel_rfl) (by kernel_rfl) (by kernel_rfl) (by kernel_rfl) (sums_laid os _)) ?_
  intro W base args ds gs before hval0 hW hcnd0 _ hL _
  have hval : ∀ (j : Nat) t v, Tryz.f3.params[j]? = some t → args[j]? = some v → Value.okWide Tryz.prog W .any base t v := hval0
  have hW' := hW
  obtain ⟨p, q, hA0, hV, rfl, hfz, hnd⟩ := hW
  have hA : DataW.TrodAll enc Tryz.prog W 0 (fun _ => true) true Tryz.f3.params.toList args.toList ds p := hA0
  rw [Tryz.params3] at hA hval
  obtain ⟨v0, v1, d0, d1, p0, p1, rfl, rfl, rfl, h0, h1⟩ := trodAll_two hA
  obtain ⟨rfl, rfl⟩ := trodVars_none hV
  clear hA0 hval0 hA
  simp only [List.append_nil] at hW'
  have k0 := hval 0 22 v0 rfl rfl
  have k1 := hval 1 22 v1 rfl rfl
  obtain ⟨b0, m0, s0⟩ := bytes_arg k0 h0
  obtain ⟨b1, m1, s1⟩ := bytes_arg k1 h1
  refine (sums_true v0 v1 b0 b1 W (sums_tab hL) m0 m1 s0 s1).mono fun e W' ⟨he, hg⟩ => ?_
  subst he
  have hb : Below W.heap.size W W' := gr_low hg (Nat.le_refl _)
  have hlt : ∀ x ∈ p0 ++ p1, x.block < W.heap.size := fun x hx => by simpa using hW'.lt x hx
  have hl0 : ∀ x ∈ p0, x.block < W.heap.size := fun x hx => hlt x (by simp [hx])
  have hl1 : ∀ x ∈ p1, x.block < W.heap.size := fun x hx => hlt x (by simp [hx])
  refine ⟨_, rfl, _, _, _, [], p0 ++ p1, [], hW', ?_, ?_, rfl, hb.frame _, fun h => by cases h⟩
  · exact trodAll_mk1 (shut_bool Tryz.underlying4 true)
  · have h3 := trodAll_mk2 (Below.trod laidOut0 (by kernel_rfl) (of_decide_eq_true (by kernel_rfl)) h0 hb hl0) (Below.trod laidOut0 (by kernel_rfl) (of_decide_eq_true (by kernel_rfl)) h1 hb hl1)
    exact h3

theorem sums_row : Rows.NatSumsSaid :=
  OpenClaim.holds_of_wide 3 Tryz.f3 rfl rfl rfl rfl rfl rfl rfl ⟨rfl, rfl, rfl, rfl, rfl⟩ rfl rfl rfl rfl rfl (by kernel_rfl) Tryz.func3 (by kernel_rfl)
    (of_decide_eq_true (by kernel_rfl)) (by unfold Func.isWrapper; first | (rw [if_pos (by decide +kernel)]; kernel_rfl) | (rw [if_neg (by decide +kernel)]; exact ⟨rfl, rfl⟩))
    (fun os started H enc _ => sums_lifted os started H enc)
end Go.Proofs.YtoadjhmehgkeaaaGreatDoor
