/- Contracts of package nat and of the reference, part 11: RowK, Cut, Pows, PowsRow. -/
import Derived.Test.YtoadjhmehgkeaaaGreatDoorEPows10
import Derived.Test.YtoadjhmehgkeaaaGreatDoorRows
import Derived.ProofKit
import Derived.ChangeSlices
import Derived.LaidLaws
import Derived.Lib.LaidIn
import Derived.Lib.LaidTab
import Derived.Stop.LaidErr
import Derived.OpenShut
import Derived.BigRegion
namespace Go.Proofs.YtoadjhmehgkeaaaGreatDoor
open Go.ChangeShapes Go.WideShapes Go.ChangeAt Go.RowKit Mth

theorem own0 : ownKnob Tryz.prog.godebug = none := by kernel_rfl
theorem laidOut0 : laidOutB Tryz.prog = true := by kernel_rfl
theorem cellsU8 : Tryz.prog.cellsOf 5 = 1 := by kernel_rfl

def u8of (zs : List Int) (m : Nat) : List UInt8 := (zs.take m).map fun z => UInt8.ofNat z.toNat
set_option maxRecDepth 100000 in
theorem made_at (a : Addr) (len cap m : Nat) (zs : List Int) (w : World) (hl : len ≤ cap) (hm : cap ≤ maxLen) (hz : zs.length = cap) (hcell : ∀ i, i < zs.length → w.cell? (a.add i) = some (.int .u8 (zs.getD i 0))) (hw : ∀ n ∈ zs, (Lit.int .u8 n).wf = true) (hmin : m = min len 40) :
    Calls Tryz.prog 15 #[.slice (some a) len cap] w fun e w' => e = .returned (.string ⟨(u8of zs m).toArray⟩) ∧ w = w' := by
  unfold maxLen at hm
  have hm1 : min (len : Int) 40 = (m : Int) := by omega
  have hm2 : m ≤ cap := by omega
  have hlen : (u8of zs m).length = m := by unfold u8of; simp; omega
  have hcv := run_convert_bytes_back (P := Tryz.prog) w 22 24 5 a cap (u8of zs m) Tryz.underlying22 Tryz.underlying5 Tryz.underlying24 (fun j hj => by
    rw [hlen] at hj
    rw [hcell j (by omega)]
    have h1 : j < zs.length := by omega
    have hwf := hw zs[j] (List.getElem_mem _)
    have w1 : 0 ≤ zs[j] ∧ zs[j] ≤ 255 := by
      have a1 : IntKind.u8.min = 0 := rfl
      have a2 : IntKind.u8.max = 255 := rfl
      simpa [Lit.wf, a1, a2] using hwf
    have e : (u8of zs m)[j]'(by rw [hlen]; exact hj) = UInt8.ofNat zs[j].toNat := by unfold u8of; simp
    rw [e]
    have e2 : zs.getD j 0 = zs[j] := by simp [List.getD, h1]
    rw [e2]
    have e3 : (UInt8.ofNat zs[j].toNat).toNat = zs[j].toNat := by simp; omega
    rw [e3]
    congr 2
    omega)
  rw [hlen] at hcv
  generalize (⟨(u8of zs m).toArray⟩ : ByteArray) = str at hcv
  clear hcell hw hz hmin hlen
  go_enter Tryz.func15, Tryz.ntmps15
  go_wp2
  go_ret
  exact ⟨rfl, rfl⟩

theorem made_as (a : Addr) (len cap : Nat) (zs : List Int) (w : World) (hl : len ≤ cap) (hm : cap ≤ maxLen) (hz : zs.length = cap) (hcell : ∀ i, i < zs.length → w.cell? (a.add i) = some (.int .u8 (zs.getD i 0))) (hw : ∀ n ∈ zs, (Lit.int .u8 n).wf = true) : ∃ b : ByteArray, MadeAs w (.slice (some a) len cap) b ∧ b.size ≤ 40 := by
  refine ⟨⟨(u8of zs (min len 40)).toArray⟩, fun w' hg => made_at a len cap _ zs w' hl hm hz (fun i hi => hg.cell (hcell i hi) (by simp)) hw rfl, ?_⟩
  show (u8of zs (min len 40)).toArray.size ≤ 40
  unfold u8of
  simp
  omega
theorem made_as_nil (w : World) : ∃ b : ByteArray, MadeAs w (.slice none 0 0) b ∧ b.size ≤ 40 := ⟨⟨#[]⟩, fun w' _ => made_nil w', by decide⟩

def cellsD : DataW Unit → Array Value
  | .agg l => (l.map fun | .lit (.int k z) => Value.int k z | _ => Value.nilIface).toArray
  | _ => #[]
noncomputable def laidWorld (os : Os) : World :=
  let w0 := World.holding Tryz.prog os ⟨#[], #[], []⟩
  let put (h : Array Obj) (g : Nat) (cs : Array Value) : Array Obj := h.modify g fun
    | .cells _ t frozen => .cells cs t frozen
    | o => o
  { w0 with heap := put (put (put w0.heap 4 (cellsD Rows.laid_math_bits_deBruijn32tab)) 5 (cellsD Rows.laid_math_bits_deBruijn64tab)) 2 (cellsD Rows.laid_internal_strconv_uint64pow10) }

set_option maxRecDepth 100000 in
/-- An argument of bytes. -/
theorem bytes_arg {H : Type} {enc : TypeId × Value → H} {W : World} {base : Nat} {v : Value} {d : DataW H} {p : List MemPlace} (hok : Value.okWide Tryz.prog W .any base 22 v) (h : DataW.Trod enc Tryz.prog W 0 (fun _ => true) true 22 v d p) : ∃ b : ByteArray, MadeAs W v b ∧ b.size ≤ 40 := by
  obtain ⟨a0, len, cap, rfl⟩ := okWide_slice Tryz.underlying22 hok
  obtain ⟨fuel, hf⟩ := h
  rcases open_ints Tryz.underlying22 Tryz.underlying5 cellsU8 hf with ⟨hcs, hx⟩ | ⟨a, len', cap', zs, hcs, _, hl, hm, hz, hx, hcell, hwz⟩
  · simp [Value.cells] at hcs
    obtain ⟨rfl, rfl, rfl⟩ := hcs
    exact made_as_nil W
  · simp [Value.cells] at hcs
    obtain ⟨rfl, rfl, rfl⟩ := hcs
    simp only [if_true] at hz
    exact made_as a len cap zs W hl hm hz hcell hwz
set_option maxRecDepth 100000 in
theorem int_arg {H : Type} {enc : TypeId × Value → H} {W : World} {base : Nat} {v : Value} {d : DataW H} {p : List MemPlace} (hok : Value.okWide Tryz.prog W .any base 3 v) (h : DataW.Trod enc Tryz.prog W 0 (fun _ => true) true 3 v d p) : ∃ n : Int, v = .int .i64 n ∧ -9223372036854775808 ≤ n ∧ n ≤ 9223372036854775807 := by
  obtain ⟨n, rfl, _, _, hw⟩ := open_int Tryz.underlying3 hok h
  have a1 : IntKind.i64.min = -9223372036854775808 := rfl
  have a2 : IntKind.i64.max = 9223372036854775807 := rfl
  refine ⟨n, rfl, ?_⟩
  simpa [Lit.wf, a1, a2] using hw
set_option maxRecDepth 100000 in
theorem byte_arg {H : Type} {enc : TypeId × Value → H} {W : World} {base : Nat} {v : Value} {d : DataW H} {p : List MemPlace} (hok : Value.okWide Tryz.prog W .any base 5 v) (h : DataW.Trod enc Tryz.prog W 0 (fun _ => true) true 5 v d p) : ∃ n : Nat, v = .int .u8 (n : Int) ∧ n ≤ 255 := by
  obtain ⟨n, rfl, _, _, hw⟩ := open_int Tryz.underlying5 hok h
  have a1 : IntKind.u8.min = 0 := rfl
  have a2 : IntKind.u8.max = 255 := rfl
  have hb : 0 ≤ n ∧ n ≤ 255 := by simpa [Lit.wf, a1, a2] using hw
  exact ⟨n.toNat, by rw [Int.toNat_of_nonneg hb.1], by omega⟩
set_option maxRecDepth 100000 in
theorem str_arg {H : Type} {enc : TypeId × Value → H} {W : World} {base : Nat} {v : Value} {d : DataW H} {p : List MemPlace} (hok : Value.okWide Tryz.prog W .any base 9 v) (h : DataW.Trod enc Tryz.prog W 0 (fun _ => true) true 9 v d p) : ∃ s : ByteArray, v = .string s ∧ s.size ≤ maxLen := by
  obtain ⟨s, rfl⟩ := okWide_string Tryz.underlying9 hok
  obtain ⟨fuel, hf⟩ := h
  refine ⟨s, rfl, ?_⟩
  cases fuel with
  | zero => simp [DataW.trod] at hf
  | succ n =>
    simp [DataW.trod, Value.cells, Tryz.underlying9] at hf
    exact hf.1
/-- An argument that is an array of two numbers. -/
theorem two_arg {P : Program} {k : IntKind} {t e : TypeId} (ht : P.underlying t = some (.array 2 e)) (he : P.underlying e = some (.int k)) (hc : P.cellsOf t = 2) (hce : P.cellsOf e = 1) {H : Type} {enc : TypeId × Value → H} {W : World} {base : Nat} {v : Value} {d : DataW H} {p : List MemPlace} (hok : Value.okWide P W .any base t v) (h : DataW.Trod enc P W 0 (fun _ => true) true t v d p) : ∃ a b : Int, v = .agg #[.int k a, .int k b] ∧ (Lit.int k a).wf = true ∧ (Lit.int k b).wf = true := by
  simp only [Value.okWide, ht] at hok
  obtain ⟨cs, rfl, hsz, _⟩ := hok
  obtain ⟨fuel, hf⟩ := h
  rw [hc] at hsz
  obtain ⟨x, y, rfl⟩ : ∃ x y, cs = #[x, y] := by
    rcases cs with ⟨l⟩
    match l, hsz with
    | [x, y], _ => exact ⟨x, y, rfl⟩
  obtain ⟨xs, m, _, _, _, hlen, hf2⟩ := DataW.trod_array ht hf
  have h0 := hf2 0 (by decide)
  have h1 := hf2 1 (by decide)
  rw [hce] at h0 h1
  match xs, hlen with
  | [y0, y1], _ =>
    obtain ⟨a, ha, _, hw0⟩ := DataW.trod_int he (x := y0) (by simpa using h0)
    obtain ⟨b, hb, _, hw1⟩ := DataW.trod_int he (x := y1) (by simpa using h1)
    simp [Value.cells] at ha hb
    exact ⟨a, b, by rw [ha, hb], hw0, hw1⟩
end Go.Proofs.YtoadjhmehgkeaaaGreatDoor
namespace Go.Proofs.YtoadjhmehgkeaaaGreatDoor
open Go.ChangeShapes Go.WideShapes Go.ChangeAt Go.RowKit Mth

/-- An argument of bytes, cut to L of them. -/
def CutAs (w : World) (L : Nat) (v : Value) (b : ByteArray) : Prop :=
  (v = .slice none 0 0 ∧ b = ⟨#[]⟩) ∨ ∃ (a : Addr) (len cap m : Nat), v = .slice (some a) len cap ∧ min (len : Int) (L : Int) = (m : Int) ∧ m ≤ cap ∧ cap ≤ 9223372036854775807 ∧ (∀ w', w.grownBy w' none → Sem.run Tryz.prog (convert 22 24 (.slice (some a) m cap)) w' = .ok (.string b) w') ∧ MadeAs w (.slice (some a) m cap) b
set_option maxRecDepth 100000 in
/-- Such an argument. -/
theorem cut_arg {H : Type} {enc : TypeId × Value → H} {W : World} {base : Nat} {v : Value} {d : DataW H} {p : List MemPlace} (L : Nat) (hL : L ≤ 40) (hok : Value.okWide Tryz.prog W .any base 22 v) (h : DataW.Trod enc Tryz.prog W 0 (fun _ => true) true 22 v d p) : ∃ b : ByteArray, CutAs W L v b ∧ b.size ≤ L := by
  obtain ⟨a0, len, cap, rfl⟩ := okWide_slice Tryz.underlying22 hok
  obtain ⟨fuel, hf⟩ := h
  rcases open_ints Tryz.underlying22 Tryz.underlying5 cellsU8 hf with ⟨hcs, hx⟩ | ⟨a, len', cap', zs, hcs, _, hl, hm, hz, hx, hcell, hwz⟩
  · simp [Value.cells] at hcs
    obtain ⟨rfl, rfl, rfl⟩ := hcs
    exact ⟨⟨#[]⟩, .inl ⟨rfl, rfl⟩, by show 0 ≤ L; omega⟩
  · simp [Value.cells] at hcs
    obtain ⟨rfl, rfl, rfl⟩ := hcs
    simp only [if_true] at hz
    obtain ⟨m, hmm⟩ : ∃ m, m = min len L := ⟨_, rfl⟩
    have hm40 : m = min m 40 := by omega
    have hlen : (u8of zs m).length = m := by unfold u8of; simp; omega
    refine ⟨⟨(u8of zs m).toArray⟩, .inr ⟨a, len, cap, m, rfl, by omega, by omega, by unfold maxLen at hm; omega, fun w' hg => ?_, fun w' hg => made_at a m cap m zs w' (by omega) hm hz (fun i hi => hg.cell (hcell i hi) (by simp)) hwz hm40⟩, ?_⟩
    · have hcv := run_convert_bytes_back (P := Tryz.prog) w' 22 24 5 a cap (u8of zs m) Tryz.underlying22 Tryz.underlying5 Tryz.underlying24 (fun j hj => by
        rw [hlen] at hj
        rw [hg.cell (hcell j (by omega)) (by simp)]
        have h1 : j < zs.length := by omega
        have hwf := hwz zs[j] (List.getElem_mem _)
        have w1 : 0 ≤ zs[j] ∧ zs[j] ≤ 255 := by
          have a1 : IntKind.u8.min = 0 := rfl
          have a2 : IntKind.u8.max = 255 := rfl
          simpa [Lit.wf, a1, a2] using hwf
        have e : (u8of zs m)[j]'(by rw [hlen]; exact hj) = UInt8.ofNat zs[j].toNat := by unfold u8of; simp
        rw [e]
        have e2 : zs.getD j 0 = zs[j] := by simp [List.getD, h1]
        rw [e2]
        have e3 : (UInt8.ofNat zs[j].toNat).toNat = zs[j].toNat := by simp; omega
        rw [e3]
        congr 2
        omega)
      rw [hlen] at hcv
      exact hcv
    · show (u8of zs m).toArray.size ≤ L
      simp [hlen]; omega
end Go.Proofs.YtoadjhmehgkeaaaGreatDoor
namespace Go.Proofs.YtoadjhmehgkeaaaGreatDoor
open Go.RowKit Mth

/-- Both powers are the same. -/
def SameP (p q u : ByteArray) : Prop := ∃ (x : ByteArray) (b : Bool), (∀ w, Gives 30 #[.string p, .string q, .string u] w (.tuple #[.string x, .bool b])) ∧ (∀ w, Gives 31 #[.string p, .string q, .string u] w (.tuple #[.string x, .bool b]))
theorem sameP (p q u : ByteArray) (h1 : p.size ≤ 1000000000) (h2 : q.size ≤ 1000000000) (h3 : u.size ≤ 1000000000) (hM : num u.data.toList < 256 ^ 90) : SameP p q u := by
  rcases Nat.eq_zero_or_pos (num u.data.toList) with h | h
  · exact ⟨_, _, fun w => s_pow0 p q u w h h3, fun w => s_rpow0 p q u w h h3⟩
  · exact ⟨_, _, fun w => s_pow p q u _ _ _ w rfl rfl rfl h1 h2 h3 h, fun w => s_rpow p q u _ _ _ w rfl rfl rfl h1 h2 h3 h hM⟩
/-- What the law does after its arguments are cut. -/
theorem pows_nums (c : ByteArray) (hc : c.size ≤ 24) : num c.data.toList + 1 < 256 ^ 90 ∧ num c.data.toList < 256 ^ 90 := by
  have h1 := num_lt c.data.toList
  rw [len_toList] at h1
  have h2 := Nat.pow_le_pow_right (n := 256) (by decide) hc
  have h3 : 256 ^ 24 + 1 < 256 ^ 90 := by decide
  omega

set_option maxHeartbeats 8000000 in
set_option maxRecDepth 100000 in
theorem pows_true (vx ve vm : Value) (a e c : ByteArray) (w : World) (htab : Tab w) (hx : CutAs w 24 vx a) (he : CutAs w 12 ve e) (hm : CutAs w 24 vm c) (hsa : a.size ≤ 24) (hse : e.size ≤ 12) (hsc : c.size ≤ 24) :
    Gives 6 #[vx, ve, vm] w (.bool true) := by
  obtain ⟨hM1, hM0⟩ := pows_nums c hsc
  have HM1 := Lib.hid hM1
  have HM0 := Lib.hid hM0
  have HAdd := Lib.hid (fun w => s_radd c ⟨#[1]⟩ (num c.data.toList) 1 w rfl rfl (by omega) (by decide))
  have hz1 : (S (num c.data.toList + 1)).size ≤ 1000000000 := s_size9 (Nat.lt_trans hM1 (by decide))
  have hn1 : num (S (num c.data.toList + 1)).data.toList < 256 ^ 90 := by rw [s_num]; exact hM1
  generalize S (num c.data.toList + 1) = c1 at HAdd hz1 hn1
  have HN1 := Lib.hid hn1
  clear hM1 hM0 hn1
  rcases hx with ⟨rfl, rfl⟩ | ⟨aa, la, ca, ma, rfl, ha1, ha2, ha3, ha4, _⟩ <;> rcases he with ⟨rfl, rfl⟩ | ⟨ae, le, ce, me, rfl, he1, he2, he3, he4, _⟩ <;> rcases hm with ⟨rfl, rfl⟩ | ⟨am, lm, cm, mm, rfl, hm1, hm2, hm3, hm4, _⟩
  -- cases
  · go_enter Tryz.func6, Tryz.ntmps6
    go_wp2_with fail
    refine (sanity_true _ htab).mono ?_
    rintro _ w0 ⟨rfl, h0⟩
    have hg := gr_then h0 (gr_drew w0 none)
    have hcn : Sem.run Tryz.prog (convert 22 24 (.slice none 0 0)) w0.drew = .ok (.string ⟨#[]⟩) w0.drew := run_convert_bytes_nil (P := Tryz.prog) w0.drew 22 5 Tryz.underlying22 Tryz.underlying5 0 0 24 Tryz.underlying24
    have hmin24 : min (0 : Int) 24 = 0 := by decide
    have hmin12 : min (0 : Int) 12 = 0 := by decide
    go_wp2
    go_region
    go_wp2_with fail
    refine (HAdd.out _).mono ?_
    rintro _ w1 ⟨rfl, h1⟩
    have hg := gr_then hg h1
    obtain ⟨W0, hW0⟩ : ∃ W0 : World, W0 = w1.alloc (.cells #[.string ⟨#[]⟩, .string c1, .string ⟨#[138, 0, 176, 218, 162, 135, 68, 214, 164, 195, 198, 36, 84, 110, 75, 89]⟩] 24) := ⟨_, rfl⟩
    have hthree : ∀ i, i < 3 → ∃ u : ByteArray, W0.cell? ⟨w1.heap.size, i, none⟩ = some (.string u) ∧ u.size ≤ 1000000000 ∧ num u.data.toList < 256 ^ 90 := by
      have key : ∀ (t : TypeId) (xs : Array Value) (j : Nat), (w1.alloc (.cells xs t)).cell? ⟨w1.heap.size, j, none⟩ = xs[j]? := fun t xs j => cell_of_row _ _ j xs t (0, 0) (heap_alloc_new w1 _)
      rw [hW0]
      intro i hi
      rcases i with _ | _ | _ | i
      · exact ⟨⟨#[]⟩, by rw [key]; rfl, (by decide), HM0.out⟩
      · exact ⟨c1, by rw [key]; rfl, hz1, HN1.out⟩
      · exact ⟨_, by rw [key]; rfl, by decide, by decide⟩
      · omega
    have hgw : w.grownBy W0 none := by rw [hW0]; exact gr_then hg (gr_alloc w1 _ none)
    go_wp2
    rw [← hW0]
    generalize w1.heap.size = G at hthree ⊢
    have HP := Lib.hid hthree
    clear hW0 hthree
    go_loopw [41] (fun kv wr => ∃ k : Nat, k ≤ 3 ∧ kv = .int .i64 k ∧ W0.grownBy wr none) (fun kv _ => 3 - (intOf kv).toNat)
    case atStart => exact ⟨0, by omega, rfl, World.grownBy.refl _ _⟩
    case round =>
      obtain ⟨k, hk, rfl, hgr⟩ := hrel
      by_cases hlt : k < 3
      · obtain ⟨u, hc0, hu, hnu⟩ := HP.out k hlt
        have hc0 := hgr.cell hc0 (by simp)
        obtain ⟨x, o2, hn1, hn2⟩ := sameP ⟨#[]⟩ ⟨#[]⟩ u (by decide) (by decide) hu hnu
        have HN1' := Lib.hid hn1
        have HN2' := Lib.hid hn2
        clear hn1 hn2 hnu
        go_wp2_with fail
        refine (HN1'.out _).mono ?_
        rintro _ w9 ⟨rfl, h9⟩
        have hgr := gr_then hgr h9
        go_wp2_with fail
        refine (HN2'.out _).mono ?_
        rintro _ w10 ⟨rfl, h10⟩
        have hgr := gr_then hgr h10
        go_wp2
        exact ⟨⟨k + 1, by omega, by go_num, hgr⟩, by simp [intOf]; omega⟩
      · obtain rfl : k = 3 := by omega
        go_wp2
        go_ret
        exact ⟨rfl, gr_then hgw hgr⟩
  · have hm1 : min (lm : Int) 24 = (mm : Int) := hm1
    go_enter Tryz.func6, Tryz.ntmps6
    go_wp2_with fail
    refine (sanity_true _ htab).mono ?_
    rintro _ w0 ⟨rfl, h0⟩
    have hg := gr_then h0 (gr_drew w0 none)
    have hcn : Sem.run Tryz.prog (convert 22 24 (.slice none 0 0)) w0.drew = .ok (.string ⟨#[]⟩) w0.drew := run_convert_bytes_nil (P := Tryz.prog) w0.drew 22 5 Tryz.underlying22 Tryz.underlying5 0 0 24 Tryz.underlying24
    have hmin24 : min (0 : Int) 24 = 0 := by decide
    have hmin12 : min (0 : Int) 12 = 0 := by decide
    have hcm := hm4 _ hg
    go_wp2
    go_region
    go_wp2_with fail
    refine (HAdd.out _).mono ?_
    rintro _ w1 ⟨rfl, h1⟩
    have hg := gr_then hg h1
    obtain ⟨W0, hW0⟩ : ∃ W0 : World, W0 = w1.alloc (.cells #[.string c, .string c1, .string ⟨#[138, 0, 176, 218, 162, 135, 68, 214, 164, 195, 198, 36, 84, 110, 75, 89]⟩] 24) := ⟨_, rfl⟩
    have hthree : ∀ i, i < 3 → ∃ u : ByteArray, W0.cell? ⟨w1.heap.size, i, none⟩ = some (.string u) ∧ u.size ≤ 1000000000 ∧ num u.data.toList < 256 ^ 90 := by
      have key : ∀ (t : TypeId) (xs : Array Value) (j : Nat), (w1.alloc (.cells xs t)).cell? ⟨w1.heap.size, j, none⟩ = xs[j]? := fun t xs j => cell_of_row _ _ j xs t (0, 0) (heap_alloc_new w1 _)
      rw [hW0]
      intro i hi
      rcases i with _ | _ | _ | i
      · exact ⟨c, by rw [key]; rfl, (by omega), HM0.out⟩
      · exact ⟨c1, by rw [key]; rfl, hz1, HN1.out⟩
      · exact ⟨_, by rw [key]; rfl, by decide, by decide⟩
      · omega
    have hgw : w.grownBy W0 none := by rw [hW0]; exact gr_then hg (gr_alloc w1 _ none)
    go_wp2
    rw [← hW0]
    generalize w1.heap.size = G at hthree ⊢
    have HP := Lib.hid hthree
    clear hW0 hthree
    go_loopw [41] (fun kv wr => ∃ k : Nat, k ≤ 3 ∧ kv = .int .i64 k ∧ W0.grownBy wr none) (fun kv _ => 3 - (intOf kv).toNat)
    case atStart => exact ⟨0, by omega, rfl, World.grownBy.refl _ _⟩
    case round =>
      obtain ⟨k, hk, rfl, hgr⟩ := hrel
      by_cases hlt : k < 3
      · obtain ⟨u, hc0, hu, hnu⟩ := HP.out k hlt
        have hc0 := hgr.cell hc0 (by simp)
        obtain ⟨x, o2, hn1, hn2⟩ := sameP ⟨#[]⟩ ⟨#[]⟩ u (by decide) (by decide) hu hnu
        have HN1' := Lib.hid hn1
        have HN2' := Lib.hid hn2
        clear hn1 hn2 hnu
        go_wp2_with fail
        refine (HN1'.out _).mono ?_
        rintro _ w9 ⟨rfl, h9⟩
        have hgr := gr_then hgr h9
        go_wp2_with fail
        refine (HN2'.out _).mono ?_
        rintro _ w10 ⟨rfl, h10⟩
        have hgr := gr_then hgr h10
        go_wp2
        exact ⟨⟨k + 1, by omega, by go_num, hgr⟩, by simp [intOf]; omega⟩
      · obtain rfl : k = 3 := by omega
        go_wp2
        go_ret
        exact ⟨rfl, gr_then hgw hgr⟩
  · have he1 : min (le : Int) 12 = (me : Int) := he1
    go_enter Tryz.func6, Tryz.ntmps6
    go_wp2_with fail
    refine (sanity_true _ htab).mono ?_
    rintro _ w0 ⟨rfl, h0⟩
    have hg := gr_then h0 (gr_drew w0 none)
    have hcn : Sem.run Tryz.prog (convert 22 24 (.slice none 0 0)) w0.drew = .ok (.string ⟨#[]⟩) w0.drew := run_convert_bytes_nil (P := Tryz.prog) w0.drew 22 5 Tryz.underlying22 Tryz.underlying5 0 0 24 Tryz.underlying24
    have hmin24 : min (0 : Int) 24 = 0 := by decide
    have hmin12 : min (0 : Int) 12 = 0 := by decide
    have hce := he4 _ hg
    go_wp2
    go_region
    go_wp2_with fail
    refine (HAdd.out _).mono ?_
    rintro _ w1 ⟨rfl, h1⟩
    have hg := gr_then hg h1
    obtain ⟨W0, hW0⟩ : ∃ W0 : World, W0 = w1.alloc (.cells #[.string ⟨#[]⟩, .string c1, .string ⟨#[138, 0, 176, 218, 162, 135, 68, 214, 164, 195, 198, 36, 84, 110, 75, 89]⟩] 24) := ⟨_, rfl⟩
    have hthree : ∀ i, i < 3 → ∃ u : ByteArray, W0.cell? ⟨w1.heap.size, i, none⟩ = some (.string u) ∧ u.size ≤ 1000000000 ∧ num u.data.toList < 256 ^ 90 := by
      have key : ∀ (t : TypeId) (xs : Array Value) (j : Nat), (w1.alloc (.cells xs t)).cell? ⟨w1.heap.size, j, none⟩ = xs[j]? := fun t xs j => cell_of_row _ _ j xs t (0, 0) (heap_alloc_new w1 _)
      rw [hW0]
      intro i hi
      rcases i with _ | _ | _ | i
      · exact ⟨⟨#[]⟩, by rw [key]; rfl, (by decide), HM0.out⟩
      · exact ⟨c1, by rw [key]; rfl, hz1, HN1.out⟩
      · exact ⟨_, by rw [key]; rfl, by decide, by decide⟩
      · omega
    have hgw : w.grownBy W0 none := by rw [hW0]; exact gr_then hg (gr_alloc w1 _ none)
    go_wp2
    rw [← hW0]
    generalize w1.heap.size = G at hthree ⊢
    have HP := Lib.hid hthree
    clear hW0 hthree
    go_loopw [41] (fun kv wr => ∃ k : Nat, k ≤ 3 ∧ kv = .int .i64 k ∧ W0.grownBy wr none) (fun kv _ => 3 - (intOf kv).toNat)
    case atStart => exact ⟨0, by omega, rfl, World.grownBy.refl _ _⟩
    case round =>
      obtain ⟨k, hk, rfl, hgr⟩ := hrel
      by_cases hlt : k < 3
      · obtain ⟨u, hc0, hu, hnu⟩ := HP.out k hlt
        have hc0 := hgr.cell hc0 (by simp)
        obtain ⟨x, o2, hn1, hn2⟩ := sameP ⟨#[]⟩ e u (by decide) (by omega) hu hnu
        have HN1' := Lib.hid hn1
        have HN2' := Lib.hid hn2
        clear hn1 hn2 hnu
        go_wp2_with fail
        refine (HN1'.out _).mono ?_
        rintro _ w9 ⟨rfl, h9⟩
        have hgr := gr_then hgr h9
        go_wp2_with fail
        refine (HN2'.out _).mono ?_
        rintro _ w10 ⟨rfl, h10⟩
        have hgr := gr_then hgr h10
        go_wp2
        exact ⟨⟨k + 1, by omega, by go_num, hgr⟩, by simp [intOf]; omega⟩
      · obtain rfl : k = 3 := by omega
        go_wp2
        go_ret
        exact ⟨rfl, gr_then hgw hgr⟩
  · have he1 : min (le : Int) 12 = (me : Int) := he1
    have hm1 : min (lm : Int) 24 = (mm : Int) := hm1
    go_enter Tryz.func6, Tryz.ntmps6
    go_wp2_with fail
    refine (sanity_true _ htab).mono ?_
    rintro _ w0 ⟨rfl, h0⟩
    have hg := gr_then h0 (gr_drew w0 none)
    have hcn : Sem.run Tryz.prog (convert 22 24 (.slice none 0 0)) w0.drew = .ok (.string ⟨#[]⟩) w0.drew := run_convert_bytes_nil (P := Tryz.prog) w0.drew 22 5 Tryz.underlying22 Tryz.underlying5 0 0 24 Tryz.underlying24
    have hmin24 : min (0 : Int) 24 = 0 := by decide
    have hmin12 : min (0 : Int) 12 = 0 := by decide
    have hce := he4 _ hg
    have hcm := hm4 _ hg
    go_wp2
    go_region
    go_wp2_with fail
    refine (HAdd.out _).mono ?_
    rintro _ w1 ⟨rfl, h1⟩
    have hg := gr_then hg h1
    obtain ⟨W0, hW0⟩ : ∃ W0 : World, W0 = w1.alloc (.cells #[.string c, .string c1, .string ⟨#[138, 0, 176, 218, 162, 135, 68, 214, 164, 195, 198, 36, 84, 110, 75, 89]⟩] 24) := ⟨_, rfl⟩
    have hthree : ∀ i, i < 3 → ∃ u : ByteArray, W0.cell? ⟨w1.heap.size, i, none⟩ = some (.string u) ∧ u.size ≤ 1000000000 ∧ num u.data.toList < 256 ^ 90 := by
      have key : ∀ (t : TypeId) (xs : Array Value) (j : Nat), (w1.alloc (.cells xs t)).cell? ⟨w1.heap.size, j, none⟩ = xs[j]? := fun t xs j => cell_of_row _ _ j xs t (0, 0) (heap_alloc_new w1 _)
      rw [hW0]
      intro i hi
      rcases i with _ | _ | _ | i
      · exact ⟨c, by rw [key]; rfl, (by omega), HM0.out⟩
      · exact ⟨c1, by rw [key]; rfl, hz1, HN1.out⟩
      · exact ⟨_, by rw [key]; rfl, by decide, by decide⟩
      · omega
    have hgw : w.grownBy W0 none := by rw [hW0]; exact gr_then hg (gr_alloc w1 _ none)
    go_wp2
    rw [← hW0]
    generalize w1.heap.size = G at hthree ⊢
    have HP := Lib.hid hthree
    clear hW0 hthree
    go_loopw [41] (fun kv wr => ∃ k : Nat, k ≤ 3 ∧ kv = .int .i64 k ∧ W0.grownBy wr none) (fun kv _ => 3 - (intOf kv).toNat)
    case atStart => exact ⟨0, by omega, rfl, World.grownBy.refl _ _⟩
    case round =>
      obtain ⟨k, hk, rfl, hgr⟩ := hrel
      by_cases hlt : k < 3
      · obtain ⟨u, hc0, hu, hnu⟩ := HP.out k hlt
        have hc0 := hgr.cell hc0 (by simp)
        obtain ⟨x, o2, hn1, hn2⟩ := sameP ⟨#[]⟩ e u (by decide) (by omega) hu hnu
        have HN1' := Lib.hid hn1
        have HN2' := Lib.hid hn2
        clear hn1 hn2 hnu
        go_wp2_with fail
        refine (HN1'.out _).mono ?_
        rintro _ w9 ⟨rfl, h9⟩
        have hgr := gr_then hgr h9
        go_wp2_with fail
        refine (HN2'.out _).mono ?_
        rintro _ w10 ⟨rfl, h10⟩
        have hgr := gr_then hgr h10
        go_wp2
        exact ⟨⟨k + 1, by omega, by go_num, hgr⟩, by simp [intOf]; omega⟩
      · obtain rfl : k = 3 := by omega
        go_wp2
        go_ret
        exact ⟨rfl, gr_then hgw hgr⟩
  · have ha1 : min (la : Int) 24 = (ma : Int) := ha1
    go_enter Tryz.func6, Tryz.ntmps6
    go_wp2_with fail
    refine (sanity_true _ htab).mono ?_
    rintro _ w0 ⟨rfl, h0⟩
    have hg := gr_then h0 (gr_drew w0 none)
    have hcn : Sem.run Tryz.prog (convert 22 24 (.slice none 0 0)) w0.drew = .ok (.string ⟨#[]⟩) w0.drew := run_convert_bytes_nil (P := Tryz.prog) w0.drew 22 5 Tryz.underlying22 Tryz.underlying5 0 0 24 Tryz.underlying24
    have hmin24 : min (0 : Int) 24 = 0 := by decide
    have hmin12 : min (0 : Int) 12 = 0 := by decide
    have hca := ha4 _ hg
    go_wp2
    go_region
    go_wp2_with fail
    refine (HAdd.out _).mono ?_
    rintro _ w1 ⟨rfl, h1⟩
    have hg := gr_then hg h1
    obtain ⟨W0, hW0⟩ : ∃ W0 : World, W0 = w1.alloc (.cells #[.string ⟨#[]⟩, .string c1, .string ⟨#[138, 0, 176, 218, 162, 135, 68, 214, 164, 195, 198, 36, 84, 110, 75, 89]⟩] 24) := ⟨_, rfl⟩
    have hthree : ∀ i, i < 3 → ∃ u : ByteArray, W0.cell? ⟨w1.heap.size, i, none⟩ = some (.string u) ∧ u.size ≤ 1000000000 ∧ num u.data.toList < 256 ^ 90 := by
      have key : ∀ (t : TypeId) (xs : Array Value) (j : Nat), (w1.alloc (.cells xs t)).cell? ⟨w1.heap.size, j, none⟩ = xs[j]? := fun t xs j => cell_of_row _ _ j xs t (0, 0) (heap_alloc_new w1 _)
      rw [hW0]
      intro i hi
      rcases i with _ | _ | _ | i
      · exact ⟨⟨#[]⟩, by rw [key]; rfl, (by decide), HM0.out⟩
      · exact ⟨c1, by rw [key]; rfl, hz1, HN1.out⟩
      · exact ⟨_, by rw [key]; rfl, by decide, by decide⟩
      · omega
    have hgw : w.grownBy W0 none := by rw [hW0]; exact gr_then hg (gr_alloc w1 _ none)
    go_wp2
    rw [← hW0]
    generalize w1.heap.size = G at hthree ⊢
    have HP := Lib.hid hthree
    clear hW0 hthree
    go_loopw [41] (fun kv wr => ∃ k : Nat, k ≤ 3 ∧ kv = .int .i64 k ∧ W0.grownBy wr none) (fun kv _ => 3 - (intOf kv).toNat)
    case atStart => exact ⟨0, by omega, rfl, World.grownBy.refl _ _⟩
    case round =>
      obtain ⟨k, hk, rfl, hgr⟩ := hrel
      by_cases hlt : k < 3
      · obtain ⟨u, hc0, hu, hnu⟩ := HP.out k hlt
        have hc0 := hgr.cell hc0 (by simp)
        obtain ⟨x, o2, hn1, hn2⟩ := sameP a ⟨#[]⟩ u (by omega) (by decide) hu hnu
        have HN1' := Lib.hid hn1
        have HN2' := Lib.hid hn2
        clear hn1 hn2 hnu
        go_wp2_with fail
        refine (HN1'.out _).mono ?_
        rintro _ w9 ⟨rfl, h9⟩
        have hgr := gr_then hgr h9
        go_wp2_with fail
        refine (HN2'.out _).mono ?_
        rintro _ w10 ⟨rfl, h10⟩
        have hgr := gr_then hgr h10
        go_wp2
        exact ⟨⟨k + 1, by omega, by go_num, hgr⟩, by simp [intOf]; omega⟩
      · obtain rfl : k = 3 := by omega
        go_wp2
        go_ret
        exact ⟨rfl, gr_then hgw hgr⟩
  · have ha1 : min (la : Int) 24 = (ma : Int) := ha1
    have hm1 : min (lm : Int) 24 = (mm : Int) := hm1
    go_enter Tryz.func6, Tryz.ntmps6
    go_wp2_with fail
    refine (sanity_true _ htab).mono ?_
    rintro _ w0 ⟨rfl, h0⟩
    have hg := gr_then h0 (gr_drew w0 none)
    have hcn : Sem.run Tryz.prog (convert 22 24 (.slice none 0 0)) w0.drew = .ok (.string ⟨#[]⟩) w0.drew := run_convert_bytes_nil (P := Tryz.prog) w0.drew 22 5 Tryz.underlying22 Tryz.underlying5 0 0 24 Tryz.underlying24
    have hmin24 : min (0 : Int) 24 = 0 := by decide
    have hmin12 : min (0 : Int) 12 = 0 := by decide
    have hca := ha4 _ hg
    have hcm := hm4 _ hg
    go_wp2
    go_region
    go_wp2_with fail
    refine (HAdd.out _).mono ?_
    rintro _ w1 ⟨rfl, h1⟩
    have hg := gr_then hg h1
    obtain ⟨W0, hW0⟩ : ∃ W0 : World, W0 = w1.alloc (.cells #[.string c, .string c1, .string ⟨#[138, 0, 176, 218, 162, 135, 68, 214, 164, 195, 198, 36, 84, 110, 75, 89]⟩] 24) := ⟨_, rfl⟩
    have hthree : ∀ i, i < 3 → ∃ u : ByteArray, W0.cell? ⟨w1.heap.size, i, none⟩ = some (.string u) ∧ u.size ≤ 1000000000 ∧ num u.data.toList < 256 ^ 90 := by
      have key : ∀ (t : TypeId) (xs : Array Value) (j : Nat), (w1.alloc (.cells xs t)).cell? ⟨w1.heap.size, j, none⟩ = xs[j]? := fun t xs j => cell_of_row _ _ j xs t (0, 0) (heap_alloc_new w1 _)
      rw [hW0]
      intro i hi
      rcases i with _ | _ | _ | i
      · exact ⟨c, by rw [key]; rfl, (by omega), HM0.out⟩
      · exact ⟨c1, by rw [key]; rfl, hz1, HN1.out⟩
      · exact ⟨_, by rw [key]; rfl, by decide, by decide⟩
      · omega
    have hgw : w.grownBy W0 none := by rw [hW0]; exact gr_then hg (gr_alloc w1 _ none)
    go_wp2
    rw [← hW0]
    generalize w1.heap.size = G at hthree ⊢
    have HP := Lib.hid hthree
    clear hW0 hthree
    go_loopw [41] (fun kv wr => ∃ k : Nat, k ≤ 3 ∧ kv = .int .i64 k ∧ W0.grownBy wr none) (fun kv _ => 3 - (intOf kv).toNat)
    case atStart => exact ⟨0, by omega, rfl, World.grownBy.refl _ _⟩
    case round =>
      obtain ⟨k, hk, rfl, hgr⟩ := hrel
      by_cases hlt : k < 3
      · obtain ⟨u, hc0, hu, hnu⟩ := HP.out k hlt
        have hc0 := hgr.cell hc0 (by simp)
        obtain ⟨x, o2, hn1, hn2⟩ := sameP a ⟨#[]⟩ u (by omega) (by decide) hu hnu
        have HN1' := Lib.hid hn1
        have HN2' := Lib.hid hn2
        clear hn1 hn2 hnu
        go_wp2_with fail
        refine (HN1'.out _).mono ?_
        rintro _ w9 ⟨rfl, h9⟩
        have hgr := gr_then hgr h9
        go_wp2_with fail
        refine (HN2'.out _).mono ?_
        rintro _ w10 ⟨rfl, h10⟩
        have hgr := gr_then hgr h10
        go_wp2
        exact ⟨⟨k + 1, by omega, by go_num, hgr⟩, by simp [intOf]; omega⟩
      · obtain rfl : k = 3 := by omega
        go_wp2
        go_ret
        exact ⟨rfl, gr_then hgw hgr⟩
  · have ha1 : min (la : Int) 24 = (ma : Int) := ha1
    have he1 : min (le : Int) 12 = (me : Int) := he1
    go_enter Tryz.func6, Tryz.ntmps6
    go_wp2_with fail
    refine (sanity_true _ htab).mono ?_
    rintro _ w0 ⟨rfl, h0⟩
    have hg := gr_then h0 (gr_drew w0 none)
    have hcn : Sem.run Tryz.prog (convert 22 24 (.slice none 0 0)) w0.drew = .ok (.string ⟨#[]⟩) w0.drew := run_convert_bytes_nil (P := Tryz.prog) w0.drew 22 5 Tryz.underlying22 Tryz.underlying5 0 0 24 Tryz.underlying24
    have hmin24 : min (0 : Int) 24 = 0 := by decide
    have hmin12 : min (0 : Int) 12 = 0 := by decide
    have hca := ha4 _ hg
    have hce := he4 _ hg
    go_wp2
    go_region
    go_wp2_with fail
    refine (HAdd.out _).mono ?_
    rintro _ w1 ⟨rfl, h1⟩
    have hg := gr_then hg h1
    obtain ⟨W0, hW0⟩ : ∃ W0 : World, W0 = w1.alloc (.cells #[.string ⟨#[]⟩, .string c1, .string ⟨#[138, 0, 176, 218, 162, 135, 68, 214, 164, 195, 198, 36, 84, 110, 75, 89]⟩] 24) := ⟨_, rfl⟩
    have hthree : ∀ i, i < 3 → ∃ u : ByteArray, W0.cell? ⟨w1.heap.size, i, none⟩ = some (.string u) ∧ u.size ≤ 1000000000 ∧ num u.data.toList < 256 ^ 90 := by
      have key : ∀ (t : TypeId) (xs : Array Value) (j : Nat), (w1.alloc (.cells xs t)).cell? ⟨w1.heap.size, j, none⟩ = xs[j]? := fun t xs j => cell_of_row _ _ j xs t (0, 0) (heap_alloc_new w1 _)
      rw [hW0]
      intro i hi
      rcases i with _ | _ | _ | i
      · exact ⟨⟨#[]⟩, by rw [key]; rfl, (by decide), HM0.out⟩
      · exact ⟨c1, by rw [key]; rfl, hz1, HN1.out⟩
      · exact ⟨_, by rw [key]; rfl, by decide, by decide⟩
      · omega
    have hgw : w.grownBy W0 none := by rw [hW0]; exact gr_then hg (gr_alloc w1 _ none)
    go_wp2
    rw [← hW0]
    generalize w1.heap.size = G at hthree ⊢
    have HP := Lib.hid hthree
    clear hW0 hthree
    go_loopw [41] (fun kv wr => ∃ k : Nat, k ≤ 3 ∧ kv = .int .i64 k ∧ W0.grownBy wr none) (fun kv _ => 3 - (intOf kv).toNat)
    case atStart => exact ⟨0, by omega, rfl, World.grownBy.refl _ _⟩
    case round =>
      obtain ⟨k, hk, rfl, hgr⟩ := hrel
      by_cases hlt : k < 3
      · obtain ⟨u, hc0, hu, hnu⟩ := HP.out k hlt
        have hc0 := hgr.cell hc0 (by simp)
        obtain ⟨x, o2, hn1, hn2⟩ := sameP a e u (by omega) (by omega) hu hnu
        have HN1' := Lib.hid hn1
        have HN2' := Lib.hid hn2
        clear hn1 hn2 hnu
        go_wp2_with fail
        refine (HN1'.out _).mono ?_
        rintro _ w9 ⟨rfl, h9⟩
        have hgr := gr_then hgr h9
        go_wp2_with fail
        refine (HN2'.out _).mono ?_
        rintro _ w10 ⟨rfl, h10⟩
        have hgr := gr_then hgr h10
        go_wp2
        exact ⟨⟨k + 1, by omega, by go_num, hgr⟩, by simp [intOf]; omega⟩
      · obtain rfl : k = 3 := by omega
        go_wp2
        go_ret
        exact ⟨rfl, gr_then hgw hgr⟩
  · have ha1 : min (la : Int) 24 = (ma : Int) := ha1
    have he1 : min (le : Int) 12 = (me : Int) := he1
    have hm1 : min (lm : Int) 24 = (mm : Int) := hm1
    go_enter Tryz.func6, Tryz.ntmps6
    go_wp2_with fail
    refine (sanity_true _ htab).mono ?_
    rintro _ w0 ⟨rfl, h0⟩
    have hg := gr_then h0 (gr_drew w0 none)
    have hca := ha4 _ hg
    have hce := he4 _ hg
    have hcm := hm4 _ hg
    go_wp2
    go_region
    go_wp2_with fail
    refine (HAdd.out _).mono ?_
    rintro _ w1 ⟨rfl, h1⟩
    have hg := gr_then hg h1
    obtain ⟨W0, hW0⟩ : ∃ W0 : World, W0 = w1.alloc (.cells #[.string c, .string c1, .string ⟨#[138, 0, 176, 218, 162, 135, 68, 214, 164, 195, 198, 36, 84, 110, 75, 89]⟩] 24) := ⟨_, rfl⟩
    have hthree : ∀ i, i < 3 → ∃ u : ByteArray, W0.cell? ⟨w1.heap.size, i, none⟩ = some (.string u) ∧ u.size ≤ 1000000000 ∧ num u.data.toList < 256 ^ 90 := by
      have key : ∀ (t : TypeId) (xs : Array Value) (j : Nat), (w1.alloc (.cells xs t)).cell? ⟨w1.heap.size, j, none⟩ = xs[j]? := fun t xs j => cell_of_row _ _ j xs t (0, 0) (heap_alloc_new w1 _)
      rw [hW0]
      intro i hi
      rcases i with _ | _ | _ | i
      · exact ⟨c, by rw [key]; rfl, (by omega), HM0.out⟩
      · exact ⟨c1, by rw [key]; rfl, hz1, HN1.out⟩
      · exact ⟨_, by rw [key]; rfl, by decide, by decide⟩
      · omega
    have hgw : w.grownBy W0 none := by rw [hW0]; exact gr_then hg (gr_alloc w1 _ none)
    go_wp2
    rw [← hW0]
    generalize w1.heap.size = G at hthree ⊢
    have HP := Lib.hid hthree
    clear hW0 hthree
    go_loopw [41] (fun kv wr => ∃ k : Nat, k ≤ 3 ∧ kv = .int .i64 k ∧ W0.grownBy wr none) (fun kv _ => 3 - (intOf kv).toNat)
    case atStart => exact ⟨0, by omega, rfl, World.grownBy.refl _ _⟩
    case round =>
      obtain ⟨k, hk, rfl, hgr⟩ := hrel
      by_cases hlt : k < 3
      · obtain ⟨u, hc0, hu, hnu⟩ := HP.out k hlt
        have hc0 := hgr.cell hc0 (by simp)
        obtain ⟨x, o2, hn1, hn2⟩ := sameP a e u (by omega) (by omega) hu hnu
        have HN1' := Lib.hid hn1
        have HN2' := Lib.hid hn2
        clear hn1 hn2 hnu
        go_wp2_with fail
        refine (HN1'.out _).mono ?_
        rintro _ w9 ⟨rfl, h9⟩
        have hgr := gr_then hgr h9
        go_wp2_with fail
        refine (HN2'.out _).mono ?_
        rintro _ w10 ⟨rfl, h10⟩
        have hgr := gr_then hgr h10
        go_wp2
        exact ⟨⟨k + 1, by omega, by go_num, hgr⟩, by simp [intOf]; omega⟩
      · obtain rfl : k = 3 := by omega
        go_wp2
        go_ret
        exact ⟨rfl, gr_then hgw hgr⟩
end Go.Proofs.YtoadjhmehgkeaaaGreatDoor
namespace Go.Proofs.YtoadjhmehgkeaaaGreatDoor
open Go.ChangeShapes Go.WideShapes Go.ChangeAt Go.RowKit Mth

set_option maxRecDepth 1000000 in
theorem pows_laid (os : Os) (args : Array Value) : laidMet Tryz.prog Rows.natPowsRow.laid ((laidWorld os).forCall (fun _ _ => 0) ⟨#[], args, []⟩).memory :=
  have h : LaidIn Tryz.prog ((laidWorld os).forCall (fun _ _ => 0) ⟨#[], args, []⟩).memory Rows.natPowsRow.laid [4, 5, 2] :=
    LaidIn.of_run [4, 5, 2] 8 (by kernel_rfl) (by kernel_rfl) (by kernel_rfl) (by kernel_rfl)
  h.met
theorem pows_tab {w : World} (h : laidMet Tryz.prog Rows.natPowsRow.laid w) : Tab w :=
  Lib.tabIs_of_head (g := 2) (t := 178) (e := 96) (n := 20) (by kernel_rfl) (by kernel_rfl) (by kernel_rfl) (by kernel_rfl) (by kernel_rfl) (by kernel_rfl) (show laidMet Tryz.prog [("internal/strconv.uint64pow10", Lib.tabData .u64 Lib.pow10Tab)] w from h.tail.tail)

set_option maxRecDepth 1000000 in
set_option maxHeartbeats 4000000 in
theorem pows_lifted (os : Os) (started : os.Started) (H : Type) (enc : TypeId × Value → H) :
    ReturnsInHanded {} Tryz.checked os 6 .any (fun w args => (Rows.natPowsSpec.pre enc Tryz.prog Tryz.f6 Rows.natPowsRow.domain false w args ∧ laidMet Tryz.prog Rows.natPowsRow.laid w) ∧ sizedMet enc Tryz.prog Tryz.f6 (OpenSpec.ofChange Rows.natPowsSpec) false w args)
      (Rows.natPowsSpec.post enc Tryz.prog Tryz.f6 false true false false) := by
  refine returnsInHanded_of_change_and (C := Tryz.checked) (X := fun w _ => laidMet Tryz.prog Rows.natPowsRow.laid w) (fun _ _ _ hh h => h.of_heap hh) own0 started (by kernel_rfl) Tryz.func6
    (ChangeSpec.witness_at (enc := enc) (C := Tryz.checked) (os := os) (X := fun w _ => laidMet Tryz.prog Rows.natPowsRow.laid w) false (laidWorld os) #[.slice none 0 0, .slice none 0 0, .slice none 0 0] 8 rfl (by kernel_rfl) (by kernel_rfl) (by kernel_rfl) (by kernel_rfl) (by kernel_rfl) (pows_laid os _)) ?_
  intro W base args ds gs before hval0 hW hcnd0 _ hL _
  have hval : ∀ (j : Nat) t v, Tryz.f6.params[j]? = some t → args[j]? = some v → Value.okWide Tryz.prog W .any base t v := hval0
  have hW' := hW
  obtain ⟨p, q, hA0, hV, rfl, hfz, hnd⟩ := hW
  have hA : DataW.TrodAll enc Tryz.prog W 0 (fun _ => true) true Tryz.f6.params.toList args.toList ds p := hA0
  rw [Tryz.params6] at hA hval
  obtain ⟨v0, v1, v2, d0, d1, d2, p0, p1, p2, rfl, rfl, rfl, h0, h1, h2⟩ := trodAll_three hA
  obtain ⟨rfl, rfl⟩ := trodVars_none hV
  clear hA0 hval0 hA
  simp only [List.append_nil] at hW'
  have k0 := hval 0 22 v0 rfl rfl
  have k1 := hval 1 22 v1 rfl rfl
  have k2 := hval 2 22 v2 rfl rfl
  obtain ⟨b0, m0, s0⟩ := cut_arg 24 (by decide) k0 h0
  obtain ⟨b1, m1, s1⟩ := cut_arg 12 (by decide) k1 h1
  obtain ⟨b2, m2, s2⟩ := cut_arg 24 (by decide) k2 h2
  refine (pows_true v0 v1 v2 b0 b1 b2 W (pows_tab hL) m0 m1 m2 s0 s1 s2).mono fun e W' ⟨he, hg⟩ => ?_
  subst he
  have hb : Below W.heap.size W W' := gr_low hg (Nat.le_refl _)
  have hlt : ∀ x ∈ p0 ++ p1 ++ p2, x.block < W.heap.size := fun x hx => by simpa using hW'.lt x hx
  have hl0 : ∀ x ∈ p0, x.block < W.heap.size := fun x hx => hlt x (by simp [hx])
  have hl1 : ∀ x ∈ p1, x.block < W.heap.size := fun x hx => hlt x (by simp [hx])
  have hl2 : ∀ x ∈ p2, x.block < W.heap.size := fun x hx => hlt x (by simp [hx])
  refine ⟨_, rfl, _, _, _, [], p0 ++ p1 ++ p2, [], hW', ?_, ?_, rfl, hb.frame _, fun h => by cases h⟩
  · exact trodAll_mk1 (shut_bool Tryz.underlying4 true)
  · have h3 := trodAll_mk3 (Below.trod laidOut0 (by kernel_rfl) (of_decide_eq_true (by kernel_rfl)) h0 hb hl0) (Below.trod laidOut0 (by kernel_rfl) (of_decide_eq_true (by kernel_rfl)) h1 hb hl1) (Below.trod laidOut0 (by kernel_rfl) (of_decide_eq_true (by kernel_rfl)) h2 hb hl2)
    rw [← List.append_assoc] at h3
    exact h3

theorem pows_row : Rows.NatPowsSaid :=
  OpenClaim.holds_of_wide 6 Tryz.f6 rfl rfl rfl rfl rfl rfl rfl ⟨rfl, rfl, rfl, rfl, rfl⟩ rfl rfl rfl rfl rfl (by kernel_rfl) Tryz.func6 (by kernel_rfl)
    (of_decide_eq_true (by kernel_rfl)) (by unfold Func.isWrapper; first | (rw [if_pos (by decide +kernel)]; kernel_rfl) | (rw [if_neg (by decide +kernel)]; exact ⟨rfl, rfl⟩))
    (fun os started H enc _ => pows_lifted os started H enc)
end Go.Proofs.YtoadjhmehgkeaaaGreatDoor
