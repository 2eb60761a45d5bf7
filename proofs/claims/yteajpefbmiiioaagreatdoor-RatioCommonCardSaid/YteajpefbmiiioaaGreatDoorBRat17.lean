/- Contracts of the program and of the reference, part 17: RowK. -/
import Derived.Test.YteajpefbmiiioaaGreatDoorBRat16
import Derived.Test.YteajpefbmiiioaaGreatDoorRows
import Derived.ProofKit
import Derived.ChangeSlices
import Derived.LaidLaws
import Derived.Lib.LaidIn
import Derived.Lib.LaidTab
import Derived.Stop.LaidErr
import Derived.OpenShut
namespace Go.Proofs.YteajpefbmiiioaaGreatDoor
open Go.ChangeShapes Go.WideShapes Go.ChangeAt Go.RowKit Mth

theorem own0 : ownKnob Tryz.prog.godebug = none := by kernel_rfl
theorem laidOut0 : laidOutB Tryz.prog = true := by kernel_rfl
theorem cellsU8 : Tryz.prog.cellsOf 5 = 1 := by kernel_rfl

def u8of (zs : List Int) (m : Nat) : List UInt8 := (zs.take m).map fun z => UInt8.ofNat z.toNat
set_option maxRecDepth 100000 in
theorem made_at (a : Addr) (len cap m : Nat) (zs : List Int) (w : World) (hl : len ≤ cap) (hm : cap ≤ maxLen) (hz : zs.length = cap) (hcell : ∀ i, i < zs.length → w.cell? (a.add i) = some (.int .u8 (zs.getD i 0))) (hw : ∀ n ∈ zs, (Lit.int .u8 n).wf = true) (hmin : m = min len 40) :
    Calls Tryz.prog 15 #[.slice (some a) len cap] w fun e w' => e = .returned (.string ⟨(u8of zs m).toArray⟩) ∧ w = w' := by
  unfold maxLen at hm
  have hm1 : min (len : Int) 40 = (m : Int) := by omega
  have hm2 : m ≤ cap := by omega
  have hlen : (u8of zs m).length = m := by unfold u8of; simp; omega
  have hcv := run_convert_bytes_back (P := Tryz.prog) w 22 24 5 a cap (u8of zs m) Tryz.underlying22 Tryz.underlying5 Tryz.underlying24 (fun j hj => by
    rw [hlen] at hj
    rw [hcell j (by omega)]
    have h1 : j < zs.length := by omega
    have hwf := hw zs[j] (List.getElem_mem _)
    have w1 : 0 ≤ zs[j] ∧ zs[j] ≤ 255 := by
      have a1 : IntKind.u8.min = 0 := rfl
      have a2 : IntKind.u8.max = 255 := rfl
      simpa [Lit.wf, a1, a2] using hwf
    have e : (u8of zs m)[j]'(by rw [hlen]; exact hj) = UInt8.ofNat zs[j].toNat := by unfold u8of; simp
    rw [e]
    have e2 : zs.getD j 0 = zs[j] := by simp [List.getD, h1]
    rw [e2]
    have e3 : (UInt8.ofNat zs[j].toNat).toNat = zs[j].toNat := by simp; omega
    rw [e3]
    congr 2
    omega)
  rw [hlen] at hcv
  generalize (⟨(u8of zs m).toArray⟩ : ByteArray) = str at hcv
  clear hcell hw hz hmin hlen
  go_enter Tryz.func15, Tryz.ntmps15
  go_wp2
  go_ret
  exact ⟨rfl, rfl⟩

theorem made_as (a : Addr) (len cap : Nat) (zs : List Int) (w : World) (hl : len ≤ cap) (hm : cap ≤ maxLen) (hz : zs.length = cap) (hcell : ∀ i, i < zs.length → w.cell? (a.add i) = some (.int .u8 (zs.getD i 0))) (hw : ∀ n ∈ zs, (Lit.int .u8 n).wf = true) : ∃ b : ByteArray, MadeAs w (.slice (some a) len cap) b ∧ b.size ≤ 40 := by
  refine ⟨⟨(u8of zs (min len 40)).toArray⟩, fun w' hg => made_at a len cap _ zs w' hl hm hz (fun i hi => hg.cell (hcell i hi) (by simp)) hw rfl, ?_⟩
  show (u8of zs (min len 40)).toArray.size ≤ 40
  unfold u8of
  simp
  omega
theorem made_as_nil (w : World) : ∃ b : ByteArray, MadeAs w (.slice none 0 0) b ∧ b.size ≤ 40 := ⟨⟨#[]⟩, fun w' _ => made_nil w', by decide⟩

def cellsD : DataW Unit → Array Value
  | .agg l => (l.map fun | .lit (.int k z) => Value.int k z | _ => Value.nilIface).toArray
  | _ => #[]
noncomputable def laidWorld (os : Os) : World :=
  let w0 := World.holding Tryz.prog os ⟨#[], #[], []⟩
  let put (h : Array Obj) (g : Nat) (cs : Array Value) : Array Obj := h.modify g fun
    | .cells _ t frozen => .cells cs t frozen
    | o => o
  { w0 with heap := put (put (put w0.heap 4 (cellsD Rows.laid_math_bits_deBruijn32tab)) 5 (cellsD Rows.laid_math_bits_deBruijn64tab)) 2 (cellsD Rows.laid_internal_strconv_uint64pow10) }

set_option maxRecDepth 100000 in
/-- An argument of bytes. -/
theorem bytes_arg {H : Type} {enc : TypeId × Value → H} {W : World} {base : Nat} {v : Value} {d : DataW H} {p : List MemPlace} (hok : Value.okWide Tryz.prog W .any base 22 v) (h : DataW.Trod enc Tryz.prog W 0 (fun _ => true) true 22 v d p) : ∃ b : ByteArray, MadeAs W v b ∧ b.size ≤ 40 := by
  obtain ⟨a0, len, cap, rfl⟩ := okWide_slice Tryz.underlying22 hok
  obtain ⟨fuel, hf⟩ := h
  rcases open_ints Tryz.underlying22 Tryz.underlying5 cellsU8 hf with ⟨hcs, hx⟩ | ⟨a, len', cap', zs, hcs, _, hl, hm, hz, hx, hcell, hwz⟩
  · simp [Value.cells] at hcs
    obtain ⟨rfl, rfl, rfl⟩ := hcs
    exact made_as_nil W
  · simp [Value.cells] at hcs
    obtain ⟨rfl, rfl, rfl⟩ := hcs
    simp only [if_true] at hz
    exact made_as a len cap zs W hl hm hz hcell hwz
set_option maxRecDepth 100000 in
theorem int_arg {H : Type} {enc : TypeId × Value → H} {W : World} {base : Nat} {v : Value} {d : DataW H} {p : List MemPlace} (hok : Value.okWide Tryz.prog W .any base 3 v) (h : DataW.Trod enc Tryz.prog W 0 (fun _ => true) true 3 v d p) : ∃ n : Int, v = .int .i64 n ∧ -9223372036854775808 ≤ n ∧ n ≤ 9223372036854775807 := by
  obtain ⟨n, rfl, _, _, hw⟩ := open_int Tryz.underlying3 hok h
  have a1 : IntKind.i64.min = -9223372036854775808 := rfl
  have a2 : IntKind.i64.max = 9223372036854775807 := rfl
  refine ⟨n, rfl, ?_⟩
  simpa [Lit.wf, a1, a2] using hw
set_option maxRecDepth 100000 in
theorem byte_arg {H : Type} {enc : TypeId × Value → H} {W : World} {base : Nat} {v : Value} {d : DataW H} {p : List MemPlace} (hok : Value.okWide Tryz.prog W .any base 5 v) (h : DataW.Trod enc Tryz.prog W 0 (fun _ => true) true 5 v d p) : ∃ n : Nat, v = .int .u8 (n : Int) ∧ n ≤ 255 := by
  obtain ⟨n, rfl, _, _, hw⟩ := open_int Tryz.underlying5 hok h
  have a1 : IntKind.u8.min = 0 := rfl
  have a2 : IntKind.u8.max = 255 := rfl
  have hb : 0 ≤ n ∧ n ≤ 255 := by simpa [Lit.wf, a1, a2] using hw
  exact ⟨n.toNat, by rw [Int.toNat_of_nonneg hb.1], by omega⟩
set_option maxRecDepth 100000 in
theorem str_arg {H : Type} {enc : TypeId × Value → H} {W : World} {base : Nat} {v : Value} {d : DataW H} {p : List MemPlace} (hok : Value.okWide Tryz.prog W .any base 9 v) (h : DataW.Trod enc Tryz.prog W 0 (fun _ => true) true 9 v d p) : ∃ s : ByteArray, v = .string s ∧ s.size ≤ maxLen := by
  obtain ⟨s, rfl⟩ := okWide_string Tryz.underlying9 hok
  obtain ⟨fuel, hf⟩ := h
  refine ⟨s, rfl, ?_⟩
  cases fuel with
  | zero => simp [DataW.trod] at hf
  | succ n =>
    simp [DataW.trod, Value.cells, Tryz.underlying9] at hf
    exact hf.1
/-- An argument that is an array of two numbers. -/
theorem two_arg {P : Program} {k : IntKind} {t e : TypeId} (ht : P.underlying t = some (.array 2 e)) (he : P.underlying e = some (.int k)) (hc : P.cellsOf t = 2) (hce : P.cellsOf e = 1) {H : Type} {enc : TypeId × Value → H} {W : World} {base : Nat} {v : Value} {d : DataW H} {p : List MemPlace} (hok : Value.okWide P W .any base t v) (h : DataW.Trod enc P W 0 (fun _ => true) true t v d p) : ∃ a b : Int, v = .agg #[.int k a, .int k b] ∧ (Lit.int k a).wf = true ∧ (Lit.int k b).wf = true := by
  simp only [Value.okWide, ht] at hok
  obtain ⟨cs, rfl, hsz, _⟩ := hok
  obtain ⟨fuel, hf⟩ := h
  rw [hc] at hsz
  obtain ⟨x, y, rfl⟩ : ∃ x y, cs = #[x, y] := by
    rcases cs with ⟨l⟩
    match l, hsz with
    | [x, y], _ => exact ⟨x, y, rfl⟩
  obtain ⟨xs, m, _, _, _, hlen, hf2⟩ := DataW.trod_array ht hf
  have h0 := hf2 0 (by decide)
  have h1 := hf2 1 (by decide)
  rw [hce] at h0 h1
  match xs, hlen with
  | [y0, y1], _ =>
    obtain ⟨a, ha, _, hw0⟩ := DataW.trod_int he (x := y0) (by simpa using h0)
    obtain ⟨b, hb, _, hw1⟩ := DataW.trod_int he (x := y1) (by simpa using h1)
    simp [Value.cells] at ha hb
    exact ⟨a, b, by rw [ha, hb], hw0, hw1⟩
end Go.Proofs.YteajpefbmiiioaaGreatDoor
