/- Contracts of package nat and of the reference, part 9: RowK, Cut, MthR, Acc, RefS. -/
import Derived.Test.YtoadjhmehgkeaaaDoorEFerm8
import Derived.Test.YtoadjhmehgkeaaaDoorRows
import Derived.ProofKit
import Derived.ChangeSlices
import Derived.LaidLaws
import Derived.Lib.LaidIn
import Derived.Lib.LaidTab
import Derived.Stop.LaidErr
import Derived.OpenShut
import Derived.Laws.BytesArg
namespace Go.Proofs.YtoadjhmehgkeaaaDoor
open Go.ChangeShapes Go.WideShapes Go.ChangeAt Go.RowKit Mth

theorem own0 : ownKnob Tryd.prog.godebug = none := by kernel_rfl
theorem laidOut0 : laidOutB Tryd.prog = true := by kernel_rfl
theorem cellsU8 : Tryd.prog.cellsOf 5 = 1 := by kernel_rfl

def u8of (zs : List Int) (m : Nat) : List UInt8 := (zs.take m).map fun z => UInt8.ofNat z.toNat
set_option maxRecDepth 100000 in
theorem made_at (a : Addr) (len cap m : Nat) (zs : List Int) (w : World) (hl : len ≤ cap) (hm : cap ≤ maxLen) (hz : zs.length = cap) (hcell : ∀ i, i < zs.length → w.cell? (a.add i) = some (.int .u8 (zs.getD i 0))) (hw : ∀ n ∈ zs, (Lit.int .u8 n).wf = true) (hmin : m = min len 40) :
    Calls Tryd.prog 9 #[.slice (some a) len cap] w fun e w' => e = .returned (.string ⟨(u8of zs m).toArray⟩) ∧ w = w' := by
  unfold maxLen at hm
  have hm1 : min (len : Int) 40 = (m : Int) := by omega
  have hm2 : m ≤ cap := by omega
  have hlen : (u8of zs m).length = m := by unfold u8of; simp; omega
  have hcv := run_convert_bytes_back (P := Tryd.prog) w 22 24 5 a cap (u8of zs m) Tryd.underlying22 Tryd.underlying5 Tryd.underlying24 (fun j hj => by
    rw [hlen] at hj
    rw [hcell j (by omega)]
    have h1 : j < zs.length := by omega
    have hwf := hw zs[j] (List.getElem_mem _)
    have w1 : 0 ≤ zs[j] ∧ zs[j] ≤ 255 := by
      have a1 : IntKind.u8.min = 0 := rfl
      have a2 : IntKind.u8.max = 255 := rfl
      simpa [Lit.wf, a1, a2] using hwf
    have e : (u8of zs m)[j]'(by rw [hlen]; exact hj) = UInt8.ofNat zs[j].toNat := by unfold u8of; simp
    rw [e]
    have e2 : zs.getD j 0 = zs[j] := by simp [List.getD, h1]
    rw [e2]
    have e3 : (UInt8.ofNat zs[j].toNat).toNat = zs[j].toNat := by simp; omega
    rw [e3]
    congr 2
    omega)
  rw [hlen] at hcv
  generalize (⟨(u8of zs m).toArray⟩ : ByteArray) = str at hcv
  clear hcell hw hz hmin hlen
  go_enter Tryd.func9, Tryd.ntmps9
  go_wp2
  go_ret
  exact ⟨rfl, rfl⟩

theorem made_as (a : Addr) (len cap : Nat) (zs : List Int) (w : World) (hl : len ≤ cap) (hm : cap ≤ maxLen) (hz : zs.length = cap) (hcell : ∀ i, i < zs.length → w.cell? (a.add i) = some (.int .u8 (zs.getD i 0))) (hw : ∀ n ∈ zs, (Lit.int .u8 n).wf = true) : ∃ b : ByteArray, MadeAs w (.slice (some a) len cap) b ∧ b.size ≤ 40 := by
  refine ⟨⟨(u8of zs (min len 40)).toArray⟩, fun w' hg => made_at a len cap _ zs w' hl hm hz (fun i hi => hg.cell (hcell i hi) (by simp)) hw rfl, ?_⟩
  show (u8of zs (min len 40)).toArray.size ≤ 40
  unfold u8of
  simp
  omega
theorem made_as_nil (w : World) : ∃ b : ByteArray, MadeAs w (.slice none 0 0) b ∧ b.size ≤ 40 := ⟨⟨#[]⟩, fun w' _ => made_nil w', by decide⟩

def cellsD : DataW Unit → Array Value
  | .agg l => (l.map fun | .lit (.int k z) => Value.int k z | _ => Value.nilIface).toArray
  | _ => #[]
noncomputable def laidWorld (os : Os) : World :=
  let w0 := World.holding Tryd.prog os ⟨#[], #[], []⟩
  let put (h : Array Obj) (g : Nat) (cs : Array Value) : Array Obj := h.modify g fun
    | .cells _ t frozen => .cells cs t frozen
    | o => o
  { w0 with heap := put (put (put w0.heap 4 (cellsD Rows.laid_math_bits_deBruijn32tab)) 5 (cellsD Rows.laid_math_bits_deBruijn64tab)) 2 (cellsD Rows.laid_internal_strconv_uint64pow10) }

set_option maxRecDepth 100000 in
/-- An argument of bytes. -/
theorem bytes_arg {H : Type} {enc : TypeId × Value → H} {W : World} {base : Nat} {v : Value} {d : DataW H} {p : List MemPlace} (hok : Value.okWide Tryd.prog W .any base 22 v) (h : DataW.Trod enc Tryd.prog W 0 (fun _ => true) true 22 v d p) : ∃ b : ByteArray, MadeAs W v b ∧ b.size ≤ 40 := by
  obtain ⟨a0, len, cap, rfl⟩ := okWide_slice Tryd.underlying22 hok
  obtain ⟨fuel, hf⟩ := h
  rcases open_ints Tryd.underlying22 Tryd.underlying5 cellsU8 hf with ⟨hcs, hx⟩ | ⟨a, len', cap', zs, hcs, _, hl, hm, hz, hx, hcell, hwz⟩
  · simp [Value.cells] at hcs
    obtain ⟨rfl, rfl, rfl⟩ := hcs
    exact made_as_nil W
  · simp [Value.cells] at hcs
    obtain ⟨rfl, rfl, rfl⟩ := hcs
    simp only [if_true] at hz
    exact made_as a len cap zs W hl hm hz hcell hwz
set_option maxRecDepth 100000 in
theorem int_arg {H : Type} {enc : TypeId × Value → H} {W : World} {base : Nat} {v : Value} {d : DataW H} {p : List MemPlace} (hok : Value.okWide Tryd.prog W .any base 3 v) (h : DataW.Trod enc Tryd.prog W 0 (fun _ => true) true 3 v d p) : ∃ n : Int, v = .int .i64 n ∧ -9223372036854775808 ≤ n ∧ n ≤ 9223372036854775807 := by
  obtain ⟨n, rfl, _, _, hw⟩ := open_int Tryd.underlying3 hok h
  have a1 : IntKind.i64.min = -9223372036854775808 := rfl
  have a2 : IntKind.i64.max = 9223372036854775807 := rfl
  refine ⟨n, rfl, ?_⟩
  simpa [Lit.wf, a1, a2] using hw
set_option maxRecDepth 100000 in
theorem byte_arg {H : Type} {enc : TypeId × Value → H} {W : World} {base : Nat} {v : Value} {d : DataW H} {p : List MemPlace} (hok : Value.okWide Tryd.prog W .any base 5 v) (h : DataW.Trod enc Tryd.prog W 0 (fun _ => true) true 5 v d p) : ∃ n : Nat, v = .int .u8 (n : Int) ∧ n ≤ 255 := by
  obtain ⟨n, rfl, _, _, hw⟩ := open_int Tryd.underlying5 hok h
  have a1 : IntKind.u8.min = 0 := rfl
  have a2 : IntKind.u8.max = 255 := rfl
  have hb : 0 ≤ n ∧ n ≤ 255 := by simpa [Lit.wf, a1, a2] using hw
  exact ⟨n.toNat, by rw [Int.toNat_of_nonneg hb.1], by omega⟩
set_option maxRecDepth 100000 in
theorem str_arg {H : Type} {enc : TypeId × Value → H} {W : World} {base : Nat} {v : Value} {d : DataW H} {p : List MemPlace} (hok : Value.okWide Tryd.prog W .any base 9 v) (h : DataW.Trod enc Tryd.prog W 0 (fun _ => true) true 9 v d p) : ∃ s : ByteArray, v = .string s ∧ s.size ≤ maxLen := by
  obtain ⟨s, rfl⟩ := okWide_string Tryd.underlying9 hok
  obtain ⟨fuel, hf⟩ := h
  refine ⟨s, rfl, ?_⟩
  cases fuel with
  | zero => simp [DataW.trod] at hf
  | succ n =>
    simp [DataW.trod, Value.cells, Tryd.underlying9] at hf
    exact hf.1
/-- An argument that is an array of two numbers. -/
theorem two_arg {P : Program} {k : IntKind} {t e : TypeId} (ht : P.underlying t = some (.array 2 e)) (he : P.underlying e = some (.int k)) (hc : P.cellsOf t = 2) (hce : P.cellsOf e = 1) {H : Type} {enc : TypeId × Value → H} {W : World} {base : Nat} {v : Value} {d : DataW H} {p : List MemPlace} (hok : Value.okWide P W .any base t v) (h : DataW.Trod enc P W 0 (fun _ => true) true t v d p) : ∃ a b : Int, v = .agg #[.int k a, .int k b] ∧ (Lit.int k a).wf = true ∧ (Lit.int k b).wf = true := by
  simp only [Value.okWide, ht] at hok
  obtain ⟨cs, rfl, hsz, _⟩ := hok
  obtain ⟨fuel, hf⟩ := h
  rw [hc] at hsz
  obtain ⟨x, y, rfl⟩ : ∃ x y, cs = #[x, y] := by
    rcases cs with ⟨l⟩
    match l, hsz with
    | [x, y], _ => exact ⟨x, y, rfl⟩
  obtain ⟨xs, m, _, _, _, hlen, hf2⟩ := DataW.trod_array ht hf
  have h0 := hf2 0 (by decide)
  have h1 := hf2 1 (by decide)
  rw [hce] at h0 h1
  match xs, hlen with
  | [y0, y1], _ =>
    obtain ⟨a, ha, _, hw0⟩ := DataW.trod_int he (x := y0) (by simpa using h0)
    obtain ⟨b, hb, _, hw1⟩ := DataW.trod_int he (x := y1) (by simpa using h1)
    simp [Value.cells] at ha hb
    exact ⟨a, b, by rw [ha, hb], hw0, hw1⟩
end Go.Proofs.YtoadjhmehgkeaaaDoor
namespace Go.Proofs.YtoadjhmehgkeaaaDoor
open Go.ChangeShapes Go.WideShapes Go.ChangeAt Go.RowKit Mth

/-- An argument of bytes, cut to L of them. -/
def CutAs (w : World) (L : Nat) (v : Value) (b : ByteArray) : Prop :=
  (v = .slice none 0 0 ∧ b = ⟨#[]⟩) ∨ ∃ (a : Addr) (len cap m : Nat), v = .slice (some a) len cap ∧ min (len : Int) (L : Int) = (m : Int) ∧ m ≤ cap ∧ cap ≤ 9223372036854775807 ∧ (∀ w', w.grownBy w' none → Sem.run Tryd.prog (convert 22 24 (.slice (some a) m cap)) w' = .ok (.string b) w') ∧ MadeAs w (.slice (some a) m cap) b
set_option maxRecDepth 100000 in
/-- Such an argument. -/
theorem cut_arg {H : Type} {enc : TypeId × Value → H} {W : World} {base : Nat} {v : Value} {d : DataW H} {p : List MemPlace} (L : Nat) (hL : L ≤ 40) (hok : Value.okWide Tryd.prog W .any base 22 v) (h : DataW.Trod enc Tryd.prog W 0 (fun _ => true) true 22 v d p) : ∃ b : ByteArray, CutAs W L v b ∧ b.size ≤ L := by
  obtain ⟨a0, len, cap, rfl⟩ := okWide_slice Tryd.underlying22 hok
  obtain ⟨fuel, hf⟩ := h
  rcases open_ints Tryd.underlying22 Tryd.underlying5 cellsU8 hf with ⟨hcs, hx⟩ | ⟨a, len', cap', zs, hcs, _, hl, hm, hz, hx, hcell, hwz⟩
  · simp [Value.cells] at hcs
    obtain ⟨rfl, rfl, rfl⟩ := hcs
    exact ⟨⟨#[]⟩, .inl ⟨rfl, rfl⟩, by show 0 ≤ L; omega⟩
  · simp [Value.cells] at hcs
    obtain ⟨rfl, rfl, rfl⟩ := hcs
    simp only [if_true] at hz
    obtain ⟨m, hmm⟩ : ∃ m, m = min len L := ⟨_, rfl⟩
    have hm40 : m = min m 40 := by omega
    have hlen : (u8of zs m).length = m := by unfold u8of; simp; omega
    refine ⟨⟨(u8of zs m).toArray⟩, .inr ⟨a, len, cap, m, rfl, by omega, by omega, by unfold maxLen at hm; omega, fun w' hg => ?_, fun w' hg => made_at a m cap m zs w' (by omega) hm hz (fun i hi => hg.cell (hcell i hi) (by simp)) hwz hm40⟩, ?_⟩
    · have hcv := run_convert_bytes_back (P := Tryd.prog) w' 22 24 5 a cap (u8of zs m) Tryd.underlying22 Tryd.underlying5 Tryd.underlying24 (fun j hj => by
        rw [hlen] at hj
        rw [hg.cell (hcell j (by omega)) (by simp)]
        have h1 : j < zs.length := by omega
        have hwf := hwz zs[j] (List.getElem_mem _)
        have w1 : 0 ≤ zs[j] ∧ zs[j] ≤ 255 := by
          have a1 : IntKind.u8.min = 0 := rfl
          have a2 : IntKind.u8.max = 255 := rfl
          simpa [Lit.wf, a1, a2] using hwf
        have e : (u8of zs m)[j]'(by rw [hlen]; exact hj) = UInt8.ofNat zs[j].toNat := by unfold u8of; simp
        rw [e]
        have e2 : zs.getD j 0 = zs[j] := by simp [List.getD, h1]
        rw [e2]
        have e3 : (UInt8.ofNat zs[j].toNat).toNat = zs[j].toNat := by simp; omega
        rw [e3]
        congr 2
        omega)
      rw [hlen] at hcv
      exact hcv
    · show (u8of zs m).toArray.size ≤ L
      simp [hlen]; omega
end Go.Proofs.YtoadjhmehgkeaaaDoor
namespace Go.Proofs.YtoadjhmehgkeaaaDoor
namespace Mth

def D24 : Nat := 16777216
theorem D24_eq : D24 = 16777216 := rfl
theorem D24_pos : 0 < D24 := by decide
/-- The digits of a number, the least significant one first, none for 0. -/
def dgt (n : Nat) : List Nat := if _h : n = 0 then [] else (n % D24) :: dgt (n / D24)
termination_by n
decreasing_by rw [D24_eq]; omega
theorem dgt_zero : dgt 0 = [] := by unfold dgt; simp
theorem dgt_pos {n : Nat} (h : n ≠ 0) : dgt n = (n % D24) :: dgt (n / D24) := by rw [dgt]; simp [h]
theorem div_D24_lt {n : Nat} (h : n ≠ 0) : n / D24 < n := by rw [D24_eq]; omega
theorem val_dgt (n : Nat) : val D24 (dgt n) = n := by
  induction n using Nat.strongRecOn with
  | _ n ih =>
    by_cases h : n = 0
    · subst h; rw [dgt_zero]; rfl
    · rw [dgt_pos h, val, ih _ (div_D24_lt h)]; exact Nat.mod_add_div _ _
theorem gt_dgt (n i : Nat) : gt (dgt n) i = n / D24 ^ i % D24 := by
  induction i generalizing n with
  | zero =>
    by_cases h : n = 0
    · subst h; rw [dgt_zero]; simp [gt]
    · rw [dgt_pos h]; simp [gt]
  | succ i ih =>
    by_cases h : n = 0
    · subst h; rw [dgt_zero]; simp [gt]
    · rw [dgt_pos h, Nat.pow_succ, Nat.mul_comm, ← Nat.div_div_eq_div_mul, ← ih (n / D24)]; simp [gt]
theorem dg_dgt (n : Nat) : Dg D24 (dgt n) := fun i => by rw [gt_dgt]; exact Nat.mod_lt _ D24_pos
theorem vs_dgt (n k : Nat) : vs D24 (dgt n) 0 k = n % D24 ^ k := by
  induction k with
  | zero => simp [vs, Nat.mod_one]
  | succ k ih => simp only [vs, Nat.zero_add]; rw [ih, gt_dgt, Nat.pow_succ, Nat.mod_mul]
theorem dgt_len_le : ∀ (k n : Nat), n < D24 ^ k → (dgt n).length ≤ k
  | 0, n, h => by
    have : n = 0 := by simpa using h
    subst this; rw [dgt_zero]; simp
  | k + 1, n, h => by
    by_cases h0 : n = 0
    · subst h0; rw [dgt_zero]; simp
    · rw [dgt_pos h0, List.length_cons]
      have := dgt_len_le k (n / D24) (by rw [Nat.div_lt_iff_lt_mul D24_pos, ← Nat.pow_succ]; exact h)
      omega
theorem dgt_lt (n : Nat) : n < D24 ^ (dgt n).length := by
  have := val_lt D24 (dgt n) (dg_dgt n).mem
  rwa [val_dgt] at this
theorem dgt_top {n : Nat} (h : n ≠ 0) : D24 ^ ((dgt n).length - 1) ≤ n := by
  induction n using Nat.strongRecOn with
  | _ n ih =>
    rw [dgt_pos h, List.length_cons, Nat.add_sub_cancel]
    by_cases h1 : n / D24 = 0
    · rw [h1, dgt_zero]; simp; omega
    · have h2 := ih _ (div_D24_lt h) h1
      have h3 : 0 < (dgt (n / D24)).length := by rw [dgt_pos h1]; simp
      have h4 : D24 ^ (dgt (n / D24)).length = D24 ^ ((dgt (n / D24)).length - 1) * D24 := by rw [← Nat.pow_succ]; congr 1; omega
      rw [h4]
      have h5 : D24 ^ ((dgt (n / D24)).length - 1) * D24 ≤ n / D24 * D24 := Nat.mul_le_mul_right _ h2
      exact Nat.le_trans h5 (Nat.div_mul_le_self _ _)
theorem dgt_inj_len {a b : Nat} (h : a ≤ b) : (dgt a).length ≤ (dgt b).length := dgt_len_le _ _ (Nat.lt_of_le_of_lt h (dgt_lt b))
/-- A list of digits without zeros at its end is that of its value. -/
theorem eq_dgt {l : List Nat} (hd : Dg D24 l) (ht : l.length = 0 ∨ gt l (l.length - 1) ≠ 0) : l = dgt (val D24 l) := by
  have h1 := val_lt D24 l hd.mem
  have h2 := dgt_len_le _ _ h1
  have hlen : l.length = (dgt (val D24 l)).length := by
    rcases ht with h | h
    · omega
    · rcases Nat.eq_zero_or_pos l.length with h0 | h0
      · omega
      · have h3 : D24 ^ (l.length - 1) ≤ val D24 l := by
          rw [← vs_val]
          have e : vs D24 l 0 l.length = vs D24 l 0 (l.length - 1) + D24 ^ (l.length - 1) * gt l (l.length - 1) := by
            conv => lhs; rw [show l.length = (l.length - 1) + 1 from by omega]
            simp only [vs, Nat.zero_add]
          rw [e]
          have : D24 ^ (l.length - 1) * 1 ≤ D24 ^ (l.length - 1) * gt l (l.length - 1) := Nat.mul_le_mul_left _ (by omega)
          omega
        have h4 := dgt_lt (val D24 l)
        have h5 := Nat.lt_of_le_of_lt h3 h4
        have h6 : l.length - 1 < (dgt (val D24 l)).length := (Nat.pow_lt_pow_iff_right (by decide)).1 h5
        omega
  refine gt_ext hlen (fun i hi => ?_)
  rw [gt_dgt, ← vs_val]
  have hsplit := vs_split D24 l 0 i (l.length - i)
  rw [show i + (l.length - i) = l.length from by omega] at hsplit
  rw [hsplit, Nat.add_mul_div_left _ _ (Nat.pow_pos D24_pos), Nat.div_eq_of_lt (vs_lt hd), Nat.zero_add, Nat.zero_add]
  rw [show l.length - i = 1 + (l.length - i - 1) from by omega, vs_split]
  simp only [vs, Nat.pow_zero, Nat.one_mul, Nat.add_zero, Nat.zero_add, Nat.pow_one]
  rw [Nat.add_mul_mod_self_left, Nat.mod_eq_of_lt (hd i)]
theorem dgt_take_zeros {l : List Nat} {m : Nat} (hd : Dg D24 l) (hm : m ≤ l.length) (hz : ∀ i, m ≤ i → i < l.length → gt l i = 0) (ht : m = 0 ∨ gt l (m - 1) ≠ 0) : l.take m = dgt (val D24 l) := by
  have hl : (l.take m).length = m := by simp; omega
  have hdt : Dg D24 (l.take m) := fun i => by
    by_cases h : i < m
    · rw [gt_take h]; exact hd i
    · rw [gt_of_ge (by omega)]; exact D24_pos
  have hv : val D24 (l.take m) = val D24 l := by
    rw [← vs_take l m hm, ← vs_val l]
    have hsplit := vs_split D24 l 0 m (l.length - m)
    rw [show m + (l.length - m) = l.length from by omega] at hsplit
    rw [hsplit, vs_zero (n := l.length - m) (fun i hi => by rw [Nat.zero_add]; exact hz _ (by omega) (by omega))]; simp
  rw [← hv]
  refine eq_dgt hdt ?_
  rw [hl]
  rcases ht with h | h
  · exact .inl h
  · rcases Nat.eq_zero_or_pos m with h0 | h0
    · exact .inl h0
    · exact .inr (by rw [gt_take (by omega)]; exact h)
/-- How many digits as many bytes have. -/
theorem D24_pow (j : Nat) : D24 ^ j = 256 ^ (3 * j) := by rw [Nat.pow_mul]; congr 1
theorem eq_dgt_ge {l : List Nat} (hd : Dg D24 l) (h : l.length = 0 ∨ D24 ^ (l.length - 1) ≤ val D24 l) : l = dgt (val D24 l) := by
  refine eq_dgt hd ?_
  rcases h with h | h
  · exact .inl h
  · rcases Nat.eq_zero_or_pos l.length with h0 | h0
    · exact .inl h0
    · refine .inr fun e => ?_
      have e1 : val D24 l = vs D24 l 0 (l.length - 1) + D24 ^ (l.length - 1) * gt l (l.length - 1) := by
        rw [← vs_val]
        conv => lhs; rw [show l.length = (l.length - 1) + 1 from by omega]
        simp only [vs, Nat.zero_add]
      rw [e, Nat.mul_zero, Nat.add_zero] at e1
      have := vs_lt (b := D24) (xs := l) (off := 0) (n := l.length - 1) hd
      omega
theorem dg_snoc {l : List Nat} {d : Nat} (hd : Dg D24 l) (h : d < D24) : Dg D24 (l ++ [d]) := by
  refine Dg.of_mem D24_pos fun x hx => ?_
  rcases List.mem_append.1 hx with h1 | h1
  · exact hd.mem x h1
  · rw [List.mem_singleton.1 h1]; exact h
theorem dg_nil : Dg D24 [] := fun i => by simp [gt, D24_pos]
/-- The value of the digits from a place on. -/
theorem val_drop {l : List Nat} {k : Nat} (h : k < l.length) : val D24 (l.drop k) = gt l k + D24 * val D24 (l.drop (k + 1)) := by
  rw [List.drop_eq_getElem_cons h, val_cons, ← gt_of_lt h]
/-- Three bytes more. -/
theorem num_part (l : List UInt8) (s e : Nat) (h : s ≤ e) (he : e ≤ l.length) : num (l.drop s) = num ((l.take e).drop s) * 256 ^ (l.length - e) + num (l.drop e) := by
  have h1 : l.drop s = (l.take e).drop s ++ l.drop e := by
    conv => lhs; rw [← List.take_append_drop e l]
    rw [List.drop_append_of_le_length (by rw [List.length_take]; omega)]
  rw [h1, num_append, List.length_drop]
theorem num_part_lt (l : List UInt8) (s e : Nat) (h : e ≤ s + 3) : num ((l.take e).drop s) < D24 := by
  have h1 := num_lt ((l.take e).drop s)
  have h2 : ((l.take e).drop s).length ≤ 3 := by simp; omega
  have h3 := Nat.pow_le_pow_right (n := 256) (by decide) h2
  exact Nat.lt_of_lt_of_le h1 h3
end Mth
end Go.Proofs.YtoadjhmehgkeaaaDoor
namespace Go.Proofs.YtoadjhmehgkeaaaDoor
open Go.RowKit Mth

/-- A list that the call gathers since the world w0. -/
structure Acc (k : IntKind) (e : TypeId) (w0 w : World) (v : Value) (l : List Nat) : Prop where
  own : ∃ zs, Own k e w v l.length zs ∧ zs.take l.length = l
  fresh : v.ownBlock = none ∨ ∃ g, v.ownBlock = some g ∧ w0.heap.size ≤ g
  gr : w0.grownBy w none
theorem Acc.nil (k : IntKind) (e : TypeId) (w : World) : Acc k e w w (.slice none 0 0) [] := ⟨⟨[], .nil _ _ _, rfl⟩, .inl rfl, World.grownBy.refl _ _⟩
theorem Acc.kept {k : IntKind} {e : TypeId} {w0 w w' : World} {v : Value} {l : List Nat} (h : Acc k e w0 w v l) (hg : w.grownBy w' none) : Acc k e w0 w' v l := by
  obtain ⟨zs, ho, ht⟩ := h.own
  refine ⟨⟨zs, ho.kept hg ?_, ht⟩, h.fresh, gr_then h.gr hg⟩
  cases v.ownBlock with
  | none => exact .inl rfl
  | some g => exact .inr (by simp)

theorem run_acc {P : Program} {w0 w : World} (t ty : TypeId) (k : IntKind) (e : TypeId) (i : TypeInfo) (bytes : Nat) (ht : P.underlying t = some (.slice e)) (hi : P.info? e = some i) (hz : i.zero = some (.int k 0)) (hsize : i.size = 1) (hby : i.bytes = bytes)
    (v : Value) (l xs : List Nat) (hacc : Acc k e w0 w v l) (hm0 : 0 < xs.length) (h63 : l.length + xs.length ≤ maxLen) (hbytes : (l.length + xs.length) * bytes ≤ 140737488355328) :
    ∃ v' w', (Builtin.append_ #[t, t] ty #[v, .slice (some ⟨w.heap.size, 0, none⟩) xs.length xs.length]).run P (w.alloc (.cells (cellsOf k xs).toArray e)) = .ok v' w' ∧ Acc k e w0 w' v' (l ++ xs) := by
  obtain ⟨zs, hown, htake⟩ := hacc.own
  have hb : Blk k e (w.alloc (.cells (cellsOf k xs).toArray e)) w.heap.size xs := by unfold Blk; rw [heap_alloc_new]
  have hown' := hown.kept (gr_alloc w (.cells (cellsOf k xs).toArray e) none) (by cases v.ownBlock with | none => exact .inl rfl | some g => exact .inr (by simp))
  obtain ⟨v', w', us, hrun, ho', hg, happ, hblk⟩ := run_append_blk (P := P) (w := w.alloc (.cells (cellsOf k xs).toArray e)) k e t ty i bytes ht hi hz hsize hby v l.length zs hown' w.heap.size 0 xs.length xs.length xs (fun j hj => hb.cell (by omega)) (by omega) hm0 h63 hbytes
  refine ⟨v', w', hrun, ⟨us, by rw [List.length_append]; exact ho', ?_⟩, ?_, ?_⟩
  · have hlu : l.length + xs.length ≤ us.length := by
      rcases ho' with ⟨_, h0, _⟩ | ⟨_, _, _, h1, _⟩
      · omega
      · exact h1
    have hlz : l.length ≤ zs.length := by
      have := congrArg List.length htake
      simp at this; omega
    apply gt_ext
    · simp; omega
    · intro j hj
      simp at hj
      rw [gt_take (by simp; omega)]
      by_cases h1 : j < l.length
      · rw [gt_append_left h1, happ.old j h1]
        rw [← gt_take (xs := zs) h1, htake]
      · rw [gt_append_right (by omega)]
        have := happ.new (j - l.length) (by omega)
        rw [Nat.zero_add, show l.length + (j - l.length) = j from by omega] at this
        exact this
  · rcases hblk with e1 | ⟨g, e1, e2⟩
    · rw [e1]; exact hacc.fresh
    · refine .inr ⟨g, e1, ?_⟩
      have h1 := hacc.gr.size
      simp at e2; omega
  · refine gr_trans (gr_then hacc.gr (gr_alloc w _ none)) hg (.inl rfl) ?_
    rcases hacc.fresh with e1 | ⟨g, e1, e2⟩
    · rw [e1]; exact .inl rfl
    · exact .inr (.inr fun j e3 => by rw [e1] at e3; cases e3; exact e2)

theorem wpList_acc {P : Program} {w0 w : World} {ops : Array Oper} {rest : List Oper} {o : Oper} {a : Act} {Q : Exit → Act → World → Prop} (hgd : o.guard = none) (s x : Operand) (t : TypeId)
    (ho : o.op = .call { callee := .builtin .append, args := #[s, x], argTypes := #[t, t] })
    (k : IntKind) (e : TypeId) (i : TypeInfo) (bytes : Nat) (ht : P.underlying t = some (.slice e)) (hi : P.info? e = some i) (hz : i.zero = some (.int k 0)) (hsize : i.size = 1) (hby : i.bytes = bytes)
    (v : Value) (l xs : List Nat) (hacc : Acc k e w0 w v l) (hs : a.eval s = v) (hx : a.eval x = .slice (some ⟨w.heap.size, 0, none⟩) xs.length xs.length) (hm0 : 0 < xs.length)
    (h63 : l.length + xs.length ≤ maxLen) (hbytes : (l.length + xs.length) * bytes ≤ 140737488355328)
    (h : ∀ v' w', Acc k e w0 w' v' (l ++ xs) → wpList P ops Q rest (a.put o.dst v') w') : wpList P ops Q (o :: rest) a (w.alloc (.cells (cellsOf k xs).toArray e)) := by
  refine wpList_plain hgd fun K hK => ?_
  obtain ⟨v', w', hr, h2⟩ := run_acc (P := P) t o.type k e i bytes ht hi hz hsize hby v l xs hacc hm0 h63 hbytes
  unfold Oper.wp execOp
  simp only [ho, resolve, invoke, builtin, Sem.run_bind, Sem.run_pure, Result.andThen_ok, List.map_toArray, List.map_cons, List.map_nil, hs, hx, hr]
  exact hK _ _ (h v' w' h2)

/-- The elements of such a list. -/
theorem Acc.some_ {k : IntKind} {e : TypeId} {w0 w : World} {v : Value} {l : List Nat} (h : Acc k e w0 w v l) (h0 : 0 < l.length) : ∃ g c, v = .slice (some ⟨g, 0, none⟩) l.length c ∧ w0.heap.size ≤ g ∧ l.length ≤ c ∧ c ≤ maxLen ∧ ∀ j, j < l.length → w.cell? ⟨g, 0 + j, none⟩ = some (.int k ((gt l j : Nat) : Int)) := by
  obtain ⟨zs, hown, ht⟩ := h.own
  rcases hown with ⟨_, h1, _⟩ | ⟨g, rfl, hb, h1, h2⟩
  · omega
  · refine ⟨g, _, rfl, ?_, h1, h2, fun j hj => ?_⟩
    · rcases h.fresh with e | ⟨g', e, e'⟩
      · cases e
      · simp only [Value.ownBlock, Option.some.injEq] at e; omega
    · rw [Nat.zero_add, hb.cell (by omega), ← ht, gt_take hj]
theorem Acc.none_ {k : IntKind} {e : TypeId} {w0 w : World} {v : Value} (h : Acc k e w0 w v []) : (∃ l c, v = .slice none l c) ∨ ∃ g c, v = .slice (some ⟨g, 0, none⟩) 0 c := by
  obtain ⟨zs, hown, ht⟩ := h.own
  rcases hown with ⟨rfl, h1, _⟩ | ⟨g, rfl, hb, h1, h2⟩
  · exact .inl ⟨_, _, rfl⟩
  · exact .inr ⟨g, _, rfl⟩
/-- Such a list of bytes as a string. -/
theorem Acc.str {P : Program} {w0 w : World} {v : Value} {l : List Nat} {e : TypeId} (h : Acc .u8 e w0 w v l) (src dst : TypeId) (hs : P.underlying src = some (.slice e)) (he : P.underlying e = some (.int .u8)) (hd : P.underlying dst = some .string) :
    Sem.run P (convert src dst v) w = .ok (.string ⟨(u8s l).toArray⟩) w := by
  have hn : strOfNums (l.map fun v : Nat => (v : Int)) = ⟨(u8s l).toArray⟩ := by simp [strOfNums, u8s]
  rcases Nat.eq_zero_or_pos l.length with h0 | h0
  · obtain rfl := List.eq_nil_of_length_eq_zero h0
    rcases h.none_ with ⟨a, c, rfl⟩ | ⟨g, c, rfl⟩
    · rw [run_convert_bytes_nil w src e hs he a c dst hd]; rfl
    · rw [run_convert_bytes_arg w src e hs he g 0 0 c [] rfl (fun i hi => by omega) dst hd]; rfl
  · obtain ⟨g, c, rfl, _, _, _, hc⟩ := h.some_ h0
    rw [run_convert_bytes_arg w src e hs he g 0 l.length c (l.map fun v : Nat => (v : Int)) (by simp) (fun j hj => by rw [hc j hj]; simp [gt, List.getD, hj]) dst hd, hn]

/-- A slice that holds just the numbers l, at the head of a block. -/
structure Ls (w : World) (a : Option Addr) (m c : Nat) (l : List Nat) : Prop where
  len : m = l.length
  mem : 0 < m → ∃ g zs, a = some ⟨g, 0, none⟩ ∧ Blk .i64 3 w g zs ∧ zs.length = c ∧ m ≤ c ∧ c ≤ maxLen ∧ zs.take m = l
/-- A slice with the digits of N to the base 2 ^ 24. -/
def RN (w : World) (v : Value) (N : Nat) : Prop := ∃ a m c, v = .slice a m c ∧ Ls w a m c (dgt N)
theorem Ls.kept {w w' : World} {a : Option Addr} {m c : Nat} {l : List Nat} (h : Ls w a m c l) (hg : w.grownBy w' none) : Ls w' a m c l := by
  refine ⟨h.len, fun h0 => ?_⟩
  obtain ⟨g, zs, h1, h2, h3⟩ := h.mem h0
  exact ⟨g, zs, h1, h2.kept hg (by simp), h3⟩
theorem RN.kept {w w' : World} {v : Value} {N : Nat} (h : RN w v N) (hg : w.grownBy w' none) : RN w' v N := by
  obtain ⟨a, m, c, rfl, h⟩ := h
  exact ⟨a, m, c, rfl, h.kept hg⟩
theorem Ls.at_ {w : World} {a : Option Addr} {m c i : Nat} {l : List Nat} (h : Ls w a m c l) (hi : i < m) : ∃ g, a = some ⟨g, 0, none⟩ ∧ m ≤ c ∧ c ≤ maxLen ∧ w.cell? ⟨g, 0 + i, none⟩ = some (.int .i64 ((gt l i : Nat) : Int)) := by
  obtain ⟨g, zs, h1, h2, h3, h4, h5, h6⟩ := h.mem (by omega)
  refine ⟨g, h1, h4, h5, ?_⟩
  rw [Nat.zero_add, h2.cell (by omega), ← h6, gt_take hi]
theorem Acc.ls {w0 w : World} {v : Value} {l : List Nat} (h : Acc .i64 3 w0 w v l) : ∃ a m c, v = .slice a m c ∧ Ls w a m c l := by
  obtain ⟨zs, hown, ht⟩ := h.own
  rcases hown with ⟨rfl, h0, _⟩ | ⟨g, rfl, hb, h1, h2⟩
  · exact ⟨none, 0, 0, rfl, h0.symm, fun h => by omega⟩
  · exact ⟨_, _, _, rfl, rfl, fun _ => ⟨g, zs, rfl, hb, rfl, h1, h2, ht⟩⟩
theorem Acc.rn {w0 w : World} {v : Value} {l : List Nat} {N : Nat} (h : Acc .i64 3 w0 w v l) (hl : l = dgt N) : RN w v N := by
  obtain ⟨a, m, c, h1, h2⟩ := h.ls
  exact ⟨a, m, c, h1, hl ▸ h2⟩
end Go.Proofs.YtoadjhmehgkeaaaDoor
namespace Go.Proofs.YtoadjhmehgkeaaaDoor
open Go.RowKit Mth

theorem rright_nil (s : ByteArray) (w : World) (h : s.size = 0) :
    Calls Tryd.prog 19 #[.string s] w fun e w' => e = .returned (.bool (rtB s.data.toList)) ∧ w = w' := by
  have hr : rtB s.data.toList = true := by rw [nil_of_size h]; rfl
  have HR := Lib.hid hr
  clear hr
  have hz : s = ByteArray.empty := by
    have := nil_of_size h
    cases s with | mk d => cases d with | mk l => simp at this; subst this; rfl
  subst hz
  go_enter Tryd.func19, Tryd.ntmps19
  go_wp2
  go_ret
  exact ⟨by rw [HR.out]; rfl, rfl⟩
theorem rright_cons (s : ByteArray) (w : World) (h : 0 < s.size) :
    Calls Tryd.prog 19 #[.string s] w fun e w' => e = .returned (.bool (rtB s.data.toList)) ∧ w = w' := by
  have hr : rtB s.data.toList = ((s[0].toNat : Int) != 0) := by
    rw [cons_of_size h]
    simp only [rtB]
    rw [Bool.eq_iff_iff, bne_iff_ne, bne_iff_ne]
    constructor
    · intro h1 h2; exact h1 (UInt8.toNat_inj.1 (by simpa using h2))
    · intro h1 h2; rw [h2] at h1; simp at h1
  have HR := Lib.hid hr
  have hne : ((s.size : Int) == 0) = false := by simp; intro e; rw [e] at h; simp at h
  clear hr
  go_enter Tryd.func19, Tryd.ntmps19
  go_wp2
  go_ret
  exact ⟨by rw [HR.out]; rfl, rfl⟩
theorem rright_any (s : ByteArray) (w : World) :
    Calls Tryd.prog 19 #[.string s] w fun e w' => e = .returned (.bool (rtB s.data.toList)) ∧ w = w' := by
  rcases Nat.eq_zero_or_pos s.size with h | h
  · exact rright_nil s w h
  · exact rright_cons s w h

theorem num_take_le (l : List UInt8) (k : Nat) : num (l.take k) ≤ num l := by
  have h := num_append (l.take k) (l.drop k)
  rw [List.take_append_drop] at h
  rw [h]
  exact Nat.le_trans (Nat.le_mul_of_pos_right _ (Nat.pow_pos (by decide))) (Nat.le_add_right _ _)
theorem num_take_succ (t : ByteArray) {k : Nat} (h : k < t.size) : num (t.data.toList.take (k + 1)) = 256 * num (t.data.toList.take k) + t[k].toNat := by
  rw [List.take_succ_eq_append_getElem (by rw [len_toList]; exact h), num_snoc]; rfl
theorem canon_size_le {t : ByteArray} (hr : Rt t.data.toList) {k : Nat} (h : num t.data.toList < 256 ^ k) : t.size ≤ k := by
  rcases Nat.lt_or_ge k t.size with h1 | h1
  · have hne : t.data.toList ≠ [] := by intro e; have := len_toList t; rw [e] at this; simp at this; omega
    have h2 := num_ge hr hne
    rw [len_toList] at h2
    have h3 : 256 ^ k ≤ 256 ^ (t.size - 1) := Nat.pow_le_pow_right (by decide) (by omega)
    omega
  · exact h1
theorem canon_size_gt {t : ByteArray} {k : Nat} (h : 256 ^ k ≤ num t.data.toList) : k < t.size := by
  have h1 := num_lt t.data.toList
  rw [len_toList] at h1
  exact (Nat.pow_lt_pow_iff_right (by decide)).1 (Nat.lt_of_le_of_lt h h1)
theorem canon_first {t : ByteArray} (h8 : t.size = 8) : (t[0]'(by omega)).toNat * 256 ^ 7 ≤ num t.data.toList ∧ num t.data.toList < ((t[0]'(by omega)).toNat + 1) * 256 ^ 7 := by
  have hlen : (t.data.toList.drop 1).length = 7 := by rw [List.length_drop, len_toList, h8]
  have hnl := num_lt (t.data.toList.drop 1)
  rw [hlen] at hnl
  have hn : num t.data.toList = t[0].toNat * 256 ^ 7 + num (t.data.toList.drop 1) := by
    conv => lhs; rw [cons_of_size (show 0 < t.size by omega)]
    rw [num_cons, hlen]
  rw [Nat.add_mul]
  omega

theorem rint_yes (s : ByteArray) (w : World) (hs : s.size ≤ 1000000000000) (h : num s.data.toList ≤ 9223372036854775807) :
    Calls Tryd.prog 15 #[.string s] w fun e w' => e = .returned (.tuple #[.int .i64 ((num s.data.toList : Nat) : Int), .bool true]) ∧ w = w' := by
  have hrt : Rt (bytesOf s).data.toList := rt_canon _
  have hnum : num (bytesOf s).data.toList = num s.data.toList := num_canon _
  rw [← hnum] at h ⊢
  generalize ht : (bytesOf s) = t at hrt hnum h ⊢
  have HT := Lib.hid ht
  have h8 : t.size ≤ 8 := canon_size_le hrt (by omega)
  have hfirst : (t.size : Int) = 8 → ∃ h : 0 < t.size, (t[0].toNat : Int) ≤ 127 := fun e => by
    have h1 := (canon_first (t := t) (by omega)).1
    exact ⟨by omega, by omega⟩
  have HN := Lib.hid h
  clear ht hnum h hrt
  go_enter Tryd.func15, Tryd.ntmps15
  go_wp2_with fail
  refine (canon_any s _ hs).mono ?_
  rintro e w' ⟨rfl, rfl⟩
  rw [show (⟨(canon s.data.toList).toArray⟩ : ByteArray) = t from HT.out]
  have hlen8 : ¬ (8 : Int) < (t.size : Int) := by omega
  rcases Nat.lt_or_ge t.size 8 with h7 | h7
  · clear hfirst
    go_wp2
    go_loop [4, 5] (fun u v => ∃ (k n : Nat), k ≤ t.size ∧ v = .int .i64 k ∧ u = .int .i64 n ∧ Hid (n = num (t.data.toList.take k))) (fun _ v => t.size - (intOf v).toNat)
    case atStart => exact ⟨0, 0, Nat.zero_le _, rfl, rfl, rfl⟩
    case round =>
      obtain ⟨k, n, hk, rfl, rfl, HNK⟩ := hrel
      by_cases hlt : k < t.size
      · have hsucc := num_take_succ t hlt
        rw [← HNK.out] at hsucc
        have hle2 := num_take_le t.data.toList (k + 1)
        rw [hsucc] at hle2
        have hb := HN.out
        have HS := Lib.hid hsucc
        have hbound : 256 * n + t[k].toNat ≤ 9223372036854775807 := by omega
        clear hsucc hle2 hb
        go_wp2
        refine ⟨⟨k + 1, 256 * n + t[k].toNat, by omega, by go_num, ?_, HS.out.symm⟩, by simp [intOf]; omega⟩
        go_num
      · obtain rfl : k = t.size := by omega
        have hfin : n = num t.data.toList := by rw [HNK.out, List.take_of_length_le (by rw [len_toList]; omega)]
        have HF := Lib.hid hfin
        clear hfin
        go_wp2
        go_ret2
        exact ⟨by rw [← HF.out]; rfl, rfl⟩
  · obtain ⟨hpos, hle⟩ := hfirst (by omega)
    clear hfirst
    go_wp2
    go_loop [4, 5] (fun u v => ∃ (k n : Nat), k ≤ t.size ∧ v = .int .i64 k ∧ u = .int .i64 n ∧ Hid (n = num (t.data.toList.take k))) (fun _ v => t.size - (intOf v).toNat)
    case atStart => exact ⟨0, 0, Nat.zero_le _, rfl, rfl, rfl⟩
    case round =>
      obtain ⟨k, n, hk, rfl, rfl, HNK⟩ := hrel
      by_cases hlt : k < t.size
      · have hsucc := num_take_succ t hlt
        rw [← HNK.out] at hsucc
        have hle2 := num_take_le t.data.toList (k + 1)
        rw [hsucc] at hle2
        have hb := HN.out
        have HS := Lib.hid hsucc
        have hbound : 256 * n + t[k].toNat ≤ 9223372036854775807 := by omega
        clear hsucc hle2 hb
        go_wp2
        refine ⟨⟨k + 1, 256 * n + t[k].toNat, by omega, by go_num, ?_, HS.out.symm⟩, by simp [intOf]; omega⟩
        go_num
      · obtain rfl : k = t.size := by omega
        have hfin : n = num t.data.toList := by rw [HNK.out, List.take_of_length_le (by rw [len_toList]; omega)]
        have HF := Lib.hid hfin
        clear hfin
        go_wp2
        go_ret2
        exact ⟨by rw [← HF.out]; rfl, rfl⟩
theorem rint_no (s : ByteArray) (w : World) (hs : s.size ≤ 1000000000000) (h : 9223372036854775807 < num s.data.toList) :
    Calls Tryd.prog 15 #[.string s] w fun e w' => e = .returned (.tuple #[.int .i64 0, .bool false]) ∧ w = w' := by
  have hrt : Rt (bytesOf s).data.toList := rt_canon _
  have hnum : num (bytesOf s).data.toList = num s.data.toList := num_canon _
  rw [← hnum] at h
  generalize ht : (bytesOf s) = t at hrt hnum h
  have HT := Lib.hid ht
  have h8 : 7 < t.size := canon_size_gt (by omega)
  have hfirst : t.size = 8 → ∃ h : 0 < t.size, (127 : Int) < (t[0].toNat : Int) := fun e => by
    have h1 := (canon_first (t := t) e).2
    exact ⟨by omega, by omega⟩
  clear ht hnum h hrt
  go_enter Tryd.func15, Tryd.ntmps15
  go_wp2_with fail
  refine (canon_any s _ hs).mono ?_
  rintro e w' ⟨rfl, rfl⟩
  rw [show (⟨(canon s.data.toList).toArray⟩ : ByteArray) = t from HT.out]
  rcases Nat.lt_or_ge 8 t.size with h9 | h9
  · clear hfirst
    go_wp2
    go_ret2
    exact ⟨rfl, rfl⟩
  · obtain ⟨hpos, hle⟩ := hfirst (by omega)
    clear hfirst
    go_wp2
    go_ret2
    exact ⟨rfl, rfl⟩
theorem small_yes (s : ByteArray) (k : Nat) (hk : k ≤ 7) (w : World) (hs : s.size ≤ 1000000000000) (h : num s.data.toList < 256 ^ k) :
    Calls Tryd.prog 32 #[.string s, .int .i64 (k : Int)] w fun e w' => e = .returned (.tuple #[.int .i64 ((num s.data.toList : Nat) : Int), .bool true]) ∧ w = w' := by
  have hrt : Rt (bytesOf s).data.toList := rt_canon _
  have hnum : num (bytesOf s).data.toList = num s.data.toList := num_canon _
  have hsz : (bytesOf s).size ≤ k := canon_size_le hrt (by omega)
  have hle : num s.data.toList ≤ 9223372036854775807 := by
    have : 256 ^ k ≤ 256 ^ 7 := Nat.pow_le_pow_right (by decide) hk
    omega
  have HLE := Lib.hid hle
  generalize ht : (bytesOf s) = t at hsz
  have HT := Lib.hid ht
  clear ht hnum h hrt hle
  go_enter Tryd.func32, Tryd.ntmps32
  go_wp2_with fail
  refine (canon_any s _ hs).mono ?_
  rintro e w' ⟨rfl, rfl⟩
  rw [show (⟨(canon s.data.toList).toArray⟩ : ByteArray) = t from HT.out]
  have hd : ¬ (k : Int) < (t.size : Int) := by omega
  go_wp2_with fail
  refine (rint_yes s _ hs HLE.out).mono ?_
  rintro e w' ⟨rfl, rfl⟩
  generalize hN : num s.data.toList = N
  have HNN := Lib.hid hN
  clear hN
  go_wp2
  go_ret2
  exact ⟨by rw [HNN.out]; rfl, rfl⟩
theorem small_no (s : ByteArray) (k : Nat) (w : World) (hs : s.size ≤ 1000000000000) (h : 256 ^ k ≤ num s.data.toList) :
    Calls Tryd.prog 32 #[.string s, .int .i64 (k : Int)] w fun e w' => e = .returned (.tuple #[.int .i64 0, .bool false]) ∧ w = w' := by
  have hnum : num (bytesOf s).data.toList = num s.data.toList := num_canon _
  have hsz : k < (bytesOf s).size := canon_size_gt (by omega)
  generalize ht : (bytesOf s) = t at hsz
  have HT := Lib.hid ht
  clear ht hnum h
  go_enter Tryd.func32, Tryd.ntmps32
  go_wp2_with fail
  refine (canon_any s _ hs).mono ?_
  rintro e w' ⟨rfl, rfl⟩
  rw [show (⟨(canon s.data.toList).toArray⟩ : ByteArray) = t from HT.out]
  have hd : (k : Int) < (t.size : Int) := by omega
  go_wp2
  go_ret2
  exact ⟨rfl, rfl⟩

set_option maxRecDepth 100000 in
theorem rof_le (n : Int) (w : World) (h : n ≤ 0) :
    Calls Tryd.prog 14 #[.int .i64 n] w fun e w' => e = .returned (.string ⟨#[]⟩) ∧ w = w' := by
  have hcv := run_convert_bytes_nil (P := Tryd.prog) w 22 5 Tryd.underlying22 Tryd.underlying5 0 0 24 Tryd.underlying24
  go_enter Tryd.func14, Tryd.ntmps14
  go_wp2
  go_loop [3, 4] (fun u v => u = .slice none 0 0 ∧ v = .int .i64 56) (fun _ _ => 0)
  case atStart => exact ⟨rfl, rfl⟩
  case round =>
    obtain ⟨rfl, rfl⟩ := hrel
    go_wp2_with fail
    refine (canon_any ByteArray.empty _ (Nat.zero_le _)).mono ?_
    rintro e w' ⟨rfl, rfl⟩
    rw [show (⟨(canon ByteArray.empty.data.toList).toArray⟩ : ByteArray) = ⟨#[]⟩ from rfl]
    go_wp2
    go_ret
    exact ⟨rfl, rfl⟩

/-- The bytes of n, the m last ones left out. -/
theorem of_byte {n m : Nat} : num (u8s [n / 256 ^ m % 256]) = n / 256 ^ m % 256 := by
  simp [u8s, num]
theorem u8s_append (a b : List Nat) : u8s (a ++ b) = u8s a ++ u8s b := by simp [u8s]
theorem of_step {l : List Nat} {n m : Nat} (h : num (u8s l) = n / 256 ^ (m + 1)) : num (u8s (l ++ [n / 256 ^ m % 256])) = n / 256 ^ m := by
  rw [u8s_append, show u8s [n / 256 ^ m % 256] = [UInt8.ofNat (n / 256 ^ m % 256)] from rfl, num_snoc, h, Nat.pow_succ, ← Nat.div_div_eq_div_mul]
  have : (UInt8.ofNat (n / 256 ^ m % 256)).toNat = n / 256 ^ m % 256 := by simp
  rw [this]; omega

set_option maxHeartbeats 2000000 in
set_option maxRecDepth 100000 in
theorem rof_pos (n : Nat) (w : World) (h0 : 0 < n) (h : n ≤ 9223372036854775807) :
    Calls Tryd.prog 14 #[.int .i64 (n : Int)] w fun e w' => e = .returned (.string ⟨(enc n).toArray⟩) ∧ w.grownBy w' none := by
  obtain ⟨i0, hi, hz0, hz1, hz2⟩ := info_parts infoB
  have hn8 : n / 256 ^ 8 = 0 := Nat.div_eq_of_lt (by omega)
  have HB := Lib.hid (show num (u8s []) = n / 256 ^ 8 from by rw [hn8]; rfl)
  clear hn8
  go_enter Tryd.func14, Tryd.ntmps14
  go_wp2
  go_loopw [3, 4] (fun u v wr => ∃ (m : Nat) (l : List Nat), m ≤ 8 ∧ v = .int .i64 (8 * (m : Int) - 8) ∧ Acc .u8 5 w wr u l ∧ l.length + m = 8 ∧ Hid (num (u8s l) = n / 256 ^ m)) (fun _ v _ => (intOf v + 8).toNat)
  case atStart => exact ⟨8, [], Nat.le_refl _, rfl, .nil _ _ _, rfl, HB⟩
  case round =>
    obtain ⟨m, l, hm, rfl, hacc, hlen, HN⟩ := hrel
    rcases m with _ | m
    · have HA := Lib.hid hacc
      have hcv := hacc.str (P := Tryd.prog) 22 24 Tryd.underlying22 Tryd.underlying5 Tryd.underlying24
      have hl8 : l.length = 8 := by omega
      have hsz : (⟨(u8s l).toArray⟩ : ByteArray).size ≤ 1000000000000 := by
        have : (⟨(u8s l).toArray⟩ : ByteArray).size = l.length := by show (u8s l).toArray.size = _; simp [u8s]
        omega
      generalize hstr : (⟨(u8s l).toArray⟩ : ByteArray) = str at hcv hsz
      have HSTR := Lib.hid hstr
      clear hstr hacc hi hz0 hz1 hz2 hl8
      go_wp2_with fail
      refine (canon_any str _ hsz).mono ?_
      rintro e w' ⟨rfl, rfl⟩
      have hfin : (⟨(canon str.data.toList).toArray⟩ : ByteArray) = ⟨(enc n).toArray⟩ := by
        rw [← HSTR.out, ← enc_num_canon]
        have h1 := HN.out
        rw [Nat.pow_zero, Nat.div_one] at h1
        rw [h1]
      rw [hfin]
      go_wp2
      go_ret
      exact ⟨rfl, HA.out.gr⟩
    · rw [show 8 * ((m + 1 : Nat) : Int) - 8 = 8 * (m : Int) from by omega]
      have hbv : ((n : Int) / (2 : Int) ^ (8 * m) % 256) = ((n / 256 ^ m % 256 : Nat) : Int) := byte_word n m
      have HBV := Lib.hid hbv
      obtain ⟨d, hd⟩ : ∃ d, d = n / 256 ^ m % 256 := ⟨_, rfl⟩
      have HNX := Lib.hid (of_step HN.out)
      rw [← hd] at HNX
      have HD := Lib.hid hd
      have hnpos : (0 : Int) < (n : Int) := by omega
      have hm8 : (0 : Int) ≤ 8 * (m : Int) := by omega
      clear hd hbv
      go_wp2_with (at_builtin; rw [HBV.out, ← HD.out]; refine wpList_acc rfl (.tmp 13) (.tmp 18) 22 rfl .u8 5 i0 1 Tryd.underlying22 hi hz0 hz1 hz2 _ l [d] hacc rfl rfl (by simp) ?_ ?_ ?_)
      case refine_1 => unfold maxLen; simp; omega
      case refine_2 => simp; omega
      intro v' w' hacc'
      clear hacc hi hz0 hz1 hz2
      go_wp2
      refine ⟨⟨m, l ++ [d], by omega, by rfl, hacc', by simp; omega, HNX⟩, ?_⟩
      simp [intOf]; omega
theorem rof_any (n : Nat) (w : World) (h : n ≤ 9223372036854775807) :
    Calls Tryd.prog 14 #[.int .i64 (n : Int)] w fun e w' => e = .returned (.string ⟨(enc n).toArray⟩) ∧ w.grownBy w' none := by
  rcases Nat.eq_zero_or_pos n with h0 | h0
  · subst h0
    refine (rof_le 0 w (Int.le_refl _)).mono ?_
    rintro e w' ⟨rfl, rfl⟩
    exact ⟨by rw [enc_zero], World.grownBy.refl _ _⟩
  · exact rof_pos n w h0 h
end Go.Proofs.YtoadjhmehgkeaaaDoor
