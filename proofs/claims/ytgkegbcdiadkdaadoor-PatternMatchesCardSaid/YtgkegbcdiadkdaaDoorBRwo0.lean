/- The law of the claim at the level of the call, and its row: RowO. -/
import Derived.Test.YtgkegbcdiadkdaaDoorBMad0
namespace Go.Proofs.YtgkegbcdiadkdaaDoor
open Go.ChangeShapes Go.WideShapes Go.ChangeAt Go.RowKit Pt

set_option maxRecDepth 100000 in
theorem ints_trod {H : Type} {enc : TypeId × Value → H} {W : World} {fuel : Nat} {cs : List Value} {x : DataW H × List MemPlace} (hf : DataW.trod enc Tryd.prog W 0 (fun _ => true) true fuel 22 cs = some x) : ∃ v, cs = [v] ∧ IntsA W v := by
  have hce : Tryd.prog.cellsOf 3 = 1 := by kernel_rfl
  rcases DataW.trod_slice Tryd.underlying22 hf with ⟨hcs, _⟩ | ⟨a, len, cap, elems, rest, n, _, hcs, _, _, hl, hm, hlen, hel, _, _⟩
  · exact ⟨_, hcs, none, 0, 0, rfl, .inl rfl⟩
  · refine ⟨_, hcs, some a, len, cap, rfl, ?_⟩
    by_cases h0 : len = 0
    · exact .inl h0
    right
    have each : ∀ i, i < len → ∃ z0 : Int, W.cell? (a.add i) = some (.int .i64 z0) ∧ I64 z0 := by
      intro i hi
      have hb := hel i hi
      rw [hce, List.getElem?_eq_getElem (by omega), Option.bind_eq_some_iff] at hb
      obtain ⟨cs, hcs, hy⟩ := hb
      obtain ⟨_, hcl, hcell⟩ := World.cells?_some hcs
      match cs, hcl with
      | [x0], _ =>
        obtain ⟨z0, e0, _, w0⟩ := DataW.trod_int Tryd.underlying3 hy
        simp at e0
        subst e0
        have c0 := hcell 0 (by decide)
        refine ⟨z0, ?_, wf_i64 w0⟩
        have e : (a.add (i * 1)).add 0 = a.add i := by simp [Addr.add]
        rw [e] at c0
        exact c0
    have hsp : a.spot = none := by
      obtain ⟨z0, h1, _⟩ := each 0 (by omega)
      have : a.add 0 = a := by simp [Addr.add]
      rw [this] at h1
      exact spot_none h1
    obtain ⟨b, o, s⟩ := a
    dsimp only at hsp
    subst hsp
    have hx : ∀ i, ∃ f : Int, i < len → W.cell? ⟨b, o + i, none⟩ = some (.int .i64 f) ∧ I64 f := by
      intro i
      by_cases hi : i < len
      · obtain ⟨z0, h1, h2⟩ := each i hi
        rw [add_add] at h1
        exact ⟨z0, fun _ => ⟨h1, h2⟩⟩
      · exact ⟨0, fun h => absurd h hi⟩
    refine ⟨b, o, fun i => Classical.choose (hx i), rfl, ?_, by unfold maxLen at hm; omega, fun i hi => Classical.choose_spec (hx i) hi⟩
    obtain ⟨z0, h1, _⟩ := each 0 (by omega)
    rw [add_add] at h1
    exact cell_lt h1
/-- A slice of bytes that came in. -/
def BytesA (w : World) (v : Value) : Prop := ∃ a n c, v = .slice a n c ∧ (n = 0 ∨ ∃ (g o : Nat) (F : Nat → Nat), a = some ⟨g, o, none⟩ ∧ g < w.heap.size ∧ n ≤ 9223372036854775807 ∧ ∀ i, i < n → w.cell? ⟨g, o + i, none⟩ = some (.int .u8 (F i : Nat)) ∧ F i ≤ 255)
set_option maxRecDepth 100000 in
theorem u8s_trod {H : Type} {enc : TypeId × Value → H} {W : World} {fuel : Nat} {cs : List Value} {x : DataW H × List MemPlace} (hf : DataW.trod enc Tryd.prog W 0 (fun _ => true) true fuel 41 cs = some x) : ∃ v, cs = [v] ∧ BytesA W v := by
  have hce : Tryd.prog.cellsOf 5 = 1 := by kernel_rfl
  rcases DataW.trod_slice Tryd.underlying41 hf with ⟨hcs, _⟩ | ⟨a, len, cap, elems, rest, n, _, hcs, _, _, hl, hm, hlen, hel, _, _⟩
  · exact ⟨_, hcs, none, 0, 0, rfl, .inl rfl⟩
  · refine ⟨_, hcs, some a, len, cap, rfl, ?_⟩
    by_cases h0 : len = 0
    · exact .inl h0
    right
    have each : ∀ i, i < len → ∃ z0 : Nat, W.cell? (a.add i) = some (.int .u8 (z0 : Int)) ∧ z0 ≤ 255 := by
      intro i hi
      have hb := hel i hi
      rw [hce, List.getElem?_eq_getElem (by omega), Option.bind_eq_some_iff] at hb
      obtain ⟨cs, hcs, hy⟩ := hb
      obtain ⟨_, hcl, hcell⟩ := World.cells?_some hcs
      match cs, hcl with
      | [x0], _ =>
        obtain ⟨z0, e0, _, w0⟩ := DataW.trod_int Tryd.underlying5 hy
        simp at e0
        subst e0
        have c0 := hcell 0 (by decide)
        obtain ⟨m0, rfl, hm0⟩ := wf_u8 w0
        refine ⟨m0, ?_, hm0⟩
        have e : (a.add (i * 1)).add 0 = a.add i := by simp [Addr.add]
        rw [e] at c0
        exact c0
    have hsp : a.spot = none := by
      obtain ⟨z0, h1, _⟩ := each 0 (by omega)
      have : a.add 0 = a := by simp [Addr.add]
      rw [this] at h1
      exact spot_none h1
    obtain ⟨b, o, s⟩ := a
    dsimp only at hsp
    subst hsp
    have hx : ∀ i, ∃ f : Nat, i < len → W.cell? ⟨b, o + i, none⟩ = some (.int .u8 (f : Int)) ∧ f ≤ 255 := by
      intro i
      by_cases hi : i < len
      · obtain ⟨z0, h1, h2⟩ := each i hi
        rw [add_add] at h1
        exact ⟨z0, fun _ => ⟨h1, h2⟩⟩
      · exact ⟨0, fun h => absurd h hi⟩
    refine ⟨b, o, fun i => Classical.choose (hx i), rfl, ?_, by unfold maxLen at hm; omega, fun i hi => Classical.choose_spec (hx i) hi⟩
    obtain ⟨z0, h1, _⟩ := each 0 (by omega)
    rw [add_add] at h1
    exact cell_lt h1
set_option maxRecDepth 100000 in
theorem u8s_arg {H : Type} {enc : TypeId × Value → H} {W : World} {base : Nat} {v : Value} {d : DataW H} {p : List MemPlace} (hok : Value.okWide Tryd.prog W .any base 41 v) (h : DataW.Trod enc Tryd.prog W 0 (fun _ => true) true 41 v d p) : BytesA W v := by
  obtain ⟨a0, len, cap, rfl⟩ := okWide_slice Tryd.underlying41 hok
  obtain ⟨fuel, hf⟩ := h
  obtain ⟨v, e, hv⟩ := u8s_trod hf
  simp [Value.cells] at e
  rw [e]
  exact hv
set_option maxRecDepth 100000 in
theorem ints2_arg {H : Type} {enc : TypeId × Value → H} {W : World} {base : Nat} {v : Value} {d : DataW H} {p : List MemPlace} (hok : Value.okWide Tryd.prog W .any base 36 v) (h : DataW.Trod enc Tryd.prog W 0 (fun _ => true) true 36 v d p) : ∃ v0 v1, v = .agg #[v0, v1] ∧ IntsA W v0 ∧ IntsA W v1 := by
  have hc : Tryd.prog.cellsOf 36 = 2 := by kernel_rfl
  have hc1 : Tryd.prog.cellsOf 22 = 1 := by kernel_rfl
  simp only [Value.okWide, Tryd.underlying36] at hok
  obtain ⟨cs, rfl, hsz, _⟩ := hok
  obtain ⟨fuel, hf⟩ := h
  rw [hc] at hsz
  obtain ⟨x0, x1, rfl⟩ : ∃ x0 x1, cs = #[x0, x1] := by
    rcases cs with ⟨l⟩
    match l, hsz with
    | [x0, x1], _ => exact ⟨x0, x1, rfl⟩
  obtain ⟨xs, m, _, _, _, hlen, hf2⟩ := DataW.trod_array Tryd.underlying36 hf
  have h0 := hf2 0 (by decide)
  have h1 := hf2 1 (by decide)
  rw [hc1] at h0 h1
  match xs, hlen with
  | [y0, y1], _ =>
    obtain ⟨u0, e0, i0⟩ := ints_trod (x := y0) (by simpa using h0)
    obtain ⟨u1, e1, i1⟩ := ints_trod (x := y1) (by simpa using h1)
    simp [Value.cells] at e0 e1
    exact ⟨u0, u1, by rw [e0, e1], i0, i1⟩
set_option maxRecDepth 100000 in
theorem edit_arg {H : Type} {enc : TypeId × Value → H} {W : World} {base : Nat} {v : Value} {d : DataW H} {p : List MemPlace} (hok : Value.okWide Tryd.prog W .any base 38 v) (h : DataW.Trod enc Tryd.prog W 0 (fun _ => true) true 38 v d p) : ∃ (a : Int) (c : Nat) (s : ByteArray), v = .agg #[.int .i64 a, .int .u8 (c : Int), .string s] ∧ (-9223372036854775808 ≤ a ∧ a ≤ 9223372036854775807) ∧ c ≤ 255 ∧ s.size ≤ maxLen := by
  have hc : Tryd.prog.cellsOf 38 = 3 := by kernel_rfl
  have hc0 : Tryd.prog.cellsOf 3 = 1 := by kernel_rfl
  have hc1 : Tryd.prog.cellsOf 5 = 1 := by kernel_rfl
  have hc2 : Tryd.prog.cellsOf 9 = 1 := by kernel_rfl
  simp only [Value.okWide, Tryd.underlying38] at hok
  obtain ⟨cs, rfl, hsz, _⟩ := hok
  obtain ⟨fuel, hf⟩ := h
  rw [hc] at hsz
  obtain ⟨x0, x1, x2, rfl⟩ : ∃ x0 x1 x2, cs = #[x0, x1, x2] := by
    rcases cs with ⟨l⟩
    match l, hsz with
    | [x0, x1, x2], _ => exact ⟨x0, x1, x2, rfl⟩
  obtain ⟨xs, m, _, _, _, hlen, hf2⟩ := DataW.trod_struct Tryd.underlying38 hf
  have h0 : DataW.trod enc Tryd.prog W 0 (fun _ => true) true m 3 (List.take (Tryd.prog.cellsOf 3) (List.drop 0 (Value.agg #[x0, x1, x2]).cells.toList)) = xs[0]? := hf2 0 _ rfl
  have h1 : DataW.trod enc Tryd.prog W 0 (fun _ => true) true m 5 (List.take (Tryd.prog.cellsOf 5) (List.drop 1 (Value.agg #[x0, x1, x2]).cells.toList)) = xs[1]? := hf2 1 _ rfl
  have h2 : DataW.trod enc Tryd.prog W 0 (fun _ => true) true m 9 (List.take (Tryd.prog.cellsOf 9) (List.drop 2 (Value.agg #[x0, x1, x2]).cells.toList)) = xs[2]? := hf2 2 _ rfl
  rw [hc0] at h0
  rw [hc1] at h1
  rw [hc2] at h2
  match xs, hlen with
  | [y0, y1, y2], _ =>
    obtain ⟨b, e0, _, w0⟩ := DataW.trod_int Tryd.underlying3 (x := y0) (by simpa using h0)
    obtain ⟨a1, e1, _, w1⟩ := DataW.trod_int Tryd.underlying5 (x := y1) (by simpa using h1)
    obtain ⟨a2, e2, _, w2⟩ := DataW.trod_string Tryd.underlying9 (x := y2) (by simpa using h2)
    simp [Value.cells] at e0 e1 e2
    obtain ⟨m1, rfl, hm1⟩ := wf_u8 w1
    exact ⟨b, m1, a2, by rw [e0, e1, e2], wf_i64 w0, hm1, w2⟩
end Go.Proofs.YtgkegbcdiadkdaaDoor
