/- A law for the builtin append on slices of numbers that the call itself has made. -/
import Derived.Test.YtednijejgadmnaaDoorMem
namespace Go.Proofs.YtednijejgadmnaaDoor
open Go.RowKit Mth

theorem zeroCells_int (k : IntKind) (n : Nat) : (Builtin.zeroCells (Value.int k 0).cells n).toList = cellsOf k (List.replicate n 0) := by
  simp only [Builtin.zeroCells, Value.cells, cellsOf]
  apply List.ext_getElem
  · simp
  · intro i h1 h2
    simp [Nat.mod_one]

/-- A slice that the call owns: nil, or the head of a block of numbers. -/
def Own (k : IntKind) (e : TypeId) (w : World) (v : Value) (n : Nat) (zs : List Nat) : Prop :=
  (v = .slice none 0 0 ∧ n = 0 ∧ zs = []) ∨ (∃ g, v = .slice (some ⟨g, 0, none⟩) n zs.length ∧ Blk k e w g zs ∧ n ≤ zs.length ∧ zs.length ≤ maxLen)
theorem Own.nil (k : IntKind) (e : TypeId) (w : World) : Own k e w (.slice none 0 0) 0 [] := .inl ⟨rfl, rfl, rfl⟩
theorem Own.kept {k : IntKind} {e : TypeId} {w w' : World} {v : Value} {n : Nat} {zs : List Nat} {r : Option Nat} (h : Own k e w v n zs) (hg : w.grownBy w' r) (hne : v.ownBlock = none ∨ v.ownBlock ≠ r) : Own k e w' v n zs := by
  rcases h with h | ⟨g, rfl, hb, h1, h2⟩
  · exact .inl h
  · exact .inr ⟨g, rfl, hb.kept hg (by simpa [Value.ownBlock] using hne), h1, h2⟩

/-- What append leaves: the n old numbers, the m new ones. -/
structure Apped (zs us xs : List Nat) (n m off : Nat) : Prop where
  old : ∀ i, i < n → gt us i = gt zs i
  new : ∀ i, i < m → gt us (n + i) = gt xs (off + i)
  rest : ∀ i, gt us i = 0 ∨ (∃ j, gt us i = gt zs j) ∨ (∃ j, gt us i = gt xs j)

theorem apped_grow {zs xs : List Nat} {n m off r : Nat} (hn : n ≤ zs.length) (hm : off + m ≤ xs.length) : Apped zs (zs.take n ++ (xs.drop off).take m ++ List.replicate r 0) xs n m off := by
  have h1 : (zs.take n).length = n := by simp; omega
  have h2 : ((xs.drop off).take m).length = m := by simp; omega
  have h3 : (zs.take n ++ (xs.drop off).take m).length = n + m := by rw [List.length_append, h1, h2]
  refine ⟨fun i hi => ?_, fun i hi => ?_, fun i => ?_⟩
  · rw [gt_append_left (by omega), gt_append_left (by omega), gt_take hi]
  · rw [gt_append_left (by omega), gt_append_right (by omega), h1, Nat.add_sub_cancel_left, gt_take hi, gt_drop]
  · by_cases ha : i < n
    · right; left; exact ⟨i, by rw [gt_append_left (by omega), gt_append_left (by omega), gt_take ha]⟩
    · by_cases hb : i < n + m
      · right; right; exact ⟨off + (i - n), by rw [gt_append_left (by omega), gt_append_right (by omega), h1, gt_take (by omega), gt_drop]⟩
      · left; rw [gt_append_right (by omega)]; simp [gt, List.getD, List.getElem?_replicate]; split <;> rfl
theorem apped_room {zs xs : List Nat} {n m off : Nat} (hn : n + m ≤ zs.length) (hm : off + m ≤ xs.length) : Apped zs (zs.take n ++ (xs.drop off).take m ++ zs.drop (n + m)) xs n m off := by
  have h1 : (zs.take n).length = n := by simp; omega
  have h2 : ((xs.drop off).take m).length = m := by simp; omega
  have h3 : (zs.take n ++ (xs.drop off).take m).length = n + m := by rw [List.length_append, h1, h2]
  refine ⟨fun i hi => ?_, fun i hi => ?_, fun i => ?_⟩
  · rw [gt_append_left (by omega), gt_append_left (by omega), gt_take hi]
  · rw [gt_append_left (by omega), gt_append_right (by omega), h1, Nat.add_sub_cancel_left, gt_take hi, gt_drop]
  · by_cases ha : i < n
    · right; left; exact ⟨i, by rw [gt_append_left (by omega), gt_append_left (by omega), gt_take ha]⟩
    · by_cases hb : i < n + m
      · right; right; exact ⟨off + (i - n), by rw [gt_append_left (by omega), gt_append_right (by omega), h1, gt_take (by omega), gt_drop]⟩
      · right; left; exact ⟨n + m + (i - (n + m)), by rw [gt_append_right (by omega), h3, gt_drop]⟩
theorem Apped.dg {zs us xs : List Nat} {n m off b : Nat} (h : Apped zs us xs n m off) (hb : 0 < b) (h1 : Dg b zs) (h2 : Dg b xs) : Dg b us := by
  intro i
  rcases h.rest i with h | ⟨j, h⟩ | ⟨j, h⟩
  · rw [h]; exact hb
  · rw [h]; exact h1 j
  · rw [h]; exact h2 j

theorem run_append_blk {P : Program} {w : World} (k : IntKind) (e : TypeId) (t ty : TypeId) (i : TypeInfo) (bytes : Nat) (ht : P.underlying t = some (.slice e)) (hi : P.info? e = some i) (hz : i.zero = some (.int k 0)) (hsize : i.size = 1) (hby : i.bytes = bytes)
    (v : Value) (n : Nat) (zs : List Nat) (hown : Own k e w v n zs) (b off m c : Nat) (xs : List Nat) (hcell : ∀ j, j < m → w.cell? ⟨b, off + j, none⟩ = some (.int k ((gt xs (off + j) : Nat) : Int))) (hm : off + m ≤ xs.length) (hm0 : 0 < m)
    (h63 : n + m ≤ maxLen) (hbytes : (n + m) * bytes ≤ 140737488355328) :
    ∃ v' w' us, (Builtin.append_ #[t, t] ty #[v, .slice (some ⟨b, off, none⟩) m c]).run P w = .ok v' w' ∧ Own k e w' v' (n + m) us ∧ w.grownBy w' v.ownBlock ∧ Apped zs us xs n m off ∧ (v'.ownBlock = v.ownBlock ∨ ∃ g, v'.ownBlock = some g ∧ w.heap.size ≤ g) := by
  have hsmall : n + m ≤ 9223372036854775807 := by simp only [maxLen] at h63; omega
  have hnl : (cellsOf k ((xs.drop off).take m)).length = m := by rw [length_cellsOf]; simp; omega
  have hl : (cellsOf k ((xs.drop off).take m)).length = m * i.size := by rw [hsize, hnl, Nat.mul_one]
  have hnews : ∀ j u, (cellsOf k ((xs.drop off).take m))[j]? = some u → w.cell? ((⟨b, off, none⟩ : Addr).add j) = some u := by
    intro j u hu
    have hj : j < m := by have := (List.getElem?_eq_some_iff.1 hu).1; omega
    rw [Addr.add_lit, hcell j hj]
    rw [cellsOf_get k _ _ (by simp; omega), gt_take hj, gt_drop] at hu
    exact hu
  have hone : ∀ u ∈ cellsOf k ((xs.drop off).take m), u.oneCell' = true := by
    intro u hu
    simp only [cellsOf, List.mem_map] at hu
    obtain ⟨_, _, rfl⟩ := hu
    rfl
  have hzc : ∀ q, (Builtin.zeroCells (Value.int k 0).cells q) = (cellsOf k (List.replicate q 0)).toArray := fun q => by rw [← zeroCells_int, Array.toArray_toList]
  rcases hown with ⟨rfl, rfl, rfl⟩ | ⟨g, rfl, hb, hn, hmx⟩
  · have hr := run_append_nil (P := P) w t ty e i (.int k 0) ht hi hz ⟨b, off, none⟩ m c _ hl hnews hm0 (by omega) (by rw [hby]; simp only [Nat.zero_add] at hbytes; omega)
    have hge := grownCap_ge w m 0 e
    refine ⟨_, _, (xs.drop off).take m ++ List.replicate (grownCap w m 0 e - m) 0, hr, .inr ⟨w.heap.size, ?_, ?_, ?_, ?_⟩, ⟨rfl, rfl, rfl, by simp, fun k hk _ => heap_alloc_old w.drew _ hk⟩, ?_, .inr ⟨w.heap.size, rfl, Nat.le_refl _⟩⟩
    · simp; congr 1; omega
    · unfold Blk
      rw [hzc]
      refine (heap_alloc_new w.drew _).trans ?_
      simp [cellsOf]
    · simp; omega
    · have := grownCap_le_maxLen w m 0 e (by omega)
      simp; omega
    · have := apped_grow (zs := []) (xs := xs) (n := 0) (m := m) (off := off) (r := grownCap w m 0 e - m) (Nat.le_refl _) hm
      simpa using this
  · have hnz : (cellsOf k (zs.take n)).length = n * i.size := by rw [hsize, length_cellsOf]; simp; omega
    by_cases hroom : n + m ≤ zs.length
    · have hr := run_append_room (P := P) w t ty e i ht hi g n zs.length (cellsOf k zs).toArray hb ⟨b, off, none⟩ m c _ hl hnews hone hroom (by rw [hsize, hnl]; simp [length_cellsOf]; omega)
      have hcells : (((cellsOf k zs).toArray.toList.take (n * i.size) ++ cellsOf k ((xs.drop off).take m) ++ (cellsOf k zs).toArray.toList.drop (n * i.size + (cellsOf k ((xs.drop off).take m)).length)).toArray) = (cellsOf k (zs.take n ++ (xs.drop off).take m ++ zs.drop (n + m))).toArray := by
        rw [hsize, hnl, Nat.mul_one]; simp [cellsOf, List.map_take, List.map_drop]
      rw [hcells] at hr
      have hlen : (zs.take n ++ (xs.drop off).take m ++ zs.drop (n + m)).length = zs.length := by simp; omega
      refine ⟨_, _, zs.take n ++ (xs.drop off).take m ++ zs.drop (n + m), hr, .inr ⟨g, by rw [hlen], setRow_heap w g _ _ e _ hb, by rw [hlen]; exact hroom, by rw [hlen]; exact hmx⟩, ⟨rfl, rfl, rfl, by simp, fun k _ hk => setRow_other w g k _ (fun e => hk (by simp [Value.ownBlock, e]))⟩, apped_room hroom hm, .inl rfl⟩
    · have holds : ∀ j u, (cellsOf k (zs.take n))[j]? = some u → w.cell? ((⟨g, 0, none⟩ : Addr).add j) = some u := by
        intro j u hu
        have hj : j < n := by have := (List.getElem?_eq_some_iff.1 hu).1; rw [length_cellsOf] at this; simp at this; omega
        rw [Addr.add_lit, Nat.zero_add, hb.cell (by omega)]
        rw [cellsOf_get k _ _ (by simp; omega), gt_take hj] at hu
        exact hu
      have hr := run_append_grow (P := P) w t ty e i (.int k 0) ht hi hz ⟨g, 0, none⟩ n zs.length (cellsOf k (zs.take n)) hnz holds ⟨b, off, none⟩ m c _ hl hnews (by omega) (by omega) (growslice_fits (by omega) (by rw [hby]; exact hbytes))
      have hge := grownCap_ge w (n + m) zs.length e
      refine ⟨_, _, zs.take n ++ (xs.drop off).take m ++ List.replicate (grownCap w (n + m) zs.length e - (n + m)) 0, hr, .inr ⟨w.heap.size, ?_, ?_, ?_, ?_⟩, ⟨rfl, rfl, rfl, by simp, fun k hk _ => heap_alloc_old w.drew _ hk⟩, apped_grow hn hm, .inr ⟨w.heap.size, rfl, Nat.le_refl _⟩⟩
      · simp; congr 1; omega
      · unfold Blk
        rw [hzc]
        refine (heap_alloc_new w.drew _).trans ?_
        simp [cellsOf]
      · simp; omega
      · have := grownCap_le_maxLen w (n + m) zs.length e h63
        simp; omega

theorem wpList_append_blk {P : Program} {w : World} {ops : Array Oper} {rest : List Oper} {o : Oper} {a : Act} {Q : Exit → Act → World → Prop} (hgd : o.guard = none) (s x : Operand) (t : TypeId)
    (ho : o.op = .call { callee := .builtin .append, args := #[s, x], argTypes := #[t, t] })
    (k : IntKind) (e : TypeId) (i : TypeInfo) (bytes : Nat) (ht : P.underlying t = some (.slice e)) (hi : P.info? e = some i) (hz : i.zero = some (.int k 0)) (hsize : i.size = 1) (hby : i.bytes = bytes)
    (v : Value) (n : Nat) (zs : List Nat) (hs : a.eval s = v) (hown : Own k e w v n zs) (b off m c : Nat) (xs : List Nat) (hx : a.eval x = .slice (some ⟨b, off, none⟩) m c)
    (hcell : ∀ j, j < m → w.cell? ⟨b, off + j, none⟩ = some (.int k ((gt xs (off + j) : Nat) : Int))) (hm : off + m ≤ xs.length) (hm0 : 0 < m)
    (h63 : n + m ≤ maxLen) (hbytes : (n + m) * bytes ≤ 140737488355328)
    (h : ∀ v' w' us, Own k e w' v' (n + m) us → w.grownBy w' v.ownBlock → Apped zs us xs n m off → (v'.ownBlock = v.ownBlock ∨ ∃ g, v'.ownBlock = some g ∧ w.heap.size ≤ g) → wpList P ops Q rest (a.put o.dst v') w') : wpList P ops Q (o :: rest) a w := by
  refine wpList_plain hgd fun K hK => ?_
  obtain ⟨v', w', us, hr, h2, h3, h4, h5⟩ := run_append_blk (P := P) (w := w) k e t o.type i bytes ht hi hz hsize hby v n zs hown b off m c xs hcell hm hm0 h63 hbytes
  unfold Oper.wp execOp
  simp only [ho, resolve, invoke, builtin, Sem.run_bind, Sem.run_pure, Result.andThen_ok, List.map_toArray, List.map_cons, List.map_nil, hs, hx, hr]
  exact hK _ _ (h v' w' us h2 h3 h4 h5)
end Go.Proofs.YtednijejgadmnaaDoor
