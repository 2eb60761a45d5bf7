/- Contracts of package nat and of the reference, part 4: MthR, Acc, RefS, RefB, MthK, SubM. -/
import Derived.Test.YtoadjhmehgkeaaaDoorEInts3
import Derived.Laws.BytesArg
namespace Go.Proofs.YtoadjhmehgkeaaaDoor
namespace Mth

def D24 : Nat := 16777216
theorem D24_eq : D24 = 16777216 := rfl
theorem D24_pos : 0 < D24 := by decide
/-- The digits of a number, the least significant one first, none for 0. -/
def dgt (n : Nat) : List Nat := if _h : n = 0 then [] else (n % D24) :: dgt (n / D24)
termination_by n
decreasing_by rw [D24_eq]; omega
theorem dgt_zero : dgt 0 = [] := by unfold dgt; simp
theorem dgt_pos {n : Nat} (h : n ≠ 0) : dgt n = (n % D24) :: dgt (n / D24) := by rw [dgt]; simp [h]
theorem div_D24_lt {n : Nat} (h : n ≠ 0) : n / D24 < n := by rw [D24_eq]; omega
theorem val_dgt (n : Nat) : val D24 (dgt n) = n := by
  induction n using Nat.strongRecOn with
  | _ n ih =>
    by_cases h : n = 0
    · subst h; rw [dgt_zero]; rfl
    · rw [dgt_pos h, val, ih _ (div_D24_lt h)]; exact Nat.mod_add_div _ _
theorem gt_dgt (n i : Nat) : gt (dgt n) i = n / D24 ^ i % D24 := by
  induction i generalizing n with
  | zero =>
    by_cases h : n = 0
    · subst h; rw [dgt_zero]; simp [gt]
    · rw [dgt_pos h]; simp [gt]
  | succ i ih =>
    by_cases h : n = 0
    · subst h; rw [dgt_zero]; simp [gt]
    · rw [dgt_pos h, Nat.pow_succ, Nat.mul_comm, ← Nat.div_div_eq_div_mul, ← ih (n / D24)]; simp [gt]
theorem dg_dgt (n : Nat) : Dg D24 (dgt n) := fun i => by rw [gt_dgt]; exact Nat.mod_lt _ D24_pos
theorem vs_dgt (n k : Nat) : vs D24 (dgt n) 0 k = n % D24 ^ k := by
  induction k with
  | zero => simp [vs, Nat.mod_one]
  | succ k ih => simp only [vs, Nat.zero_add]; rw [ih, gt_dgt, Nat.pow_succ, Nat.mod_mul]
theorem dgt_len_le : ∀ (k n : Nat), n < D24 ^ k → (dgt n).length ≤ k
  | 0, n, h => by
    have : n = 0 := by simpa using h
    subst this; rw [dgt_zero]; simp
  | k + 1, n, h => by
    by_cases h0 : n = 0
    · subst h0; rw [dgt_zero]; simp
    · rw [dgt_pos h0, List.length_cons]
      have := dgt_len_le k (n / D24) (by rw [Nat.div_lt_iff_lt_mul D24_pos, ← Nat.pow_succ]; exact h)
      omega
theorem dgt_lt (n : Nat) : n < D24 ^ (dgt n).length := by
  have := val_lt D24 (dgt n) (dg_dgt n).mem
  rwa [val_dgt] at this
theorem dgt_top {n : Nat} (h : n ≠ 0) : D24 ^ ((dgt n).length - 1) ≤ n := by
  induction n using Nat.strongRecOn with
  | _ n ih =>
    rw [dgt_pos h, List.length_cons, Nat.add_sub_cancel]
    by_cases h1 : n / D24 = 0
    · rw [h1, dgt_zero]; simp; omega
    · have h2 := ih _ (div_D24_lt h) h1
      have h3 : 0 < (dgt (n / D24)).length := by rw [dgt_pos h1]; simp
      have h4 : D24 ^ (dgt (n / D24)).length = D24 ^ ((dgt (n / D24)).length - 1) * D24 := by rw [← Nat.pow_succ]; congr 1; omega
      rw [h4]
      have h5 : D24 ^ ((dgt (n / D24)).length - 1) * D24 ≤ n / D24 * D24 := Nat.mul_le_mul_right _ h2
      exact Nat.le_trans h5 (Nat.div_mul_le_self _ _)
theorem dgt_inj_len {a b : Nat} (h : a ≤ b) : (dgt a).length ≤ (dgt b).length := dgt_len_le _ _ (Nat.lt_of_le_of_lt h (dgt_lt b))
/-- A list of digits without zeros at its end is that of its value. -/
theorem eq_dgt {l : List Nat} (hd : Dg D24 l) (ht : l.length = 0 ∨ gt l (l.length - 1) ≠ 0) : l = dgt (val D24 l) := by
  have h1 := val_lt D24 l hd.mem
  have h2 := dgt_len_le _ _ h1
  have hlen : l.length = (dgt (val D24 l)).length := by
    rcases ht with h | h
    · omega
    · rcases Nat.eq_zero_or_pos l.length with h0 | h0
      · omega
      · have h3 : D24 ^ (l.length - 1) ≤ val D24 l := by
          rw [← vs_val]
          have e : vs D24 l 0 l.length = vs D24 l 0 (l.length - 1) + D24 ^ (l.length - 1) * gt l (l.length - 1) := by
            conv => lhs; rw [show l.length = (l.length - 1) + 1 from by omega]
            simp only [vs, Nat.zero_add]
          rw [e]
          have : D24 ^ (l.length - 1) * 1 ≤ D24 ^ (l.length - 1) * gt l (l.length - 1) := Nat.mul_le_mul_left _ (by omega)
          omega
        have h4 := dgt_lt (val D24 l)
        have h5 := Nat.lt_of_le_of_lt h3 h4
        have h6 : l.length - 1 < (dgt (val D24 l)).length := (Nat.pow_lt_pow_iff_right (by decide)).1 h5
        omega
  refine gt_ext hlen (fun i hi => ?_)
  rw [gt_dgt, ← vs_val]
  have hsplit := vs_split D24 l 0 i (l.length - i)
  rw [show i + (l.length - i) = l.length from by omega] at hsplit
  rw [hsplit, Nat.add_mul_div_left _ _ (Nat.pow_pos D24_pos), Nat.div_eq_of_lt (vs_lt hd), Nat.zero_add, Nat.zero_add]
  rw [show l.length - i = 1 + (l.length - i - 1) from by omega, vs_split]
  simp only [vs, Nat.pow_zero, Nat.one_mul, Nat.add_zero, Nat.zero_add, Nat.pow_one]
  rw [Nat.add_mul_mod_self_left, Nat.mod_eq_of_lt (hd i)]
theorem dgt_take_zeros {l : List Nat} {m : Nat} (hd : Dg D24 l) (hm : m ≤ l.length) (hz : ∀ i, m ≤ i → i < l.length → gt l i = 0) (ht : m = 0 ∨ gt l (m - 1) ≠ 0) : l.take m = dgt (val D24 l) := by
  have hl : (l.take m).length = m := by simp; omega
  have hdt : Dg D24 (l.take m) := fun i => by
    by_cases h : i < m
    · rw [gt_take h]; exact hd i
    · rw [gt_of_ge (by omega)]; exact D24_pos
  have hv : val D24 (l.take m) = val D24 l := by
    rw [← vs_take l m hm, ← vs_val l]
    have hsplit := vs_split D24 l 0 m (l.length - m)
    rw [show m + (l.length - m) = l.length from by omega] at hsplit
    rw [hsplit, vs_zero (n := l.length - m) (fun i hi => by rw [Nat.zero_add]; exact hz _ (by omega) (by omega))]; simp
  rw [← hv]
  refine eq_dgt hdt ?_
  rw [hl]
  rcases ht with h | h
  · exact .inl h
  · rcases Nat.eq_zero_or_pos m with h0 | h0
    · exact .inl h0
    · exact .inr (by rw [gt_take (by omega)]; exact h)
/-- How many digits as many bytes have. -/
theorem D24_pow (j : Nat) : D24 ^ j = 256 ^ (3 * j) := by rw [Nat.pow_mul]; congr 1
theorem eq_dgt_ge {l : List Nat} (hd : Dg D24 l) (h : l.length = 0 ∨ D24 ^ (l.length - 1) ≤ val D24 l) : l = dgt (val D24 l) := by
  refine eq_dgt hd ?_
  rcases h with h | h
  · exact .inl h
  · rcases Nat.eq_zero_or_pos l.length with h0 | h0
    · exact .inl h0
    · refine .inr fun e => ?_
      have e1 : val D24 l = vs D24 l 0 (l.length - 1) + D24 ^ (l.length - 1) * gt l (l.length - 1) := by
        rw [← vs_val]
        conv => lhs; rw [show l.length = (l.length - 1) + 1 from by omega]
        simp only [vs, Nat.zero_add]
      rw [e, Nat.mul_zero, Nat.add_zero] at e1
      have := vs_lt (b := D24) (xs := l) (off := 0) (n := l.length - 1) hd
      omega
theorem dg_snoc {l : List Nat} {d : Nat} (hd : Dg D24 l) (h : d < D24) : Dg D24 (l ++ [d]) := by
  refine Dg.of_mem D24_pos fun x hx => ?_
  rcases List.mem_append.1 hx with h1 | h1
  · exact hd.mem x h1
  · rw [List.mem_singleton.1 h1]; exact h
theorem dg_nil : Dg D24 [] := fun i => by simp [gt, D24_pos]
/-- The value of the digits from a place on. -/
theorem val_drop {l : List Nat} {k : Nat} (h : k < l.length) : val D24 (l.drop k) = gt l k + D24 * val D24 (l.drop (k + 1)) := by
  rw [List.drop_eq_getElem_cons h, val_cons, ← gt_of_lt h]
/-- Three bytes more. -/
theorem num_part (l : List UInt8) (s e : Nat) (h : s ≤ e) (he : e ≤ l.length) : num (l.drop s) = num ((l.take e).drop s) * 256 ^ (l.length - e) + num (l.drop e) := by
  have h1 : l.drop s = (l.take e).drop s ++ l.drop e := by
    conv => lhs; rw [← List.take_append_drop e l]
    rw [List.drop_append_of_le_length (by rw [List.length_take]; omega)]
  rw [h1, num_append, List.length_drop]
theorem num_part_lt (l : List UInt8) (s e : Nat) (h : e ≤ s + 3) : num ((l.take e).drop s) < D24 := by
  have h1 := num_lt ((l.take e).drop s)
  have h2 : ((l.take e).drop s).length ≤ 3 := by simp; omega
  have h3 := Nat.pow_le_pow_right (n := 256) (by decide) h2
  exact Nat.lt_of_lt_of_le h1 h3
end Mth
end Go.Proofs.YtoadjhmehgkeaaaDoor
namespace Go.Proofs.YtoadjhmehgkeaaaDoor
open Go.RowKit Mth

/-- A list that the call gathers since the world w0. -/
structure Acc (k : IntKind) (e : TypeId) (w0 w : World) (v : Value) (l : List Nat) : Prop where
  own : ∃ zs, Own k e w v l.length zs ∧ zs.take l.length = l
  fresh : v.ownBlock = none ∨ ∃ g, v.ownBlock = some g ∧ w0.heap.size ≤ g
  gr : w0.grownBy w none
theorem Acc.nil (k : IntKind) (e : TypeId) (w : World) : Acc k e w w (.slice none 0 0) [] := ⟨⟨[], .nil _ _ _, rfl⟩, .inl rfl, World.grownBy.refl _ _⟩
theorem Acc.kept {k : IntKind} {e : TypeId} {w0 w w' : World} {v : Value} {l : List Nat} (h : Acc k e w0 w v l) (hg : w.grownBy w' none) : Acc k e w0 w' v l := by
  obtain ⟨zs, ho, ht⟩ := h.own
  refine ⟨⟨zs, ho.kept hg ?_, ht⟩, h.fresh, gr_then h.gr hg⟩
  cases v.ownBlock with
  | none => exact .inl rfl
  | some g => exact .inr (by simp)

theorem run_acc {P : Program} {w0 w : World} (t ty : TypeId) (k : IntKind) (e : TypeId) (i : TypeInfo) (bytes : Nat) (ht : P.underlying t = some (.slice e)) (hi : P.info? e = some i) (hz : i.zero = some (.int k 0)) (hsize : i.size = 1) (hby : i.bytes = bytes)
    (v : Value) (l xs : List Nat) (hacc : Acc k e w0 w v l) (hm0 : 0 < xs.length) (h63 : l.length + xs.length ≤ maxLen) (hbytes : (l.length + xs.length) * bytes ≤ 140737488355328) :
    ∃ v' w', (Builtin.append_ #[t, t] ty #[v, .slice (some ⟨w.heap.size, 0, none⟩) xs.length xs.length]).run P (w.alloc (.cells (cellsOf k xs).toArray e)) = .ok v' w' ∧ Acc k e w0 w' v' (l ++ xs) := by
  obtain ⟨zs, hown, htake⟩ := hacc.own
  have hb : Blk k e (w.alloc (.cells (cellsOf k xs).toArray e)) w.heap.size xs := by unfold Blk; rw [heap_alloc_new]
  have hown' := hown.kept (gr_alloc w (.cells (cellsOf k xs).toArray e) none) (by cases v.ownBlock with | none => exact .inl rfl | some g => exact .inr (by simp))
  obtain ⟨v', w', us, hrun, ho', hg, happ, hblk⟩ := run_append_blk (P := P) (w := w.alloc (.cells (cellsOf k xs).toArray e)) k e t ty i bytes ht hi hz hsize hby v l.length zs hown' w.heap.size 0 xs.length xs.length xs (fun j hj => hb.cell (by omega)) (by omega) hm0 h63 hbytes
  refine ⟨v', w', hrun, ⟨us, by rw [List.length_append]; exact ho', ?_⟩, ?_, ?_⟩
  · have hlu : l.length + xs.length ≤ us.length := by
      rcases ho' with ⟨_, h0, _⟩ | ⟨_, _, _, h1, _⟩
      · omega
      · exact h1
    have hlz : l.length ≤ zs.length := by
      have := congrArg List.length htake
      simp at this; omega
    apply gt_ext
    · simp; omega
    · intro j hj
      simp at hj
      rw [gt_take (by simp; omega)]
      by_cases h1 : j < l.length
      · rw [gt_append_left h1, happ.old j h1]
        rw [← gt_take (xs := zs) h1, htake]
      · rw [gt_append_right (by omega)]
        have := happ.new (j - l.length) (by omega)
        rw [Nat.zero_add, show l.length + (j - l.length) = j from by omega] at this
        exact this
  · rcases hblk with e1 | ⟨g, e1, e2⟩
    · rw [e1]; exact hacc.fresh
    · refine .inr ⟨g, e1, ?_⟩
      have h1 := hacc.gr.size
      simp at e2; omega
  · refine gr_trans (gr_then hacc.gr (gr_alloc w _ none)) hg (.inl rfl) ?_
    rcases hacc.fresh with e1 | ⟨g, e1, e2⟩
    · rw [e1]; exact .inl rfl
    · exact .inr (.inr fun j e3 => by rw [e1] at e3; cases e3; exact e2)

theorem wpList_acc {P : Program} {w0 w : World} {ops : Array Oper} {rest : List Oper} {o : Oper} {a : Act} {Q : Exit → Act → World → Prop} (hgd : o.guard = none) (s x : Operand) (t : TypeId)
    (ho : o.op = .call { callee := .builtin .append, args := #[s, x], argTypes := #[t, t] })
    (k : IntKind) (e : TypeId) (i : TypeInfo) (bytes : Nat) (ht : P.underlying t = some (.slice e)) (hi : P.info? e = some i) (hz : i.zero = some (.int k 0)) (hsize : i.size = 1) (hby : i.bytes = bytes)
    (v : Value) (l xs : List Nat) (hacc : Acc k e w0 w v l) (hs : a.eval s = v) (hx : a.eval x = .slice (some ⟨w.heap.size, 0, none⟩) xs.length xs.length) (hm0 : 0 < xs.length)
    (h63 : l.length + xs.length ≤ maxLen) (hbytes : (l.length + xs.length) * bytes ≤ 140737488355328)
    (h : ∀ v' w', Acc k e w0 w' v' (l ++ xs) → wpList P ops Q rest (a.put o.dst v') w') : wpList P ops Q (o :: rest) a (w.alloc (.cells (cellsOf k xs).toArray e)) := by
  refine wpList_plain hgd fun K hK => ?_
  obtain ⟨v', w', hr, h2⟩ := run_acc (P := P) t o.type k e i bytes ht hi hz hsize hby v l xs hacc hm0 h63 hbytes
  unfold Oper.wp execOp
  simp only [ho, resolve, invoke, builtin, Sem.run_bind, Sem.run_pure, Result.andThen_ok, List.map_toArray, List.map_cons, List.map_nil, hs, hx, hr]
  exact hK _ _ (h v' w' h2)

/-- The elements of such a list. -/
theorem Acc.some_ {k : IntKind} {e : TypeId} {w0 w : World} {v : Value} {l : List Nat} (h : Acc k e w0 w v l) (h0 : 0 < l.length) : ∃ g c, v = .slice (some ⟨g, 0, none⟩) l.length c ∧ w0.heap.size ≤ g ∧ l.length ≤ c ∧ c ≤ maxLen ∧ ∀ j, j < l.length → w.cell? ⟨g, 0 + j, none⟩ = some (.int k ((gt l j : Nat) : Int)) := by
  obtain ⟨zs, hown, ht⟩ := h.own
  rcases hown with ⟨_, h1, _⟩ | ⟨g, rfl, hb, h1, h2⟩
  · omega
  · refine ⟨g, _, rfl, ?_, h1, h2, fun j hj => ?_⟩
    · rcases h.fresh with e | ⟨g', e, e'⟩
      · cases e
      · simp only [Value.ownBlock, Option.some.injEq] at e; omega
    · rw [Nat.zero_add, hb.cell (by omega), ← ht, gt_take hj]
theorem Acc.none_ {k : IntKind} {e : TypeId} {w0 w : World} {v : Value} (h : Acc k e w0 w v []) : (∃ l c, v = .slice none l c) ∨ ∃ g c, v = .slice (some ⟨g, 0, none⟩) 0 c := by
  obtain ⟨zs, hown, ht⟩ := h.own
  rcases hown with ⟨rfl, h1, _⟩ | ⟨g, rfl, hb, h1, h2⟩
  · exact .inl ⟨_, _, rfl⟩
  · exact .inr ⟨g, _, rfl⟩
/-- Such a list of bytes as a string. -/
theorem Acc.str {P : Program} {w0 w : World} {v : Value} {l : List Nat} {e : TypeId} (h : Acc .u8 e w0 w v l) (src dst : TypeId) (hs : P.underlying src = some (.slice e)) (he : P.underlying e = some (.int .u8)) (hd : P.underlying dst = some .string) :
    Sem.run P (convert src dst v) w = .ok (.string ⟨(u8s l).toArray⟩) w := by
  have hn : strOfNums (l.map fun v : Nat => (v : Int)) = ⟨(u8s l).toArray⟩ := by simp [strOfNums, u8s]
  rcases Nat.eq_zero_or_pos l.length with h0 | h0
  · obtain rfl := List.eq_nil_of_length_eq_zero h0
    rcases h.none_ with ⟨a, c, rfl⟩ | ⟨g, c, rfl⟩
    · rw [run_convert_bytes_nil w src e hs he a c dst hd]; rfl
    · rw [run_convert_bytes_arg w src e hs he g 0 0 c [] rfl (fun i hi => by omega) dst hd]; rfl
  · obtain ⟨g, c, rfl, _, _, _, hc⟩ := h.some_ h0
    rw [run_convert_bytes_arg w src e hs he g 0 l.length c (l.map fun v : Nat => (v : Int)) (by simp) (fun j hj => by rw [hc j hj]; simp [gt, List.getD, hj]) dst hd, hn]

/-- A slice that holds just the numbers l, at the head of a block. -/
structure Ls (w : World) (a : Option Addr) (m c : Nat) (l : List Nat) : Prop where
  len : m = l.length
  mem : 0 < m → ∃ g zs, a = some ⟨g, 0, none⟩ ∧ Blk .i64 3 w g zs ∧ zs.length = c ∧ m ≤ c ∧ c ≤ maxLen ∧ zs.take m = l
/-- A slice with the digits of N to the base 2 ^ 24. -/
def RN (w : World) (v : Value) (N : Nat) : Prop := ∃ a m c, v = .slice a m c ∧ Ls w a m c (dgt N)
theorem Ls.kept {w w' : World} {a : Option Addr} {m c : Nat} {l : List Nat} (h : Ls w a m c l) (hg : w.grownBy w' none) : Ls w' a m c l := by
  refine ⟨h.len, fun h0 => ?_⟩
  obtain ⟨g, zs, h1, h2, h3⟩ := h.mem h0
  exact ⟨g, zs, h1, h2.kept hg (by simp), h3⟩
theorem RN.kept {w w' : World} {v : Value} {N : Nat} (h : RN w v N) (hg : w.grownBy w' none) : RN w' v N := by
  obtain ⟨a, m, c, rfl, h⟩ := h
  exact ⟨a, m, c, rfl, h.kept hg⟩
theorem Ls.at_ {w : World} {a : Option Addr} {m c i : Nat} {l : List Nat} (h : Ls w a m c l) (hi : i < m) : ∃ g, a = some ⟨g, 0, none⟩ ∧ m ≤ c ∧ c ≤ maxLen ∧ w.cell? ⟨g, 0 + i, none⟩ = some (.int .i64 ((gt l i : Nat) : Int)) := by
  obtain ⟨g, zs, h1, h2, h3, h4, h5, h6⟩ := h.mem (by omega)
  refine ⟨g, h1, h4, h5, ?_⟩
  rw [Nat.zero_add, h2.cell (by omega), ← h6, gt_take hi]
theorem Acc.ls {w0 w : World} {v : Value} {l : List Nat} (h : Acc .i64 3 w0 w v l) : ∃ a m c, v = .slice a m c ∧ Ls w a m c l := by
  obtain ⟨zs, hown, ht⟩ := h.own
  rcases hown with ⟨rfl, h0, _⟩ | ⟨g, rfl, hb, h1, h2⟩
  · exact ⟨none, 0, 0, rfl, h0.symm, fun h => by omega⟩
  · exact ⟨_, _, _, rfl, rfl, fun _ => ⟨g, zs, rfl, hb, rfl, h1, h2, ht⟩⟩
theorem Acc.rn {w0 w : World} {v : Value} {l : List Nat} {N : Nat} (h : Acc .i64 3 w0 w v l) (hl : l = dgt N) : RN w v N := by
  obtain ⟨a, m, c, h1, h2⟩ := h.ls
  exact ⟨a, m, c, h1, hl ▸ h2⟩
end Go.Proofs.YtoadjhmehgkeaaaDoor
namespace Go.Proofs.YtoadjhmehgkeaaaDoor
open Go.RowKit Mth

theorem rright_nil (s : ByteArray) (w : World) (h : s.size = 0) :
    Calls Tryd.prog 19 #[.string s] w fun e w' => e = .returned (.bool (rtB s.data.toList)) ∧ w = w' := by
  have hr : rtB s.data.toList = true := by rw [nil_of_size h]; rfl
  have HR := Lib.hid hr
  clear hr
  have hz : s = ByteArray.empty := by
    have := nil_of_size h
    cases s with | mk d => cases d with | mk l => simp at this; subst this; rfl
  subst hz
  go_enter Tryd.func19, Tryd.ntmps19
  go_wp2
  go_ret
  exact ⟨by rw [HR.out]; rfl, rfl⟩
theorem rright_cons (s : ByteArray) (w : World) (h : 0 < s.size) :
    Calls Tryd.prog 19 #[.string s] w fun e w' => e = .returned (.bool (rtB s.data.toList)) ∧ w = w' := by
  have hr : rtB s.data.toList = ((s[0].toNat : Int) != 0) := by
    rw [cons_of_size h]
    simp only [rtB]
    rw [Bool.eq_iff_iff, bne_iff_ne, bne_iff_ne]
    constructor
    · intro h1 h2; exact h1 (UInt8.toNat_inj.1 (by simpa using h2))
    · intro h1 h2; rw [h2] at h1; simp at h1
  have HR := Lib.hid hr
  have hne : ((s.size : Int) == 0) = false := by simp; intro e; rw [e] at h; simp at h
  clear hr
  go_enter Tryd.func19, Tryd.ntmps19
  go_wp2
  go_ret
  exact ⟨by rw [HR.out]; rfl, rfl⟩
theorem rright_any (s : ByteArray) (w : World) :
    Calls Tryd.prog 19 #[.string s] w fun e w' => e = .returned (.bool (rtB s.data.toList)) ∧ w = w' := by
  rcases Nat.eq_zero_or_pos s.size with h | h
  · exact rright_nil s w h
  · exact rright_cons s w h

theorem num_take_le (l : List UInt8) (k : Nat) : num (l.take k) ≤ num l := by
  have h := num_append (l.take k) (l.drop k)
  rw [List.take_append_drop] at h
  rw [h]
  exact Nat.le_trans (Nat.le_mul_of_pos_right _ (Nat.pow_pos (by decide))) (Nat.le_add_right _ _)
theorem num_take_succ (t : ByteArray) {k : Nat} (h : k < t.size) : num (t.data.toList.take (k + 1)) = 256 * num (t.data.toList.take k) + t[k].toNat := by
  rw [List.take_succ_eq_append_getElem (by rw [len_toList]; exact h), num_snoc]; rfl
theorem canon_size_le {t : ByteArray} (hr : Rt t.data.toList) {k : Nat} (h : num t.data.toList < 256 ^ k) : t.size ≤ k := by
  rcases Nat.lt_or_ge k t.size with h1 | h1
  · have hne : t.data.toList ≠ [] := by intro e; have := len_toList t; rw [e] at this; simp at this; omega
    have h2 := num_ge hr hne
    rw [len_toList] at h2
    have h3 : 256 ^ k ≤ 256 ^ (t.size - 1) := Nat.pow_le_pow_right (by decide) (by omega)
    omega
  · exact h1
theorem canon_size_gt {t : ByteArray} {k : Nat} (h : 256 ^ k ≤ num t.data.toList) : k < t.size := by
  have h1 := num_lt t.data.toList
  rw [len_toList] at h1
  exact (Nat.pow_lt_pow_iff_right (by decide)).1 (Nat.lt_of_le_of_lt h h1)
theorem canon_first {t : ByteArray} (h8 : t.size = 8) : (t[0]'(by omega)).toNat * 256 ^ 7 ≤ num t.data.toList ∧ num t.data.toList < ((t[0]'(by omega)).toNat + 1) * 256 ^ 7 := by
  have hlen : (t.data.toList.drop 1).length = 7 := by rw [List.length_drop, len_toList, h8]
  have hnl := num_lt (t.data.toList.drop 1)
  rw [hlen] at hnl
  have hn : num t.data.toList = t[0].toNat * 256 ^ 7 + num (t.data.toList.drop 1) := by
    conv => lhs; rw [cons_of_size (show 0 < t.size by omega)]
    rw [num_cons, hlen]
  rw [Nat.add_mul]
  omega

theorem rint_yes (s : ByteArray) (w : World) (hs : s.size ≤ 1000000000000) (h : num s.data.toList ≤ 9223372036854775807) :
    Calls Tryd.prog 15 #[.string s] w fun e w' => e = .returned (.tuple #[.int .i64 ((num s.data.toList : Nat) : Int), .bool true]) ∧ w = w' := by
  have hrt : Rt (bytesOf s).data.toList := rt_canon _
  have hnum : num (bytesOf s).data.toList = num s.data.toList := num_canon _
  rw [← hnum] at h ⊢
  generalize ht : (bytesOf s) = t at hrt hnum h ⊢
  have HT := Lib.hid ht
  have h8 : t.size ≤ 8 := canon_size_le hrt (by omega)
  have hfirst : (t.size : Int) = 8 → ∃ h : 0 < t.size, (t[0].toNat : Int) ≤ 127 := fun e => by
    have h1 := (canon_first (t := t) (by omega)).1
    exact ⟨by omega, by omega⟩
  have HN := Lib.hid h
  clear ht hnum h hrt
  go_enter Tryd.func15, Tryd.ntmps15
  go_wp2_with fail
  refine (canon_any s _ hs).mono ?_
  rintro e w' ⟨rfl, rfl⟩
  rw [show (⟨(canon s.data.toList).toArray⟩ : ByteArray) = t from HT.out]
  have hlen8 : ¬ (8 : Int) < (t.size : Int) := by omega
  rcases Nat.lt_or_ge t.size 8 with h7 | h7
  · clear hfirst
    go_wp2
    go_loop [4, 5] (fun u v => ∃ (k n : Nat), k ≤ t.size ∧ v = .int .i64 k ∧ u = .int .i64 n ∧ Hid (n = num (t.data.toList.take k))) (fun _ v => t.size - (intOf v).toNat)
    case atStart => exact ⟨0, 0, Nat.zero_le _, rfl, rfl, rfl⟩
    case round =>
      obtain ⟨k, n, hk, rfl, rfl, HNK⟩ := hrel
      by_cases hlt : k < t.size
      · have hsucc := num_take_succ t hlt
        rw [← HNK.out] at hsucc
        have hle2 := num_take_le t.data.toList (k + 1)
        rw [hsucc] at hle2
        have hb := HN.out
        have HS := Lib.hid hsucc
        have hbound : 256 * n + t[k].toNat ≤ 9223372036854775807 := by omega
        clear hsucc hle2 hb
        go_wp2
        refine ⟨⟨k + 1, 256 * n + t[k].toNat, by omega, by go_num, ?_, HS.out.symm⟩, by simp [intOf]; omega⟩
        go_num
      · obtain rfl : k = t.size := by omega
        have hfin : n = num t.data.toList := by rw [HNK.out, List.take_of_length_le (by rw [len_toList]; omega)]
        have HF := Lib.hid hfin
        clear hfin
        go_wp2
        go_ret2
        exact ⟨by rw [← HF.out]; rfl, rfl⟩
  · obtain ⟨hpos, hle⟩ := hfirst (by omega)
    clear hfirst
    go_wp2
    go_loop [4, 5] (fun u v => ∃ (k n : Nat), k ≤ t.size ∧ v = .int .i64 k ∧ u = .int .i64 n ∧ Hid (n = num (t.data.toList.take k))) (fun _ v => t.size - (intOf v).toNat)
    case atStart => exact ⟨0, 0, Nat.zero_le _, rfl, rfl, rfl⟩
    case round =>
      obtain ⟨k, n, hk, rfl, rfl, HNK⟩ := hrel
      by_cases hlt : k < t.size
      · have hsucc := num_take_succ t hlt
        rw [← HNK.out] at hsucc
        have hle2 := num_take_le t.data.toList (k + 1)
        rw [hsucc] at hle2
        have hb := HN.out
        have HS := Lib.hid hsucc
        have hbound : 256 * n + t[k].toNat ≤ 9223372036854775807 := by omega
        clear hsucc hle2 hb
        go_wp2
        refine ⟨⟨k + 1, 256 * n + t[k].toNat, by omega, by go_num, ?_, HS.out.symm⟩, by simp [intOf]; omega⟩
        go_num
      · obtain rfl : k = t.size := by omega
        have hfin : n = num t.data.toList := by rw [HNK.out, List.take_of_length_le (by rw [len_toList]; omega)]
        have HF := Lib.hid hfin
        clear hfin
        go_wp2
        go_ret2
        exact ⟨by rw [← HF.out]; rfl, rfl⟩
theorem rint_no (s : ByteArray) (w : World) (hs : s.size ≤ 1000000000000) (h : 9223372036854775807 < num s.data.toList) :
    Calls Tryd.prog 15 #[.string s] w fun e w' => e = .returned (.tuple #[.int .i64 0, .bool false]) ∧ w = w' := by
  have hrt : Rt (bytesOf s).data.toList := rt_canon _
  have hnum : num (bytesOf s).data.toList = num s.data.toList := num_canon _
  rw [← hnum] at h
  generalize ht : (bytesOf s) = t at hrt hnum h
  have HT := Lib.hid ht
  have h8 : 7 < t.size := canon_size_gt (by omega)
  have hfirst : t.size = 8 → ∃ h : 0 < t.size, (127 : Int) < (t[0].toNat : Int) := fun e => by
    have h1 := (canon_first (t := t) e).2
    exact ⟨by omega, by omega⟩
  clear ht hnum h hrt
  go_enter Tryd.func15, Tryd.ntmps15
  go_wp2_with fail
  refine (canon_any s _ hs).mono ?_
  rintro e w' ⟨rfl, rfl⟩
  rw [show (⟨(canon s.data.toList).toArray⟩ : ByteArray) = t from HT.out]
  rcases Nat.lt_or_ge 8 t.size with h9 | h9
  · clear hfirst
    go_wp2
    go_ret2
    exact ⟨rfl, rfl⟩
  · obtain ⟨hpos, hle⟩ := hfirst (by omega)
    clear hfirst
    go_wp2
    go_ret2
    exact ⟨rfl, rfl⟩
theorem small_yes (s : ByteArray) (k : Nat) (hk : k ≤ 7) (w : World) (hs : s.size ≤ 1000000000000) (h : num s.data.toList < 256 ^ k) :
    Calls Tryd.prog 32 #[.string s, .int .i64 (k : Int)] w fun e w' => e = .returned (.tuple #[.int .i64 ((num s.data.toList : Nat) : Int), .bool true]) ∧ w = w' := by
  have hrt : Rt (bytesOf s).data.toList := rt_canon _
  have hnum : num (bytesOf s).data.toList = num s.data.toList := num_canon _
  have hsz : (bytesOf s).size ≤ k := canon_size_le hrt (by omega)
  have hle : num s.data.toList ≤ 9223372036854775807 := by
    have : 256 ^ k ≤ 256 ^ 7 := Nat.pow_le_pow_right (by decide) hk
    omega
  have HLE := Lib.hid hle
  generalize ht : (bytesOf s) = t at hsz
  have HT := Lib.hid ht
  clear ht hnum h hrt hle
  go_enter Tryd.func32, Tryd.ntmps32
  go_wp2_with fail
  refine (canon_any s _ hs).mono ?_
  rintro e w' ⟨rfl, rfl⟩
  rw [show (⟨(canon s.data.toList).toArray⟩ : ByteArray) = t from HT.out]
  have hd : ¬ (k : Int) < (t.size : Int) := by omega
  go_wp2_with fail
  refine (rint_yes s _ hs HLE.out).mono ?_
  rintro e w' ⟨rfl, rfl⟩
  generalize hN : num s.data.toList = N
  have HNN := Lib.hid hN
  clear hN
  go_wp2
  go_ret2
  exact ⟨by rw [HNN.out]; rfl, rfl⟩
theorem small_no (s : ByteArray) (k : Nat) (w : World) (hs : s.size ≤ 1000000000000) (h : 256 ^ k ≤ num s.data.toList) :
    Calls Tryd.prog 32 #[.string s, .int .i64 (k : Int)] w fun e w' => e = .returned (.tuple #[.int .i64 0, .bool false]) ∧ w = w' := by
  have hnum : num (bytesOf s).data.toList = num s.data.toList := num_canon _
  have hsz : k < (bytesOf s).size := canon_size_gt (by omega)
  generalize ht : (bytesOf s) = t at hsz
  have HT := Lib.hid ht
  clear ht hnum h
  go_enter Tryd.func32, Tryd.ntmps32
  go_wp2_with fail
  refine (canon_any s _ hs).mono ?_
  rintro e w' ⟨rfl, rfl⟩
  rw [show (⟨(canon s.data.toList).toArray⟩ : ByteArray) = t from HT.out]
  have hd : (k : Int) < (t.size : Int) := by omega
  go_wp2
  go_ret2
  exact ⟨rfl, rfl⟩

set_option maxRecDepth 100000 in
theorem rof_le (n : Int) (w : World) (h : n ≤ 0) :
    Calls Tryd.prog 14 #[.int .i64 n] w fun e w' => e = .returned (.string ⟨#[]⟩) ∧ w = w' := by
  have hcv := run_convert_bytes_nil (P := Tryd.prog) w 22 5 Tryd.underlying22 Tryd.underlying5 0 0 24 Tryd.underlying24
  go_enter Tryd.func14, Tryd.ntmps14
  go_wp2
  go_loop [3, 4] (fun u v => u = .slice none 0 0 ∧ v = .int .i64 56) (fun _ _ => 0)
  case atStart => exact ⟨rfl, rfl⟩
  case round =>
    obtain ⟨rfl, rfl⟩ := hrel
    go_wp2_with fail
    refine (canon_any ByteArray.empty _ (Nat.zero_le _)).mono ?_
    rintro e w' ⟨rfl, rfl⟩
    rw [show (⟨(canon ByteArray.empty.data.toList).toArray⟩ : ByteArray) = ⟨#[]⟩ from rfl]
    go_wp2
    go_ret
    exact ⟨rfl, rfl⟩

/-- The bytes of n, the m last ones left out. -/
theorem of_byte {n m : Nat} : num (u8s [n / 256 ^ m % 256]) = n / 256 ^ m % 256 := by
  simp [u8s, num]
theorem u8s_append (a b : List Nat) : u8s (a ++ b) = u8s a ++ u8s b := by simp [u8s]
theorem of_step {l : List Nat} {n m : Nat} (h : num (u8s l) = n / 256 ^ (m + 1)) : num (u8s (l ++ [n / 256 ^ m % 256])) = n / 256 ^ m := by
  rw [u8s_append, show u8s [n / 256 ^ m % 256] = [UInt8.ofNat (n / 256 ^ m % 256)] from rfl, num_snoc, h, Nat.pow_succ, ← Nat.div_div_eq_div_mul]
  have : (UInt8.ofNat (n / 256 ^ m % 256)).toNat = n / 256 ^ m % 256 := by simp
  rw [this]; omega

set_option maxHeartbeats 2000000 in
set_option maxRecDepth 100000 in
theorem rof_pos (n : Nat) (w : World) (h0 : 0 < n) (h : n ≤ 9223372036854775807) :
    Calls Tryd.prog 14 #[.int .i64 (n : Int)] w fun e w' => e = .returned (.string ⟨(enc n).toArray⟩) ∧ w.grownBy w' none := by
  obtain ⟨i0, hi, hz0, hz1, hz2⟩ := info_parts infoB
  have hn8 : n / 256 ^ 8 = 0 := Nat.div_eq_of_lt (by omega)
  have HB := Lib.hid (show num (u8s []) = n / 256 ^ 8 from by rw [hn8]; rfl)
  clear hn8
  go_enter Tryd.func14, Tryd.ntmps14
  go_wp2
  go_loopw [3, 4] (fun u v wr => ∃ (m : Nat) (l : List Nat), m ≤ 8 ∧ v = .int .i64 (8 * (m : Int) - 8) ∧ Acc .u8 5 w wr u l ∧ l.length + m = 8 ∧ Hid (num (u8s l) = n / 256 ^ m)) (fun _ v _ => (intOf v + 8).toNat)
  case atStart => exact ⟨8, [], Nat.le_refl _, rfl, .nil _ _ _, rfl, HB⟩
  case round =>
    obtain ⟨m, l, hm, rfl, hacc, hlen, HN⟩ := hrel
    rcases m with _ | m
    · have HA := Lib.hid hacc
      have hcv := hacc.str (P := Tryd.prog) 22 24 Tryd.underlying22 Tryd.underlying5 Tryd.underlying24
      have hl8 : l.length = 8 := by omega
      have hsz : (⟨(u8s l).toArray⟩ : ByteArray).size ≤ 1000000000000 := by
        have : (⟨(u8s l).toArray⟩ : ByteArray).size = l.length := by show (u8s l).toArray.size = _; simp [u8s]
        omega
      generalize hstr : (⟨(u8s l).toArray⟩ : ByteArray) = str at hcv hsz
      have HSTR := Lib.hid hstr
      clear hstr hacc hi hz0 hz1 hz2 hl8
      go_wp2_with fail
      refine (canon_any str _ hsz).mono ?_
      rintro e w' ⟨rfl, rfl⟩
      have hfin : (⟨(canon str.data.toList).toArray⟩ : ByteArray) = ⟨(enc n).toArray⟩ := by
        rw [← HSTR.out, ← enc_num_canon]
        have h1 := HN.out
        rw [Nat.pow_zero, Nat.div_one] at h1
        rw [h1]
      rw [hfin]
      go_wp2
      go_ret
      exact ⟨rfl, HA.out.gr⟩
    · rw [show 8 * ((m + 1 : Nat) : Int) - 8 = 8 * (m : Int) from by omega]
      have hbv : ((n : Int) / (2 : Int) ^ (8 * m) % 256) = ((n / 256 ^ m % 256 : Nat) : Int) := byte_word n m
      have HBV := Lib.hid hbv
      obtain ⟨d, hd⟩ : ∃ d, d = n / 256 ^ m % 256 := ⟨_, rfl⟩
      have HNX := Lib.hid (of_step HN.out)
      rw [← hd] at HNX
      have HD := Lib.hid hd
      have hnpos : (0 : Int) < (n : Int) := by omega
      have hm8 : (0 : Int) ≤ 8 * (m : Int) := by omega
      clear hd hbv
      go_wp2_with (at_builtin; rw [HBV.out, ← HD.out]; refine wpList_acc rfl (.tmp 13) (.tmp 18) 22 rfl .u8 5 i0 1 Tryd.underlying22 hi hz0 hz1 hz2 _ l [d] hacc rfl rfl (by simp) ?_ ?_ ?_)
      case refine_1 => unfold maxLen; simp; omega
      case refine_2 => simp; omega
      intro v' w' hacc'
      clear hacc hi hz0 hz1 hz2
      go_wp2
      refine ⟨⟨m, l ++ [d], by omega, by rfl, hacc', by simp; omega, HNX⟩, ?_⟩
      simp [intOf]; omega
theorem rof_any (n : Nat) (w : World) (h : n ≤ 9223372036854775807) :
    Calls Tryd.prog 14 #[.int .i64 (n : Int)] w fun e w' => e = .returned (.string ⟨(enc n).toArray⟩) ∧ w.grownBy w' none := by
  rcases Nat.eq_zero_or_pos n with h0 | h0
  · subst h0
    refine (rof_le 0 w (Int.le_refl _)).mono ?_
    rintro e w' ⟨rfl, rfl⟩
    exact ⟨by rw [enc_zero], World.grownBy.refl _ _⟩
  · exact rof_pos n w h0 h
end Go.Proofs.YtoadjhmehgkeaaaDoor
namespace Go.Proofs.YtoadjhmehgkeaaaDoor
open Go.RowKit Mth

theorem bitsN_half {d : Nat} (h : 0 < d) : bitsN d = bitsN (d / 2) + 1 := by
  rcases Nat.lt_or_ge d 2 with h1 | h1
  · obtain rfl : d = 1 := by omega
    decide
  · unfold bitsN
    rw [if_neg (by omega), if_neg (by omega), Nat.log2_def d, if_pos h1]
theorem bitsN_bitLen {x : Nat} (h : x < W64) (h0 : x ≠ 0) : bitsN x = Lib.bitLen x := by
  obtain ⟨h1, h2, h3, h4⟩ := bitLen_bounds h h0
  generalize Lib.bitLen x = B at *
  obtain ⟨k, rfl⟩ : ∃ k, B = k + 1 := ⟨B - 1, by omega⟩
  exact bitsN_of h3 h4

set_option maxRecDepth 100000 in
theorem rbits_any (s : ByteArray) (w : World) (hs : s.size ≤ 1000000000000) :
    Calls Tryd.prog 17 #[.string s] w fun e w' => e = .returned (.int .i64 ((bitsN (num s.data.toList) : Nat) : Int)) ∧ w = w' := by
  have hls : (bytesOf s).size ≤ s.size := canon_length_le _
  have hrt : Rt (bytesOf s).data.toList := rt_canon _
  have hnum : num (bytesOf s).data.toList = num s.data.toList := num_canon _
  rw [← hnum]
  generalize ht : (bytesOf s) = t at hls hrt hnum
  have HT := Lib.hid ht
  clear ht hnum
  rcases Nat.eq_zero_or_pos t.size with h | h
  · have hb : bitsN (num t.data.toList) = 0 := by rw [nil_of_size h]; rfl
    have HB := Lib.hid hb
    have h0 : ((t.size : Int) == 0) = true := by simp [h]
    clear hb
    go_enter Tryd.func17, Tryd.ntmps17
    go_wp2_with fail
    refine (canon_any s _ hs).mono ?_
    rintro e w' ⟨rfl, rfl⟩
    rw [show (⟨(canon s.data.toList).toArray⟩ : ByteArray) = t from HT.out]
    go_wp2
    go_ret
    exact ⟨by rw [HB.out]; rfl, rfl⟩
  · have hd : t[0].toNat ≠ 0 := by
      intro e
      have e0 : t[0] = 0 := UInt8.toNat_inj.1 (by simpa using e)
      rw [cons_of_size h, e0] at hrt; simp [Rt] at hrt
    have hb := bitsN_bytes hrt h
    have hl8 := t[0].toNat_lt
    rw [← bitsN_bitLen (by rw [W64_eq]; omega) hd] at hb
    obtain ⟨G, hG⟩ : ∃ G, G = bitsN (num t.data.toList) := ⟨_, rfl⟩
    rw [← hG] at hb ⊢
    have HB := Lib.hid hb
    have h0 : ((t.size : Int) == 0) = false := by rw [beq_eq_false_iff_ne]; omega
    have h9 : t.size ≤ 1000000000000 := by omega
    clear hb hG hd
    go_enter Tryd.func17, Tryd.ntmps17
    go_wp2_with fail
    refine (canon_any s _ hs).mono ?_
    rintro e w' ⟨rfl, rfl⟩
    rw [show (⟨(canon s.data.toList).toArray⟩ : ByteArray) = t from HT.out]
    go_wp2
    go_loop [3, 4] (fun u v => ∃ (n d : Nat), u = .int .i64 n ∧ v = .int .i64 d ∧ Hid (n + bitsN d = G) ∧ d ≤ 255 ∧ n + d ≤ 8000000000255) (fun _ v => (intOf v).toNat)
    case atStart => exact ⟨8 * (t.size - 1), t[0].toNat, by congr 1; omega, rfl, HB.out.symm, by omega, by omega⟩
    case round =>
      obtain ⟨n, d, rfl, rfl, HI, hd, hn⟩ := hrel
      by_cases hpos : 0 < d
      · have hh := bitsN_half hpos
        have HN := Lib.hid (show n + 1 + bitsN (d / 2) = G by have := HI.out; omega)
        have HQ := Lib.hid (show ((d : Int) / 2) = ((d / 2 : Nat) : Int) by omega)
        clear hh
        go_wp2
        refine ⟨⟨n + 1, d / 2, by go_num, by rw [HQ.out], HN, by omega, by omega⟩, ?_⟩
        rw [HQ.out]
        show (d / 2) < d
        omega
      · obtain rfl : d = 0 := by omega
        have hf := HI.out
        rw [show bitsN 0 = 0 from rfl, Nat.add_zero] at hf
        have HF := Lib.hid hf
        clear hf
        go_wp2
        go_ret
        exact ⟨by rw [← HF.out]; rfl, rfl⟩
end Go.Proofs.YtoadjhmehgkeaaaDoor
namespace Go.Proofs.YtoadjhmehgkeaaaDoor
namespace Mth

/-- The first words of the two numbers of which a digit is estimated. -/
structure Est (P U V u u1 u2 v1 v2 : Nat) : Prop where
  hu : ∃ ur, U = ((u * W64 + u1) * W64 + u2) * P + ur ∧ ur < P
  hv : ∃ vr, V = (v1 * W64 + v2) * P + vr ∧ vr < P
  pos : 0 < v1
  lt : U < W64 * V
  lu1 : u1 < W64
  lu2 : u2 < W64
  lv2 : v2 < W64
section
variable {P U V u u1 u2 v1 v2 d r : Nat}
theorem Est.vpos (h : Est P U V u u1 u2 v1 v2) : 0 < V := by
  rcases Nat.eq_zero_or_pos V with e | e
  · have := h.lt; rw [e] at this; omega
  · exact e
theorem Est.v_lt (h : Est P U V u u1 u2 v1 v2) : V < (v1 + 1) * W64 * P := by
  obtain ⟨vr, hv, hr⟩ := h.hv
  have h1 : (v1 * W64 + v2 + 1) * P ≤ ((v1 + 1) * W64) * P := Nat.mul_le_mul_right _ (by rw [Nat.add_mul]; have := h.lv2; omega)
  rw [Nat.add_mul (v1 * W64 + v2) 1] at h1
  omega
theorem Est.u_le (h : Est P U V u u1 u2 v1 v2) : u ≤ v1 := by
  obtain ⟨ur, hu, _⟩ := h.hu
  apply Nat.le_of_lt_succ
  have h1 := h.lt
  have h2 : W64 * V ≤ W64 * ((v1 + 1) * W64 * P) := Nat.mul_le_mul_left _ (Nat.le_of_lt h.v_lt)
  have h3 : u * (W64 * W64 * P) ≤ U := by
    rw [hu, show u * (W64 * W64 * P) = u * W64 * W64 * P from by grind, Nat.add_mul, Nat.add_mul, Nat.add_mul]
    omega
  have h4 : u * (W64 * W64 * P) < (v1 + 1) * (W64 * W64 * P) := by
    rw [show (v1 + 1) * (W64 * W64 * P) = W64 * ((v1 + 1) * W64 * P) from by grind]
    omega
  exact Nat.lt_of_mul_lt_mul_right h4
/-- The estimate d, with what it leaves of the first two words. -/
structure EInv (U V u u1 v1 d r : Nat) : Prop where
  eq : d * v1 + r = u * W64 + u1
  ge : U / V ≤ d
  lt : d < W64
theorem Est.init_lt (h : Est P U V u u1 u2 v1 v2) (hlt : u < v1) : EInv U V u u1 v1 ((u * W64 + u1) / v1) ((u * W64 + u1) % v1) := by
  refine ⟨by rw [Nat.mul_comm]; exact Nat.div_add_mod _ _, ?_, ?_⟩
  · rw [Nat.le_div_iff_mul_le h.pos]
    obtain ⟨ur, hu, hur⟩ := h.hu
    obtain ⟨vr, hv, _⟩ := h.hv
    have h1 : U / V * V ≤ U := Nat.div_mul_le_self _ _
    generalize U / V = q at *
    have h2 : q * v1 * (W64 * P) ≤ q * V := by
      rw [hv, Nat.mul_assoc]
      refine Nat.mul_le_mul_left _ ?_
      rw [Nat.add_mul, Nat.mul_assoc]; omega
    have hP : 0 < P := by omega
    have h3 : U < (u * W64 + u1 + 1) * (W64 * P) := by
      rw [hu]
      have h4 : ((u * W64 + u1) * W64 + u2 + 1) * P ≤ ((u * W64 + u1 + 1) * W64) * P := Nat.mul_le_mul_right _ (by rw [Nat.add_mul (u * W64 + u1) 1]; have := h.lu2; omega)
      rw [Nat.add_mul ((u * W64 + u1) * W64 + u2) 1] at h4
      rw [← Nat.mul_assoc]
      omega
    have h5 : q * v1 * (W64 * P) < (u * W64 + u1 + 1) * (W64 * P) := by omega
    exact Nat.le_of_lt_succ (Nat.lt_of_mul_lt_mul_right h5)
  · rw [Nat.div_lt_iff_lt_mul h.pos]
    have h1 : (u + 1) * W64 ≤ v1 * W64 := Nat.mul_le_mul_right _ hlt
    rw [Nat.add_mul] at h1
    have := h.lu1
    rw [Nat.mul_comm W64]
    omega
theorem Est.init_eq (h : Est P U V u u1 u2 v1 v2) (he : u = v1) : EInv U V u u1 v1 (W64 - 1) (u1 + v1) := by
  refine ⟨?_, ?_, by have := W64_pos; omega⟩
  · subst he
    rw [Nat.sub_mul, Nat.mul_comm u]
    have : u ≤ W64 * u := Nat.le_mul_of_pos_left _ W64_pos
    omega
  · have := (Nat.div_lt_iff_lt_mul h.vpos).2 h.lt
    omega
theorem EInv.next (g : EInv U V u u1 v1 d r) (h : Est P U V u u1 u2 v1 v2) (hg : r * W64 + u2 < d * v2) : 0 < d ∧ EInv U V u u1 v1 (d - 1) (r + v1) := by
  obtain ⟨ur, hu, hur⟩ := h.hu
  obtain ⟨vr, hv, _⟩ := h.hv
  have h0 : (d * v1 + r) * W64 = (u * W64 + u1) * W64 := by rw [g.eq]
  have h1 : (u * W64 + u1) * W64 + u2 + 1 ≤ d * (v1 * W64 + v2) := by
    rw [Nat.mul_add, ← Nat.mul_assoc]
    rw [Nat.add_mul] at h0
    omega
  have h2 : U < d * V := by
    have h3 : ((u * W64 + u1) * W64 + u2 + 1) * P ≤ d * (v1 * W64 + v2) * P := Nat.mul_le_mul_right _ h1
    rw [Nat.add_mul ((u * W64 + u1) * W64 + u2) 1] at h3
    rw [hv, Nat.mul_add, ← Nat.mul_assoc]
    omega
  have h4 := (Nat.div_lt_iff_lt_mul h.vpos).2 h2
  have hd : 0 < d := Nat.lt_of_le_of_lt (Nat.zero_le _) h4
  refine ⟨hd, ?_, Nat.le_sub_one_of_lt h4, by have := g.lt; omega⟩
  obtain ⟨k, rfl⟩ : ∃ k, d = k + 1 := ⟨d - 1, by omega⟩
  have := g.eq
  rw [Nat.add_mul] at this
  rw [Nat.add_sub_cancel]
  omega
theorem EInv.done (g : EInv U V u u1 v1 d r) (h : Est P U V u u1 u2 v1 v2) (hg : d * v2 ≤ r * W64 + u2) : d ≤ U / V + 1 := by
  obtain ⟨ur, hu, hur⟩ := h.hu
  obtain ⟨vr, hv, hvr⟩ := h.hv
  have h0 : (d * v1 + r) * W64 = (u * W64 + u1) * W64 := by rw [g.eq]
  have h1 : d * (v1 * W64 + v2) ≤ (u * W64 + u1) * W64 + u2 := by
    rw [Nat.mul_add, ← Nat.mul_assoc]
    rw [Nat.add_mul] at h0
    omega
  have hq : U < (U / V + 1) * V := by
    have := Nat.lt_succ_self (U / V)
    exact (Nat.div_lt_iff_lt_mul h.vpos).1 this
  generalize U / V = q at *
  rcases Nat.lt_or_ge (q + 1) d with hlt | hge
  · exfalso
    obtain ⟨e, rfl⟩ : ∃ e, d = e + 1 := ⟨d - 1, by omega⟩
    have h2 : (q + 1) * V ≤ e * V := Nat.mul_le_mul_right _ (by omega)
    have h3 : (e + 1) * (v1 * W64 + v2) * P ≤ ((u * W64 + u1) * W64 + u2) * P := Nat.mul_le_mul_right _ h1
    have h4 : e * V ≤ e * ((v1 * W64 + v2 + 1) * P) := Nat.mul_le_mul_left _ (by rw [hv, Nat.add_mul (v1 * W64 + v2) 1]; omega)
    have h5 : (e + 1) * (v1 * W64 + v2) * P < e * (v1 * W64 + v2 + 1) * P := by rw [Nat.mul_assoc e]; omega
    have h6 := Nat.lt_of_mul_lt_mul_right h5
    have h7 := g.lt
    have h8 : 1 * W64 ≤ v1 * W64 := Nat.mul_le_mul_right _ h.pos
    have h9 : v1 * W64 ≤ v1 * W64 + v2 := Nat.le_add_right _ _
    clear h3 h4 h5 h1 h2
    generalize v1 * W64 + v2 = D at *
    rw [Nat.add_mul, Nat.mul_add] at h6
    omega
  · exact hge
theorem EInv.over (g : EInv U V u u1 v1 d r) (h : Est P U V u u1 u2 v1 v2) (hr : W64 ≤ r) : d * v2 ≤ r * W64 + u2 := by
  have h1 : d * v2 ≤ W64 * W64 := Nat.mul_le_mul (Nat.le_of_lt g.lt) (Nat.le_of_lt h.lv2)
  have h2 : W64 * W64 ≤ r * W64 := Nat.mul_le_mul_right _ hr
  omega
end

/-- One digit: what is left after the estimate was subtracted, and put right. -/
theorem step_zero {U V d Z : Nat} (hV : 0 < V) (h1 : U / V ≤ d) (h2 : d ≤ U / V + 1) (h : Z + V * d = U) : d = U / V ∧ Z = U % V := by
  have h3 := Nat.div_add_mod U V
  have h4 := Nat.mod_lt U hV
  generalize U / V = q at *
  generalize U % V = r at *
  rcases Nat.lt_or_ge q d with hlt | hge
  · obtain rfl : d = q + 1 := by omega
    rw [Nat.mul_add] at h
    omega
  · obtain rfl : d = q := by omega
    exact ⟨rfl, by omega⟩
theorem step_one {U V d Z Z' N k : Nat} (hV : 0 < V) (hVN : V ≤ N) (h1 : U / V ≤ d) (h2 : d ≤ U / V + 1) (hZ : Z < N) (hZ' : Z' < N) (h : Z + V * d = U + N) (g : Z' + N * k = Z + V) : 0 < d ∧ d - 1 = U / V ∧ Z' = U % V := by
  have h3 := Nat.div_add_mod U V
  have h4 := Nat.mod_lt U hV
  generalize U / V = q at *
  generalize U % V = r at *
  rcases Nat.lt_or_ge q d with hlt | hge
  · obtain rfl : d = q + 1 := by omega
    rw [Nat.mul_add] at h
    refine ⟨by omega, by omega, ?_⟩
    have e : Z' + N * k = N + r := by omega
    have hk : k = 1 := by
      rcases k with _ | _ | k
      · omega
      · rfl
      · rw [Nat.mul_add, Nat.mul_add] at e; omega
    subst hk
    omega
  · obtain rfl : d = q := by omega
    omega

/-- The loop of divideLong: the places from i on are over. -/
structure LongInv (R0 V : Nat) (zs qs : List Nat) (n m i : Nat) : Prop where
  len : zs.length = m + n
  qlen : qs.length = m
  dg : Dg W64 zs
  qdg : Dg W64 qs
  small : vs W64 zs i n < V
  zero : ∀ j, i + n ≤ j → gt zs j = 0
  val : R0 = W64 ^ i * vs W64 qs i (m - i) * V + vs W64 zs 0 (i + n)
theorem LongInv.u_lt {R0 V n m i : Nat} {zs qs : List Nat} (h : LongInv R0 V zs qs n m (i + 1)) : vs W64 zs i (n + 1) < W64 * V := by
  have h1 := h.small
  have h2 := h.dg i
  rw [show n + 1 = 1 + n from by omega, vs_split]
  simp only [vs, Nat.pow_zero, Nat.pow_one, Nat.one_mul, Nat.add_zero, Nat.zero_add]
  have h3 : W64 * (vs W64 zs (i + 1) n + 1) ≤ W64 * V := Nat.mul_le_mul_left _ h1
  rw [Nat.mul_add] at h3
  omega
theorem LongInv.next {R0 V n m i d : Nat} {zs us qs : List Nat} (h : LongInv R0 V zs qs n m (i + 1)) (hi : i < m) (hVn : V ≤ W64 ^ n) (hV : 0 < V) (hlen : us.length = zs.length) (hout : ∀ j, (j < i ∨ i + (n + 1) ≤ j) → gt us j = gt zs j) (hdu : Dg W64 us)
    (hd : d = vs W64 zs i (n + 1) / V) (hdW : d < W64) (hr : vs W64 us i (n + 1) = vs W64 zs i (n + 1) % V) : LongInv R0 V us (qs.set i d) n m i := by
  have hmod := Nat.mod_lt (vs W64 zs i (n + 1)) hV
  have hdm := Nat.div_add_mod (vs W64 zs i (n + 1)) V
  rw [← hd, ← hr] at hdm
  rw [← hr] at hmod
  have htop : gt us (i + n) = 0 := by
    simp only [vs] at hmod
    rcases Nat.eq_zero_or_pos (gt us (i + n)) with e | e
    · exact e
    · have : W64 ^ n * 1 ≤ W64 ^ n * gt us (i + n) := Nat.mul_le_mul_left _ e
      omega
  have hvs : vs W64 us i n = vs W64 us i (n + 1) := by simp only [vs]; rw [htop]; simp
  have hql : i < qs.length := by rw [h.qlen]; exact hi
  refine ⟨hlen.trans h.len, by rw [List.length_set]; exact h.qlen, hdu, h.qdg.set hdW, by rw [hvs]; exact hmod, fun j hj => ?_, ?_⟩
  · rcases Nat.eq_or_lt_of_le hj with e | e
    · rw [← e]; exact htop
    · rw [hout j (by omega)]; exact h.zero j (by omega)
  · have hv := h.val
    rw [show m - i = 1 + (m - (i + 1)) from by omega, vs_split W64 (qs.set i d)]
    simp only [vs, Nat.pow_zero, Nat.pow_one, Nat.one_mul, Nat.add_zero, Nat.zero_add]
    rw [gt_set hql, if_pos rfl, vs_congr (xs := qs.set i d) (ys := qs) (off' := i + 1) (fun j hj => by rw [gt_set hql, if_neg (by omega)])]
    rw [show i + 1 + n = i + (n + 1) from by omega, vs_split W64 zs, Nat.zero_add, ← hdm] at hv
    rw [vs_split W64 us, Nat.zero_add, hvs, vs_congr (xs := us) (ys := zs) (off := 0) (off' := 0) (n := i) (fun j hj => hout _ (by omega))]
    rw [hv, Nat.pow_succ]
    generalize vs W64 qs (i + 1) (m - (i + 1)) = Q
    generalize vs W64 us i (n + 1) = R
    generalize vs W64 zs 0 i = L
    generalize W64 ^ i = X
    grind
theorem LongInv.done {R0 V n m : Nat} {zs qs : List Nat} (h : LongInv R0 V zs qs n m 0) (hV : 0 < V) : vs W64 qs 0 m = R0 / V ∧ vs W64 zs 0 (m + n) = R0 % V := by
  have hv := h.val
  simp only [Nat.pow_zero, Nat.one_mul, Nat.sub_zero, Nat.zero_add] at hv
  have hz : vs W64 zs 0 (m + n) = vs W64 zs 0 n := by
    rw [show m + n = n + m from by omega, vs_split, Nat.zero_add, vs_zero (n := m) (fun j _ => h.zero _ (by omega))]
    simp
  rw [hz]
  have := Nat.div_mod_unique hV (a := R0) (d := vs W64 qs 0 m) (c := vs W64 zs 0 n)
  have h2 := this.2 ⟨by rw [hv, Nat.mul_comm V, Nat.add_comm], h.small⟩
  exact ⟨h2.1.symm, h2.2.symm⟩

theorem pow_parts {s : Nat} (hs : s ≤ 64) : W64 = 2 ^ (64 - s) * 2 ^ s := by
  rw [← Nat.pow_add, show 64 - s + s = 64 from by omega]; rfl
theorem or_low {a x E : Nat} {s : Nat} (hE : E = 2 ^ s) (ha : a < E) (hx : E ∣ x) : a ||| x = a + x := by
  obtain ⟨M, rfl⟩ := hx
  subst hE
  rw [Nat.or_comm, ← Nat.two_pow_add_eq_or_of_lt ha]; omega
/-- The two halves of a word that is moved. -/
theorem shl_parts {x s : Nat} (hs : s ≤ 64) : x * 2 ^ s % W64 + W64 * (x / 2 ^ (64 - s)) = x * 2 ^ s := by
  have h : x / 2 ^ (64 - s) = x * 2 ^ s / W64 := by rw [pow_parts hs, Nat.mul_div_mul_right _ _ (Nat.pow_pos (by decide))]
  rw [h]; exact Nat.mod_add_div _ _
theorem shl_dvd {x s : Nat} (hs : s ≤ 64) : 2 ^ s ∣ x * 2 ^ s % W64 := by
  rw [Nat.dvd_mod_iff (by rw [pow_parts hs]; exact Nat.dvd_mul_left _ _)]
  exact Nat.dvd_mul_left _ _
theorem room_dvd {a y E F : Nat} (ha : a < E) (hy : y < E * F) (hd : E ∣ y) : a + y < E * F := by
  obtain ⟨k, rfl⟩ := hd
  have hk : k < F := Nat.lt_of_mul_lt_mul_left hy
  have : E * (k + 1) ≤ E * F := Nat.mul_le_mul_left _ hk
  rw [Nat.mul_add] at this
  omega
/-- The loop of shiftedLeft. -/
structure ShlInv (xs zs : List Nat) (o n s i : Nat) : Prop where
  len : zs.length = n + 1
  dg : Dg W64 zs
  zero : ∀ j, i < j → gt zs j = 0
  low : gt zs i < 2 ^ s
  val : vs W64 zs 0 (i + 1) = vs W64 xs o i * 2 ^ s
theorem shl_word {a x s : Nat} (hs : s ≤ 64) (ha : a < 2 ^ s) : a ||| (x * 2 ^ s % W64) = a + x * 2 ^ s % W64 ∧ a + x * 2 ^ s % W64 < W64 := by
  refine ⟨or_low rfl ha (shl_dvd hs), ?_⟩
  have h := pow_parts hs
  rw [Nat.mul_comm] at h
  have h2 : x * 2 ^ s % W64 < 2 ^ s * 2 ^ (64 - s) := by rw [← h]; exact Nat.mod_lt _ W64_pos
  have := room_dvd ha h2 (shl_dvd hs)
  rwa [← h] at this
theorem ShlInv.next {xs zs : List Nat} {o n s i : Nat} (h : ShlInv xs zs o n s i) (hs : s ≤ 63) (hi : i < n) (hx : gt xs (o + i) < W64) :
    ShlInv xs ((zs.set i (gt zs i ||| (gt xs (o + i) * 2 ^ s % W64))).set (i + 1) (gt xs (o + i) / 2 ^ (64 - s))) o n s (i + 1) := by
  obtain ⟨h1, h2⟩ := shl_word (x := gt xs (o + i)) (by omega : s ≤ 64) h.low
  have h3 := shl_parts (x := gt xs (o + i)) (by omega : s ≤ 64)
  have h4 : gt xs (o + i) / 2 ^ (64 - s) < 2 ^ s := by
    rw [Nat.div_lt_iff_lt_mul (Nat.pow_pos (by decide)), Nat.mul_comm, ← pow_parts (by omega)]; exact hx
  have h5 : 2 ^ s ≤ W64 := by rw [pow_parts (by omega : s ≤ 64)]; exact Nat.le_mul_of_pos_left _ (Nat.pow_pos (by decide))
  rw [h1]
  generalize gt xs (o + i) * 2 ^ s % W64 = lo at *
  generalize hhi : gt xs (o + i) / 2 ^ (64 - s) = hi' at *
  have l1 : i < zs.length := by rw [h.len]; omega
  have l2 : i + 1 < (zs.set i (gt zs i + lo)).length := by rw [List.length_set, h.len]; omega
  refine ⟨by simp [h.len], (h.dg.set h2).set (by omega), fun j hj => ?_, by rw [gt_set l2, if_pos rfl]; exact h4, ?_⟩
  · rw [gt_set l2, if_neg (by omega), gt_set l1, if_neg (by omega)]; exact h.zero j (by omega)
  · have hv := h.val
    simp only [vs, Nat.zero_add] at hv ⊢
    rw [gt_set (j := i + 1) l2, if_pos rfl, gt_set (j := i) l2, if_neg (by omega), gt_set (j := i) l1, if_pos rfl]
    rw [vs_congr (xs := (zs.set i (gt zs i + lo)).set (i + 1) hi') (ys := zs) (off := 0) (off' := 0) (n := i) (fun j hj => by rw [gt_set l2, if_neg (by omega), gt_set l1, if_neg (by omega)])]
    rw [Nat.add_mul, ← hv, Nat.mul_assoc, ← h3, Nat.pow_succ]
    grind
/-- The loop of shiftRight. -/
structure ShrInv (X : Nat) (xs zs : List Nat) (s i : Nat) : Prop where
  len : zs.length = xs.length
  dg : Dg W64 zs
  done : ∀ j, j < i → gt zs j = X / 2 ^ s / W64 ^ j % W64
  rest : ∀ j, i ≤ j → gt zs j = gt xs j
theorem shr_word {a x s : Nat} (hs : s ≤ 64) (ha : a < W64) : (a / 2 ^ s) ||| (x * 2 ^ (64 - s) % W64) = a / 2 ^ s + x * 2 ^ (64 - s) % W64 ∧ a / 2 ^ s + x * 2 ^ (64 - s) % W64 < W64 := by
  have h1 : a / 2 ^ s < 2 ^ (64 - s) := by
    rw [Nat.div_lt_iff_lt_mul (Nat.pow_pos (by decide)), ← pow_parts hs]; exact ha
  exact shl_word (by omega) h1
theorem shr_value {X a x t s : Nat} (hs : s ≤ 64) (ha : a < W64) (hX : X = a + W64 * (x + W64 * t)) : X / 2 ^ s % W64 = a / 2 ^ s + x * 2 ^ (64 - s) % W64 := by
  have h1 := (shr_word (x := x) hs ha).2
  have hp : 0 < 2 ^ s := Nat.pow_pos (by decide)
  have e : X = a + 2 ^ s * (2 ^ (64 - s) * (x + W64 * t)) := by
    rw [hX, ← Nat.mul_assoc (2 ^ s), Nat.mul_comm (2 ^ s), ← pow_parts hs]
  rw [e, Nat.add_mul_div_left _ _ hp, Nat.mul_add, ← Nat.mul_assoc, Nat.mul_right_comm, Nat.mul_comm (2 ^ (64 - s) * t), ← Nat.add_assoc, Nat.add_mul_mod_self_left]
  rw [Nat.mul_comm (2 ^ (64 - s)) x, Nat.add_comm, add_mod_small (by omega)]
  omega
theorem vs_at {xs : List Nat} {n i : Nat} (hd : Dg W64 xs) (hi : i < n) : vs W64 xs 0 n / W64 ^ i = gt xs i + W64 * vs W64 xs (i + 1) (n - (i + 1)) := by
  obtain ⟨k, rfl⟩ : ∃ k, n = i + (1 + k) := ⟨n - (i + 1), by omega⟩
  rw [vs_split, Nat.add_mul_div_left _ _ (Nat.pow_pos W64_pos), Nat.div_eq_of_lt (vs_lt hd), vs_split W64 xs (0 + i) 1 k, show i + (1 + k) - (i + 1) = k from by omega]
  simp [vs]
theorem ShrInv.next {X : Nat} {xs zs : List Nat} {s i x : Nat} (h : ShrInv X xs zs s i) (hs : s ≤ 64) (hX : X = vs W64 xs 0 xs.length) (hdx : Dg W64 xs) (hi : i < xs.length) (hx : x = gt xs (i + 1)) :
    gt zs i = gt xs i ∧ ShrInv X xs (zs.set i (gt zs i / 2 ^ s + x * 2 ^ (64 - s) % W64)) s (i + 1) := by
  have e := h.rest i (Nat.le_refl _)
  have l1 : i < zs.length := by rw [h.len]; exact hi
  have hlt := (shr_word (x := x) hs (h.dg i)).2
  refine ⟨e, by rw [List.length_set]; exact h.len, h.dg.set hlt, fun j hj => ?_, fun j hj => by rw [gt_set l1, if_neg (by omega)]; exact h.rest j (by omega)⟩
  rw [gt_set l1]
  split
  · rename_i hij
    subst hij
    have h1 := vs_at hdx hi
    rw [← hX] at h1
    have h2 : vs W64 xs (i + 1) (xs.length - (i + 1)) = x + W64 * vs W64 xs (i + 2) (xs.length - (i + 2)) := by
      rcases Nat.lt_or_ge (i + 1) xs.length with hl | hl
      · rw [show xs.length - (i + 1) = 1 + (xs.length - (i + 2)) from by omega, vs_split]
        simp [vs, hx]
      · rw [show xs.length - (i + 1) = 0 from by omega, show xs.length - (i + 2) = 0 from by omega, hx, gt_of_ge hl]
        simp [vs]
    rw [h2] at h1
    rw [Nat.div_div_eq_div_mul, Nat.mul_comm (2 ^ s), ← Nat.div_div_eq_div_mul, shr_value hs (hdx i) h1, e]
  · exact h.done j (by omega)
theorem ShrInv.all {X : Nat} {xs zs : List Nat} {s : Nat} (h : ShrInv X xs zs s xs.length) (hX : X = vs W64 xs 0 xs.length) (hdx : Dg W64 xs) : vs W64 zs 0 xs.length = X / 2 ^ s := by
  have e : ∀ m, m ≤ xs.length → vs W64 zs 0 m = X / 2 ^ s % W64 ^ m := by
    intro m
    induction m with
    | zero => intro _; simp [vs, Nat.mod_one]
    | succ m ih => intro hm; simp only [vs, Nat.zero_add]; rw [ih (by omega), h.done m (by omega), Nat.pow_succ, Nat.mod_mul]
  rw [e _ (Nat.le_refl _)]
  apply Nat.mod_eq_of_lt
  have h1 : X < W64 ^ xs.length := by rw [hX]; exact vs_lt hdx
  exact Nat.lt_of_le_of_lt (Nat.div_le_self _ _) h1
end Mth
end Go.Proofs.YtoadjhmehgkeaaaDoor
namespace Go.Proofs.YtoadjhmehgkeaaaDoor
open Go.RowKit Mth

theorem sub64_runz (x y : Nat) (w : World) :
    (callFunc 57 #[.int .u64 (x : Int), .int .u64 (y : Int), .int .u64 0]).run Tryd.prog w =
      .ok (.value (.tuple #[.int .u64 ((subLo x y 0 : Nat) : Int), .int .u64 ((subHi x y 0 : Nat) : Int)])) w := sub64_run x y 0 (by omega) w
/-- One step: the new digit and the new borrow. -/
def smLo (x f t c : Nat) : Nat := subLo t (addLo (mulLo x f) c 0) 0
def smHi (x f t c : Nat) : Nat := mulHi x f + addHi (mulLo x f) c 0 + subHi t (addLo (mulLo x f) c 0) 0
theorem sm_split {x f t c : Nat} (ht : t < W64) : smLo x f t c + x * f + c = t + W64 * smHi x f t c := by
  have h1 := mul_split x f
  have h2 := add_split (mulLo x f) c 0
  have h3 := sub_split ht (addLo_lt (mulLo x f) c 0) (Nat.zero_le 1)
  unfold smLo smHi
  rw [Nat.mul_add, Nat.mul_add]
  omega
theorem smLo_lt (x f t c : Nat) : smLo x f t c < W64 := subLo_lt _ _ _
theorem smHi_lt {x f t c : Nat} (hx : x < W64) (hf : f < W64) (ht : t < W64) (hc : c < W64) : smHi x f t c < W64 := by
  have h := sm_split (x := x) (f := f) (c := c) ht
  have h0 := smLo_lt x f t c
  have h1 : x * f ≤ (W64 - 1) * (W64 - 1) := Nat.mul_le_mul (by omega) (by omega)
  have h2 : (W64 - 1) * (W64 - 1) + (W64 - 1) + (W64 - 1) < W64 * W64 := by decide
  refine Nat.lt_of_mul_lt_mul_left (a := W64) ?_
  omega

def SmInv (xs ys zs : List Nat) (off n o2 f i c : Nat) : Prop := Wrote xs zs off n ∧ Dg W64 zs ∧ c < W64 ∧ (∀ j, i ≤ j → gt zs (off + j) = gt xs (off + j)) ∧ vs W64 zs off i + vs W64 ys o2 i * f = vs W64 xs off i + W64 ^ i * c
theorem SmInv.next {xs ys zs : List Nat} {off n o2 f i c : Nat} (h : SmInv xs ys zs off n o2 f i c) (hy : Dg W64 ys) (hf : f < W64) (hi : i < n) (hx : off + n ≤ xs.length) :
    SmInv xs ys (zs.set (off + i) (smLo (gt ys (o2 + i)) f (gt zs (off + i)) c)) off n o2 f (i + 1) (smHi (gt ys (o2 + i)) f (gt zs (off + i)) c) := by
  obtain ⟨h1, h2, h3, h4, h5⟩ := h
  have hl : off + i < zs.length := by rw [h1.len]; omega
  refine ⟨h1.step (by omega) (by omega) (by omega), h2.set (smLo_lt _ _ _ _), smHi_lt (hy _) hf (h2 _) h3, fun j hj => ?_, ?_⟩
  · rw [gt_set hl, if_neg (by omega)]; exact h4 j (by omega)
  · have hs := sm_split (x := gt ys (o2 + i)) (f := f) (c := c) (h2 (off + i))
    simp only [vs]
    rw [gt_set hl, if_pos rfl, vs_congr (ys := zs) (off' := off) (fun j hj => by rw [gt_set hl, if_neg (by omega)])]
    rw [h4 i (Nat.le_refl _)] at hs ⊢
    have e : W64 ^ i * smLo (gt ys (o2 + i)) f (gt xs (off + i)) c + W64 ^ i * gt ys (o2 + i) * f + W64 ^ i * c = W64 ^ i * gt xs (off + i) + W64 ^ (i + 1) * smHi (gt ys (o2 + i)) f (gt xs (off + i)) c := by
      rw [Nat.pow_succ, Nat.mul_assoc, Nat.mul_assoc, ← Nat.mul_add, ← Nat.mul_add, hs, Nat.mul_add]
    rw [Nat.add_mul]
    omega

/-- What subtractMultiple leaves. -/
def SubbedM (xs zs : List Nat) (off n c y : Nat) : Prop := Wrote xs zs off n ∧ Dg W64 zs ∧ c < W64 ∧ vs W64 zs off n + y = vs W64 xs off n + W64 ^ n * c
theorem subtractMultiple_any (b1 o1 n1 c1 b2 o2 n2 c2 f : Nat) (xs ys : List Nat) (w : World) (hb : Blk .u64 57 w b1 xs) (hn : o1 + n1 ≤ xs.length) (hd : Dg W64 xs)
    (hb2 : Blk .u64 57 w b2 ys) (hn2 : o2 + n2 ≤ ys.length) (hd2 : Dg W64 ys) (hne : b2 ≠ b1) (hle : n2 ≤ n1) (hf : f < W64) (hm : n1 ≤ maxLen) :
    Calls Tryd.prog 85 #[.slice (some ⟨b1, o1, none⟩) n1 c1, .slice (some ⟨b2, o2, none⟩) n2 c2, .int .u64 (f : Int)] w fun e w' => ∃ c zs, e = .returned (.int .u64 ((c : Nat) : Int)) ∧ Blk .u64 57 w' b1 zs ∧ w.grownBy w' (some b1) ∧ SubbedM xs zs o1 n2 c (vs W64 ys o2 n2 * f) := by
  unfold maxLen at hm
  have ha := add64_run0
  have hs64 := sub64_runz
  have hy0 : SmInv xs ys xs o1 n2 o2 f 0 0 := ⟨Wrote.refl _ _ _, hd, W64_pos, fun _ _ => rfl, by simp [vs]⟩
  go_enter Tryd.func85, Tryd.ntmps85
  go_wp2
  go_loopw [7, 15] (fun v j wr => ∃ (i t : Nat) (zs : List Nat), i ≤ n2 ∧ j = .int .i64 i ∧ v = .int .u64 t ∧ Blk .u64 57 wr b1 zs ∧ w.grownBy wr (some b1) ∧ SmInv xs ys zs o1 n2 o2 f i t) (fun _ j _ => n2 - (intOf j).toNat)
  case atStart => exact ⟨0, 0, xs, Nat.zero_le _, rfl, rfl, hb, World.grownBy.refl _ _, hy0⟩
  case round =>
    obtain ⟨i, t, zs, hi, rfl, rfl, hbz, hg, hinv⟩ := hrel
    have hlz : zs.length = xs.length := hinv.1.len
    have ht : t < W64 := hinv.2.2.1
    have hb2r := hb2.kept hg (by simpa using hne)
    have hcell2 : i < n2 → wr.cell? ⟨b2, o2 + i, none⟩ = some (.int .u64 ((gt ys (o2 + i) : Nat) : Int)) := fun h => hb2r.cell (by omega)
    have hcell : i < n2 → wr.cell? ⟨b1, o1 + i, none⟩ = some (.int .u64 ((gt zs (o1 + i) : Nat) : Int)) := fun h => hbz.cell (by omega)
    have hfr : wr.frozen? ⟨b1, o1 + i, none⟩ = false := hbz.frozen _
    have hyi := hd2 (o2 + i)
    have hzi := hinv.2.1 (o1 + i)
    by_cases hlt : i < n2
    · have hnx := hinv.next hd2 hf hlt (by omega : o1 + n2 ≤ xs.length)
      have hhi := smHi_lt hyi hf hzi ht
      have HC := Lib.hid (carry_cast hhi)
      go_wp2_with fail
      refine (mul64_run _ _ hyi hf _).mono ?_
      rintro e w' ⟨rfl, rfl⟩
      go_wp2
      go_roundw
      case rel => exact ⟨i + 1, smHi (gt ys (o2 + i)) f (gt zs (o1 + i)) t, _, by omega, by go_num, by rw [HC.out]; rfl, hbz.set _ _, gr_trans hg (gr_set _ _ _ _) (.inr rfl) (.inr (.inl rfl)), hnx⟩
      case measure => simp [intOf]; omega
    · obtain rfl : i = n2 := by omega
      go_wp2
      go_ret
      exact ⟨t, zs, rfl, hbz, hg, hinv.1, hinv.2.1, ht, hinv.2.2.2.2⟩
end Go.Proofs.YtoadjhmehgkeaaaDoor
