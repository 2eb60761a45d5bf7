/- Contracts of the program and of the reference, part 1: Acc, Base, Dm, Dm2, Da. -/
import Derived.Test.YtmlmjhlakpgagaaDoorBRing0
import Derived.Laws.BytesArg
import Derived.Test.YtmlmjhlakpgagaaDoorChecked
import Derived.WalkSpells
import Derived.WalkLawsBesides
import Derived.Lib.IndexBytes
import Derived.Laws.Bits64b
import Derived.BigRegion
import Derived.BigQuiet
import Derived.WalkMore
import Derived.RegionTactic
import Derived.Deep.QuietTactic
import Derived.Deep.RegionLaw
import Derived.Deep.RegionWith
import Derived.Deep.Upon
namespace Go.Proofs.YtmlmjhlakpgagaaDoor
open Go.RowKit Mth

/-- A list that the call gathers since the world w0. -/
structure Acc (k : IntKind) (e : TypeId) (w0 w : World) (v : Value) (l : List Nat) : Prop where
  own : ∃ zs, Own k e w v l.length zs ∧ zs.take l.length = l
  fresh : v.ownBlock = none ∨ ∃ g, v.ownBlock = some g ∧ w0.heap.size ≤ g
  gr : w0.grownBy w none
theorem Acc.nil (k : IntKind) (e : TypeId) (w : World) : Acc k e w w (.slice none 0 0) [] := ⟨⟨[], .nil _ _ _, rfl⟩, .inl rfl, World.grownBy.refl _ _⟩
theorem Acc.kept {k : IntKind} {e : TypeId} {w0 w w' : World} {v : Value} {l : List Nat} (h : Acc k e w0 w v l) (hg : w.grownBy w' none) : Acc k e w0 w' v l := by
  obtain ⟨zs, ho, ht⟩ := h.own
  refine ⟨⟨zs, ho.kept hg ?_, ht⟩, h.fresh, gr_then h.gr hg⟩
  cases v.ownBlock with
  | none => exact .inl rfl
  | some g => exact .inr (by simp)

theorem run_acc {P : Program} {w0 w : World} (t ty : TypeId) (k : IntKind) (e : TypeId) (i : TypeInfo) (bytes : Nat) (ht : P.underlying t = some (.slice e)) (hi : P.info? e = some i) (hz : i.zero = some (.int k 0)) (hsize : i.size = 1) (hby : i.bytes = bytes)
    (v : Value) (l xs : List Nat) (hacc : Acc k e w0 w v l) (hm0 : 0 < xs.length) (h63 : l.length + xs.length ≤ maxLen) (hbytes : (l.length + xs.length) * bytes ≤ 140737488355328) :
    ∃ v' w', (Builtin.append_ #[t, t] ty #[v, .slice (some ⟨w.heap.size, 0, none⟩) xs.length xs.length]).run P (w.alloc (.cells (cellsOf k xs).toArray e)) = .ok v' w' ∧ Acc k e w0 w' v' (l ++ xs) := by
  obtain ⟨zs, hown, htake⟩ := hacc.own
  have hb : Blk k e (w.alloc (.cells (cellsOf k xs).toArray e)) w.heap.size xs := by unfold Blk; rw [heap_alloc_new]
  have hown' := hown.kept (gr_alloc w (.cells (cellsOf k xs).toArray e) none) (by cases v.ownBlock with | none => exact .inl rfl | some g => exact .inr (by simp))
  obtain ⟨v', w', us, hrun, ho', hg, happ, hblk⟩ := run_append_blk (P := P) (w := w.alloc (.cells (cellsOf k xs).toArray e)) k e t ty i bytes ht hi hz hsize hby v l.length zs hown' w.heap.size 0 xs.length xs.length xs (fun j hj => hb.cell (by omega)) (by omega) hm0 h63 hbytes
  refine ⟨v', w', hrun, ⟨us, by rw [List.length_append]; exact ho', ?_⟩, ?_, ?_⟩
  · have hlu : l.length + xs.length ≤ us.length := by
      rcases ho' with ⟨_, h0, _⟩ | ⟨_, _, _, h1, _⟩
      · omega
      · exact h1
    have hlz : l.length ≤ zs.length := by
      have := congrArg List.length htake
      simp at this; omega
    apply gt_ext
    · simp; omega
    · intro j hj
      simp at hj
      rw [gt_take (by simp; omega)]
      by_cases h1 : j < l.length
      · rw [gt_append_left h1, happ.old j h1]
        rw [← gt_take (xs := zs) h1, htake]
      · rw [gt_append_right (by omega)]
        have := happ.new (j - l.length) (by omega)
        rw [Nat.zero_add, show l.length + (j - l.length) = j from by omega] at this
        exact this
  · rcases hblk with e1 | ⟨g, e1, e2⟩
    · rw [e1]; exact hacc.fresh
    · refine .inr ⟨g, e1, ?_⟩
      have h1 := hacc.gr.size
      simp at e2; omega
  · refine gr_trans (gr_then hacc.gr (gr_alloc w _ none)) hg (.inl rfl) ?_
    rcases hacc.fresh with e1 | ⟨g, e1, e2⟩
    · rw [e1]; exact .inl rfl
    · exact .inr (.inr fun j e3 => by rw [e1] at e3; cases e3; exact e2)

theorem wpList_acc {P : Program} {w0 w : World} {ops : Array Oper} {rest : List Oper} {o : Oper} {a : Act} {Q : Exit → Act → World → Prop} (hgd : o.guard = none) (s x : Operand) (t : TypeId)
    (ho : o.op = .call { callee := .builtin .append, args := #[s, x], argTypes := #[t, t] })
    (k : IntKind) (e : TypeId) (i : TypeInfo) (bytes : Nat) (ht : P.underlying t = some (.slice e)) (hi : P.info? e = some i) (hz : i.zero = some (.int k 0)) (hsize : i.size = 1) (hby : i.bytes = bytes)
    (v : Value) (l xs : List Nat) (hacc : Acc k e w0 w v l) (hs : a.eval s = v) (hx : a.eval x = .slice (some ⟨w.heap.size, 0, none⟩) xs.length xs.length) (hm0 : 0 < xs.length)
    (h63 : l.length + xs.length ≤ maxLen) (hbytes : (l.length + xs.length) * bytes ≤ 140737488355328)
    (h : ∀ v' w', Acc k e w0 w' v' (l ++ xs) → wpList P ops Q rest (a.put o.dst v') w') : wpList P ops Q (o :: rest) a (w.alloc (.cells (cellsOf k xs).toArray e)) := by
  refine wpList_plain hgd fun K hK => ?_
  obtain ⟨v', w', hr, h2⟩ := run_acc (P := P) t o.type k e i bytes ht hi hz hsize hby v l xs hacc hm0 h63 hbytes
  unfold Oper.wp execOp
  simp only [ho, resolve, invoke, builtin, Sem.run_bind, Sem.run_pure, Result.andThen_ok, List.map_toArray, List.map_cons, List.map_nil, hs, hx, hr]
  exact hK _ _ (h v' w' h2)

/-- The elements of such a list. -/
theorem Acc.some_ {k : IntKind} {e : TypeId} {w0 w : World} {v : Value} {l : List Nat} (h : Acc k e w0 w v l) (h0 : 0 < l.length) : ∃ g c, v = .slice (some ⟨g, 0, none⟩) l.length c ∧ w0.heap.size ≤ g ∧ l.length ≤ c ∧ c ≤ maxLen ∧ ∀ j, j < l.length → w.cell? ⟨g, 0 + j, none⟩ = some (.int k ((gt l j : Nat) : Int)) := by
  obtain ⟨zs, hown, ht⟩ := h.own
  rcases hown with ⟨_, h1, _⟩ | ⟨g, rfl, hb, h1, h2⟩
  · omega
  · refine ⟨g, _, rfl, ?_, h1, h2, fun j hj => ?_⟩
    · rcases h.fresh with e | ⟨g', e, e'⟩
      · cases e
      · simp only [Value.ownBlock, Option.some.injEq] at e; omega
    · rw [Nat.zero_add, hb.cell (by omega), ← ht, gt_take hj]
theorem Acc.none_ {k : IntKind} {e : TypeId} {w0 w : World} {v : Value} (h : Acc k e w0 w v []) : (∃ l c, v = .slice none l c) ∨ ∃ g c, v = .slice (some ⟨g, 0, none⟩) 0 c := by
  obtain ⟨zs, hown, ht⟩ := h.own
  rcases hown with ⟨rfl, h1, _⟩ | ⟨g, rfl, hb, h1, h2⟩
  · exact .inl ⟨_, _, rfl⟩
  · exact .inr ⟨g, _, rfl⟩
/-- Such a list of bytes as a string. -/
theorem Acc.str {P : Program} {w0 w : World} {v : Value} {l : List Nat} {e : TypeId} (h : Acc .u8 e w0 w v l) (src dst : TypeId) (hs : P.underlying src = some (.slice e)) (he : P.underlying e = some (.int .u8)) (hd : P.underlying dst = some .string) :
    Sem.run P (convert src dst v) w = .ok (.string ⟨(u8s l).toArray⟩) w := by
  have hn : strOfNums (l.map fun v : Nat => (v : Int)) = ⟨(u8s l).toArray⟩ := by simp [strOfNums, u8s]
  rcases Nat.eq_zero_or_pos l.length with h0 | h0
  · obtain rfl := List.eq_nil_of_length_eq_zero h0
    rcases h.none_ with ⟨a, c, rfl⟩ | ⟨g, c, rfl⟩
    · rw [run_convert_bytes_nil w src e hs he a c dst hd]; rfl
    · rw [run_convert_bytes_arg w src e hs he g 0 0 c [] rfl (fun i hi => by omega) dst hd]; rfl
  · obtain ⟨g, c, rfl, _, _, _, hc⟩ := h.some_ h0
    rw [run_convert_bytes_arg w src e hs he g 0 l.length c (l.map fun v : Nat => (v : Int)) (by simp) (fun j hj => by rw [hc j hj]; simp [gt, List.getD, hj]) dst hd, hn]

/-- A slice that holds just the numbers l, at the head of a block. -/
structure Ls (w : World) (a : Option Addr) (m c : Nat) (l : List Nat) : Prop where
  len : m = l.length
  mem : 0 < m → ∃ g zs, a = some ⟨g, 0, none⟩ ∧ Blk .i64 3 w g zs ∧ zs.length = c ∧ m ≤ c ∧ c ≤ maxLen ∧ zs.take m = l
/-- A slice with the digits of N to the base 2 ^ 24. -/
def RN (w : World) (v : Value) (N : Nat) : Prop := ∃ a m c, v = .slice a m c ∧ Ls w a m c (dgt N)
theorem Ls.kept {w w' : World} {a : Option Addr} {m c : Nat} {l : List Nat} (h : Ls w a m c l) (hg : w.grownBy w' none) : Ls w' a m c l := by
  refine ⟨h.len, fun h0 => ?_⟩
  obtain ⟨g, zs, h1, h2, h3⟩ := h.mem h0
  exact ⟨g, zs, h1, h2.kept hg (by simp), h3⟩
theorem RN.kept {w w' : World} {v : Value} {N : Nat} (h : RN w v N) (hg : w.grownBy w' none) : RN w' v N := by
  obtain ⟨a, m, c, rfl, h⟩ := h
  exact ⟨a, m, c, rfl, h.kept hg⟩
theorem Ls.at_ {w : World} {a : Option Addr} {m c i : Nat} {l : List Nat} (h : Ls w a m c l) (hi : i < m) : ∃ g, a = some ⟨g, 0, none⟩ ∧ m ≤ c ∧ c ≤ maxLen ∧ w.cell? ⟨g, 0 + i, none⟩ = some (.int .i64 ((gt l i : Nat) : Int)) := by
  obtain ⟨g, zs, h1, h2, h3, h4, h5, h6⟩ := h.mem (by omega)
  refine ⟨g, h1, h4, h5, ?_⟩
  rw [Nat.zero_add, h2.cell (by omega), ← h6, gt_take hi]
theorem Acc.ls {w0 w : World} {v : Value} {l : List Nat} (h : Acc .i64 3 w0 w v l) : ∃ a m c, v = .slice a m c ∧ Ls w a m c l := by
  obtain ⟨zs, hown, ht⟩ := h.own
  rcases hown with ⟨rfl, h0, _⟩ | ⟨g, rfl, hb, h1, h2⟩
  · exact ⟨none, 0, 0, rfl, h0.symm, fun h => by omega⟩
  · exact ⟨_, _, _, rfl, rfl, fun _ => ⟨g, zs, rfl, hb, rfl, h1, h2, ht⟩⟩
theorem Acc.rn {w0 w : World} {v : Value} {l : List Nat} {N : Nat} (h : Acc .i64 3 w0 w v l) (hl : l = dgt N) : RN w v N := by
  obtain ⟨a, m, c, h1, h2⟩ := h.ls
  exact ⟨a, m, c, h1, hl ▸ h2⟩
end Go.Proofs.YtmlmjhlakpgagaaDoor
namespace Go.Proofs.YtmlmjhlakpgagaaDoor
open Go.RowKit Mth

theorem len_toList (t : ByteArray) : t.data.toList.length = t.size := rfl
def lenOf : Value → Nat | .slice _ n _ => n | _ => 0
def strOf : Value → ByteArray | .string t => t | _ => ByteArray.empty
theorem toArray_eq (t : ByteArray) {l : List UInt8} (h : l = t.data.toList) : (⟨l.toArray⟩ : ByteArray) = t := by
  subst h; simp
theorem infoB : (Tryd.prog.info? 5).map (fun i => (i.zero, i.size, i.bytes)) = some (some (.int .u8 0), 1, 1) := by kernel_rfl
theorem wrap_u64 (n : Nat) (h : n < W64) : IntKind.u64.wrap (n : Int) = (n : Int) := IntWalk.u64_in _ ⟨by omega, by rw [W64_eq] at h; omega⟩
theorem pow_cast (r : Nat) : (2 : Int) ^ (8 * r) = ((256 ^ r : Nat) : Int) := by
  rw [show (256 : Nat) = 2 ^ 8 from rfl, ← Nat.pow_mul]
  simp
theorem byte_word (g r : Nat) : ((g : Int) / (2 : Int) ^ (8 * r) % 256) = ((g / 256 ^ r % 256 : Nat) : Int) := by
  rw [pow_cast]; simp
def rtB : List UInt8 → Bool | [] => true | d :: _ => d != 0
theorem rtB_of_rt {l : List UInt8} (h : Rt l) : rtB l = true := by
  cases l with
  | nil => rfl
  | cons d l => simp only [rtB, bne_iff_ne]; intro e; subst e; simp [Rt] at h
theorem nil_of_size {s : ByteArray} (h : s.size = 0) : s.data.toList = [] := List.eq_nil_of_length_eq_zero (by rw [len_toList]; exact h)
theorem cons_of_size {s : ByteArray} (h : 0 < s.size) : s.data.toList = s[0] :: s.data.toList.drop 1 := by
  cases hl : s.data.toList with
  | nil => have := len_toList s; rw [hl] at this; simp at this; omega
  | cons d l =>
    have : s[0] = s.data.toList[0]'(by rw [len_toList]; exact h) := rfl
    rw [this]; simp [hl]
theorem drop_at {s : ByteArray} {i : Nat} (h : i < s.size) : s.data.toList.drop i = s[i] :: s.data.toList.drop (i + 1) := by
  rw [List.drop_eq_getElem_cons (by rw [len_toList]; exact h)]; rfl
theorem canon_any (s : ByteArray) (w : World) (hs : s.size ≤ 1000000000000) :
    Calls Tryd.prog 66 #[.string s] w fun e w' => e = .returned (.string ⟨(canon s.data.toList).toArray⟩) ∧ w = w' := by
  go_enter Tryd.func66, Tryd.ntmps66
  go_wp2
  go_loop [3] (fun v => ∃ i : Nat, i ≤ s.size ∧ v = .int .i64 i ∧ Hid (canon (s.data.toList.drop i) = canon s.data.toList)) (fun v => s.size - (intOf v).toNat)
  case atStart => exact ⟨0, Nat.zero_le _, rfl, rfl⟩
  case round =>
    obtain ⟨i, hi, rfl, HC⟩ := hrel
    go_wp2
    · have hlt : i < s.size := by assumption
      have h0 : ((s[i].toNat : Int) == 0) = true := by assumption
      have hz : s[i] = 0 := UInt8.toNat_inj.1 (by have := beq_iff_eq.1 h0; simpa using this)
      refine ⟨⟨i + 1, by omega, by go_num, ?_⟩, by simp [intOf]; omega⟩
      show canon _ = _
      rw [← HC.out, drop_at hlt, hz, canon, if_pos rfl]
    · have hlt : i < s.size := by assumption
      have h0 : ((s[i].toNat : Int) == 0) = false := by assumption
      have hz : s[i] ≠ 0 := by intro e; rw [e] at h0; simp at h0
      have hs2 : (⟨(canon s.data.toList).toArray⟩ : ByteArray) = s.extract i s.size := by
        apply toArray_eq
        rw [Lib.extract_to_end, ← HC.out, drop_at hlt, canon, if_neg hz]
      go_ret
      exact ⟨by rw [hs2]; rfl, rfl⟩
    · have hlt : ¬ i < s.size := by assumption
      have hs2 : (⟨(canon s.data.toList).toArray⟩ : ByteArray) = s.extract i s.size := by
        apply toArray_eq
        rw [Lib.extract_to_end, ← HC.out, List.drop_eq_nil_of_le (by rw [len_toList]; omega)]; rfl
      go_ret
      exact ⟨by rw [hs2]; rfl, rfl⟩
def bytesOf (s : ByteArray) : ByteArray := ⟨(canon s.data.toList).toArray⟩
theorem bytesLess_num : ∀ (x y : List UInt8), x.length = y.length → Op.bytesLess x y = decide (num x < num y)
  | [], [], _ => by simp [Op.bytesLess, num]
  | [], _ :: _, h => by simp at h
  | _ :: _, [], h => by simp at h
  | a :: x, b :: y, h => by
    have hl : x.length = y.length := by simpa using h
    have hx := num_lt x
    have hy := num_lt y
    rw [Op.bytesLess, bytesLess_num x y hl, num_cons, num_cons, hl]
    rw [hl] at hx
    by_cases h1 : a < b
    · have h2 : a.toNat + 1 ≤ b.toNat := UInt8.lt_iff_toNat_lt.1 h1
      have h3 : (a.toNat + 1) * 256 ^ y.length ≤ b.toNat * 256 ^ y.length := Nat.mul_le_mul_right _ h2
      rw [Nat.add_mul] at h3
      rw [decide_eq_true h1, Bool.true_or]; exact (decide_eq_true (by omega)).symm
    · by_cases h2 : a = b
      · subst h2
        rw [decide_eq_false h1, show (a == a) = true from by simp, Bool.true_and, Bool.false_or]
        by_cases h3 : num x < num y
        · rw [decide_eq_true h3]; exact (decide_eq_true (by omega)).symm
        · rw [decide_eq_false h3]; exact (decide_eq_false (by omega)).symm
      · have h4 : b.toNat + 1 ≤ a.toNat := by
          have h5 : ¬ a.toNat < b.toNat := fun h => h1 (UInt8.lt_iff_toNat_lt.2 h)
          have h6 : a.toNat ≠ b.toNat := fun h => h2 (UInt8.toNat_inj.1 h)
          omega
        have h3 : (b.toNat + 1) * 256 ^ y.length ≤ a.toNat * 256 ^ y.length := Nat.mul_le_mul_right _ h4
        rw [Nat.add_mul] at h3
        rw [decide_eq_false h1, show (a == b) = false from by simp [h2], Bool.false_and, Bool.false_or]; exact (decide_eq_false (by omega)).symm
theorem num_inj_len : ∀ {x y : List UInt8}, x.length = y.length → num x = num y → x = y
  | [], [], _, _ => rfl
  | [], _ :: _, h, _ => by simp at h
  | _ :: _, [], h, _ => by simp at h
  | a :: x, b :: y, h, hn => by
    have hl : x.length = y.length := by simpa using h
    have hx := num_lt x
    have hy := num_lt y
    rw [num_cons, num_cons, hl] at hn
    rw [hl] at hx
    have hab : a.toNat = b.toNat := by
      rcases Nat.lt_trichotomy a.toNat b.toNat with h1 | h1 | h1
      · have h3 : (a.toNat + 1) * 256 ^ y.length ≤ b.toNat * 256 ^ y.length := Nat.mul_le_mul_right _ h1
        rw [Nat.add_mul] at h3; omega
      · exact h1
      · have h3 : (b.toNat + 1) * 256 ^ y.length ≤ a.toNat * 256 ^ y.length := Nat.mul_le_mul_right _ h1
        rw [Nat.add_mul] at h3; omega
    rw [hab] at hn
    rw [UInt8.toNat_inj.1 hab, num_inj_len hl (by omega)]
theorem num_lt_of_len {a b : ByteArray} (hb : Rt b.data.toList) (h : a.size < b.size) : num a.data.toList < num b.data.toList := by
  have h1 := num_lt a.data.toList
  have hne : b.data.toList ≠ [] := by intro e; have := len_toList b; rw [e] at this; simp at this; omega
  have h2 := num_ge hb hne
  have h3 : 256 ^ a.data.toList.length ≤ 256 ^ (b.data.toList.length - 1) := Nat.pow_le_pow_right (by decide) (by rw [len_toList, len_toList]; omega)
  omega
/-- -1, 0 or 1. -/
def cmpN (a b : Nat) : Int := if a < b then -1 else if b < a then 1 else 0
abbrev Gives (f : FuncId) (args : Array Value) (w : World) (v : Value) : Prop := Calls Tryd.prog f args w fun e w' => e = .returned v ∧ w.grownBy w' none
def S (n : Nat) : ByteArray := ⟨(enc n).toArray⟩
theorem s_num (n : Nat) : num (S n).data.toList = n := by unfold S; simp [num_enc]
theorem s_zero : S 0 = ⟨#[]⟩ := by unfold S; rw [enc_zero]
theorem enc_len : ∀ (k n : Nat), n < 256 ^ k → (enc n).length ≤ k
  | 0, n, h => by
    have : n = 0 := by simpa using h
    subst this; rw [enc_zero]; simp
  | k + 1, n, h => by
    by_cases h0 : n = 0
    · subst h0; rw [enc_zero]; simp
    · rw [enc_pos h0]
      rw [Nat.pow_succ] at h
      have := enc_len k (n / 256) (by omega)
      simp; omega
theorem s_size {n : Nat} (h : n < 256 ^ 200) : (S n).size ≤ 1000000000000 := by
  have := enc_len 200 n h
  have e : (S n).size = (enc n).length := by unfold S; show (enc n).toArray.size = _; simp
  omega
theorem s_canon (s : ByteArray) (m : Nat) (w : World) (hm : num s.data.toList = m) (h1 : s.size ≤ 1000000000000) : Gives 66 #[.string s] w (.string (S m)) := by
  subst hm
  refine (canon_any s w h1).mono ?_
  rintro e w' ⟨rfl, rfl⟩
  exact ⟨by unfold S; rw [enc_num_canon], World.grownBy.refl _ _⟩
end Go.Proofs.YtmlmjhlakpgagaaDoor
namespace Go.Proofs.YtmlmjhlakpgagaaDoor
namespace Dm

/-- A number and a scale with as few decimal places as possible. -/
def strip : Nat → Int → Int × Nat
  | 0, v => (v, 0)
  | s + 1, v => if v % 10 = 0 then strip s (v / 10) else (v, s + 1)
def MaxU : Int := 1000000000000000
theorem MaxU_eq : MaxU = 1000000000000000 := rfl
/-- Whether units and a scale are those of a right decimal. -/
def rightD (n s : Int) : Bool := decide (0 ≤ s ∧ s ≤ 6 ∧ -1000000000000000 ≤ n ∧ n ≤ 1000000000000000 ∧ (s = 0 ∨ n % 10 ≠ 0))
theorem rightD_iff {n s : Int} : rightD n s = true ↔ 0 ≤ s ∧ s ≤ 6 ∧ -1000000000000000 ≤ n ∧ n ≤ 1000000000000000 ∧ (s = 0 ∨ n % 10 ≠ 0) := by unfold rightD; simp
/-- The decimal with the value v / 10^s, if it fits. -/
def fitD (v : Int) (s : Nat) : Int × Nat × Bool :=
  if (strip s v).2 ≤ 6 ∧ -1000000000000000 ≤ (strip s v).1 ∧ (strip s v).1 ≤ 1000000000000000 then ((strip s v).1, (strip s v).2, true) else (0, 0, false)

theorem strip_le (s : Nat) (v : Int) : (strip s v).2 ≤ s := by
  induction s generalizing v with
  | zero => simp [strip]
  | succ s ih =>
    simp only [strip]; split
    · have := ih (v / 10); omega
    · simp
theorem strip_done (s : Nat) (v : Int) : (strip s v).2 = 0 ∨ (strip s v).1 % 10 ≠ 0 := by
  induction s generalizing v with
  | zero => simp [strip]
  | succ s ih =>
    simp only [strip]; split
    · exact ih _
    · right; assumption
theorem strip_stop {s : Nat} {v : Int} (h : s = 0 ∨ v % 10 ≠ 0) : strip s v = (v, s) := by
  cases s with
  | zero => rfl
  | succ s =>
    simp only [strip]; rw [if_neg]; rcases h with h | h
    · omega
    · exact h
theorem strip_ten (s : Nat) (v : Int) : strip (s + 1) (v * 10) = strip s v := by
  simp only [strip]
  rw [if_pos (by omega), show v * 10 / 10 = v from by omega]
theorem strip_pow (s k : Nat) (v : Int) : strip (s + k) (v * 10 ^ k) = strip s v := by
  induction k with
  | zero => simp
  | succ k ih =>
    rw [← Nat.add_assoc, Int.pow_succ, ← Int.mul_assoc, strip_ten, ih]
theorem strip_val (s : Nat) (v : Int) : v = (strip s v).1 * 10 ^ (s - (strip s v).2) := by
  induction s generalizing v with
  | zero => simp [strip]
  | succ s ih =>
    simp only [strip]; split
    · rename_i h
      have h1 := ih (v / 10)
      have h2 := strip_le s (v / 10)
      rw [show s + 1 - (strip s (v / 10)).2 = (s - (strip s (v / 10)).2) + 1 from by omega, Int.pow_succ, ← Int.mul_assoc, ← h1]; omega
    · simp
theorem strip_zero (s : Nat) : strip s 0 = (0, 0) := by
  induction s with
  | zero => rfl
  | succ s ih => simp [strip, ih]
theorem strip_neg (s : Nat) (v : Int) : strip s (-v) = (-(strip s v).1, (strip s v).2) := by
  induction s generalizing v with
  | zero => rfl
  | succ s ih =>
    simp only [strip]
    by_cases h : v % 10 = 0
    · rw [if_pos h, if_pos (by omega), show -v / 10 = -(v / 10) from by omega, ih]
    · rw [if_neg h, if_neg (by omega)]
theorem fitD_pow (s k : Nat) (v : Int) : fitD (v * 10 ^ k) (s + k) = fitD v s := by unfold fitD; rw [strip_pow]
theorem fitD_zero (s : Nat) : fitD 0 s = (0, 0, true) := by unfold fitD; rw [strip_zero]; simp
theorem fitD_right (v : Int) (s : Nat) : rightD (fitD v s).1 (fitD v s).2.1 = true := by
  unfold fitD
  split
  · rename_i h
    rw [rightD_iff]
    have := strip_done s v
    exact ⟨by dsimp only; omega, by dsimp only; omega, h.2.1, h.2.2, by dsimp only; omega⟩
  · rfl
/-- A decimal that is right is the one that fits. -/
theorem fitD_of_right {n : Int} {s : Nat} (h : rightD n s = true) : fitD n s = (n, s, true) := by
  rw [rightD_iff] at h
  obtain ⟨_, h2, h3, h4, h5⟩ := h
  have hs : strip s n = (n, s) := strip_stop (by rcases h5 with h | h; left; omega; right; exact h)
  unfold fitD; rw [hs, if_pos ⟨by dsimp only; omega, h3, h4⟩]
/-- What does not end with a zero, and is too great, does not fit. -/
theorem fitD_big {v : Int} {s : Nat} (h : s = 0 ∨ v % 10 ≠ 0) (hb : v < -1000000000000000 ∨ 1000000000000000 < v) : fitD v s = (0, 0, false) := by
  unfold fitD; rw [strip_stop h, if_neg]; dsimp only; omega
theorem fitD_stop {v : Int} {s : Nat} (h : s = 0 ∨ v % 10 ≠ 0) : fitD v s = if s ≤ 6 ∧ -1000000000000000 ≤ v ∧ v ≤ 1000000000000000 then (v, s, true) else (0, 0, false) := by
  unfold fitD; rw [strip_stop h]

/-- What a decimal counts as. -/
def valD (n s : Int) : Int × Nat := if rightD n s then (n, s.toNat) else (0, 0)
/-- A right decimal. -/
structure Rt (a : Int × Nat) : Prop where
  lo : -1000000000000000 ≤ a.1
  hi : a.1 ≤ 1000000000000000
  sc : a.2 ≤ 6
  last : a.2 = 0 ∨ a.1 % 10 ≠ 0
theorem rt_val (n s : Int) : Rt (valD n s) := by
  unfold valD
  split
  · rename_i h
    rw [rightD_iff] at h
    exact ⟨h.2.2.1, h.2.2.2.1, by show s.toNat ≤ 6; omega, by rcases h.2.2.2.2 with h | h; left; show s.toNat = 0; omega; right; exact h⟩
  · exact ⟨by decide, by decide, by decide, .inl rfl⟩
theorem Rt.right {a : Int × Nat} (h : Rt a) : rightD a.1 a.2 = true := by
  rw [rightD_iff]
  exact ⟨by omega, by have := h.sc; omega, h.lo, h.hi, by rcases h.last with h | h; left; omega; right; exact h⟩
theorem Rt.fit {a : Int × Nat} (h : Rt a) : fitD a.1 a.2 = (a.1, a.2, true) := fitD_of_right h.right
theorem Rt.val {a : Int × Nat} (h : Rt a) : valD a.1 a.2 = a := by
  unfold valD; rw [if_pos h.right]; simp
theorem rt_fit (v : Int) (s : Nat) : Rt ((fitD v s).1, (fitD v s).2.1) := by
  have h := fitD_right v s
  rw [rightD_iff] at h
  exact ⟨h.2.2.1, h.2.2.2.1, by show (fitD v s).2.1 ≤ 6; omega, by rcases h.2.2.2.2 with h | h; left; show (fitD v s).2.1 = 0; omega; right; exact h⟩
theorem valD_wrong {n s : Int} (h : rightD n s = false) : valD n s = (0, 0) := by unfold valD; simp [h]
theorem valD_right {n s : Int} (h : rightD n s = true) : valD n s = (n, s.toNat) := by unfold valD; simp [h]
theorem right_neg (n s : Int) : rightD (-n) s = rightD n s := by
  rw [Bool.eq_iff_iff, rightD_iff, rightD_iff]
  constructor <;> (intro ⟨a, b, c, d, e⟩; exact ⟨a, b, by omega, by omega, by omega⟩)
theorem valD_neg (n s : Int) : valD (-n) s = (-(valD n s).1, (valD n s).2) := by
  unfold valD; rw [right_neg]; split <;> rfl

def addD (a b : Int × Nat) : Int × Nat × Bool := fitD (a.1 * 10 ^ (max a.2 b.2 - a.2) + b.1 * 10 ^ (max a.2 b.2 - b.2)) (max a.2 b.2)
def subD (a b : Int × Nat) : Int × Nat × Bool := addD a (-b.1, b.2)
def mulD (a b : Int × Nat) : Int × Nat × Bool := fitD (a.1 * b.1) (a.2 + b.2)
/-- Two numbers compared. -/
def cmpI (x y : Int) : Int := if x < y then -1 else if y < x then 1 else 0
def cmpD (a b : Int × Nat) : Int := cmpI (a.1 * 10 ^ (6 - a.2)) (b.1 * 10 ^ (6 - b.2))
/-- The nearest multiple. -/
def roundI (n : Int) (p : Nat) : Int := if n < 0 then -(((2 * n.natAbs + p) / (2 * p) : Nat) : Int) else (((2 * n.natAbs + p) / (2 * p) : Nat) : Int)
def roundD (a : Int × Nat) (k : Int) : Int × Nat × Bool := if 0 ≤ k ∧ k ≤ 6 then (if (a.2 : Int) ≤ k then (a.1, a.2, true) else fitD (roundI a.1 (10 ^ (a.2 - k.toNat))) k.toNat) else (0, 0, false)
def makeD (n k : Int) : Int × Nat × Bool := if 0 ≤ k ∧ k ≤ 18 then fitD n k.toNat else (0, 0, false)

theorem pow10_le6 {k : Nat} (h : k ≤ 6) : (10 : Int) ^ k = 1 ∨ (10 : Int) ^ k = 10 ∨ (10 : Int) ^ k = 100 ∨ (10 : Int) ^ k = 1000 ∨ (10 : Int) ^ k = 10000 ∨ (10 : Int) ^ k = 100000 ∨ (10 : Int) ^ k = 1000000 := by
  have : k = 0 ∨ k = 1 ∨ k = 2 ∨ k = 3 ∨ k = 4 ∨ k = 5 ∨ k = 6 := by omega
  rcases this with h | h | h | h | h | h | h <;> subst h <;> simp
theorem pow10_pos {k : Nat} (h : k ≤ 6) (h0 : 0 < k) : (10 : Int) ^ k = 10 ∨ (10 : Int) ^ k = 100 ∨ (10 : Int) ^ k = 1000 ∨ (10 : Int) ^ k = 10000 ∨ (10 : Int) ^ k = 100000 ∨ (10 : Int) ^ k = 1000000 := by
  have : k = 1 ∨ k = 2 ∨ k = 3 ∨ k = 4 ∨ k = 5 ∨ k = 6 := by omega
  rcases this with h | h | h | h | h | h <;> subst h <;> simp
/-- What is too great as units of a sum does not fit. -/
theorem addD_big {a b : Int × Nat} (ha : Rt a) (hb : Rt b) (h : a.1.natAbs > 2000000000000000 / 10 ^ (max a.2 b.2 - a.2)) : addD a b = (0, 0, false) := by
  have h1 := ha.lo; have h2 := ha.hi; have h3 := hb.lo; have h4 := hb.hi
  have h5 := ha.sc; have h6 := hb.sc
  have hlt : a.2 < b.2 := by
    rcases Nat.lt_or_ge a.2 b.2 with h0 | h0
    · exact h0
    · rw [show max a.2 b.2 - a.2 = 0 from by omega] at h
      simp at h; omega
  have hm : max a.2 b.2 = b.2 := by omega
  have hl : b.1 % 10 ≠ 0 := by rcases hb.last with h0 | h0; omega; exact h0
  unfold addD
  rw [hm] at h ⊢
  rw [Nat.sub_self, Int.pow_zero, Int.mul_one]
  generalize hk : b.2 - a.2 = k at h
  have hk6 : k ≤ 6 := by omega
  have hk0 : 0 < k := by omega
  have hn : ((10 ^ k : Nat) : Int) = (10 : Int) ^ k := by simp
  have h10 := pow10_pos hk6 hk0
  generalize (10 : Int) ^ k = p at *
  generalize (10 ^ k : Nat) = q at *
  apply fitD_big
  · right; rcases h10 with e | e | e | e | e | e <;> rw [e] <;> omega
  · rcases h10 with e | e | e | e | e | e
    · subst e
      obtain rfl : q = 10 := by omega
      omega
    · subst e
      obtain rfl : q = 100 := by omega
      omega
    · subst e
      obtain rfl : q = 1000 := by omega
      omega
    · subst e
      obtain rfl : q = 10000 := by omega
      omega
    · subst e
      obtain rfl : q = 100000 := by omega
      omega
    · subst e
      obtain rfl : q = 1000000 := by omega
      omega
theorem addD_comm (a b : Int × Nat) : addD a b = addD b a := by
  unfold addD; rw [Nat.max_comm, Int.add_comm]
/-- The value in units of 10^-6. -/
def V (a : Int × Nat) : Int := a.1 * 10 ^ (6 - a.2)
theorem fitD_shift {a : Int} {s m : Nat} (h : s ≤ m) : fitD a s = fitD (a * 10 ^ (m - s)) m := by
  have := fitD_pow s (m - s) a
  rw [show s + (m - s) = m from by omega] at this; exact this.symm
theorem scale_V {a : Int × Nat} {m : Nat} (h : a.2 ≤ m) (hm : m ≤ 6) : V a = a.1 * 10 ^ (m - a.2) * 10 ^ (6 - m) := by
  unfold V; rw [Int.mul_assoc, ← Int.pow_add, show m - a.2 + (6 - m) = 6 - a.2 from by omega]
theorem addD_V {a b : Int × Nat} (ha : a.2 ≤ 6) (hb : b.2 ≤ 6) : addD a b = fitD (V a + V b) 6 := by
  unfold addD
  have hm : max a.2 b.2 ≤ 6 := by omega
  rw [fitD_shift hm, Int.add_mul, ← scale_V (by omega) hm, ← scale_V (by omega) hm]
theorem V_neg (n : Int) (s : Nat) : V (-n, s) = -V (n, s) := by unfold V; simp [Int.neg_mul]
theorem subD_V {a b : Int × Nat} (ha : a.2 ≤ 6) (hb : b.2 ≤ 6) : subD a b = fitD (V a - V b) 6 := by
  unfold subD
  have h := addD_V (a := a) (b := (-b.1, b.2)) ha hb
  rw [h, V_neg, ← Int.sub_eq_add_neg]
/-- What fits has the value. -/
theorem V_fit {v : Int} {s : Nat} (hs : s ≤ 6) (h : (fitD v s).2.2 = true) : V ((fitD v s).1, (fitD v s).2.1) = v * 10 ^ (6 - s) := by
  have h1 := strip_val s v
  have h2 := strip_le s v
  unfold fitD at h ⊢
  split at h
  · rename_i hc
    rw [if_pos hc]
    unfold V
    dsimp only
    conv => rhs; rw [h1]
    rw [Int.mul_assoc, ← Int.pow_add, show s - (strip s v).2 + (6 - s) = 6 - (strip s v).2 from by omega]
  · cases h
theorem fit_V {a : Int × Nat} (h : Rt a) : fitD (V a) 6 = (a.1, a.2, true) := by
  have h1 := h.fit
  rw [fitD_shift h.sc] at h1; exact h1
theorem V_inj {a b : Int × Nat} (ha : Rt a) (hb : Rt b) (h : V a = V b) : a = b := by
  have h1 := fit_V ha
  have h2 := fit_V hb
  rw [h, h2] at h1
  simp only [Prod.mk.injEq, and_true] at h1
  exact Prod.ext h1.1.symm h1.2.symm
theorem cmpD_V (a b : Int × Nat) : cmpD a b = cmpI (V a) (V b) := rfl
theorem mulD_V {a b : Int × Nat} (ha : a.2 ≤ 6) (hb : b.2 ≤ 6) : mulD a b = fitD (V a * V b) 12 := by
  unfold mulD
  rw [fitD_shift (m := 12) (by omega)]
  congr 1
  unfold V
  rw [show 12 - (a.2 + b.2) = (6 - a.2) + (6 - b.2) from by omega, Int.pow_add]
  ac_rfl
theorem mulD_comm (a b : Int × Nat) : mulD a b = mulD b a := by unfold mulD; rw [Int.mul_comm, Nat.add_comm]
/-- A product that fits. -/
theorem V_mul {a b : Int × Nat} (ha : a.2 ≤ 6) (hb : b.2 ≤ 6) (h : (mulD a b).2.2 = true) : V ((mulD a b).1, (mulD a b).2.1) * 1000000 = V a * V b := by
  rw [mulD_V ha hb] at h ⊢
  have h1 := strip_val 12 (V a * V b)
  have h2 := strip_le 12 (V a * V b)
  unfold fitD at h ⊢
  split at h
  · rename_i hc
    rw [if_pos hc]
    unfold V at h1 ⊢
    dsimp only
    conv => rhs; rw [h1]
    rw [Int.mul_assoc, show (1000000 : Int) = 10 ^ 6 from rfl, ← Int.pow_add]
    have := hc.1
    unfold V at this
    rw [show 6 - (strip 12 (a.1 * 10 ^ (6 - a.2) * (b.1 * 10 ^ (6 - b.2)))).2 + 6 = 12 - (strip 12 (a.1 * 10 ^ (6 - a.2) * (b.1 * 10 ^ (6 - b.2)))).2 from by omega]
  · cases h
/-- Distributivity, where all fits. -/
theorem distrib {a b c : Int × Nat} (ha : Rt a) (hb : Rt b) (hc : Rt c) (h0 : (addD b c).2.2 = true) (h1 : (mulD a ((addD b c).1, (addD b c).2.1)).2.2 = true) (h2 : (mulD a b).2.2 = true) (h3 : (mulD a c).2.2 = true)
    (h4 : (addD ((mulD a b).1, (mulD a b).2.1) ((mulD a c).1, (mulD a c).2.1)).2.2 = true) : mulD a ((addD b c).1, (addD b c).2.1) = addD ((mulD a b).1, (mulD a b).2.1) ((mulD a c).1, (mulD a c).2.1) := by
  have r1 : Rt ((addD b c).1, (addD b c).2.1) := rt_fit _ _
  have r2 : Rt ((mulD a b).1, (mulD a b).2.1) := rt_fit _ _
  have r3 : Rt ((mulD a c).1, (mulD a c).2.1) := rt_fit _ _
  have e0 : V ((addD b c).1, (addD b c).2.1) = V b + V c := by
    rw [addD_V hb.sc hc.sc] at h0 ⊢
    have := V_fit (Nat.le_refl 6) h0
    rwa [Nat.sub_self, Int.pow_zero, Int.mul_one] at this
  have e1 := V_mul ha.sc r1.sc h1
  have e2 := V_mul ha.sc hb.sc h2
  have e3 := V_mul ha.sc hc.sc h3
  have e4 : V ((addD ((mulD a b).1, (mulD a b).2.1) ((mulD a c).1, (mulD a c).2.1)).1, (addD ((mulD a b).1, (mulD a b).2.1) ((mulD a c).1, (mulD a c).2.1)).2.1) = V ((mulD a b).1, (mulD a b).2.1) + V ((mulD a c).1, (mulD a c).2.1) := by
    rw [addD_V r2.sc r3.sc] at h4 ⊢
    have := V_fit (Nat.le_refl 6) h4
    rwa [Nat.sub_self, Int.pow_zero, Int.mul_one] at this
  have rL : Rt ((mulD a ((addD b c).1, (addD b c).2.1)).1, (mulD a ((addD b c).1, (addD b c).2.1)).2.1) := rt_fit _ _
  have rR : Rt ((addD ((mulD a b).1, (mulD a b).2.1) ((mulD a c).1, (mulD a c).2.1)).1, (addD ((mulD a b).1, (mulD a b).2.1) ((mulD a c).1, (mulD a c).2.1)).2.1) := rt_fit _ _
  rw [e0, Int.mul_add] at e1
  have hV := V_inj rL rR (by rw [e4]; omega)
  simp only [Prod.mk.injEq] at hV
  exact Prod.ext hV.1 (Prod.ext hV.2 (h1.trans h4.symm))
theorem fitD_six {v : Int} (h1 : -1000000000000000 ≤ v) (h2 : v ≤ 1000000000000000) : (fitD v 6).2.2 = true := by
  have h3 := strip_le 6 v
  have h4 := strip_val 6 v
  unfold fitD
  rw [if_pos]
  refine ⟨h3, ?_⟩
  generalize (strip 6 v).1 = u at *
  have hk := pow10_le6 (k := 6 - (strip 6 v).2) (by omega)
  generalize (10 : Int) ^ (6 - (strip 6 v).2) = p at *
  rcases hk with e | e | e | e | e | e | e <;> (rw [e] at h4; omega)
/-- The product with as few decimal places as can be seen. -/
theorem last_mul {x y : Int} {s : Nat} (hx : s = 0 ∨ x % 10 ≠ 0) (hy : s = 0 ∨ y % 10 ≠ 0) (h1 : s = 0 ∨ ¬ (x % 2 = 0 ∧ y % 5 = 0)) (h2 : s = 0 ∨ ¬ (x % 5 = 0 ∧ y % 2 = 0)) : s = 0 ∨ (x * y) % 10 ≠ 0 := by
  rcases Nat.eq_zero_or_pos s with h | h
  · exact .inl h
  right
  intro h0
  have a2 : (x * y) % 2 = 0 := by omega
  have a5 : (x * y) % 5 = 0 := by omega
  rw [Int.mul_emod] at a2 a5
  have b2 : x % 2 = 0 ∨ y % 2 = 0 := by
    have c1 : x % 2 = 0 ∨ x % 2 = 1 := by omega
    have c2 : y % 2 = 0 ∨ y % 2 = 1 := by omega
    rcases c1 with c1 | c1 <;> rcases c2 with c2 | c2 <;> rw [c1, c2] at a2 <;> simp_all
  have b5 : x % 5 = 0 ∨ y % 5 = 0 := by
    have c1 : x % 5 = 0 ∨ x % 5 = 1 ∨ x % 5 = 2 ∨ x % 5 = 3 ∨ x % 5 = 4 := by omega
    have c2 : y % 5 = 0 ∨ y % 5 = 1 ∨ y % 5 = 2 ∨ y % 5 = 3 ∨ y % 5 = 4 := by omega
    rcases c1 with c1 | c1 | c1 | c1 | c1 <;> rcases c2 with c2 | c2 | c2 | c2 | c2 <;> rw [c1, c2] at a5 <;> first | (left; exact c1) | (right; exact c2) | (exfalso; revert a5; decide)
  omega
/-- A product whose decimal places have been taken out of its factors. -/
def Can (P : Int) (S : Nat) (x y : Int) (s : Nat) : Prop := s ≤ S ∧ P = x * y * 10 ^ (S - s)
theorem Can.fit {P : Int} {S : Nat} {x y : Int} {s : Nat} (h : Can P S x y s) : fitD P S = fitD (x * y) s := by
  rw [h.2, fitD_shift h.1]
theorem Can.start (x y : Int) (S : Nat) : Can (x * y) S x y S := ⟨Nat.le_refl _, by simp⟩
theorem Can.left {P : Int} {S : Nat} {x y : Int} {s : Nat} (h : Can P S x y s) : Can P S (strip s x).1 y (strip s x).2 := by
  have h1 := strip_le s x
  refine ⟨Nat.le_trans h1 h.1, ?_⟩
  rw [h.2]
  conv => lhs; rw [strip_val s x]
  rw [Int.mul_right_comm _ _ y, Int.mul_assoc _ (10 ^ _), ← Int.pow_add, show s - (strip s x).2 + (S - s) = S - (strip s x).2 from by have := h.1; omega]
theorem Can.comm {P : Int} {S : Nat} {x y : Int} {s : Nat} (h : Can P S x y s) : Can P S y x s := ⟨h.1, by rw [h.2, Int.mul_comm x y]⟩
theorem Can.two {P : Int} {S : Nat} {x y : Int} {s : Nat} (h : Can P S (2 * x) (5 * y) (s + 1)) : Can P S x y s := by
  refine ⟨by have := h.1; omega, ?_⟩
  rw [h.2, show S - s = (S - (s + 1)) + 1 from by have := h.1; omega, Int.pow_succ, Int.mul_assoc 2 x, Int.mul_left_comm x 5 y, ← Int.mul_assoc 2 5, show (2 : Int) * 5 = 10 from rfl, Int.mul_comm 10 (x * y), Int.mul_assoc (x * y), Int.mul_comm 10]
theorem abs_mul_big {x y : Int} (hx : x ≠ 0) (h : y.natAbs > 1000000000000000 / x.natAbs) : x * y < -1000000000000000 ∨ 1000000000000000 < x * y := by
  have h1 : 1000000000000000 < y.natAbs * x.natAbs := (Nat.div_lt_iff_lt_mul (by omega)).1 h
  rw [← Int.natAbs_mul, Int.mul_comm] at h1
  omega
theorem abs_mul_small {x y : Int} (h : x ≠ 0 → y.natAbs ≤ 1000000000000000 / x.natAbs) : -1000000000000000 ≤ x * y ∧ x * y ≤ 1000000000000000 := by
  by_cases hx : x = 0
  · subst hx; simp
  · have h1 : y.natAbs * x.natAbs ≤ 1000000000000000 := (Nat.le_div_iff_mul_le (by omega)).1 (h hx)
    rw [← Int.natAbs_mul, Int.mul_comm] at h1
    omega
end Dm
end Go.Proofs.YtmlmjhlakpgagaaDoor
namespace Go.Proofs.YtmlmjhlakpgagaaDoor
namespace Dm

theorem roundI_nat (n p : Nat) : roundI (n : Int) p = (((2 * n + p) / (2 * p) : Nat) : Int) := by
  unfold roundI; rw [if_neg (by omega), Int.natAbs_natCast]
theorem roundI_neg (n p : Nat) (hp : 0 < p) : roundI (-(n : Int)) p = -(((2 * n + p) / (2 * p) : Nat) : Int) := by
  unfold roundI
  rw [Int.natAbs_neg, Int.natAbs_natCast]
  split
  · rfl
  · obtain rfl : n = 0 := by omega
    rw [Nat.mul_zero, Nat.zero_add, Nat.div_eq_of_lt (by omega)]; rfl
theorem half_div (n h : Nat) : (n + h) / (2 * h) = (2 * n + 2 * h) / (2 * (2 * h)) := by
  rw [← Nat.mul_add, Nat.mul_div_mul_left _ _ (by omega)]
/-- What the program computes: the half of a unit is added, and the rest is dropped. -/
theorem round_pos (n h : Nat) : ((n : Int) + (h : Int)).tdiv (((2 * h : Nat)) : Int) = roundI (n : Int) (2 * h) := by
  rw [roundI_nat, ← half_div n h, show (n : Int) + (h : Int) = ((n + h : Nat) : Int) from by simp, Int.ofNat_tdiv]
theorem round_neg (n h : Nat) (h0 : 0 < h) : (-(n : Int) + -(h : Int)).tdiv (((2 * h : Nat)) : Int) = roundI (-(n : Int)) (2 * h) := by
  rw [roundI_neg _ _ (by omega), ← half_div n h, show -(n : Int) + -(h : Int) = -((n + h : Nat) : Int) from by omega, Int.neg_tdiv, Int.ofNat_tdiv]
theorem roundI_mono {a b : Int} {p : Nat} (hp : 0 < p) (h : a ≤ b) : roundI a p ≤ roundI b p := by
  rcases Int.lt_or_le b 0 with hb | hb
  · obtain ⟨m, rfl⟩ : ∃ m : Nat, a = -(m : Int) := ⟨a.natAbs, by omega⟩
    obtain ⟨n, rfl⟩ : ∃ n : Nat, b = -(n : Int) := ⟨b.natAbs, by omega⟩
    rw [roundI_neg _ _ hp, roundI_neg _ _ hp]
    have := Nat.div_le_div_right (c := 2 * p) (show 2 * n + p ≤ 2 * m + p by omega)
    omega
  · obtain ⟨n, rfl⟩ := Int.eq_ofNat_of_zero_le hb
    rw [roundI_nat]
    rcases Int.lt_or_le a 0 with ha | ha
    · obtain ⟨m, rfl⟩ : ∃ m : Nat, a = -(m : Int) := ⟨a.natAbs, by omega⟩
      rw [roundI_neg _ _ hp]
      have := Int.natCast_nonneg ((2 * m + p) / (2 * p))
      have := Int.natCast_nonneg ((2 * n + p) / (2 * p))
      omega
    · obtain ⟨m, rfl⟩ := Int.eq_ofNat_of_zero_le ha
      rw [roundI_nat]
      have := Nat.div_le_div_right (c := 2 * p) (show 2 * m + p ≤ 2 * n + p by omega)
      omega
theorem roundI_scale (a : Int) (p q : Nat) (hp : 0 < p) (hq : 0 < q) : roundI (a * q) (p * q) = roundI a p := by
  have key : ∀ n : Nat, (2 * (n * q) + p * q) / (2 * (p * q)) = (2 * n + p) / (2 * p) := by
    intro n
    rw [show 2 * (n * q) + p * q = (2 * n + p) * q from by rw [Nat.add_mul, Nat.mul_assoc], show 2 * (p * q) = (2 * p) * q from by rw [Nat.mul_assoc], Nat.mul_div_mul_right _ _ hq]
  rcases Int.lt_or_le a 0 with ha | ha
  · obtain ⟨m, rfl⟩ : ∃ m : Nat, a = -(m : Int) := ⟨a.natAbs, by omega⟩
    rw [show -(m : Int) * (q : Int) = -((m * q : Nat) : Int) from by simp [Int.neg_mul], roundI_neg _ _ (Nat.mul_pos hp hq), roundI_neg _ _ hp, key]
  · obtain ⟨m, rfl⟩ := Int.eq_ofNat_of_zero_le ha
    rw [show (m : Int) * (q : Int) = ((m * q : Nat) : Int) from by simp, roundI_nat, roundI_nat, key]
theorem roundI_mult (a : Int) (p : Nat) (hp : 0 < p) : roundI (a * p) p = a := by
  have h := roundI_scale a 1 p (by decide) hp
  rw [Nat.one_mul] at h
  rw [h]
  rcases Int.lt_or_le a 0 with ha | ha
  · obtain ⟨m, rfl⟩ : ∃ m : Nat, a = -(m : Int) := ⟨a.natAbs, by omega⟩
    rw [roundI_neg _ _ (by decide)]; omega
  · obtain ⟨m, rfl⟩ := Int.eq_ofNat_of_zero_le ha
    rw [roundI_nat]; omega
theorem roundI_abs (a : Int) (p : Nat) (hp : 0 < p) : (roundI a p).natAbs ≤ a.natAbs := by
  have key : ∀ n : Nat, (2 * n + p) / (2 * p) ≤ n := by
    intro n
    rcases Nat.eq_zero_or_pos n with h | h
    · subst h; rw [Nat.div_eq_of_lt (by omega)]; omega
    · rcases Nat.lt_or_ge p 2 with h3 | h3
      · obtain rfl : p = 1 := by omega
        omega
      · apply Nat.div_le_of_le_mul
        have h1 : p * 1 ≤ p * n := Nat.mul_le_mul_left _ h
        have h2 : 2 * n ≤ p * n := Nat.mul_le_mul_right _ h3
        rw [show 2 * p * n = p * n + p * n from by rw [← Nat.two_mul, Nat.mul_assoc]]
        omega
  rcases Int.lt_or_le a 0 with ha | ha
  · obtain ⟨m, rfl⟩ : ∃ m : Nat, a = -(m : Int) := ⟨a.natAbs, by omega⟩
    rw [roundI_neg _ _ hp, Int.natAbs_neg, Int.natAbs_neg, Int.natAbs_natCast, Int.natAbs_natCast]
    exact key m
  · obtain ⟨m, rfl⟩ := Int.eq_ofNat_of_zero_le ha
    rw [roundI_nat, Int.natAbs_natCast, Int.natAbs_natCast]
    exact key m
theorem fitD_ok {v : Int} {s : Nat} (hs : s ≤ 6) (h1 : -1000000000000000 ≤ v) (h2 : v ≤ 1000000000000000) : (fitD v s).2.2 = true := by
  have h3 := strip_le s v
  have h4 := strip_val s v
  unfold fitD
  rw [if_pos]
  refine ⟨by omega, ?_⟩
  generalize (strip s v).1 = u at *
  have hk := pow10_le6 (k := s - (strip s v).2) (by omega)
  generalize (10 : Int) ^ (s - (strip s v).2) = p at *
  rcases hk with e | e | e | e | e | e | e <;> (rw [e] at h4; omega)
theorem round_ok {a : Int × Nat} (ha : Rt a) {k : Int} (h : 0 ≤ k ∧ k ≤ 6) : (roundD a k).2.2 = true := by
  unfold roundD; rw [if_pos h]
  split
  · rfl
  · have h1 := roundI_abs a.1 (10 ^ (a.2 - k.toNat)) (Nat.pow_pos (by decide))
    have h2 := ha.lo
    have h3 := ha.hi
    exact fitD_ok (by omega) (by omega) (by omega)
theorem V_round {a : Int × Nat} (ha : Rt a) {k : Int} (h : 0 ≤ k ∧ k ≤ 6) : V ((roundD a k).1, (roundD a k).2.1) = roundI (V a) (10 ^ (6 - k.toNat)) * ((10 ^ (6 - k.toNat) : Nat) : Int) := by
  have hok := round_ok ha h
  unfold roundD at hok ⊢
  rw [if_pos h] at hok ⊢
  split at hok
  · rename_i hc
    rw [if_pos hc]
    have h1 := scale_V (a := a) (m := k.toNat) (by omega) (by omega)
    rw [h1]
    have h2 := roundI_mult (a.1 * 10 ^ (k.toNat - a.2)) (10 ^ (6 - k.toNat)) (Nat.pow_pos (by decide))
    have h3 : (((10 ^ (6 - k.toNat) : Nat)) : Int) = (10 : Int) ^ (6 - k.toNat) := by simp
    rw [h3] at h2 ⊢
    rw [h2, ← h1]
  · rename_i hc
    rw [if_neg hc, V_fit (by omega) hok]
    have h3 : (((10 ^ (6 - k.toNat) : Nat)) : Int) = (10 : Int) ^ (6 - k.toNat) := by simp
    rw [h3]
    congr 1
    have h4 := roundI_scale a.1 (10 ^ (a.2 - k.toNat)) (10 ^ (6 - a.2)) (Nat.pow_pos (by decide)) (Nat.pow_pos (by decide))
    have h5 := ha.sc
    rw [← Nat.pow_add, show a.2 - k.toNat + (6 - a.2) = 6 - k.toNat from by omega] at h4
    rw [← h4]
    unfold V
    simp
theorem round_rt {a : Int × Nat} (ha : Rt a) (k : Int) : Rt ((roundD a k).1, (roundD a k).2.1) := by
  unfold roundD
  split
  · split
    · exact ha
    · exact rt_fit _ _
  · exact ⟨by decide, by decide, by decide, .inl rfl⟩
theorem round_again {a : Int × Nat} (k : Int) (h : 0 ≤ k ∧ k ≤ 6) (hok : (roundD a k).2.2 = true) : roundD ((roundD a k).1, (roundD a k).2.1) k = roundD a k := by
  have hle : (((roundD a k).2.1 : Nat) : Int) ≤ k := by
    unfold roundD; rw [if_pos h]
    split
    · rename_i hc; exact hc
    · unfold fitD
      split
      · have := strip_le k.toNat (roundI a.1 (10 ^ (a.2 - k.toNat)))
        dsimp only; omega
      · dsimp only; omega
  generalize roundD a k = r at hle hok ⊢
  unfold roundD
  rw [if_pos h, if_pos hle]
  exact Prod.ext rfl (Prod.ext rfl hok.symm)

theorem cmpI_eq (a b : Int) : cmpI a b = 0 ↔ a = b := by
  unfold cmpI; split
  · constructor <;> intro h <;> omega
  · split
    · constructor <;> intro h <;> omega
    · constructor <;> intro h <;> omega
theorem cmpI_swap (a b : Int) : cmpI b a = -cmpI a b := by
  unfold cmpI
  rcases Int.lt_trichotomy a b with h | h | h
  · rw [if_neg (by omega), if_pos h, if_pos h]; rfl
  · subst h; simp
  · rw [if_pos h, if_neg (by omega), if_pos h]
theorem cmpI_le (a b : Int) : cmpI a b ≤ 0 ↔ a ≤ b := by
  unfold cmpI; split
  · constructor <;> intro h <;> omega
  · split
    · constructor <;> intro h <;> omega
    · constructor <;> intro h <;> omega
theorem cmpI_range (a b : Int) : -1 ≤ cmpI a b ∧ cmpI a b ≤ 1 := by
  unfold cmpI; split
  · omega
  · split <;> omega
theorem cmpI_add (a b c : Int) : cmpI (a + c) (b + c) = cmpI a b := by
  unfold cmpI
  simp only [Int.add_lt_add_iff_right]
theorem cmpI_sub (a b : Int) : cmpI a b = cmpI (a - b) 0 := by
  have := cmpI_add a b (-b)
  rw [Int.add_right_neg] at this
  rw [← this]; rfl
theorem cmpI_mono {a b c d : Int} (h1 : a ≤ b → c ≤ d) (h2 : b ≤ a → d ≤ c) : 0 ≤ cmpI c d * cmpI a b := by
  unfold cmpI
  rcases Int.lt_trichotomy a b with h | h | h
  · have := h1 (by omega)
    rw [if_pos h]
    split
    · decide
    · rw [if_neg (by omega)]; decide
  · subst h; simp
  · have := h2 (by omega)
    rw [if_neg (show ¬ a < b by omega), if_pos h, if_neg (show ¬ c < d by omega)]
    split <;> decide
theorem cmp_parts (a b M : Int) (hM : 0 < M) : cmpI a b = if cmpI (a.tdiv M) (b.tdiv M) ≠ 0 then cmpI (a.tdiv M) (b.tdiv M) else cmpI (a.tmod M) (b.tmod M) := by
  have ea := Int.mul_tdiv_add_tmod a M
  have eb := Int.mul_tdiv_add_tmod b M
  have ha := Int.tmod_lt_of_pos a hM
  have hb := Int.tmod_lt_of_pos b hM
  have sa : 0 ≤ a → 0 ≤ a.tmod M := fun h => Int.tmod_nonneg M h
  have sb : 0 ≤ b → 0 ≤ b.tmod M := fun h => Int.tmod_nonneg M h
  have na : a ≤ 0 → a.tmod M ≤ 0 ∧ -M < a.tmod M := by
    intro h
    obtain ⟨m, rfl⟩ : ∃ m : Nat, a = -(m : Int) := ⟨a.natAbs, by omega⟩
    rw [Int.neg_tmod]
    have h1 := Int.tmod_nonneg M (Int.natCast_nonneg m)
    have h2 := Int.tmod_lt_of_pos (m : Int) hM
    omega
  have nb : b ≤ 0 → b.tmod M ≤ 0 ∧ -M < b.tmod M := by
    intro h
    obtain ⟨m, rfl⟩ : ∃ m : Nat, b = -(m : Int) := ⟨b.natAbs, by omega⟩
    rw [Int.neg_tmod]
    have h1 := Int.tmod_nonneg M (Int.natCast_nonneg m)
    have h2 := Int.tmod_lt_of_pos (m : Int) hM
    omega
  have pa : 0 ≤ a → 0 ≤ a.tdiv M := fun h => Int.tdiv_nonneg h (by omega)
  have pb : 0 ≤ b → 0 ≤ b.tdiv M := fun h => Int.tdiv_nonneg h (by omega)
  have qa : a ≤ 0 → a.tdiv M ≤ 0 := by
    intro h
    obtain ⟨m, rfl⟩ : ∃ m : Nat, a = -(m : Int) := ⟨a.natAbs, by omega⟩
    rw [Int.neg_tdiv]
    have := Int.tdiv_nonneg (Int.natCast_nonneg m) (show 0 ≤ M by omega)
    omega
  have qb : b ≤ 0 → b.tdiv M ≤ 0 := by
    intro h
    obtain ⟨m, rfl⟩ : ∃ m : Nat, b = -(m : Int) := ⟨b.natAbs, by omega⟩
    rw [Int.neg_tdiv]
    have := Int.tdiv_nonneg (Int.natCast_nonneg m) (show 0 ≤ M by omega)
    omega
  generalize a.tdiv M = x at *
  generalize b.tdiv M = y at *
  generalize a.tmod M = r at *
  generalize b.tmod M = t at *
  have key : ∀ {x y r t : Int}, x < y → r < M → (-M < t) → (0 ≤ t ∨ r ≤ 0) → M * x + r < M * y + t := by
    intro x y r t h h1 h2 h3
    have h4 : M * (x + 1) ≤ M * y := Int.mul_le_mul_of_nonneg_left (by omega) (by omega)
    rw [Int.mul_add, Int.mul_one] at h4
    rcases h3 with h3 | h3 <;> omega
  rcases Int.lt_trichotomy x y with h | h | h
  · have hlt : a < b := by
      have h5 := key (x := x) (y := y) (r := r) (t := t) h ha (by rcases Int.le_total 0 b with c | c; have := sb c; omega; exact (nb c).2)
        (by rcases Int.le_total 0 b with c | c
            · exact .inl (sb c)
            · rcases Int.le_total 0 a with d | d
              · have := pa d; have := qb c; omega
              · exact .inr (na d).1)
      omega
    unfold cmpI; rw [if_pos hlt, if_pos h]; simp
  · subst h
    rw [show cmpI x x = 0 from by unfold cmpI; simp]
    simp only [ne_eq, not_true_eq_false, if_false]
    unfold cmpI
    rw [← ea, ← eb]
    simp only [Int.add_lt_add_iff_left]
  · have hlt : b < a := by
      have h5 := key (x := y) (y := x) (r := t) (t := r) h hb (by rcases Int.le_total 0 a with c | c; have := sa c; omega; exact (na c).2)
        (by rcases Int.le_total 0 a with c | c
            · exact .inl (sa c)
            · rcases Int.le_total 0 b with d | d
              · have := pb d; have := qa c; omega
              · exact .inr (nb d).1)
      omega
    unfold cmpI; rw [if_neg (show ¬ a < b by omega), if_pos hlt, if_neg (show ¬ x < y by omega), if_pos h]; simp
theorem parts_V {a : Int × Nat} (h : a.2 ≤ 6) : (V a).tdiv 1000000 = a.1.tdiv (10 ^ a.2) ∧ (V a).tmod 1000000 = a.1.tmod (10 ^ a.2) * 10 ^ (6 - a.2) := by
  have e : (1000000 : Int) = 10 ^ (6 - a.2) * 10 ^ a.2 := by rw [← Int.pow_add, show 6 - a.2 + a.2 = 6 from by omega]; rfl
  have hp : (0 : Int) < 10 ^ (6 - a.2) := Int.pow_pos (by decide)
  unfold V
  rw [e, Int.mul_comm a.1]
  exact ⟨Int.mul_tdiv_mul_of_pos _ _ hp, by rw [Int.mul_tmod_mul_of_pos _ _ hp, Int.mul_comm]⟩
theorem cmpD_parts {a b : Int × Nat} (ha : a.2 ≤ 6) (hb : b.2 ≤ 6) : cmpD a b = if cmpI (a.1.tdiv (10 ^ a.2)) (b.1.tdiv (10 ^ b.2)) ≠ 0 then cmpI (a.1.tdiv (10 ^ a.2)) (b.1.tdiv (10 ^ b.2)) else cmpI (a.1.tmod (10 ^ a.2) * 10 ^ (6 - a.2)) (b.1.tmod (10 ^ b.2) * 10 ^ (6 - b.2)) := by
  rw [cmpD_V, cmp_parts (V a) (V b) 1000000 (by decide), (parts_V ha).1, (parts_V hb).1, (parts_V ha).2, (parts_V hb).2]
end Dm
end Go.Proofs.YtmlmjhlakpgagaaDoor
namespace Go.Proofs.YtmlmjhlakpgagaaDoor
open Go.RowKit Mth Dm

def P10 (k : Nat) : Nat := 10 ^ k
theorem P10_succ (k : Nat) : P10 (k + 1) = P10 k * 10 := Nat.pow_succ ..
theorem P10_pos (k : Nat) : 0 < P10 k := Nat.pow_pos (by decide)
theorem P10_le {i k : Nat} (h : i ≤ k) : P10 i ≤ P10 k := Nat.pow_le_pow_right (by decide) h
theorem P10_int (k : Nat) : ((P10 k : Nat) : Int) = 10 ^ k := by unfold P10; simp
theorem pot_any (k : Nat) (hk : k ≤ 18) (w : World) :
    Calls Tryd.prog 49 #[.int .i64 k] w fun e w' => e = .returned (.int .i64 (P10 k : Nat)) ∧ w = w' := by
  go_enter Tryd.func49, Tryd.ntmps49
  go_wp2
  go_loop [3, 5] (fun u v => ∃ i p : Nat, i ≤ k ∧ v = .int .i64 i ∧ u = .int .i64 p ∧ Hid (p = P10 i)) (fun _ v => k - (intOf v).toNat)
  case atStart => exact ⟨0, 1, by omega, rfl, rfl, Lib.hid rfl⟩
  case round =>
    obtain ⟨i, p, hi, rfl, rfl, HP⟩ := hrel
    by_cases hlt : i < k
    · have hb : p ≤ P10 17 := by rw [HP.out]; exact P10_le (by omega)
      have hb2 : p ≤ 100000000000000000 := hb
      clear hb
      go_wp2
      refine ⟨⟨i + 1, p * 10, by omega, by go_num, by go_num, Lib.hid (by rw [HP.out, P10_succ])⟩, by simp [intOf]; omega⟩
    · obtain rfl : i = k := by omega
      go_wp2
      go_ret
      exact ⟨by rw [HP.out]; rfl, rfl⟩
theorem pot_at (z : Int) (k : Nat) (hz : z = (k : Int)) (hk : k ≤ 18) (w : World) :
    Calls Tryd.prog 49 #[.int .i64 z] w fun e w' => e = .returned (.int .i64 (P10 k : Nat)) ∧ w = w' := by
  subst hz; exact pot_any k hk w
theorem abs_any (n : Int) (w : World) (h1 : -9223372036854775807 ≤ n) (h2 : n ≤ 9223372036854775807) :
    Calls Tryd.prog 47 #[.int .i64 n] w fun e w' => e = .returned (.int .i64 (n.natAbs : Int)) ∧ w = w' := by
  rcases Int.lt_or_le n 0 with h | h
  · obtain ⟨m, rfl⟩ : ∃ m : Nat, n = -(m : Int) := ⟨n.natAbs, by omega⟩
    have hm : 0 < m := by omega
    have hmx : (if -(m : Int) < (m : Int) then (m : Int) else -(m : Int)) = (m : Int) := by rw [if_pos (by omega)]
    rw [Int.natAbs_neg, Int.natAbs_natCast]
    go_enter Tryd.func47, Tryd.ntmps47
    go_wp2
    go_ret
    exact ⟨rfl, rfl⟩
  · obtain ⟨m, rfl⟩ := Int.eq_ofNat_of_zero_le h
    have hmx : (if (m : Int) < -(m : Int) then -(m : Int) else (m : Int)) = (m : Int) := by rw [if_neg (by omega)]
    rw [Int.natAbs_natCast]
    go_enter Tryd.func47, Tryd.ntmps47
    go_wp2
    go_ret
    exact ⟨rfl, rfl⟩
theorem tmod10 (n : Int) : n.tmod 10 = 0 ↔ n % 10 = 0 := by
  rw [← Int.dvd_iff_tmod_eq_zero, Int.dvd_iff_emod_eq_zero]
theorem tdiv10 {n : Int} (h : n % 10 = 0) : n.tdiv 10 = n / 10 := Int.tdiv_eq_ediv_of_dvd (Int.dvd_of_emod_eq_zero h)
theorem rightD_eq (n s : Int) : rightD n s = (decide (0 ≤ s) && decide (s ≤ 6) && decide (-1000000000000000 ≤ n) && decide (n ≤ 1000000000000000) && (s == 0 || n.tmod 10 != 0)) := by
  rw [Bool.eq_iff_iff, rightD_iff]
  simp only [Bool.and_eq_true, decide_eq_true_eq, Bool.or_eq_true, beq_iff_eq, bne_iff_ne, ne_eq, tmod10]
  omega
theorem right_any (n s : Int) (w : World) :
    Calls Tryd.prog 15 #[.agg #[.int .i64 n, .int .i64 s]] w fun e w' => e = .returned (.bool (rightD n s)) ∧ w.grownBy w' none := by
  have hr := rightD_eq n s
  generalize rightD n s = b at hr
  have HR := Lib.hid hr
  clear hr
  go_enter Tryd.func15, Tryd.ntmps15
  go_wp2
  all_goals
    go_ret
    refine ⟨?_, gr_alloc _ _ _⟩
    rw [HR.out]
    show Ending.returned (.bool _) = _
    congr 2
    symm
    first | (simp [*]; done) | (simp [*]; omega) | trace_state
theorem zeros_any (n : Int) (k : Nat) (hk : k ≤ 100) (w : World) (h1 : -9223372036854775808 ≤ n) (h2 : n ≤ 9223372036854775807) :
    Calls Tryd.prog 36 #[.int .i64 n, .int .i64 k] w fun e w' => e = .returned (.tuple #[.int .i64 (strip k n).1, .int .i64 ((strip k n).2 : Nat)]) ∧ w = w' := by
  generalize hq : strip k n = q
  have HQ := Lib.hid hq
  clear hq
  go_enter Tryd.func36, Tryd.ntmps36
  go_wp2
  go_loop [0, 6, 8] (fun u v x => ∃ (i : Nat) (m : Int), i ≤ k ∧ -9223372036854775808 ≤ m ∧ m ≤ 9223372036854775807 ∧ u = .int .i64 m ∧ v = .int .i64 i ∧ x = .int .i64 i ∧ Hid (strip (k - i) m = q)) (fun _ _ v => k - (intOf v).toNat)
  case atStart => exact ⟨0, n, by omega, h1, h2, rfl, rfl, rfl, HQ⟩
  case round =>
    obtain ⟨i, m, hi, b1, b2, rfl, rfl, rfl, HS⟩ := hrel
    by_cases hlt : i < k
    · have hst := HS.out
      rw [show k - i = (k - (i + 1)) + 1 from by omega] at hst
      simp only [strip] at hst
      by_cases hz : m % 10 = 0
      · have ht : (m.tmod 10 != 0) = false := by rw [bne_eq_false_iff_eq, tmod10]; exact hz
        rw [if_pos hz] at hst
        have HST := Lib.hid hst
        have HZ := Lib.hid (tdiv10 hz)
        clear hst hz
        go_wp2
        refine ⟨⟨i + 1, m / 10, by omega, by omega, by omega, by rw [HZ.out], by go_num, by go_num, HST⟩, by simp [intOf]; omega⟩
      · have ht : (m.tmod 10 != 0) = true := by rw [bne_iff_ne, ne_eq, tmod10]; exact hz
        rw [if_neg hz] at hst
        have HST := Lib.hid hst
        clear hst hz
        go_wp2
        go_ret2
        exact ⟨by rw [← HST.out]; exact congrArg (fun z : Int => Ending.returned (.tuple #[.int .i64 m, .int .i64 z])) (by omega), rfl⟩
    · obtain rfl : i = k := by omega
      have hst := HS.out
      rw [Nat.sub_self] at hst
      have HST := Lib.hid hst
      clear hst
      go_wp2
      go_ret2
      exact ⟨by rw [← HST.out]; show Ending.returned (.tuple #[_, .int .i64 _]) = _; simp [strip], rfl⟩
end Go.Proofs.YtmlmjhlakpgagaaDoor
