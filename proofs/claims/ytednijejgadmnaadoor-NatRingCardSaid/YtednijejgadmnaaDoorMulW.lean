/- The contract of nat.addMultiple: a multiple of a slice of words is added to another slice in place; the carry is returned. -/
import Derived.Test.YtednijejgadmnaaDoorAddTo
import Derived.Test.YtednijejgadmnaaDoorArith
import Derived.Test.YtednijejgadmnaaDoorShelf
namespace Go.Proofs.YtednijejgadmnaaDoor
open Go.RowKit Mth

def mulLo (x y : Nat) : Nat := x * y % W64
def mulHi (x y : Nat) : Nat := x * y / W64
theorem mul_split (x y : Nat) : mulLo x y + W64 * mulHi x y = x * y := Nat.mod_add_div _ _
theorem mulLo_lt (x y : Nat) : mulLo x y < W64 := Nat.mod_lt _ W64_pos
theorem mul64_run (x y : Nat) (hx : x < W64) (hy : y < W64) (w : World) :
    Calls Tryd.prog 74 #[.int .u64 (x : Int), .int .u64 (y : Int)] w fun e w' => e = .returned (.tuple #[.int .u64 ((mulHi x y : Nat) : Int), .int .u64 ((mulLo x y : Nat) : Int)]) ∧ w = w' :=
  (Tryd.bits_Mul64 x y hx hy w).mono fun _ _ ⟨h1, h2⟩ => ⟨h1, h2.symm⟩
/-- One step: the new digit and the new carry. -/
def stepLo (x f t c : Nat) : Nat := addLo (addLo (mulLo x f) t 0) c 0
def stepHi (x f t c : Nat) : Nat := mulHi x f + addHi (mulLo x f) t 0 + addHi (addLo (mulLo x f) t 0) c 0
theorem step_split (x f t c : Nat) : stepLo x f t c + W64 * stepHi x f t c = x * f + t + c := by
  have h1 := mul_split x f
  have h2 := add_split (mulLo x f) t 0
  have h3 := add_split (addLo (mulLo x f) t 0) c 0
  unfold stepLo stepHi
  rw [Nat.mul_add, Nat.mul_add]
  omega
theorem stepLo_lt (x f t c : Nat) : stepLo x f t c < W64 := addLo_lt _ _ _
theorem stepHi_lt {x f t c : Nat} (hx : x < W64) (hf : f < W64) (ht : t < W64) (hc : c < W64) : stepHi x f t c < W64 := by
  have h := step_split x f t c
  have h1 : x * f ≤ (W64 - 1) * (W64 - 1) := Nat.mul_le_mul (by omega) (by omega)
  have h2 : (W64 - 1) * (W64 - 1) + (W64 - 1) + (W64 - 1) < W64 * W64 := by decide
  refine Nat.lt_of_mul_lt_mul_left (a := W64) ?_
  omega
theorem carry_cast {a b c : Nat} (h : a + b + c < W64) : IntKind.u64.wrap (IntKind.u64.wrap ((a : Int) + (b : Int)) + (c : Int)) = ((a + b + c : Nat) : Int) := by
  rw [← Int.natCast_add, wrap_u64 (a + b) (by omega), ← Int.natCast_add, wrap_u64 _ h]

def MulInv (xs ys zs : List Nat) (off n o2 f i c : Nat) : Prop := Wrote xs zs off n ∧ Dg W64 zs ∧ c < W64 ∧ (∀ j, i ≤ j → gt zs (off + j) = gt xs (off + j)) ∧ vs W64 zs off i + W64 ^ i * c = vs W64 xs off i + vs W64 ys o2 i * f
theorem MulInv.next {xs ys zs : List Nat} {off n o2 f i c : Nat} (h : MulInv xs ys zs off n o2 f i c) (hy : Dg W64 ys) (hf : f < W64) (hi : i < n) (hx : off + n ≤ xs.length) :
    MulInv xs ys (zs.set (off + i) (stepLo (gt ys (o2 + i)) f (gt zs (off + i)) c)) off n o2 f (i + 1) (stepHi (gt ys (o2 + i)) f (gt zs (off + i)) c) := by
  obtain ⟨h1, h2, h3, h4, h5⟩ := h
  have hl : off + i < zs.length := by rw [h1.len]; omega
  refine ⟨h1.step (by omega) (by omega) (by omega), h2.set (stepLo_lt _ _ _ _), stepHi_lt (hy _) hf (h2 _) h3, fun j hj => ?_, ?_⟩
  · rw [gt_set hl, if_neg (by omega)]; exact h4 j (by omega)
  · have hs := step_split (gt ys (o2 + i)) f (gt zs (off + i)) c
    simp only [vs]
    rw [gt_set hl, if_pos rfl, vs_congr (ys := zs) (off' := off) (fun j hj => by rw [gt_set hl, if_neg (by omega)])]
    rw [h4 i (Nat.le_refl _)] at hs ⊢
    have e : W64 ^ i * stepLo (gt ys (o2 + i)) f (gt xs (off + i)) c + W64 ^ (i + 1) * stepHi (gt ys (o2 + i)) f (gt xs (off + i)) c = W64 ^ i * gt ys (o2 + i) * f + W64 ^ i * gt xs (off + i) + W64 ^ i * c := by
      rw [Nat.pow_succ, Nat.mul_assoc, ← Nat.mul_add, hs, Nat.mul_add, Nat.mul_add, Nat.mul_assoc]
    rw [Nat.add_mul]
    omega

/-- What addMultiple leaves. -/
def AddedM (xs zs : List Nat) (off n c y : Nat) : Prop := Wrote xs zs off n ∧ Dg W64 zs ∧ c < W64 ∧ vs W64 zs off n + W64 ^ n * c = vs W64 xs off n + y
theorem addMultiple_any (b1 o1 n1 c1 b2 o2 n2 c2 f : Nat) (xs ys : List Nat) (w : World) (hb : Blk .u64 57 w b1 xs) (hn : o1 + n1 ≤ xs.length) (hd : Dg W64 xs)
    (hb2 : Blk .u64 57 w b2 ys) (hn2 : o2 + n2 ≤ ys.length) (hd2 : Dg W64 ys) (hne : b2 ≠ b1) (hle : n2 ≤ n1) (hf : f < W64) (hm : n1 ≤ maxLen) :
    Calls Tryd.prog 56 #[.slice (some ⟨b1, o1, none⟩) n1 c1, .slice (some ⟨b2, o2, none⟩) n2 c2, .int .u64 (f : Int)] w fun e w' => ∃ c zs, e = .returned (.int .u64 ((c : Nat) : Int)) ∧ Blk .u64 57 w' b1 zs ∧ w.grownBy w' (some b1) ∧ AddedM xs zs o1 n2 c (vs W64 ys o2 n2 * f) := by
  unfold maxLen at hm
  have ha := add64_run0
  have hy0 : MulInv xs ys xs o1 n2 o2 f 0 0 := ⟨Wrote.refl _ _ _, hd, W64_pos, fun _ _ => rfl, by simp [vs]⟩
  go_enter Tryd.func56, Tryd.ntmps56
  go_wp2
  go_loopw [7, 15] (fun v j wr => ∃ (i t : Nat) (zs : List Nat), i ≤ n2 ∧ j = .int .i64 i ∧ v = .int .u64 t ∧ Blk .u64 57 wr b1 zs ∧ w.grownBy wr (some b1) ∧ MulInv xs ys zs o1 n2 o2 f i t) (fun _ j _ => n2 - (intOf j).toNat)
  case atStart => exact ⟨0, 0, xs, Nat.zero_le _, rfl, rfl, hb, World.grownBy.refl _ _, hy0⟩
  case round =>
    obtain ⟨i, t, zs, hi, rfl, rfl, hbz, hg, hinv⟩ := hrel
    have hlz : zs.length = xs.length := hinv.1.len
    have ht : t < W64 := hinv.2.2.1
    have hb2r := hb2.kept hg (by simpa using hne)
    have hcell2 : i < n2 → wr.cell? ⟨b2, o2 + i, none⟩ = some (.int .u64 ((gt ys (o2 + i) : Nat) : Int)) := fun h => hb2r.cell (by omega)
    have hcell : i < n2 → wr.cell? ⟨b1, o1 + i, none⟩ = some (.int .u64 ((gt zs (o1 + i) : Nat) : Int)) := fun h => hbz.cell (by omega)
    have hfr : wr.frozen? ⟨b1, o1 + i, none⟩ = false := hbz.frozen _
    have hyi := hd2 (o2 + i)
    have hzi := hinv.2.1 (o1 + i)
    by_cases hlt : i < n2
    · have hnx := hinv.next hd2 hf hlt (by omega : o1 + n2 ≤ xs.length)
      have hhi := stepHi_lt hyi hf hzi ht
      have HC := Lib.hid (carry_cast hhi)
      go_wp2_with fail
      refine (mul64_run _ _ hyi hf _).mono ?_
      rintro e w' ⟨rfl, rfl⟩
      go_wp2
      go_roundw
      case rel => exact ⟨i + 1, stepHi (gt ys (o2 + i)) f (gt zs (o1 + i)) t, _, by omega, by go_num, by rw [HC.out]; rfl, hbz.set _ _, gr_trans hg (gr_set _ _ _ _) (.inr rfl) (.inr (.inl rfl)), hnx⟩
      case measure => simp [intOf]; omega
    · obtain rfl : i = n2 := by omega
      go_wp2
      go_ret
      exact ⟨t, zs, rfl, hbz, hg, hinv.1, hinv.2.1, ht, hinv.2.2.2.2⟩
end Go.Proofs.YtednijejgadmnaaDoor
