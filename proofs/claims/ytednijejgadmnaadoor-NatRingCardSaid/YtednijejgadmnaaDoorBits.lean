/- The contract of nat.bitsFromTop: the binary digits of a number, the most significant one first. -/
import Derived.RangeFuncNested
import Derived.RangeFuncBound
import Derived.RangeFuncCalls
import Derived.RangeFuncLeaves
import Derived.Shelf.Abstract
import Derived.Shelf.RegionOpen
import Derived.WalkKit
import Derived.OwnWalkIn
import Derived.TacticsInMore
import Derived.LoopNIn
import Derived.LoopIn
import Derived.Test.YtednijejgadmnaaDoorEven
namespace Go.Proofs.YtednijejgadmnaaDoor
open Go.RowKit Go.Shelf Mth
attribute [local go_sem] Oper.semAt_some

/-- The i-th binary digit from the top. -/
def bitTop (N i : Nat) : Bool := decide (N / 2 ^ (bitsN N - 1 - i) % 2 = 1)
def bitsTop (N i : Nat) : List Bool := (List.range i).map (bitTop N)
theorem bitsTop_succ (N i : Nat) : bitsTop N (i + 1) = bitsTop N i ++ [bitTop N i] := by simp [bitsTop, List.range_succ]
theorem length_bitsTop (N i : Nat) : (bitsTop N i).length = i := by simp [bitsTop]
/-- What a round must keep for the iterator: its box. -/
def KpBox (Be : Nat) (W W' : World) : Prop := ∀ v, W.cell? ⟨Be, 0, none⟩ = some v → W'.cell? ⟨Be, 0, none⟩ = some v

theorem bitsN_le (e : ByteArray) : bitsN (num e.data.toList) ≤ 8 * e.size := by
  have h := num_lt e.data.toList
  rw [len_toList, show (256 : Nat) = 2 ^ 8 from rfl, ← Nat.pow_mul] at h
  unfold bitsN
  split
  · omega
  · rename_i h0
    have := (Nat.log2_lt h0).2 h
    omega

theorem byte_at {L : List UInt8} {q : Nat} (h : q < L.length) : (L[L.length - 1 - q]'(by omega)).toNat = num L / 256 ^ q % 256 := by
  have e : L = L.take (L.length - 1 - q) ++ (L[L.length - 1 - q]'(by omega) :: L.drop (L.length - q)) := by
    conv => lhs; rw [← List.take_append_drop (L.length - 1 - q) L]
    rw [List.drop_eq_getElem_cons (by omega), show L.length - 1 - q + 1 = L.length - q from by omega]
  have hl : (L.drop (L.length - q)).length = q := by rw [List.length_drop]; omega
  have hr := num_lt (L.drop (L.length - q))
  rw [hl] at hr
  have hd := (L[L.length - 1 - q]'(by omega)).toNat_lt
  generalize hx : L[L.length - 1 - q]'(by omega) = d at *
  have hn : num L = (num (L.take (L.length - 1 - q)) * 256 + d.toNat) * 256 ^ q + num (L.drop (L.length - q)) := by
    conv => lhs; rw [e]
    rw [num_append, num_cons, List.length_cons, hl, Nat.pow_succ, Nat.add_mul, Nat.mul_assoc, Nat.mul_comm 256]
    omega
  rw [hn, Nat.mul_comm _ (256 ^ q), Nat.mul_add_div (Nat.pow_pos (by decide)), Nat.div_eq_of_lt hr]
  omega
theorem bit_of_byte (N q r : Nat) (hr : r < 8) : N / 256 ^ q % 256 / 2 ^ r % 2 = N / 2 ^ (8 * q + r) % 2 := by
  have h1 : 256 = 2 ^ r * (2 * 2 ^ (7 - r)) := by rw [← Nat.pow_succ', ← Nat.pow_add, show r + (7 - r).succ = 8 from by omega]
  generalize hX : N / 256 ^ q = X
  rw [show X % 256 = X % (2 ^ r * (2 * 2 ^ (7 - r))) from by rw [← h1], Nat.mod_mul_right_div_self, Nat.mod_mod_of_dvd _ (Nat.dvd_mul_right _ _), ← hX, Nat.pow_add, ← Nat.div_div_eq_div_mul, Nat.pow_mul]
theorem bit_walk {e : ByteArray} {k m : Nat} (h : e.size - 1 - m / 8 < e.size) (hm : k = bitsN (num e.data.toList) ∧ m + 1 ≤ k ∧ k ≤ 8 * e.size) :
    bitTop (num e.data.toList) (k - (m + 1)) = (bits BinOp.and IntKind.u8 ((e[e.size - 1 - m / 8].toNat : Int) / (2 : Int) ^ (m % 8)) 1 == 1) := by
  obtain ⟨hk, h1, h2⟩ := hm
  have hq : m / 8 < e.data.toList.length := by rw [len_toList]; omega
  have hb := byte_at hq
  have hd : e[e.size - 1 - m / 8] = e.data.toList[e.data.toList.length - 1 - m / 8]'(by omega) := rfl
  rw [hd, hb]
  have hpc : ((2 : Int) ^ (m % 8)) = ((2 ^ (m % 8) : Nat) : Int) := by simp
  rw [hpc, ← Int.natCast_ediv]
  have hlt : num e.data.toList / 256 ^ (m / 8) % 256 / 2 ^ (m % 8) < 256 := Nat.lt_of_le_of_lt (Nat.div_le_self _ _) (Nat.mod_lt _ (by decide))
  have hbit := bit_of_byte (num e.data.toList) (m / 8) (m % 8) (Nat.mod_lt _ (by decide))
  rw [show 8 * (m / 8) + m % 8 = m from by omega] at hbit
  unfold bitTop
  rw [← hk, show k - 1 - (k - (m + 1)) = m from by omega, ← hbit]
  generalize num e.data.toList / 256 ^ (m / 8) % 256 / 2 ^ (m % 8) = c at hlt
  have hm1 := bits_mask .u8 8 (by decide) wraps_u8 1 (by decide) (c : Int) (by omega) (by omega)
  rw [show ((2 : Int) ^ 1 - 1) = 1 from by decide] at hm1
  rw [hm1, Bool.eq_iff_iff, decide_eq_true_eq, beq_iff_eq]
  omega

set_option maxRecDepth 100000 in
set_option maxHeartbeats 2000000 in
theorem bits_stops (n : Nat) (Be : Nat) (e : ByteArray) (w : World) (hc : w.cell? ⟨Be, 0, none⟩ = some (.string e)) (hsz : e.size ≤ 1000000000000) :
    SeqStopsK Fence.wide n Tryd.prog 98 #[.pointer (some ⟨Be, 0, none⟩)] (fun x : Bool => #[Value.bool x]) (KpBox Be) (fun xs => xs = bitsTop (num e.data.toList) (bitsN (num e.data.toList))) (fun _ => True) (bitsN (num e.data.toList)) w := fun l J Jx W hb _ _ hY h0 => by
  have hcW : W.cell? ⟨Be, 0, none⟩ = some (.string e) := by
    rw [hb.cell (p := ⟨Be, 0, none⟩) (World.block_lt_of_cell? w _ hc)]; exact hc
  generalize hN : num e.data.toList = N at *
  generalize hK : bitsN N = k at *
  have HN := Lib.hid hN
  have HK := Lib.hid hK
  clear hN hK
  refine callsIn_of_wp Tryd.func98 rfl trivial ?_ rfl
  simp only [Tryd.ntmps98, List.size_toArray, List.length_cons, List.length_nil, Nat.reduceAdd, Nat.reduceSub, Array.replicate_succ, Array.replicate_zero, List.push_toArray, List.append_toArray, List.nil_append, List.cons_append]
  gi_wp2
  refine ⟨trivial, fun h => absurd h (by decide), ?_⟩
  refine (callsIn_wide.2 (bits_any e _ hsz)).mono ?_
  rintro e' w' ⟨rfl, rfl⟩
  rw [HN.out, HK.out]
  have hkb : k ≤ 8 * e.size := by rw [← HK.out, ← HN.out]; exact bitsN_le e
  gi_wp2
  gi_loopw [3] (fun p wr => ∃ m : Nat, m ≤ k ∧ p = .int .i64 ((m : Int) - 1) ∧ J (bitsTop N (k - m)) wr ∧ wr.cell? ⟨Be, 0, none⟩ = some (.string e)) (fun p _ => (intOf p + 1).toNat)
  case atStart => exact ⟨k, Nat.le_refl _, rfl, by rw [Nat.sub_self]; exact h0, hcW⟩
  case round =>
    obtain ⟨m, hm, rfl, hJ, hce⟩ := hrel
    rcases m with _ | m
    · gi_wp2
      go_end0
      refine ⟨⟨_, rfl⟩, .inl ⟨_, rfl, ?_⟩⟩
      rw [Nat.sub_zero] at hJ
      exact hJ
    · rw [show (((m + 1 : Nat) : Int) - 1) = (m : Int) from by omega]
      obtain ⟨fn, tmps, assign, body, hy, hR⟩ := hY (bitsTop N (k - (m + 1))) (bitTop N (k - (m + 1))) wr hJ (by rw [length_bitsTop]; omega)
      have hlt : e.size - 1 - m / 8 < e.size := by omega
      have hbt : bitTop N (k - (m + 1)) = (bits BinOp.and IntKind.u8 ((e[e.size - 1 - m / 8].toNat : Int) / (2 : Int) ^ (m % 8)) 1 == 1) := by
        rw [← HN.out]
        exact bit_walk hlt ⟨by rw [HN.out, HK.out], by omega, hkb⟩
      rw [hbt] at hy
      have HBT := Lib.hid hbt
      clear hbt
      gi_wp2
      refine ⟨fun h => absurd h (by decide), ?_⟩
      refine hR.mono ?_
      rintro e' W3 (⟨rfl, hJ3, hk3⟩ | ⟨rfl, hJx3⟩)
      · have hc3 := hk3 _ hce
        have hJ4 : J (bitsTop N (k - m)) W3 := by
          rw [show k - m = k - (m + 1) + 1 from by omega, bitsTop_succ]; exact hJ3
        clear hJ3 hk3 hce hy
        gi_wp2
        refine ⟨⟨m, by omega, rfl, hJ4, hc3⟩, by simp [intOf]⟩
      · clear hy
        gi_wp2
        refine bodyPost_ret (results_none rfl _ _ _) rfl ?_
        exact ⟨⟨_, rfl⟩, .inr ⟨_, trivial, hJx3⟩⟩
end Go.Proofs.YtednijejgadmnaaDoor
