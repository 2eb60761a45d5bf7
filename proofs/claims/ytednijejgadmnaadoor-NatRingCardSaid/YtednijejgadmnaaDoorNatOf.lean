/- The contract of nat.natOf: the number with given words, as a right string of bytes. -/
import Derived.Test.YtednijejgadmnaaDoorWords
import Derived.Test.YtednijejgadmnaaDoorMthB
import Derived.Test.YtednijejgadmnaaDoorShelf
import Derived.Laws.BytesArg
namespace Go.Proofs.YtednijejgadmnaaDoor
open Go.RowKit Mth

theorem infoB : (Tryd.prog.info? 5).map (fun i => (i.zero, i.size, i.bytes)) = some (some (.int .u8 0), 1, 1) := by kernel_rfl

theorem nums_u8s (xs : List Nat) : strOfNums (xs.map fun v : Nat => (v : Int)) = ⟨(u8s xs).toArray⟩ := by
  simp [strOfNums, u8s]

theorem natOf_any (b off n c : Nat) (xs : List Nat) (w : World) (hb : Blk .u64 57 w b xs) (hn : off + n ≤ xs.length) (hd : Dg W64 xs) (hc : n ≤ c) (hm : c ≤ maxLen) (hsm : n ≤ 1099511627776) :
    Calls Tryd.prog 29 #[.slice (some ⟨b, off, none⟩) n c] w fun e w' => e = .returned (.string ⟨(enc (vs W64 xs off n)).toArray⟩) ∧ w.grownBy w' none := by
  obtain ⟨i0, hi, hz0, hz1, hz2⟩ := info_parts infoB
  have hm' := hm
  unfold maxLen at hm'
  go_enter Tryd.func29, Tryd.ntmps29
  go_wp2_with fail
  refine (trimmed_any b off n c xs w hb hn hc hm).mono ?_
  rintro e w' ⟨⟨m, rfl, hmn, hz, htop⟩, rfl⟩
  have hv : vs W64 xs off n = vs W64 xs off m := by
    obtain ⟨k, rfl⟩ : ∃ k, n = m + k := ⟨n - m, by omega⟩
    rw [vs_split, vs_zero (n := k) (fun i hi => by rw [Nat.add_assoc]; exact hz _ (by omega) (by omega))]; simp
  have HV := Lib.hid hv
  have HZ := Lib.hid hz
  have HT := Lib.hid htop
  clear hv hz htop
  by_cases hm0 : m = 0
  · subst hm0
    go_wp2
    go_ret
    refine ⟨?_, World.grownBy.refl _ _⟩
    rw [HV.out]
    simp [vs, enc_zero]
  · have hcell : w.cell? ⟨b, off + (m - 1), none⟩ = some (.int .u64 ((gt xs (off + (m - 1)) : Nat) : Int)) := hb.cell (by omega)
    obtain ⟨x, hx⟩ : ∃ x, x = gt xs (off + (m - 1)) := ⟨_, rfl⟩
    have hxW := hd (off + (m - 1))
    rw [← hx] at hcell hxW
    have HX := Lib.hid hx
    clear hx
    have hx0 : x ≠ 0 := by rcases HT.out with h | h; exact absurd h hm0; rw [HX.out]; exact h
    have hm1 : ((m : Int) == 0) = false := by simp; omega
    have hbl := byteLen hxW hx0
    have hb64 := (bitLen_bounds hxW hx0).2.1
    generalize hB : Lib.bitLen x = B at hbl hb64
    have HB := Lib.hid hB
    clear hB
    go_wp2_with fail
    refine (Tryd.bits_Len64 x _ (by omega) (by rw [W64_eq] at hxW; omega)).mono ?_
    rintro e w' ⟨rfl, rfl⟩
    rw [show Lib.bitLen ((x : Int).toNat) = B from HB.out]
    obtain ⟨L, hL⟩ : ∃ L, L = 8 * (m - 1) + (B + 7) / 8 := ⟨_, rfl⟩
    have hL1 : 1 ≤ L := by omega
    have hL2 : L ≤ 8 * m := by omega
    have hL3 : 8 * (m - 1) < L := by omega
    have HL := Lib.hid hL
    clear hL
    go_wp2_with (at_make; refine wpList_make_full _ rfl _ _ 22 rfl 0 5 i0 (.int .u8 0) 1 Tryd.underlying22 hi hz0 hz1 .i64 .i64 _ _ L rfl rfl ?_ ?_ ?_ ?_ (Nat.zero_le _) ?_)
    case refine_1 => have := HL.out; omega
    case refine_2 => have := HL.out; omega
    case refine_3 => rw [hz2]; omega
    case refine_4 => unfold maxLen; omega
    intro w1 hown hgr
    obtain ⟨N, hN⟩ : ∃ N, N = vs W64 xs off m := ⟨_, rfl⟩
    have HNN := Lib.hid hN
    clear hN
    have hb0 := blk_made' hown
    rw [← fillN_zero L N] at hb0
    have hbw := hb.kept hgr (by simp)
    have hgw : w'.heap.size ≠ b := by have := hb.lt; omega
    clear hown hi hz0 hz1 hz2 hcell hb
    go_wp2
    go_loopw [30] (fun j wr => ∃ i : Nat, i ≤ L ∧ j = .int .i64 i ∧ Blk .u8 5 wr w'.heap.size (fillN L N i) ∧ Blk .u64 57 wr b xs ∧ w'.grownBy wr none) (fun j _ => L - (intOf j).toNat)
    case atStart => exact ⟨0, Nat.zero_le _, rfl, hb0, hbw, hgr⟩
    case round =>
      obtain ⟨i, hile, rfl, hbz, hbr, hg⟩ := hrel
      by_cases hlt : i < L
      · have hcell : wr.cell? ⟨b, off + (L - 1 - i) / 8, none⟩ = some (.int .u64 ((gt xs (off + (L - 1 - i) / 8) : Nat) : Int)) := hbr.cell (by omega)
        have hfr : wr.frozen? ⟨w'.heap.size, i, none⟩ = false := hbz.frozen _
        have hold : wr.cell? ⟨w'.heap.size, i, none⟩ = some (.int .u8 ((gt (fillN L N i) i : Nat) : Int)) := hbz.cell (by rw [length_fillN]; exact hlt)
        have hbyte : gt xs (off + (L - 1 - i) / 8) / 256 ^ ((L - 1 - i) % 8) % 256 = N / 256 ^ (L - 1 - i) % 256 := by
          rw [byte_of_word (m := m) hd HNN.out.symm (by omega) (Nat.mod_lt _ (by decide)), show 8 * ((L - 1 - i) / 8) + (L - 1 - i) % 8 = L - 1 - i from by omega]
        have hset := fillN_set (N := N) hlt hbyte
        have HS := Lib.hid hset
        clear hb0 hbw hbyte hset
        go_wp2
        refine ⟨⟨i + 1, by omega, by go_num, ?_, hbr.setOther (by omega) _ _, gr_trans hg (gr_set _ _ _ _) (.inl rfl) (.inr (.inr fun k e => by cases e; exact Nat.le_refl _))⟩, by simp [intOf]; omega⟩
        rw [byte_word, ← HS.out]
        exact hbz.set _ _
      · obtain rfl : i = L := by omega
        have hcv := fun (dst : TypeId) (hd : Tryd.prog.underlying dst = some .string) => run_convert_bytes_arg (P := Tryd.prog) wr 22 5 Tryd.underlying22 Tryd.underlying5 w'.heap.size 0 i i ((fillN i N i).map fun v : Nat => (v : Int)) (by simp [length_fillN]) (fun j hj => by
          rw [Nat.zero_add, hbz.cell (by rw [length_fillN]; exact hj)]
          simp [gt, List.getD, hj, length_fillN]) dst hd
        have hc2 := hcv 24 Tryd.underlying24
        generalize hstr : strOfNums ((fillN i N i).map fun v : Nat => (v : Int)) = str at hc2
        have HSTR := Lib.hid hstr
        clear hcv hstr hb0 hbw
        go_wp2
        go_ret
        refine ⟨?_, hg⟩
        have hmm : m - 1 + 1 = m := by omega
        have htb := top_bounds (off := off) hd (HX.out.symm) hx0
        rw [hmm, ← HNN.out, HB.out, ← HL.out] at htb
        have henc : u8s (bytesN i N) = enc N := u8s_bytesN (.inl htb.1) htb.2
        rw [HV.out, ← HNN.out, ← henc, ← fillN_all, ← nums_u8s, HSTR.out]; rfl
end Go.Proofs.YtednijejgadmnaaDoor
