/- Contracts of the program and of the reference, part 3: Words, NatOf, Copy, Sum, Prod, Cmp, Sub, Ints, Int. -/
import Derived.Test.YteajpefbmiiioaaGreatDoorBRat2
import Derived.RegionTactic
import Derived.BigRegion
import Derived.Laws.BytesArg
namespace Go.Proofs.YteajpefbmiiioaaGreatDoor
open Go.RowKit Mth

theorem infoW : (Tryz.prog.info? 96).map (fun i => (i.zero, i.size, i.bytes)) = some (some (.int .u64 0), 1, 8) := by kernel_rfl
def bytesOf (s : ByteArray) : ByteArray := ⟨(canon s.data.toList).toArray⟩

theorem wordsOf_any (s : ByteArray) (w : World) (hs : s.size ≤ 1099511627776) :
    Calls Tryz.prog 71 #[.string s] w fun e w' => ∃ b xs, e = .returned (.slice (some ⟨b, 0, none⟩) xs.length xs.length) ∧ w.heap.size ≤ b ∧ Blk .u64 96 w' b xs ∧ w.grownBy w' none ∧ Words xs (num s.data.toList) ∧ xs.length ≤ 137438953473 := by
  have hls : (bytesOf s).size ≤ s.size := canon_length_le _
  have hrt : Rt (bytesOf s).data.toList := rt_canon _
  have hnum : num (bytesOf s).data.toList = num s.data.toList := num_canon _
  generalize ht : (bytesOf s) = t at hls hrt hnum
  have HT := Lib.hid ht
  have HR := Lib.hid hrt
  have HV := Lib.hid hnum
  clear ht hrt hnum
  obtain ⟨i0, hi, hz0, hz1, hz2⟩ := info_parts infoW
  obtain ⟨n, hn⟩ : ∃ n, n = (t.size + 7) / 8 := ⟨_, rfl⟩
  have HN := Lib.hid hn
  have hn1 : n * 8 ≤ t.size + 7 := by omega
  have hn2 : t.size ≤ n * 8 := by omega
  clear hn
  go_enter Tryz.func71, Tryz.ntmps71
  go_wp2_with fail
  refine (withoutZeros_any s _).mono ?_
  rintro e w' ⟨rfl, rfl⟩
  rw [show (⟨(canon s.data.toList).toArray⟩ : ByteArray) = t from HT.out]
  go_wp2_with (at_make; refine wpList_make_full _ rfl _ _ 81 rfl 0 96 i0 (.int .u64 0) 1 Tryz.underlying81 hi hz0 hz1 .i64 .i64 _ _ n rfl rfl ?_ ?_ ?_ ?_ (Nat.zero_le _) ?_)
  case refine_1 => have := HN.out; omega
  case refine_2 => have := HN.out; omega
  case refine_3 => rw [hz2]; omega
  case refine_4 => unfold maxLen; omega
  intro w1 hown hgr
  have hb0 := blk_made' hown
  rw [← wordsN_zero, ← front_zero t.data.toList] at hb0
  clear hown hi hz0 hz1 hz2
  go_wp2
  go_loopw [16] (fun j wr => ∃ i : Nat, i ≤ t.size ∧ j = .int .i64 i ∧ Blk .u64 96 wr w.heap.size (wordsN n (front t.data.toList i)) ∧ w.grownBy wr none) (fun j _ => t.size - (intOf j).toNat)
  case atStart => exact ⟨0, Nat.zero_le _, rfl, hb0, hgr⟩
  case round =>
    obtain ⟨i, hile, rfl, hbz, hg⟩ := hrel
    by_cases hlt : i < t.size
    · have hlen : (wordsN n (front t.data.toList i)).length = n := length_wordsN _ _
      have hcell : wr.cell? ⟨w.heap.size, (t.size - 1 - i) / 8, none⟩ = some (.int .u64 ((gt (wordsN n (front t.data.toList i)) ((t.size - 1 - i) / 8) : Nat) : Int)) := hbz.cell (by omega)
      have hfr : wr.frozen? ⟨w.heap.size, (t.size - 1 - i) / 8, none⟩ = false := hbz.frozen _
      have hq : (t.size - 1 - i) / 8 < n := by omega
      have hres : (wordsN n (front t.data.toList i)).set ((t.size - 1 - i) / 8) (gt (wordsN n (front t.data.toList i)) ((t.size - 1 - i) / 8) ||| (t[i].toNat * 256 ^ ((t.size - 1 - i) % 8))) = wordsN n (front t.data.toList (i + 1)) :=
        words_round t.data.toList (i := i) (q := (t.size - 1 - i) / 8) (r := (t.size - 1 - i) % 8) hlt (by show t.size - 1 - i = _; omega) (Nat.mod_lt _ (by decide)) hq rfl
      have hor := or_word (gt (wordsN n (front t.data.toList i)) ((t.size - 1 - i) / 8)) t[i].toNat ((t.size - 1 - i) % 8) (dg_wordsN _ _ _) t[i].toNat_lt (Nat.mod_lt _ (by decide))
      have HRES := Lib.hid hres
      have HOR := Lib.hid hor
      clear hb0 hres hor
      go_wp2
      go_region
      go_wp2
      refine ⟨⟨i + 1, by omega, by go_num, ?_, ?_⟩, by simp [intOf]; omega⟩
      · rw [HOR.out, ← HRES.out]
        exact (hbz.set _ _).drew
      · exact gr_trans (gr_trans hg (gr_set _ _ _ _) (.inl rfl) (.inr (.inr fun k e => by cases e; exact Nat.le_refl _))) (gr_drew _ none) (.inl rfl) (.inl rfl)
    · obtain rfl : i = t.size := by omega
      have hw := words_of (HR.out)
      rw [HV.out] at hw
      go_wp2
      go_ret
      have hl : (wordsN n (front t.data.toList t.size)).length = n := length_wordsN _ _
      refine ⟨w.heap.size, wordsN n (front t.data.toList t.size), ?_, Nat.le_refl _, hbz, hg, ?_, by rw [hl]; omega⟩
      · rw [hl]; rfl
      · rw [show front t.data.toList t.size = num t.data.toList from front_all _, HN.out, HV.out]
        rw [HV.out] at *
        exact hw
end Go.Proofs.YteajpefbmiiioaaGreatDoor
namespace Go.Proofs.YteajpefbmiiioaaGreatDoor
open Go.RowKit Mth

theorem infoB : (Tryz.prog.info? 5).map (fun i => (i.zero, i.size, i.bytes)) = some (some (.int .u8 0), 1, 1) := by kernel_rfl

theorem nums_u8s (xs : List Nat) : strOfNums (xs.map fun v : Nat => (v : Int)) = ⟨(u8s xs).toArray⟩ := by
  simp [strOfNums, u8s]

theorem natOf_any (b off n c : Nat) (xs : List Nat) (w : World) (hb : Blk .u64 96 w b xs) (hn : off + n ≤ xs.length) (hd : Dg W64 xs) (hc : n ≤ c) (hm : c ≤ maxLen) (hsm : n ≤ 1099511627776) :
    Calls Tryz.prog 73 #[.slice (some ⟨b, off, none⟩) n c] w fun e w' => e = .returned (.string ⟨(enc (vs W64 xs off n)).toArray⟩) ∧ w.grownBy w' none := by
  obtain ⟨i0, hi, hz0, hz1, hz2⟩ := info_parts infoB
  have hm' := hm
  unfold maxLen at hm'
  go_enter Tryz.func73, Tryz.ntmps73
  go_wp2_with fail
  refine (trimmed_any b off n c xs w hb hn hc hm).mono ?_
  rintro e w' ⟨⟨m, rfl, hmn, hz, htop⟩, rfl⟩
  have hv : vs W64 xs off n = vs W64 xs off m := by
    obtain ⟨k, rfl⟩ : ∃ k, n = m + k := ⟨n - m, by omega⟩
    rw [vs_split, vs_zero (n := k) (fun i hi => by rw [Nat.add_assoc]; exact hz _ (by omega) (by omega))]; simp
  have HV := Lib.hid hv
  have HZ := Lib.hid hz
  have HT := Lib.hid htop
  clear hv hz htop
  by_cases hm0 : m = 0
  · subst hm0
    go_wp2
    go_ret
    refine ⟨?_, World.grownBy.refl _ _⟩
    rw [HV.out]
    simp [vs, enc_zero]
  · have hcell : w.cell? ⟨b, off + (m - 1), none⟩ = some (.int .u64 ((gt xs (off + (m - 1)) : Nat) : Int)) := hb.cell (by omega)
    obtain ⟨x, hx⟩ : ∃ x, x = gt xs (off + (m - 1)) := ⟨_, rfl⟩
    have hxW := hd (off + (m - 1))
    rw [← hx] at hcell hxW
    have HX := Lib.hid hx
    clear hx
    have hx0 : x ≠ 0 := by rcases HT.out with h | h; exact absurd h hm0; rw [HX.out]; exact h
    have hm1 : ((m : Int) == 0) = false := by simp; omega
    have hbl := byteLen hxW hx0
    have hb64 := (bitLen_bounds hxW hx0).2.1
    generalize hB : Lib.bitLen x = B at hbl hb64
    have HB := Lib.hid hB
    clear hB
    go_wp2_with fail
    refine (Tryz.bits_Len64 x _ (by omega) (by rw [W64_eq] at hxW; omega)).mono ?_
    rintro e w' ⟨rfl, rfl⟩
    rw [show Lib.bitLen ((x : Int).toNat) = B from HB.out]
    obtain ⟨L, hL⟩ : ∃ L, L = 8 * (m - 1) + (B + 7) / 8 := ⟨_, rfl⟩
    have hL1 : 1 ≤ L := by omega
    have hL2 : L ≤ 8 * m := by omega
    have hL3 : 8 * (m - 1) < L := by omega
    have HL := Lib.hid hL
    clear hL
    go_wp2_with (at_make; refine wpList_make_full _ rfl _ _ 22 rfl 0 5 i0 (.int .u8 0) 1 Tryz.underlying22 hi hz0 hz1 .i64 .i64 _ _ L rfl rfl ?_ ?_ ?_ ?_ (Nat.zero_le _) ?_)
    case refine_1 => have := HL.out; omega
    case refine_2 => have := HL.out; omega
    case refine_3 => rw [hz2]; omega
    case refine_4 => unfold maxLen; omega
    intro w1 hown hgr
    obtain ⟨N, hN⟩ : ∃ N, N = vs W64 xs off m := ⟨_, rfl⟩
    have HNN := Lib.hid hN
    clear hN
    have hb0 := blk_made' hown
    rw [← fillN_zero L N] at hb0
    have hbw := hb.kept hgr (by simp)
    have hgw : w'.heap.size ≠ b := by have := hb.lt; omega
    clear hown hi hz0 hz1 hz2 hcell hb
    go_wp2
    go_loopw [30] (fun j wr => ∃ i : Nat, i ≤ L ∧ j = .int .i64 i ∧ Blk .u8 5 wr w'.heap.size (fillN L N i) ∧ Blk .u64 96 wr b xs ∧ w'.grownBy wr none) (fun j _ => L - (intOf j).toNat)
    case atStart => exact ⟨0, Nat.zero_le _, rfl, hb0, hbw, hgr⟩
    case round =>
      obtain ⟨i, hile, rfl, hbz, hbr, hg⟩ := hrel
      by_cases hlt : i < L
      · have hcell : wr.cell? ⟨b, off + (L - 1 - i) / 8, none⟩ = some (.int .u64 ((gt xs (off + (L - 1 - i) / 8) : Nat) : Int)) := hbr.cell (by omega)
        have hfr : wr.frozen? ⟨w'.heap.size, i, none⟩ = false := hbz.frozen _
        have hold : wr.cell? ⟨w'.heap.size, i, none⟩ = some (.int .u8 ((gt (fillN L N i) i : Nat) : Int)) := hbz.cell (by rw [length_fillN]; exact hlt)
        have hbyte : gt xs (off + (L - 1 - i) / 8) / 256 ^ ((L - 1 - i) % 8) % 256 = N / 256 ^ (L - 1 - i) % 256 := by
          rw [byte_of_word (m := m) hd HNN.out.symm (by omega) (Nat.mod_lt _ (by decide)), show 8 * ((L - 1 - i) / 8) + (L - 1 - i) % 8 = L - 1 - i from by omega]
        have hset := fillN_set (N := N) hlt hbyte
        have HS := Lib.hid hset
        clear hb0 hbw hbyte hset
        go_wp2
        refine ⟨⟨i + 1, by omega, by go_num, ?_, hbr.setOther (by omega) _ _, gr_trans hg (gr_set _ _ _ _) (.inl rfl) (.inr (.inr fun k e => by cases e; exact Nat.le_refl _))⟩, by simp [intOf]; omega⟩
        rw [byte_word, ← HS.out]
        exact hbz.set _ _
      · obtain rfl : i = L := by omega
        have hcv := fun (dst : TypeId) (hd : Tryz.prog.underlying dst = some .string) => run_convert_bytes_arg (P := Tryz.prog) wr 22 5 Tryz.underlying22 Tryz.underlying5 w'.heap.size 0 i i ((fillN i N i).map fun v : Nat => (v : Int)) (by simp [length_fillN]) (fun j hj => by
          rw [Nat.zero_add, hbz.cell (by rw [length_fillN]; exact hj)]
          simp [gt, List.getD, hj, length_fillN]) dst hd
        have hc2 := hcv 24 Tryz.underlying24
        generalize hstr : strOfNums ((fillN i N i).map fun v : Nat => (v : Int)) = str at hc2
        have HSTR := Lib.hid hstr
        clear hcv hstr hb0 hbw
        go_wp2
        go_ret
        refine ⟨?_, hg⟩
        have hmm : m - 1 + 1 = m := by omega
        have htb := top_bounds (off := off) hd (HX.out.symm) hx0
        rw [hmm, ← HNN.out, HB.out, ← HL.out] at htb
        have henc : u8s (bytesN i N) = enc N := u8s_bytesN (.inl htb.1) htb.2
        rw [HV.out, ← HNN.out, ← henc, ← fillN_all, ← nums_u8s, HSTR.out]; rfl
end Go.Proofs.YteajpefbmiiioaaGreatDoor
namespace Go.Proofs.YteajpefbmiiioaaGreatDoor
open Go.RowKit Mth

def copied (zs xs : List Nat) (off o1 m : Nat) : List Nat := zs.take off ++ ((xs.drop o1).take m ++ zs.drop (off + m))
theorem length_copied {zs xs : List Nat} {off o1 m : Nat} (h1 : off + m ≤ zs.length) (h2 : o1 + m ≤ xs.length) : (copied zs xs off o1 m).length = zs.length := by
  simp [copied]; omega
theorem gt_copied {zs xs : List Nat} {off o1 m : Nat} (h1 : off + m ≤ zs.length) (h2 : o1 + m ≤ xs.length) (i : Nat) : gt (copied zs xs off o1 m) i = if off ≤ i ∧ i < off + m then gt xs (o1 + (i - off)) else gt zs i := by
  have hl1 : (zs.take off).length = off := by simp; omega
  have hl2 : ((xs.drop o1).take m).length = m := by simp; omega
  unfold copied
  by_cases ha : i < off
  · rw [if_neg (by omega), gt_append_left (by omega), gt_take ha]
  · rw [gt_append_right (by omega), hl1]
    by_cases hb : i < off + m
    · rw [if_pos (by omega), gt_append_left (by omega), gt_take (by omega), gt_drop]
    · rw [if_neg (by omega), gt_append_right (by omega), hl2, gt_drop]
      congr 1; omega

theorem gr_setRow (w : World) (g : Nat) (cs : Array Value) : w.grownBy (w.setRow g cs) (some g) :=
  ⟨rfl, rfl, rfl, by simp, fun k _ hne => setRow_other w g k cs (by intro e; exact hne (by rw [e]))⟩

theorem wpList_copy_blk {P : Program} {w : World} {ops : Array Oper} {rest : List Oper} {o : Oper} {a : Act} {Q : Exit → Act → World → Prop} (hgd : o.guard = none) (d s : Operand) (dT sT : TypeId)
    (ho : o.op = .call { callee := .builtin .copy, args := #[d, s], argTypes := #[dT, sT] }) (elem : TypeId) (hu : P.underlying dT = some (.slice elem)) (hsz : (P.info? elem).map (·.size) = some 1)
    (k : IntKind) (e : TypeId) (g off dLen dCap b1 o1 n1 c1 : Nat) (zs xs : List Nat) (hd : a.eval d = .slice (some ⟨g, off, none⟩) dLen dCap) (hs : a.eval s = .slice (some ⟨b1, o1, none⟩) n1 c1)
    (hz : Blk k e w g zs) (hx : Blk k e w b1 xs) (hn : o1 + n1 ≤ xs.length) (hfit : off + dLen ≤ zs.length)
    (h : ∀ w', Blk k e w' g (copied zs xs off o1 (Nat.min n1 dLen)) → w.grownBy w' (some g) → wpList P ops Q rest (a.put o.dst (goInt (Nat.min n1 dLen))) w') :
    wpList P ops Q (o :: rest) a w := by
  have hm1 : Nat.min n1 dLen ≤ n1 := Nat.min_le_left _ _
  have hm2 : Nat.min n1 dLen ≤ dLen := Nat.min_le_right _ _
  generalize hm : Nat.min n1 dLen = m at h hm1 hm2
  have hl2 : (cellsOf k ((xs.drop o1).take m)).length = m := by rw [length_cellsOf]; simp; omega
  refine wpList_copy_own hgd d s dT sT ho elem hu hsz g off dLen dCap ⟨b1, o1, none⟩ n1 c1 hd hs (cellsOf k zs).toArray e hz (cellsOf k ((xs.drop o1).take m)) (by rw [hl2, hm]) ?_ ?_ ?_ ?_
  · intro j v hv
    have hj : j < m := by have := (List.getElem?_eq_some_iff.1 hv).1; omega
    rw [Addr.add_lit, hx.cell (by omega)]
    rw [cellsOf_get k _ _ (by simp; omega), gt_take hj, gt_drop] at hv
    exact hv
  · rw [hl2]; simp [length_cellsOf]; omega
  · intro v hv
    simp only [cellsOf, List.mem_map] at hv
    obtain ⟨n, _, rfl⟩ := hv
    rfl
  · rw [hl2]
    refine h _ ?_ (gr_setRow _ _ _)
    have := setRow_heap w g _ ((cellsOf k zs).toArray.toList.take off ++ (cellsOf k ((xs.drop o1).take m) ++ (cellsOf k zs).toArray.toList.drop (off + m))).toArray e (0, 0) hz
    unfold Blk
    rw [this]
    simp [copied, cellsOf, List.map_take, List.map_drop]
end Go.Proofs.YteajpefbmiiioaaGreatDoor
namespace Go.Proofs.YteajpefbmiiioaaGreatDoor
open Go.RowKit Mth

theorem sum_any (b1 o1 n1 c1 b2 o2 n2 c2 : Nat) (xs ys : List Nat) (w : World) (hb : Blk .u64 96 w b1 xs) (hn : o1 + n1 ≤ xs.length) (hd : Dg W64 xs)
    (hb2 : Blk .u64 96 w b2 ys) (hn2 : o2 + n2 ≤ ys.length) (hd2 : Dg W64 ys) (hs1 : n1 ≤ 1099511627775) (hs2 : n2 ≤ 1099511627775) :
    Calls Tryz.prog 77 #[.slice (some ⟨b1, o1, none⟩) n1 c1, .slice (some ⟨b2, o2, none⟩) n2 c2] w fun e w' => ∃ b zs, e = .returned (.slice (some ⟨b, 0, none⟩) zs.length zs.length) ∧ w.heap.size ≤ b ∧ Blk .u64 96 w' b zs ∧ w.grownBy w' none ∧ Dg W64 zs ∧ zs.length = max n1 n2 + 1 ∧ vs W64 zs 0 zs.length = vs W64 xs o1 n1 + vs W64 ys o2 n2 := by
  obtain ⟨i0, hi, hz0, hz1, hz2⟩ := info_parts infoW
  obtain ⟨T, hT⟩ : ∃ T, T = max n1 n2 + 1 := ⟨_, rfl⟩
  have hT1 : n1 + 1 ≤ T := by omega
  have hT2 : n2 + 1 ≤ T := by omega
  have hT3 : T ≤ 1099511627776 := by omega
  have HT := Lib.hid hT
  clear hT
  go_enter Tryz.func77, Tryz.ntmps77
  go_wp2_with (at_make; refine wpList_make_full _ rfl _ _ 81 rfl 0 96 i0 (.int .u64 0) 1 Tryz.underlying81 hi hz0 hz1 .i64 .i64 _ _ T rfl rfl ?_ ?_ ?_ ?_ (Nat.zero_le _) ?_)
  case refine_1 => have := HT.out; omega
  case refine_2 => have := HT.out; omega
  case refine_3 => rw [hz2]; omega
  case refine_4 => unfold maxLen; omega
  intro w1 hown hgr
  have hb0 := blk_made' hown
  have hl0 : (List.replicate T 0 : List Nat).length = T := List.length_replicate
  have hzz : ∀ j, gt (List.replicate T 0) j = 0 := fun j => by simp [gt, List.getD, List.getElem?_replicate]; split <;> rfl
  have HLZ := Lib.hid hl0
  have HZZ := Lib.hid hzz
  generalize (List.replicate T 0 : List Nat) = z0 at hb0 HLZ HZZ
  clear hown hi hz0 hz1 hz2 hl0 hzz
  have hbr := hb.kept hgr (by simp)
  have hb2r := hb2.kept hgr (by simp)
  have hlt1 := hb.lt
  have hlt2 := hb2.lt
  have hmin : Nat.min n1 T = n1 := Nat.min_eq_left (by omega)
  have HMIN := Lib.hid hmin
  clear hmin
  go_wp2_with (with_reducible refine wpList_copy_blk rfl (.tmp 13) (.tmp 14) 81 81 rfl 96 Tryz.underlying81 (by kernel_rfl) .u64 96 w.heap.size 0 T T b1 o1 n1 c1 z0 xs rfl rfl hb0 hbr hn ?_ ?_)
  case refine_1 => rw [HLZ.out]; omega
  intro w2 hb3 hg2
  have hl1 : o1 + Nat.min n1 T ≤ xs.length := by rw [HMIN.out]; exact hn
  have hl2 : 0 + Nat.min n1 T ≤ z0.length := by rw [HMIN.out, HLZ.out]; omega
  have hlc := (length_copied hl2 hl1).trans HLZ.out
  have hgc := gt_copied hl2 hl1
  rw [HMIN.out] at hgc hlc hb3
  have HLC := Lib.hid hlc
  have HGC := Lib.hid hgc
  generalize copied z0 xs 0 o1 n1 = us at hb3 HLC HGC
  clear hl1 hl2 hlc hgc
  have hdu : Dg W64 us := by
    intro i
    rw [HGC.out]
    split
    · exact hd _
    · rw [HZZ.out]; exact W64_pos
  have hb2r2 := hb2r.kept hg2 (by simp; omega)
  have hvu : vs W64 us 0 T = vs W64 xs o1 n1 := by
    obtain ⟨k, rfl⟩ : ∃ k, T = n1 + k := ⟨T - n1, by omega⟩
    rw [vs_split, vs_zero (off := 0 + n1) (n := k) (fun i _ => by rw [HGC.out, if_neg (by omega)]; exact HZZ.out _)]
    rw [vs_congr (ys := xs) (off' := o1) (n := n1) (fun i hi => by rw [HGC.out, if_pos (by omega)]; congr 1; omega)]
    simp
  have HVU := Lib.hid hvu
  clear hvu
  go_wp2_with fail
  refine (addTo_any w.heap.size 0 T T b2 o2 n2 c2 us ys w2 hb3 (by rw [HLC.out]; omega) hdu (Nat.le_refl _) (by unfold maxLen; omega) hb2r2 hn2 hd2 (by omega) (by omega)).mono ?_
  rintro e w3 ⟨rfl, vv, hv, hg3, hadd⟩
  obtain ⟨a1, a2, κ, a3⟩ := hadd
  have hlv : vv.length = T := a1.len.trans HLC.out
  have hB : vs W64 xs o1 n1 + vs W64 ys o2 n2 < W64 ^ T := by
    have h1 := vs_lt (off := o1) (n := n1) hd
    have h2 := vs_lt (off := o2) (n := n2) hd2
    obtain ⟨M, hM⟩ : ∃ M, T = M + 1 := ⟨T - 1, by omega⟩
    have h3 : W64 ^ n1 ≤ W64 ^ M := Nat.pow_le_pow_right W64_pos (by omega)
    have h4 : W64 ^ n2 ≤ W64 ^ M := Nat.pow_le_pow_right W64_pos (by omega)
    rw [hM, Nat.pow_succ, W64_eq]
    rw [W64_eq] at h1 h2 h3 h4
    omega
  have hκ : κ = 0 := by
    rw [HVU.out] at a3
    rcases Nat.eq_zero_or_pos κ with h | h
    · exact h
    · have h5 : W64 ^ T * 1 ≤ W64 ^ T * κ := Nat.mul_le_mul_left _ h
      omega
  have hfin : vs W64 vv 0 vv.length = vs W64 xs o1 n1 + vs W64 ys o2 n2 := by
    rw [HVU.out, hκ] at a3
    rw [hlv]; simpa using a3
  have HFIN := Lib.hid hfin
  have HLV := Lib.hid hlv
  clear hfin hlv hκ hB a3
  go_wp2
  go_ret
  exact ⟨w.heap.size, vv, by rw [HLV.out]; rfl, Nat.le_refl _, hv, gr_new (gr_new hgr hg2 (Nat.le_refl _)) hg3 (Nat.le_refl _), a2, HLV.out.trans HT.out, HFIN.out⟩

theorem add_any (s t : ByteArray) (w : World) (hs : s.size ≤ 1000000000000) (ht : t.size ≤ 1000000000000) :
    Calls Tryz.prog 18 #[.string s, .string t] w fun e w' => e = .returned (.string ⟨(enc (num s.data.toList + num t.data.toList)).toArray⟩) ∧ w.grownBy w' none := by
  go_enter Tryz.func18, Tryz.ntmps18
  go_wp2_with fail
  refine (wordsOf_any s w (by omega)).mono ?_
  rintro e w1 ⟨b1, xs, rfl, hlt1, hb1, hg1, hw1, hsz1⟩
  go_wp2_with fail
  refine (wordsOf_any t w1 (by omega)).mono ?_
  rintro e w2 ⟨b2, ys, rfl, hlt2, hb2, hg2, hw2, hsz2⟩
  go_wp2_with fail
  refine (sum_any b1 0 xs.length xs.length b2 0 ys.length ys.length xs ys w2 (hb1.kept hg2 (by simp)) (by omega) hw1.dg hb2 (by omega) hw2.dg (by omega) (by omega)).mono ?_
  rintro e w3 ⟨b3, zs, rfl, hlt3, hb3, hg3, hd3, hl3, hv3⟩
  rw [hw1.val, hw2.val] at hv3
  have HV := Lib.hid hv3
  have hls : zs.length ≤ 1099511627776 := by omega
  clear hv3 hl3
  go_wp2_with fail
  refine (natOf_any b3 0 zs.length zs.length zs w3 hb3 (by omega) hd3 (Nat.le_refl _) (by unfold maxLen; omega) hls).mono ?_
  rintro e w4 ⟨rfl, hg4⟩
  go_wp2
  go_ret
  exact ⟨by rw [HV.out]; rfl, gr_then hg1 (gr_then hg2 (gr_then hg3 hg4))⟩
end Go.Proofs.YteajpefbmiiioaaGreatDoor
namespace Go.Proofs.YteajpefbmiiioaaGreatDoor
open Go.RowKit Mth

def ProdInv (A : Nat) (ys zs : List Nat) (n1 o2 i : Nat) : Prop := Dg W64 zs ∧ (∀ j, n1 + i ≤ j → gt zs j = 0) ∧ vs W64 zs 0 (n1 + i) = A * vs W64 ys o2 i
theorem ProdInv.next {A : Nat} {ys zs us : List Nat} {n1 o2 i c : Nat} (h : ProdInv A ys zs n1 o2 i) (hlen : n1 + i < zs.length) (g : AddedM zs us i n1 c (A * gt ys (o2 + i))) : ProdInv A ys (us.set (i + n1) c) n1 o2 (i + 1) := by
  obtain ⟨h1, h2, h3⟩ := h
  obtain ⟨g1, g2, g3, g4⟩ := g
  have hl : i + n1 < us.length := by rw [g1.len]; omega
  refine ⟨g2.set g3, fun j hj => ?_, ?_⟩
  · rw [gt_set hl, if_neg (by omega), g1.out j (by omega)]; exact h2 j (by omega)
  · rw [show n1 + (i + 1) = i + (n1 + 1) from by omega, vs_split]
    simp only [vs, Nat.zero_add]
    rw [gt_set hl, if_pos rfl]
    rw [vs_congr (ys := us) (off' := i) (n := n1) (fun j hj => by rw [gt_set hl, if_neg (by omega)])]
    rw [vs_congr (ys := zs) (off := 0) (off' := 0) (n := i) (fun j hj => by rw [gt_set hl, if_neg (by omega)]; exact g1.out _ (by omega))]
    rw [g4]
    rw [show n1 + i = i + n1 from by omega, vs_split, Nat.zero_add] at h3
    rw [Nat.mul_add, Nat.mul_add, ← h3, Nat.mul_left_comm A]
    omega

theorem product_any (b1 o1 n1 c1 b2 o2 n2 c2 : Nat) (xs ys : List Nat) (w : World) (hb : Blk .u64 96 w b1 xs) (hn : o1 + n1 ≤ xs.length) (hd : Dg W64 xs)
    (hb2 : Blk .u64 96 w b2 ys) (hn2 : o2 + n2 ≤ ys.length) (hd2 : Dg W64 ys) (hs1 : n1 ≤ 1099511627776) (hs2 : n2 ≤ 1099511627776) :
    Calls Tryz.prog 143 #[.slice (some ⟨b1, o1, none⟩) n1 c1, .slice (some ⟨b2, o2, none⟩) n2 c2] w fun e w' => ∃ b zs, e = .returned (.slice (some ⟨b, 0, none⟩) zs.length zs.length) ∧ w.heap.size ≤ b ∧ Blk .u64 96 w' b zs ∧ w.grownBy w' none ∧ Dg W64 zs ∧ zs.length = n1 + n2 ∧ vs W64 zs 0 zs.length = vs W64 xs o1 n1 * vs W64 ys o2 n2 := by
  obtain ⟨i0, hi, hz0, hz1, hz2⟩ := info_parts infoW
  obtain ⟨A, hA⟩ : ∃ A, A = vs W64 xs o1 n1 := ⟨_, rfl⟩
  have HA := Lib.hid hA
  clear hA
  go_enter Tryz.func143, Tryz.ntmps143
  go_wp2_with (at_make; refine wpList_make_full _ rfl _ _ 81 rfl 0 96 i0 (.int .u64 0) 1 Tryz.underlying81 hi hz0 hz1 .i64 .i64 _ _ (n1 + n2) rfl rfl ?_ ?_ ?_ ?_ (Nat.zero_le _) ?_)
  case refine_1 => omega
  case refine_2 => omega
  case refine_3 => rw [hz2]; omega
  case refine_4 => unfold maxLen; omega
  intro w1 hown hgr
  have hb0 := blk_made' hown
  have hl0 : (List.replicate (n1 + n2) 0 : List Nat).length = n1 + n2 := List.length_replicate
  have hi0 : ProdInv A ys (List.replicate (n1 + n2) 0) n1 o2 0 := by
    have hz : ∀ j, gt (List.replicate (n1 + n2) 0) j = 0 := fun j => by simp [gt, List.getD, List.getElem?_replicate]; split <;> rfl
    exact ⟨fun j => by rw [hz]; exact W64_pos, fun j _ => hz j, by rw [vs_zero (fun j _ => hz _)]; simp [vs]⟩
  generalize (List.replicate (n1 + n2) 0 : List Nat) = z0 at hb0 hl0 hi0
  clear hown hi hz0 hz1 hz2
  go_wp2
  go_loopw [16] (fun j wr => ∃ (i : Nat) (zs : List Nat), i ≤ n2 ∧ j = .int .i64 i ∧ Blk .u64 96 wr w.heap.size zs ∧ zs.length = n1 + n2 ∧ w.grownBy wr none ∧ ProdInv A ys zs n1 o2 i) (fun j _ => n2 - (intOf j).toNat)
  case atStart => exact ⟨0, z0, Nat.zero_le _, rfl, hb0, hl0, hgr, hi0⟩
  case round =>
    obtain ⟨i, zs, hile, rfl, hbz, hlz, hg, hinv⟩ := hrel
    have hbr := hb.kept hg (by simp)
    have hb2r := hb2.kept hg (by simp)
    have hne : b1 ≠ w.heap.size := by have := hb.lt; omega
    have HLZ := Lib.hid hlz
    clear hb0 hl0 hi0
    by_cases hlt : i < n2
    · have hcell2 : wr.cell? ⟨b2, o2 + i, none⟩ = some (.int .u64 ((gt ys (o2 + i) : Nat) : Int)) := hb2r.cell (by omega)
      have hcut : ¬ n1 + n2 = i := by omega
      clear hlz
      go_wp2_with fail
      refine (addMultiple_any w.heap.size i (n1 + n2 - i) (n1 + n2 - i) b1 o1 n1 c1 (gt ys (o2 + i)) zs xs wr hbz (by rw [HLZ.out]; omega) hinv.1 hbr hn hd hne (by omega) (hd2 _) (by unfold maxLen; omega)).mono ?_
      rintro e w' ⟨c, us, rfl, hu, hg2, hadd⟩
      rw [← HA.out] at hadd
      have hnx := hinv.next (by rw [HLZ.out]; omega) hadd
      have hfr : w'.frozen? ⟨w.heap.size, i + n1, none⟩ = false := hu.frozen _
      have hlu : us.length = n1 + n2 := hadd.1.len.trans HLZ.out
      have HLU := Lib.hid hlu
      clear hlu
      have hold : w'.cell? ⟨w.heap.size, i + n1, none⟩ = some (.int .u64 ((gt us (i + n1) : Nat) : Int)) := hu.cell (by rw [HLU.out]; omega)
      go_wp2
      refine ⟨⟨i + 1, us.set (i + n1) c, by omega, by go_num, hu.set _ _, by rw [List.length_set]; exact HLU.out, ?_, hnx⟩, by simp [intOf]; omega⟩
      exact gr_new (gr_new hg hg2 (Nat.le_refl _)) (gr_set _ _ _ _) (Nat.le_refl _)
    · obtain rfl : i = n2 := by omega
      go_wp2
      go_ret
      refine ⟨w.heap.size, zs, by rw [HLZ.out]; rfl, Nat.le_refl _, hbz, hg, hinv.1, HLZ.out, ?_⟩
      rw [HLZ.out, hinv.2.2, HA.out]
end Go.Proofs.YteajpefbmiiioaaGreatDoor
namespace Go.Proofs.YteajpefbmiiioaaGreatDoor
open Go.RowKit Mth

theorem bytesLess_num : ∀ (x y : List UInt8), x.length = y.length → Op.bytesLess x y = decide (num x < num y)
  | [], [], _ => by simp [Op.bytesLess, num]
  | [], _ :: _, h => by simp at h
  | _ :: _, [], h => by simp at h
  | a :: x, b :: y, h => by
    have hl : x.length = y.length := by simpa using h
    have hx := num_lt x
    have hy := num_lt y
    rw [Op.bytesLess, bytesLess_num x y hl, num_cons, num_cons, hl]
    rw [hl] at hx
    by_cases h1 : a < b
    · have h2 : a.toNat + 1 ≤ b.toNat := UInt8.lt_iff_toNat_lt.1 h1
      have h3 : (a.toNat + 1) * 256 ^ y.length ≤ b.toNat * 256 ^ y.length := Nat.mul_le_mul_right _ h2
      rw [Nat.add_mul] at h3
      rw [decide_eq_true h1, Bool.true_or]; exact (decide_eq_true (by omega)).symm
    · by_cases h2 : a = b
      · subst h2
        rw [decide_eq_false h1, show (a == a) = true from by simp, Bool.true_and, Bool.false_or]
        by_cases h3 : num x < num y
        · rw [decide_eq_true h3]; exact (decide_eq_true (by omega)).symm
        · rw [decide_eq_false h3]; exact (decide_eq_false (by omega)).symm
      · have h4 : b.toNat + 1 ≤ a.toNat := by
          have h5 : ¬ a.toNat < b.toNat := fun h => h1 (UInt8.lt_iff_toNat_lt.2 h)
          have h6 : a.toNat ≠ b.toNat := fun h => h2 (UInt8.toNat_inj.1 h)
          omega
        have h3 : (b.toNat + 1) * 256 ^ y.length ≤ a.toNat * 256 ^ y.length := Nat.mul_le_mul_right _ h4
        rw [Nat.add_mul] at h3
        rw [decide_eq_false h1, show (a == b) = false from by simp [h2], Bool.false_and, Bool.false_or]; exact (decide_eq_false (by omega)).symm

theorem num_inj_len : ∀ {x y : List UInt8}, x.length = y.length → num x = num y → x = y
  | [], [], _, _ => rfl
  | [], _ :: _, h, _ => by simp at h
  | _ :: _, [], h, _ => by simp at h
  | a :: x, b :: y, h, hn => by
    have hl : x.length = y.length := by simpa using h
    have hx := num_lt x
    have hy := num_lt y
    rw [num_cons, num_cons, hl] at hn
    rw [hl] at hx
    have hab : a.toNat = b.toNat := by
      rcases Nat.lt_trichotomy a.toNat b.toNat with h1 | h1 | h1
      · have h3 : (a.toNat + 1) * 256 ^ y.length ≤ b.toNat * 256 ^ y.length := Nat.mul_le_mul_right _ h1
        rw [Nat.add_mul] at h3; omega
      · exact h1
      · have h3 : (b.toNat + 1) * 256 ^ y.length ≤ a.toNat * 256 ^ y.length := Nat.mul_le_mul_right _ h1
        rw [Nat.add_mul] at h3; omega
    rw [hab] at hn
    rw [UInt8.toNat_inj.1 hab, num_inj_len hl (by omega)]
theorem bytesLess_asymm (x y : List UInt8) (h : x.length = y.length) : num x < num y ∨ x = y ∨ num y < num x := by
  rcases Nat.lt_trichotomy (num x) (num y) with h1 | h1 | h1
  · exact .inl h1
  · exact .inr (.inl (num_inj_len h h1))
  · exact .inr (.inr h1)

/-- -1, 0 or 1. -/
def cmpN (a b : Nat) : Int := if a < b then -1 else if b < a then 1 else 0

theorem cmpNat_any (s t : ByteArray) (w : World) (h : s.size = t.size) :
    Calls Tryz.prog 81 #[.string s, .string t] w fun e w' => e = .returned (.int .i64 (cmpN (num s.data.toList) (num t.data.toList))) ∧ w = w' := by
  have h1 := Lib.hid (bytesLess_num s.data.toList t.data.toList h)
  have h2 := Lib.hid (bytesLess_num t.data.toList s.data.toList h.symm)
  have h3 := Lib.hid (bytesLess_asymm s.data.toList t.data.toList h)
  clear h
  go_enter Tryz.func81, Tryz.ntmps81
  go_wp2
  · have hl : Op.bytesLess s.toList t.toList = true := by assumption
    rw [Lib.toList_data, Lib.toList_data, h1.out] at hl
    have hn : num s.data.toList < num t.data.toList := of_decide_eq_true hl
    go_ret
    exact ⟨by unfold cmpN; rw [if_pos hn]; rfl, rfl⟩
  · have hl : Op.bytesLess s.toList t.toList = false := by assumption
    have he : (!(s.toList == t.toList)) = true := by assumption
    rw [Lib.toList_data, Lib.toList_data, h1.out] at hl
    rw [Lib.toList_data, Lib.toList_data] at he
    have hn : ¬ num s.data.toList < num t.data.toList := of_decide_eq_false hl
    have hne : s.data.toList ≠ t.data.toList := by simpa using he
    have hlt : num t.data.toList < num s.data.toList := by rcases h3.out with h | h | h; exact absurd h hn; exact absurd h hne; exact h
    go_ret
    exact ⟨by unfold cmpN; rw [if_neg hn, if_pos hlt]; rfl, rfl⟩
  · have he : (!(s.toList == t.toList)) = false := by assumption
    rw [Lib.toList_data, Lib.toList_data] at he
    have hne : s.data.toList = t.data.toList := by simpa using he
    go_ret
    exact ⟨by unfold cmpN; rw [hne, if_neg (by omega), if_neg (by omega)]; rfl, rfl⟩

theorem num_lt_of_len {a b : ByteArray} (hb : Rt b.data.toList) (h : a.size < b.size) : num a.data.toList < num b.data.toList := by
  have h1 := num_lt a.data.toList
  have hne : b.data.toList ≠ [] := by intro e; have := len_toList b; rw [e] at this; simp at this; omega
  have h2 := num_ge hb hne
  have h3 : 256 ^ a.data.toList.length ≤ 256 ^ (b.data.toList.length - 1) := Nat.pow_le_pow_right (by decide) (by rw [len_toList, len_toList]; omega)
  omega

theorem cmp_any (s t : ByteArray) (w : World) :
    Calls Tryz.prog 20 #[.string s, .string t] w fun e w' => e = .returned (.int .i64 (cmpN (num s.data.toList) (num t.data.toList))) ∧ w = w' := by
  have hn1 : num (bytesOf s).data.toList = num s.data.toList := num_canon _
  have hn2 : num (bytesOf t).data.toList = num t.data.toList := num_canon _
  have hr1 : Rt (bytesOf s).data.toList := rt_canon _
  have hr2 : Rt (bytesOf t).data.toList := rt_canon _
  generalize h1 : (bytesOf s) = a at hn1 hr1
  generalize h2 : (bytesOf t) = b at hn2 hr2
  have H1 := Lib.hid h1
  have H2 := Lib.hid h2
  have HN1 := Lib.hid hn1
  have HN2 := Lib.hid hn2
  have HR1 := Lib.hid hr1
  have HR2 := Lib.hid hr2
  clear h1 h2 hn1 hn2 hr1 hr2
  go_enter Tryz.func20, Tryz.ntmps20
  go_wp2_with fail
  refine (withoutZeros_any s _).mono ?_
  rintro e w' ⟨rfl, rfl⟩
  rw [show (⟨(canon s.data.toList).toArray⟩ : ByteArray) = a from H1.out]
  go_wp2_with fail
  refine (withoutZeros_any t _).mono ?_
  rintro e w' ⟨rfl, rfl⟩
  rw [show (⟨(canon t.data.toList).toArray⟩ : ByteArray) = b from H2.out]
  by_cases hl : a.size = b.size
  · have HL := Lib.hid hl
    have hb : ((a.size : Int) != (b.size : Int)) = false := by rw [bne_eq_false_iff_eq, hl]
    clear hl
    go_wp2_with fail
    refine (cmpNat_any a b _ HL.out).mono ?_
    rintro e w' ⟨rfl, rfl⟩
    go_wp2
    go_ret
    exact ⟨by rw [← HN1.out, ← HN2.out]; rfl, rfl⟩
  · have hb : ((a.size : Int) != (b.size : Int)) = true := by rw [bne_iff_ne]; omega
    have hc : Lib.compareInt (a.size : Int) (b.size : Int) = cmpN (num s.data.toList) (num t.data.toList) := by
      rw [← HN1.out, ← HN2.out]
      unfold Lib.compareInt cmpN
      rcases Nat.lt_or_gt_of_ne hl with h | h
      · rw [if_pos (by omega), if_pos (num_lt_of_len HR2.out h)]
      · have h2 := num_lt_of_len HR1.out h
        have h2' : num b.data.toList < num a.data.toList := h2
        rw [if_neg (by omega), if_pos (by omega), if_neg (by omega), if_pos h2']
    have HC := Lib.hid hc
    clear hc hl
    go_wp2_with fail
    refine (Tryz.cmp_Compare_int _ _ _).mono ?_
    rintro e w' ⟨rfl, rfl⟩
    go_wp2
    go_ret
    exact ⟨by rw [← HC.out]; rfl, rfl⟩
end Go.Proofs.YteajpefbmiiioaaGreatDoor
namespace Go.Proofs.YteajpefbmiiioaaGreatDoor
open Go.RowKit Mth

theorem Mth.Words.lt {xs : List Nat} {N : Nat} (h : Words xs N) : N < W64 ^ xs.length := by rw [← h.val]; exact vs_lt h.dg
theorem Mth.Words.ge {xs : List Nat} {N : Nat} (h : Words xs N) (hl : 0 < xs.length) : W64 ^ (xs.length - 1) ≤ N := by
  have ht : gt xs (xs.length - 1) ≠ 0 := by rcases h.top with h0 | h0; omega; exact h0
  rw [← h.val]
  obtain ⟨m, hm⟩ : ∃ m, xs.length = m + 1 := ⟨xs.length - 1, by omega⟩
  rw [hm] at ht ⊢
  simp only [Nat.add_sub_cancel] at ht ⊢
  simp only [vs, Nat.zero_add]
  have : W64 ^ m * 1 ≤ W64 ^ m * gt xs m := Nat.mul_le_mul_left _ (by omega)
  omega
theorem Mth.Words.len_le {xs ys : List Nat} {N M : Nat} (h : Words xs N) (g : Words ys M) (hle : M ≤ N) : ys.length ≤ xs.length := by
  rcases Nat.lt_or_ge xs.length ys.length with h1 | h1
  · have h2 := h.lt
    have h3 := g.ge (by omega)
    have h4 : W64 ^ xs.length ≤ W64 ^ (ys.length - 1) := Nat.pow_le_pow_right W64_pos (by omega)
    omega
  · exact h1

theorem sub_no (s t : ByteArray) (w : World) (h : num s.data.toList < num t.data.toList) :
    Calls Tryz.prog 16 #[.string s, .string t] w fun e w' => e = .returned (.tuple #[.string ⟨#[]⟩, .bool false]) ∧ w.grownBy w' none := by
  have hc : cmpN (num s.data.toList) (num t.data.toList) = -1 := by unfold cmpN; rw [if_pos h]
  have HC := Lib.hid hc
  clear hc h
  go_enter Tryz.func16, Tryz.ntmps16
  go_wp2_with fail
  refine (cmp_any s t _).mono ?_
  rintro e w' ⟨rfl, rfl⟩
  rw [HC.out]
  go_wp2
  go_ret2
  exact ⟨rfl, World.grownBy.refl _ _⟩

theorem sub_yes (s t : ByteArray) (w : World) (h : num t.data.toList ≤ num s.data.toList) (hs : s.size ≤ 1000000000000) (ht : t.size ≤ 1000000000000) :
    Calls Tryz.prog 16 #[.string s, .string t] w fun e w' => e = .returned (.tuple #[.string ⟨(enc (num s.data.toList - num t.data.toList)).toArray⟩, .bool true]) ∧ w.grownBy w' none := by
  obtain ⟨c, hc⟩ : ∃ c, cmpN (num s.data.toList) (num t.data.toList) = c := ⟨_, rfl⟩
  have hc0 : decide (c < 0) = false := by rw [decide_eq_false_iff_not, ← hc]; unfold cmpN; split; omega; split <;> omega
  have hc1 : ¬ c < 0 := of_decide_eq_false hc0
  have HC := Lib.hid hc
  have HLE := Lib.hid h
  clear hc h
  go_enter Tryz.func16, Tryz.ntmps16
  go_wp2_with fail
  refine (cmp_any s t _).mono ?_
  rintro e w' ⟨rfl, rfl⟩
  rw [HC.out]
  go_wp2_with fail
  refine (wordsOf_any s _ (by omega)).mono ?_
  rintro e w1 ⟨b1, xs, rfl, hlt1, hb1, hg1, hw1, hsz1⟩
  go_wp2_with fail
  refine (wordsOf_any t w1 (by omega)).mono ?_
  rintro e w2 ⟨b2, ys, rfl, hlt2, hb2, hg2, hw2, hsz2⟩
  have hb12 := hb1.lt
  go_wp2_with fail
  refine (subtractFrom_any b1 0 xs.length xs.length b2 0 ys.length ys.length xs ys w2 (hb1.kept hg2 (by simp)) (by omega) hw1.dg (by unfold maxLen; omega) hb2 (by omega) hw2.dg (by omega) (hw1.len_le hw2 HLE.out) (by rw [hw1.val, hw2.val]; exact HLE.out)).mono ?_
  rintro e w3 ⟨rfl, zs, hb3, hg3, hwr, hd3, hv3⟩
  rw [hw1.val, hw2.val] at hv3
  have hl3 := hwr.len
  have HL := Lib.hid hl3
  have hle : xs.length ≤ zs.length := by omega
  have hv : vs W64 zs 0 xs.length = num s.data.toList - num t.data.toList := by omega
  have HV := Lib.hid hv
  clear hl3 hv hv3 hwr
  go_wp2_with fail
  refine (natOf_any b1 0 xs.length xs.length zs w3 hb3 (by omega) hd3 (Nat.le_refl _) (by unfold maxLen; omega) (by omega)).mono ?_
  rintro e w4 ⟨rfl, hg4⟩
  go_wp2
  go_ret2
  refine ⟨by rw [HV.out]; rfl, ?_⟩
  exact gr_then (gr_new (gr_then hg1 hg2) hg3 hlt1) hg4

end Go.Proofs.YteajpefbmiiioaaGreatDoor
namespace Go.Proofs.YteajpefbmiiioaaGreatDoor
open Go.RowKit Mth

theorem of_neg (n : Int) (w : World) (h : n < 0) :
    Calls Tryz.prog 69 #[.int .i64 n] w fun e w' => e = .returned (.string ⟨#[]⟩) ∧ w = w' := by
  go_enter Tryz.func69, Tryz.ntmps69
  go_wp2
  go_ret
  exact ⟨rfl, rfl⟩

theorem blk_one (w : World) (k : IntKind) (e : TypeId) (n : Nat) : Blk k e (w.alloc (.cells #[.int k (n : Int)] e)) w.heap.size [n] := by
  unfold Blk
  rw [heap_alloc_new]
  simp [cellsOf]
theorem dg_one {b n : Nat} (h : n < b) : Dg b [n] := Dg.of_mem (by omega) (by simpa using h)
theorem vs_one (b n : Nat) : vs b [n] 0 1 = n := by simp [vs, gt]

theorem of_any (n : Nat) (w : World) (h : n ≤ 9223372036854775807) :
    Calls Tryz.prog 69 #[.int .i64 (n : Int)] w fun e w' => e = .returned (.string ⟨(enc n).toArray⟩) ∧ w.grownBy w' none := by
  go_enter Tryz.func69, Tryz.ntmps69
  go_wp2_with fail
  refine (natOf_any w.heap.size 0 1 1 [n] _ (blk_one w .u64 96 n) (by simp) (dg_one (by rw [W64_eq]; omega)) (Nat.le_refl _) (by decide) (by omega)).mono ?_
  rintro e w' ⟨rfl, hg⟩
  rw [vs_one]
  go_wp2
  go_ret
  exact ⟨rfl, gr_then (gr_alloc _ _ _) hg⟩

def rtB : List UInt8 → Bool | [] => true | d :: _ => d != 0
theorem rtB_of_rt {l : List UInt8} (h : Rt l) : rtB l = true := by
  cases l with
  | nil => rfl
  | cons d l => simp only [rtB, bne_iff_ne]; intro e; subst e; simp [Rt] at h
theorem nil_of_size {s : ByteArray} (h : s.size = 0) : s.data.toList = [] := List.eq_nil_of_length_eq_zero (by rw [len_toList]; exact h)
theorem cons_of_size {s : ByteArray} (h : 0 < s.size) : s.data.toList = s[0] :: s.data.toList.drop 1 := by
  cases hl : s.data.toList with
  | nil => have := len_toList s; rw [hl] at this; simp at this; omega
  | cons d l =>
    have : s[0] = s.data.toList[0]'(by rw [len_toList]; exact h) := rfl
    rw [this]; simp [hl]

theorem right_nil (s : ByteArray) (w : World) (h : s.size = 0) :
    Calls Tryz.prog 22 #[.string s] w fun e w' => e = .returned (.bool (rtB s.data.toList)) ∧ w = w' := by
  have hr : rtB s.data.toList = true := by rw [nil_of_size h]; rfl
  have HR := Lib.hid hr
  clear hr
  have hz : s = ByteArray.empty := by
    have := nil_of_size h
    cases s with | mk d => cases d with | mk l => simp at this; subst this; rfl
  subst hz
  go_enter Tryz.func22, Tryz.ntmps22
  go_wp2
  go_ret
  exact ⟨by rw [HR.out]; rfl, rfl⟩
theorem right_cons (s : ByteArray) (w : World) (h : 0 < s.size) :
    Calls Tryz.prog 22 #[.string s] w fun e w' => e = .returned (.bool (rtB s.data.toList)) ∧ w = w' := by
  have hr : rtB s.data.toList = ((s[0].toNat : Int) != 0) := by
    rw [cons_of_size h]
    simp only [rtB]
    rw [Bool.eq_iff_iff, bne_iff_ne, bne_iff_ne]
    constructor
    · intro h1 h2; exact h1 (UInt8.toNat_inj.1 (by simpa using h2))
    · intro h1 h2; rw [h2] at h1; simp at h1
  have HR := Lib.hid hr
  have hne : ((s.size : Int) == 0) = false := by simp; intro e; rw [e] at h; simp at h
  clear hr
  go_enter Tryz.func22, Tryz.ntmps22
  go_wp2
  go_ret
  exact ⟨by rw [HR.out]; rfl, rfl⟩
theorem right_any (s : ByteArray) (w : World) :
    Calls Tryz.prog 22 #[.string s] w fun e w' => e = .returned (.bool (rtB s.data.toList)) ∧ w = w' := by
  rcases Nat.eq_zero_or_pos s.size with h | h
  · exact right_nil s w h
  · exact right_cons s w h

/-- The number of binary digits. -/
def bitsN (n : Nat) : Nat := if n = 0 then 0 else Nat.log2 n + 1
theorem bitsN_of {n k : Nat} (h1 : 2 ^ k ≤ n) (h2 : n < 2 ^ (k + 1)) : bitsN n = k + 1 := by
  have hp : 0 < 2 ^ k := Nat.pow_pos (by decide)
  unfold bitsN
  rw [if_neg (by omega)]
  have h3 : n ≠ 0 := by omega
  have h4 : k ≤ Nat.log2 n := (Nat.le_log2 h3).2 h1
  have h5 : Nat.log2 n < k + 1 := (Nat.log2_lt h3).2 h2
  omega
theorem bitsN_bytes {s : ByteArray} (hr : Rt s.data.toList) (h : 0 < s.size) : bitsN (num s.data.toList) = 8 * (s.size - 1) + Lib.bitLen s[0].toNat := by
  have hd : s[0].toNat ≠ 0 := by
    intro e
    have e0 : s[0] = 0 := UInt8.toNat_inj.1 (by simpa using e)
    rw [cons_of_size h, e0] at hr; simp [Rt] at hr
  have hlt := s[0].toNat_lt
  obtain ⟨h1, h2, h3, h4⟩ := bitLen_bounds (x := s[0].toNat) (by rw [W64_eq]; omega) hd
  have hlen : (s.data.toList.drop 1).length = s.size - 1 := by rw [List.length_drop, len_toList]
  have hnl := num_lt (s.data.toList.drop 1)
  rw [hlen] at hnl
  have hn : num s.data.toList = s[0].toNat * 256 ^ (s.size - 1) + num (s.data.toList.drop 1) := by
    conv => lhs; rw [cons_of_size h]
    rw [num_cons, hlen]
  have hP : (256 : Nat) ^ (s.size - 1) = 2 ^ (8 * (s.size - 1)) := by rw [Nat.pow_mul]
  rw [hP] at hn hnl
  generalize s[0].toNat = d at *
  generalize Lib.bitLen d = B at *
  rw [show 8 * (s.size - 1) + B = 8 * (s.size - 1) + (B - 1) + 1 from by omega]
  apply bitsN_of
  · rw [hn, Nat.pow_add, Nat.mul_comm d]
    exact Nat.le_trans (Nat.mul_le_mul_left _ h3) (Nat.le_add_right _ _)
  · rw [hn, show 8 * (s.size - 1) + (B - 1) + 1 = 8 * (s.size - 1) + B from by omega, Nat.pow_add, Nat.mul_comm d]
    have h5 : 2 ^ (8 * (s.size - 1)) * (d + 1) ≤ 2 ^ (8 * (s.size - 1)) * 2 ^ B := Nat.mul_le_mul_left _ h4
    rw [Nat.mul_add] at h5
    omega

theorem bits_any (s : ByteArray) (w : World) (hs : s.size ≤ 1000000000000) :
    Calls Tryz.prog 70 #[.string s] w fun e w' => e = .returned (.int .i64 ((bitsN (num s.data.toList) : Nat) : Int)) ∧ w = w' := by
  have hls : (bytesOf s).size ≤ s.size := canon_length_le _
  have hrt : Rt (bytesOf s).data.toList := rt_canon _
  have hnum : num (bytesOf s).data.toList = num s.data.toList := num_canon _
  rw [← hnum]
  generalize ht : (bytesOf s) = t at hls hrt hnum
  have HT := Lib.hid ht
  clear ht hnum
  rcases Nat.eq_zero_or_pos t.size with h | h
  · have hb : bitsN (num t.data.toList) = 0 := by rw [nil_of_size h]; rfl
    have HB := Lib.hid hb
    have h0 : ((t.size : Int) == 0) = true := by simp [h]
    clear hb
    go_enter Tryz.func70, Tryz.ntmps70
    go_wp2_with fail
    refine (withoutZeros_any s _).mono ?_
    rintro e w' ⟨rfl, rfl⟩
    rw [show (⟨(canon s.data.toList).toArray⟩ : ByteArray) = t from HT.out]
    go_wp2
    go_ret
    exact ⟨by rw [HB.out]; rfl, rfl⟩
  · have hb := bitsN_bytes hrt h
    have HB := Lib.hid hb
    have h0 : ((t.size : Int) == 0) = false := by rw [beq_eq_false_iff_ne]; omega
    have hl8 := t[0].toNat_lt
    have hbl : Lib.bitLen t[0].toNat ≤ 8 := Lib.bitLen_le _ 8 (by omega) (by omega)
    clear hb
    go_enter Tryz.func70, Tryz.ntmps70
    go_wp2_with fail
    refine (withoutZeros_any s _).mono ?_
    rintro e w' ⟨rfl, rfl⟩
    rw [show (⟨(canon s.data.toList).toArray⟩ : ByteArray) = t from HT.out]
    go_wp2_with fail
    refine (Tryz.bits_Len8 _ _ (by omega) (by omega)).mono ?_
    rintro e w' ⟨rfl, rfl⟩
    rw [show Lib.bitLen ((t[0].toNat : Int).toNat) = Lib.bitLen t[0].toNat from rfl]
    generalize Lib.bitLen t[0].toNat = B at hbl HB
    go_wp2
    go_ret
    refine ⟨?_, rfl⟩
    rw [HB.out]
    show Ending.returned (Value.int .i64 (8 * ((t.size : Int) - 1) + (B : Int))) = _
    congr 2
    omega
end Go.Proofs.YteajpefbmiiioaaGreatDoor
namespace Go.Proofs.YteajpefbmiiioaaGreatDoor
open Go.RowKit Mth

theorem words_nil {xs : List Nat} {N : Nat} (h : Words xs N) (h0 : xs.length = 0) : N = 0 := by rw [← h.val, h0]; rfl
theorem words_one {xs : List Nat} {N : Nat} (h : Words xs N) (h1 : xs.length = 1) : gt xs 0 = N ∧ N < W64 := by
  have h2 := h.val
  have h3 := h.lt
  rw [h1] at h2 h3
  exact ⟨by simpa [vs] using h2, by simpa using h3⟩
theorem words_more {xs : List Nat} {N : Nat} (h : Words xs N) (h1 : 2 ≤ xs.length) : W64 ≤ N := by
  have h2 := h.ge (by omega)
  have h3 : W64 ^ 1 ≤ W64 ^ (xs.length - 1) := Nat.pow_le_pow_right W64_pos (by omega)
  rw [Nat.pow_one] at h3
  omega

theorem int_yes (s : ByteArray) (w : World) (hs : s.size ≤ 1000000000000) (h : num s.data.toList ≤ 9223372036854775807) :
    Calls Tryz.prog 68 #[.string s] w fun e w' => e = .returned (.tuple #[.int .i64 ((num s.data.toList : Nat) : Int), .bool true]) ∧ w.grownBy w' none := by
  have HN := Lib.hid h
  clear h
  go_enter Tryz.func68, Tryz.ntmps68
  go_wp2_with fail
  refine (wordsOf_any s w (by omega)).mono ?_
  rintro e w1 ⟨b1, xs, rfl, hlt1, hb1, hg1, hw1, hsz1⟩
  have hle : xs.length ≤ 1 := by
    rcases Nat.lt_or_ge 1 xs.length with h | h
    · have := words_more hw1 h; have := HN.out; rw [W64_eq] at *; omega
    · exact h
  rcases Nat.eq_zero_or_pos xs.length with h0 | h0
  · have hv := words_nil hw1 h0
    have HV := Lib.hid hv
    have h1 : ((xs.length : Int) == 0) = true := by simp [h0]
    clear hv h0
    go_wp2
    go_ret2
    exact ⟨by rw [HV.out]; rfl, hg1⟩
  · obtain h1 : xs.length = 1 := by omega
    obtain ⟨hv, hv2⟩ := words_one hw1 h1
    have hcell : w1.cell? ⟨b1, 0, none⟩ = some (.int .u64 ((num s.data.toList : Nat) : Int)) := by rw [hb1.cell (by omega), hv]
    have hn := HN.out
    have h2 : ((xs.length : Int) == 0) = false := by rw [h1]; rfl
    obtain ⟨N, hN⟩ : ∃ N, N = num s.data.toList := ⟨_, rfl⟩
    rw [← hN] at hcell hn
    have HE := Lib.hid hN
    clear h1 hv hv2 hw1 hN
    go_wp2
    go_ret2
    exact ⟨by rw [← HE.out]; rfl, hg1⟩
theorem int_no (s : ByteArray) (w : World) (hs : s.size ≤ 1000000000000) (h : 9223372036854775807 < num s.data.toList) :
    Calls Tryz.prog 68 #[.string s] w fun e w' => e = .returned (.tuple #[.int .i64 0, .bool false]) ∧ w.grownBy w' none := by
  have HN := Lib.hid h
  clear h
  go_enter Tryz.func68, Tryz.ntmps68
  go_wp2_with fail
  refine (wordsOf_any s w (by omega)).mono ?_
  rintro e w1 ⟨b1, xs, rfl, hlt1, hb1, hg1, hw1, hsz1⟩
  have hpos : 0 < xs.length := by
    rcases Nat.eq_zero_or_pos xs.length with h | h
    · have := words_nil hw1 h; have := HN.out; omega
    · exact h
  have h2 : ((xs.length : Int) == 0) = false := by rw [beq_eq_false_iff_ne]; omega
  rcases Nat.lt_or_ge 1 xs.length with h0 | h0
  · go_wp2
    go_ret2
    exact ⟨rfl, hg1⟩
  · obtain ⟨hv, hv2⟩ := words_one hw1 (by omega)
    have hcell : w1.cell? ⟨b1, 0, none⟩ = some (.int .u64 ((num s.data.toList : Nat) : Int)) := by rw [hb1.cell (by omega), hv]
    have hn := HN.out
    generalize num s.data.toList = N at hcell hn
    clear hv hv2 hw1
    go_wp2
    go_ret2
    exact ⟨rfl, hg1⟩

theorem drop_at {s : ByteArray} {i : Nat} (h : i < s.size) : s.data.toList.drop i = s[i] :: s.data.toList.drop (i + 1) := by
  rw [List.drop_eq_getElem_cons (by rw [len_toList]; exact h)]; rfl

theorem canon_any (s : ByteArray) (w : World) (hs : s.size ≤ 1000000000000) :
    Calls Tryz.prog 35 #[.string s] w fun e w' => e = .returned (.string ⟨(canon s.data.toList).toArray⟩) ∧ w = w' := by
  go_enter Tryz.func35, Tryz.ntmps35
  go_wp2
  go_loop [3] (fun v => ∃ i : Nat, i ≤ s.size ∧ v = .int .i64 i ∧ Hid (canon (s.data.toList.drop i) = canon s.data.toList)) (fun v => s.size - (intOf v).toNat)
  case atStart => exact ⟨0, Nat.zero_le _, rfl, rfl⟩
  case round =>
    obtain ⟨i, hi, rfl, HC⟩ := hrel
    go_wp2
    · have hlt : i < s.size := by assumption
      have h0 : ((s[i].toNat : Int) == 0) = true := by assumption
      have hz : s[i] = 0 := UInt8.toNat_inj.1 (by have := beq_iff_eq.1 h0; simpa using this)
      refine ⟨⟨i + 1, by omega, by go_num, ?_⟩, by simp [intOf]; omega⟩
      show canon _ = _
      rw [← HC.out, drop_at hlt, hz, canon, if_pos rfl]
    · have hlt : i < s.size := by assumption
      have h0 : ((s[i].toNat : Int) == 0) = false := by assumption
      have hz : s[i] ≠ 0 := by intro e; rw [e] at h0; simp at h0
      have hs2 : (⟨(canon s.data.toList).toArray⟩ : ByteArray) = s.extract i s.size := by
        apply toArray_eq
        rw [Lib.extract_to_end, ← HC.out, drop_at hlt, canon, if_neg hz]
      go_ret
      exact ⟨by rw [hs2]; rfl, rfl⟩
    · have hlt : ¬ i < s.size := by assumption
      have hs2 : (⟨(canon s.data.toList).toArray⟩ : ByteArray) = s.extract i s.size := by
        apply toArray_eq
        rw [Lib.extract_to_end, ← HC.out, List.drop_eq_nil_of_le (by rw [len_toList]; omega)]; rfl
      go_ret
      exact ⟨by rw [hs2]; rfl, rfl⟩

theorem made_nil (w : World) : Calls Tryz.prog 15 #[.slice none 0 0] w fun e w' => e = .returned (.string ⟨#[]⟩) ∧ w = w' := by
  have hcv := run_convert_bytes_nil (P := Tryz.prog) w 22 5 Tryz.underlying22 Tryz.underlying5 0 0 24 Tryz.underlying24
  have hmn : min (0 : Int) 40 = 0 := by decide
  go_enter Tryz.func15, Tryz.ntmps15
  go_wp2
  go_ret
  exact ⟨rfl, rfl⟩

theorem made_any (b off n m c : Nat) (xs : List Nat) (w : World) (hb : ∀ i, i < n → w.cell? ⟨b, off + i, none⟩ = some (.int .u8 ((gt xs i : Nat) : Int))) (hn : xs.length = n) (hc : n ≤ c) (hm : c ≤ maxLen) (hmin : m = min n 40) :
    Calls Tryz.prog 15 #[.slice (some ⟨b, off, none⟩) n c] w fun e w' => e = .returned (.string ⟨(u8s (xs.take m)).toArray⟩) ∧ w = w' := by
  unfold maxLen at hm
  have hm1 : min (n : Int) 40 = (m : Int) := by omega
  have hm2 : m ≤ c := by omega
  have hl : ((xs.take m).map fun v : Nat => (v : Int)).length = m := by simp; omega
  have hcv := fun dst hd => run_convert_bytes_arg (P := Tryz.prog) w 22 5 Tryz.underlying22 Tryz.underlying5 b off m c ((xs.take m).map fun v : Nat => (v : Int)) hl (fun j hj => by
    rw [hb j (by omega)]
    have h1 : j < xs.length := by omega
    simp [gt, List.getD, h1, hj]) dst hd
  have hc2 := hcv 24 Tryz.underlying24
  rw [nums_u8s] at hc2
  generalize (⟨(u8s (xs.take m)).toArray⟩ : ByteArray) = str at hc2
  clear hb hn hcv hl hmin
  go_enter Tryz.func15, Tryz.ntmps15
  go_wp2
  go_ret
  exact ⟨rfl, rfl⟩
end Go.Proofs.YteajpefbmiiioaaGreatDoor
