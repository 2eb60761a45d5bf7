/- Contracts of package nat and of the reference, part 3: Prod, Cmp, Sub, Ints, Int, DivP, Est. -/
import Derived.Test.YtoadjhmehgkeaaaDoorEDivi2
import Derived.WalkMore
namespace Go.Proofs.YtoadjhmehgkeaaaDoor
open Go.RowKit Mth

def ProdInv (A : Nat) (ys zs : List Nat) (n1 o2 i : Nat) : Prop := Dg W64 zs ∧ (∀ j, n1 + i ≤ j → gt zs j = 0) ∧ vs W64 zs 0 (n1 + i) = A * vs W64 ys o2 i
theorem ProdInv.next {A : Nat} {ys zs us : List Nat} {n1 o2 i c : Nat} (h : ProdInv A ys zs n1 o2 i) (hlen : n1 + i < zs.length) (g : AddedM zs us i n1 c (A * gt ys (o2 + i))) : ProdInv A ys (us.set (i + n1) c) n1 o2 (i + 1) := by
  obtain ⟨h1, h2, h3⟩ := h
  obtain ⟨g1, g2, g3, g4⟩ := g
  have hl : i + n1 < us.length := by rw [g1.len]; omega
  refine ⟨g2.set g3, fun j hj => ?_, ?_⟩
  · rw [gt_set hl, if_neg (by omega), g1.out j (by omega)]; exact h2 j (by omega)
  · rw [show n1 + (i + 1) = i + (n1 + 1) from by omega, vs_split]
    simp only [vs, Nat.zero_add]
    rw [gt_set hl, if_pos rfl]
    rw [vs_congr (ys := us) (off' := i) (n := n1) (fun j hj => by rw [gt_set hl, if_neg (by omega)])]
    rw [vs_congr (ys := zs) (off := 0) (off' := 0) (n := i) (fun j hj => by rw [gt_set hl, if_neg (by omega)]; exact g1.out _ (by omega))]
    rw [g4]
    rw [show n1 + i = i + n1 from by omega, vs_split, Nat.zero_add] at h3
    rw [Nat.mul_add, Nat.mul_add, ← h3, Nat.mul_left_comm A]
    omega

theorem product_any (b1 o1 n1 c1 b2 o2 n2 c2 : Nat) (xs ys : List Nat) (w : World) (hb : Blk .u64 57 w b1 xs) (hn : o1 + n1 ≤ xs.length) (hd : Dg W64 xs)
    (hb2 : Blk .u64 57 w b2 ys) (hn2 : o2 + n2 ≤ ys.length) (hd2 : Dg W64 ys) (hs1 : n1 ≤ 1099511627776) (hs2 : n2 ≤ 1099511627776) :
    Calls Tryd.prog 30 #[.slice (some ⟨b1, o1, none⟩) n1 c1, .slice (some ⟨b2, o2, none⟩) n2 c2] w fun e w' => ∃ b zs, e = .returned (.slice (some ⟨b, 0, none⟩) zs.length zs.length) ∧ w.heap.size ≤ b ∧ Blk .u64 57 w' b zs ∧ w.grownBy w' none ∧ Dg W64 zs ∧ zs.length = n1 + n2 ∧ vs W64 zs 0 zs.length = vs W64 xs o1 n1 * vs W64 ys o2 n2 := by
  obtain ⟨i0, hi, hz0, hz1, hz2⟩ := info_parts infoW
  obtain ⟨A, hA⟩ : ∃ A, A = vs W64 xs o1 n1 := ⟨_, rfl⟩
  have HA := Lib.hid hA
  clear hA
  go_enter Tryd.func30, Tryd.ntmps30
  go_wp2_with (at_make; refine wpList_make_full _ rfl _ _ 51 rfl 0 57 i0 (.int .u64 0) 1 Tryd.underlying51 hi hz0 hz1 .i64 .i64 _ _ (n1 + n2) rfl rfl ?_ ?_ ?_ ?_ (Nat.zero_le _) ?_)
  case refine_1 => omega
  case refine_2 => omega
  case refine_3 => rw [hz2]; omega
  case refine_4 => unfold maxLen; omega
  intro w1 hown hgr
  have hb0 := blk_made' hown
  have hl0 : (List.replicate (n1 + n2) 0 : List Nat).length = n1 + n2 := List.length_replicate
  have hi0 : ProdInv A ys (List.replicate (n1 + n2) 0) n1 o2 0 := by
    have hz : ∀ j, gt (List.replicate (n1 + n2) 0) j = 0 := fun j => by simp [gt, List.getD, List.getElem?_replicate]; split <;> rfl
    exact ⟨fun j => by rw [hz]; exact W64_pos, fun j _ => hz j, by rw [vs_zero (fun j _ => hz _)]; simp [vs]⟩
  generalize (List.replicate (n1 + n2) 0 : List Nat) = z0 at hb0 hl0 hi0
  clear hown hi hz0 hz1 hz2
  go_wp2
  go_loopw [16] (fun j wr => ∃ (i : Nat) (zs : List Nat), i ≤ n2 ∧ j = .int .i64 i ∧ Blk .u64 57 wr w.heap.size zs ∧ zs.length = n1 + n2 ∧ w.grownBy wr none ∧ ProdInv A ys zs n1 o2 i) (fun j _ => n2 - (intOf j).toNat)
  case atStart => exact ⟨0, z0, Nat.zero_le _, rfl, hb0, hl0, hgr, hi0⟩
  case round =>
    obtain ⟨i, zs, hile, rfl, hbz, hlz, hg, hinv⟩ := hrel
    have hbr := hb.kept hg (by simp)
    have hb2r := hb2.kept hg (by simp)
    have hne : b1 ≠ w.heap.size := by have := hb.lt; omega
    have HLZ := Lib.hid hlz
    clear hb0 hl0 hi0
    by_cases hlt : i < n2
    · have hcell2 : wr.cell? ⟨b2, o2 + i, none⟩ = some (.int .u64 ((gt ys (o2 + i) : Nat) : Int)) := hb2r.cell (by omega)
      have hcut : ¬ n1 + n2 = i := by omega
      clear hlz
      go_wp2_with fail
      refine (addMultiple_any w.heap.size i (n1 + n2 - i) (n1 + n2 - i) b1 o1 n1 c1 (gt ys (o2 + i)) zs xs wr hbz (by rw [HLZ.out]; omega) hinv.1 hbr hn hd hne (by omega) (hd2 _) (by unfold maxLen; omega)).mono ?_
      rintro e w' ⟨c, us, rfl, hu, hg2, hadd⟩
      rw [← HA.out] at hadd
      have hnx := hinv.next (by rw [HLZ.out]; omega) hadd
      have hfr : w'.frozen? ⟨w.heap.size, i + n1, none⟩ = false := hu.frozen _
      have hlu : us.length = n1 + n2 := hadd.1.len.trans HLZ.out
      have HLU := Lib.hid hlu
      clear hlu
      have hold : w'.cell? ⟨w.heap.size, i + n1, none⟩ = some (.int .u64 ((gt us (i + n1) : Nat) : Int)) := hu.cell (by rw [HLU.out]; omega)
      go_wp2
      refine ⟨⟨i + 1, us.set (i + n1) c, by omega, by go_num, hu.set _ _, by rw [List.length_set]; exact HLU.out, ?_, hnx⟩, by simp [intOf]; omega⟩
      exact gr_new (gr_new hg hg2 (Nat.le_refl _)) (gr_set _ _ _ _) (Nat.le_refl _)
    · obtain rfl : i = n2 := by omega
      go_wp2
      go_ret
      refine ⟨w.heap.size, zs, by rw [HLZ.out]; rfl, Nat.le_refl _, hbz, hg, hinv.1, HLZ.out, ?_⟩
      rw [HLZ.out, hinv.2.2, HA.out]
end Go.Proofs.YtoadjhmehgkeaaaDoor

namespace Go.Proofs.YtoadjhmehgkeaaaDoor
open Go.RowKit Mth

theorem bytesLess_num : ∀ (x y : List UInt8), x.length = y.length → Op.bytesLess x y = decide (num x < num y)
  | [], [], _ => by simp [Op.bytesLess, num]
  | [], _ :: _, h => by simp at h
  | _ :: _, [], h => by simp at h
  | a :: x, b :: y, h => by
    have hl : x.length = y.length := by simpa using h
    have hx := num_lt x
    have hy := num_lt y
    rw [Op.bytesLess, bytesLess_num x y hl, num_cons, num_cons, hl]
    rw [hl] at hx
    by_cases h1 : a < b
    · have h2 : a.toNat + 1 ≤ b.toNat := UInt8.lt_iff_toNat_lt.1 h1
      have h3 : (a.toNat + 1) * 256 ^ y.length ≤ b.toNat * 256 ^ y.length := Nat.mul_le_mul_right _ h2
      rw [Nat.add_mul] at h3
      rw [decide_eq_true h1, Bool.true_or]; exact (decide_eq_true (by omega)).symm
    · by_cases h2 : a = b
      · subst h2
        rw [decide_eq_false h1, show (a == a) = true from by simp, Bool.true_and, Bool.false_or]
        by_cases h3 : num x < num y
        · rw [decide_eq_true h3]; exact (decide_eq_true (by omega)).symm
        · rw [decide_eq_false h3]; exact (decide_eq_false (by omega)).symm
      · have h4 : b.toNat + 1 ≤ a.toNat := by
          have h5 : ¬ a.toNat < b.toNat := fun h => h1 (UInt8.lt_iff_toNat_lt.2 h)
          have h6 : a.toNat ≠ b.toNat := fun h => h2 (UInt8.toNat_inj.1 h)
          omega
        have h3 : (b.toNat + 1) * 256 ^ y.length ≤ a.toNat * 256 ^ y.length := Nat.mul_le_mul_right _ h4
        rw [Nat.add_mul] at h3
        rw [decide_eq_false h1, show (a == b) = false from by simp [h2], Bool.false_and, Bool.false_or]; exact (decide_eq_false (by omega)).symm

theorem num_inj_len : ∀ {x y : List UInt8}, x.length = y.length → num x = num y → x = y
  | [], [], _, _ => rfl
  | [], _ :: _, h, _ => by simp at h
  | _ :: _, [], h, _ => by simp at h
  | a :: x, b :: y, h, hn => by
    have hl : x.length = y.length := by simpa using h
    have hx := num_lt x
    have hy := num_lt y
    rw [num_cons, num_cons, hl] at hn
    rw [hl] at hx
    have hab : a.toNat = b.toNat := by
      rcases Nat.lt_trichotomy a.toNat b.toNat with h1 | h1 | h1
      · have h3 : (a.toNat + 1) * 256 ^ y.length ≤ b.toNat * 256 ^ y.length := Nat.mul_le_mul_right _ h1
        rw [Nat.add_mul] at h3; omega
      · exact h1
      · have h3 : (b.toNat + 1) * 256 ^ y.length ≤ a.toNat * 256 ^ y.length := Nat.mul_le_mul_right _ h1
        rw [Nat.add_mul] at h3; omega
    rw [hab] at hn
    rw [UInt8.toNat_inj.1 hab, num_inj_len hl (by omega)]
theorem bytesLess_asymm (x y : List UInt8) (h : x.length = y.length) : num x < num y ∨ x = y ∨ num y < num x := by
  rcases Nat.lt_trichotomy (num x) (num y) with h1 | h1 | h1
  · exact .inl h1
  · exact .inr (.inl (num_inj_len h h1))
  · exact .inr (.inr h1)

/-- -1, 0 or 1. -/
def cmpN (a b : Nat) : Int := if a < b then -1 else if b < a then 1 else 0

theorem cmpNat_any (s t : ByteArray) (w : World) (h : s.size = t.size) :
    Calls Tryd.prog 41 #[.string s, .string t] w fun e w' => e = .returned (.int .i64 (cmpN (num s.data.toList) (num t.data.toList))) ∧ w = w' := by
  have h1 := Lib.hid (bytesLess_num s.data.toList t.data.toList h)
  have h2 := Lib.hid (bytesLess_num t.data.toList s.data.toList h.symm)
  have h3 := Lib.hid (bytesLess_asymm s.data.toList t.data.toList h)
  clear h
  go_enter Tryd.func41, Tryd.ntmps41
  go_wp2
  · have hl : Op.bytesLess s.toList t.toList = true := by assumption
    rw [Lib.toList_data, Lib.toList_data, h1.out] at hl
    have hn : num s.data.toList < num t.data.toList := of_decide_eq_true hl
    go_ret
    exact ⟨by unfold cmpN; rw [if_pos hn]; rfl, rfl⟩
  · have hl : Op.bytesLess s.toList t.toList = false := by assumption
    have he : (!(s.toList == t.toList)) = true := by assumption
    rw [Lib.toList_data, Lib.toList_data, h1.out] at hl
    rw [Lib.toList_data, Lib.toList_data] at he
    have hn : ¬ num s.data.toList < num t.data.toList := of_decide_eq_false hl
    have hne : s.data.toList ≠ t.data.toList := by simpa using he
    have hlt : num t.data.toList < num s.data.toList := by rcases h3.out with h | h | h; exact absurd h hn; exact absurd h hne; exact h
    go_ret
    exact ⟨by unfold cmpN; rw [if_neg hn, if_pos hlt]; rfl, rfl⟩
  · have he : (!(s.toList == t.toList)) = false := by assumption
    rw [Lib.toList_data, Lib.toList_data] at he
    have hne : s.data.toList = t.data.toList := by simpa using he
    go_ret
    exact ⟨by unfold cmpN; rw [hne, if_neg (by omega), if_neg (by omega)]; rfl, rfl⟩

theorem num_lt_of_len {a b : ByteArray} (hb : Rt b.data.toList) (h : a.size < b.size) : num a.data.toList < num b.data.toList := by
  have h1 := num_lt a.data.toList
  have hne : b.data.toList ≠ [] := by intro e; have := len_toList b; rw [e] at this; simp at this; omega
  have h2 := num_ge hb hne
  have h3 : 256 ^ a.data.toList.length ≤ 256 ^ (b.data.toList.length - 1) := Nat.pow_le_pow_right (by decide) (by rw [len_toList, len_toList]; omega)
  omega

theorem cmp_any (s t : ByteArray) (w : World) :
    Calls Tryd.prog 24 #[.string s, .string t] w fun e w' => e = .returned (.int .i64 (cmpN (num s.data.toList) (num t.data.toList))) ∧ w = w' := by
  have hn1 : num (bytesOf s).data.toList = num s.data.toList := num_canon _
  have hn2 : num (bytesOf t).data.toList = num t.data.toList := num_canon _
  have hr1 : Rt (bytesOf s).data.toList := rt_canon _
  have hr2 : Rt (bytesOf t).data.toList := rt_canon _
  generalize h1 : (bytesOf s) = a at hn1 hr1
  generalize h2 : (bytesOf t) = b at hn2 hr2
  have H1 := Lib.hid h1
  have H2 := Lib.hid h2
  have HN1 := Lib.hid hn1
  have HN2 := Lib.hid hn2
  have HR1 := Lib.hid hr1
  have HR2 := Lib.hid hr2
  clear h1 h2 hn1 hn2 hr1 hr2
  go_enter Tryd.func24, Tryd.ntmps24
  go_wp2_with fail
  refine (withoutZeros_any s _).mono ?_
  rintro e w' ⟨rfl, rfl⟩
  rw [show (⟨(canon s.data.toList).toArray⟩ : ByteArray) = a from H1.out]
  go_wp2_with fail
  refine (withoutZeros_any t _).mono ?_
  rintro e w' ⟨rfl, rfl⟩
  rw [show (⟨(canon t.data.toList).toArray⟩ : ByteArray) = b from H2.out]
  by_cases hl : a.size = b.size
  · have HL := Lib.hid hl
    have hb : ((a.size : Int) != (b.size : Int)) = false := by rw [bne_eq_false_iff_eq, hl]
    clear hl
    go_wp2_with fail
    refine (cmpNat_any a b _ HL.out).mono ?_
    rintro e w' ⟨rfl, rfl⟩
    go_wp2
    go_ret
    exact ⟨by rw [← HN1.out, ← HN2.out]; rfl, rfl⟩
  · have hb : ((a.size : Int) != (b.size : Int)) = true := by rw [bne_iff_ne]; omega
    have hc : Lib.compareInt (a.size : Int) (b.size : Int) = cmpN (num s.data.toList) (num t.data.toList) := by
      rw [← HN1.out, ← HN2.out]
      unfold Lib.compareInt cmpN
      rcases Nat.lt_or_gt_of_ne hl with h | h
      · rw [if_pos (by omega), if_pos (num_lt_of_len HR2.out h)]
      · have h2 := num_lt_of_len HR1.out h
        have h2' : num b.data.toList < num a.data.toList := h2
        rw [if_neg (by omega), if_pos (by omega), if_neg (by omega), if_pos h2']
    have HC := Lib.hid hc
    clear hc hl
    go_wp2_with fail
    refine (Tryd.cmp_Compare_int _ _ _).mono ?_
    rintro e w' ⟨rfl, rfl⟩
    go_wp2
    go_ret
    exact ⟨by rw [← HC.out]; rfl, rfl⟩
end Go.Proofs.YtoadjhmehgkeaaaDoor

namespace Go.Proofs.YtoadjhmehgkeaaaDoor
open Go.RowKit Mth

theorem Mth.Words.lt {xs : List Nat} {N : Nat} (h : Words xs N) : N < W64 ^ xs.length := by rw [← h.val]; exact vs_lt h.dg
theorem Mth.Words.ge {xs : List Nat} {N : Nat} (h : Words xs N) (hl : 0 < xs.length) : W64 ^ (xs.length - 1) ≤ N := by
  have ht : gt xs (xs.length - 1) ≠ 0 := by rcases h.top with h0 | h0; omega; exact h0
  rw [← h.val]
  obtain ⟨m, hm⟩ : ∃ m, xs.length = m + 1 := ⟨xs.length - 1, by omega⟩
  rw [hm] at ht ⊢
  simp only [Nat.add_sub_cancel] at ht ⊢
  simp only [vs, Nat.zero_add]
  have : W64 ^ m * 1 ≤ W64 ^ m * gt xs m := Nat.mul_le_mul_left _ (by omega)
  omega
theorem Mth.Words.len_le {xs ys : List Nat} {N M : Nat} (h : Words xs N) (g : Words ys M) (hle : M ≤ N) : ys.length ≤ xs.length := by
  rcases Nat.lt_or_ge xs.length ys.length with h1 | h1
  · have h2 := h.lt
    have h3 := g.ge (by omega)
    have h4 : W64 ^ xs.length ≤ W64 ^ (ys.length - 1) := Nat.pow_le_pow_right W64_pos (by omega)
    omega
  · exact h1

theorem sub_no (s t : ByteArray) (w : World) (h : num s.data.toList < num t.data.toList) :
    Calls Tryd.prog 20 #[.string s, .string t] w fun e w' => e = .returned (.tuple #[.string ⟨#[]⟩, .bool false]) ∧ w.grownBy w' none := by
  have hc : cmpN (num s.data.toList) (num t.data.toList) = -1 := by unfold cmpN; rw [if_pos h]
  have HC := Lib.hid hc
  clear hc h
  go_enter Tryd.func20, Tryd.ntmps20
  go_wp2_with fail
  refine (cmp_any s t _).mono ?_
  rintro e w' ⟨rfl, rfl⟩
  rw [HC.out]
  go_wp2
  go_ret2
  exact ⟨rfl, World.grownBy.refl _ _⟩

theorem sub_yes (s t : ByteArray) (w : World) (h : num t.data.toList ≤ num s.data.toList) (hs : s.size ≤ 1000000000000) (ht : t.size ≤ 1000000000000) :
    Calls Tryd.prog 20 #[.string s, .string t] w fun e w' => e = .returned (.tuple #[.string ⟨(enc (num s.data.toList - num t.data.toList)).toArray⟩, .bool true]) ∧ w.grownBy w' none := by
  obtain ⟨c, hc⟩ : ∃ c, cmpN (num s.data.toList) (num t.data.toList) = c := ⟨_, rfl⟩
  have hc0 : decide (c < 0) = false := by rw [decide_eq_false_iff_not, ← hc]; unfold cmpN; split; omega; split <;> omega
  have hc1 : ¬ c < 0 := of_decide_eq_false hc0
  have HC := Lib.hid hc
  have HLE := Lib.hid h
  clear hc h
  go_enter Tryd.func20, Tryd.ntmps20
  go_wp2_with fail
  refine (cmp_any s t _).mono ?_
  rintro e w' ⟨rfl, rfl⟩
  rw [HC.out]
  go_wp2_with fail
  refine (wordsOf_any s _ (by omega)).mono ?_
  rintro e w1 ⟨b1, xs, rfl, hlt1, hb1, hg1, hw1, hsz1⟩
  go_wp2_with fail
  refine (wordsOf_any t w1 (by omega)).mono ?_
  rintro e w2 ⟨b2, ys, rfl, hlt2, hb2, hg2, hw2, hsz2⟩
  have hb12 := hb1.lt
  go_wp2_with fail
  refine (subtractFrom_any b1 0 xs.length xs.length b2 0 ys.length ys.length xs ys w2 (hb1.kept hg2 (by simp)) (by omega) hw1.dg (by unfold maxLen; omega) hb2 (by omega) hw2.dg (by omega) (hw1.len_le hw2 HLE.out) (by rw [hw1.val, hw2.val]; exact HLE.out)).mono ?_
  rintro e w3 ⟨rfl, zs, hb3, hg3, hwr, hd3, hv3⟩
  rw [hw1.val, hw2.val] at hv3
  have hl3 := hwr.len
  have HL := Lib.hid hl3
  have hle : xs.length ≤ zs.length := by omega
  have hv : vs W64 zs 0 xs.length = num s.data.toList - num t.data.toList := by omega
  have HV := Lib.hid hv
  clear hl3 hv hv3 hwr
  go_wp2_with fail
  refine (natOf_any b1 0 xs.length xs.length zs w3 hb3 (by omega) hd3 (Nat.le_refl _) (by unfold maxLen; omega) (by omega)).mono ?_
  rintro e w4 ⟨rfl, hg4⟩
  go_wp2
  go_ret2
  refine ⟨by rw [HV.out]; rfl, ?_⟩
  exact gr_then (gr_new (gr_then hg1 hg2) hg3 hlt1) hg4

end Go.Proofs.YtoadjhmehgkeaaaDoor

namespace Go.Proofs.YtoadjhmehgkeaaaDoor
open Go.RowKit Mth

theorem of_neg (n : Int) (w : World) (h : n < 0) :
    Calls Tryd.prog 12 #[.int .i64 n] w fun e w' => e = .returned (.string ⟨#[]⟩) ∧ w = w' := by
  go_enter Tryd.func12, Tryd.ntmps12
  go_wp2
  go_ret
  exact ⟨rfl, rfl⟩

theorem blk_one (w : World) (k : IntKind) (e : TypeId) (n : Nat) : Blk k e (w.alloc (.cells #[.int k (n : Int)] e)) w.heap.size [n] := by
  unfold Blk
  rw [heap_alloc_new]
  simp [cellsOf]
theorem dg_one {b n : Nat} (h : n < b) : Dg b [n] := Dg.of_mem (by omega) (by simpa using h)
theorem vs_one (b n : Nat) : vs b [n] 0 1 = n := by simp [vs, gt]

theorem of_any (n : Nat) (w : World) (h : n ≤ 9223372036854775807) :
    Calls Tryd.prog 12 #[.int .i64 (n : Int)] w fun e w' => e = .returned (.string ⟨(enc n).toArray⟩) ∧ w.grownBy w' none := by
  go_enter Tryd.func12, Tryd.ntmps12
  go_wp2_with fail
  refine (natOf_any w.heap.size 0 1 1 [n] _ (blk_one w .u64 57 n) (by simp) (dg_one (by rw [W64_eq]; omega)) (Nat.le_refl _) (by decide) (by omega)).mono ?_
  rintro e w' ⟨rfl, hg⟩
  rw [vs_one]
  go_wp2
  go_ret
  exact ⟨rfl, gr_then (gr_alloc _ _ _) hg⟩

def rtB : List UInt8 → Bool | [] => true | d :: _ => d != 0
theorem rtB_of_rt {l : List UInt8} (h : Rt l) : rtB l = true := by
  cases l with
  | nil => rfl
  | cons d l => simp only [rtB, bne_iff_ne]; intro e; subst e; simp [Rt] at h
theorem nil_of_size {s : ByteArray} (h : s.size = 0) : s.data.toList = [] := List.eq_nil_of_length_eq_zero (by rw [len_toList]; exact h)
theorem cons_of_size {s : ByteArray} (h : 0 < s.size) : s.data.toList = s[0] :: s.data.toList.drop 1 := by
  cases hl : s.data.toList with
  | nil => have := len_toList s; rw [hl] at this; simp at this; omega
  | cons d l =>
    have : s[0] = s.data.toList[0]'(by rw [len_toList]; exact h) := rfl
    rw [this]; simp [hl]

theorem right_nil (s : ByteArray) (w : World) (h : s.size = 0) :
    Calls Tryd.prog 18 #[.string s] w fun e w' => e = .returned (.bool (rtB s.data.toList)) ∧ w = w' := by
  have hr : rtB s.data.toList = true := by rw [nil_of_size h]; rfl
  have HR := Lib.hid hr
  clear hr
  have hz : s = ByteArray.empty := by
    have := nil_of_size h
    cases s with | mk d => cases d with | mk l => simp at this; subst this; rfl
  subst hz
  go_enter Tryd.func18, Tryd.ntmps18
  go_wp2
  go_ret
  exact ⟨by rw [HR.out]; rfl, rfl⟩
theorem right_cons (s : ByteArray) (w : World) (h : 0 < s.size) :
    Calls Tryd.prog 18 #[.string s] w fun e w' => e = .returned (.bool (rtB s.data.toList)) ∧ w = w' := by
  have hr : rtB s.data.toList = ((s[0].toNat : Int) != 0) := by
    rw [cons_of_size h]
    simp only [rtB]
    rw [Bool.eq_iff_iff, bne_iff_ne, bne_iff_ne]
    constructor
    · intro h1 h2; exact h1 (UInt8.toNat_inj.1 (by simpa using h2))
    · intro h1 h2; rw [h2] at h1; simp at h1
  have HR := Lib.hid hr
  have hne : ((s.size : Int) == 0) = false := by simp; intro e; rw [e] at h; simp at h
  clear hr
  go_enter Tryd.func18, Tryd.ntmps18
  go_wp2
  go_ret
  exact ⟨by rw [HR.out]; rfl, rfl⟩
theorem right_any (s : ByteArray) (w : World) :
    Calls Tryd.prog 18 #[.string s] w fun e w' => e = .returned (.bool (rtB s.data.toList)) ∧ w = w' := by
  rcases Nat.eq_zero_or_pos s.size with h | h
  · exact right_nil s w h
  · exact right_cons s w h

/-- The number of binary digits. -/
def bitsN (n : Nat) : Nat := if n = 0 then 0 else Nat.log2 n + 1
theorem bitsN_of {n k : Nat} (h1 : 2 ^ k ≤ n) (h2 : n < 2 ^ (k + 1)) : bitsN n = k + 1 := by
  have hp : 0 < 2 ^ k := Nat.pow_pos (by decide)
  unfold bitsN
  rw [if_neg (by omega)]
  have h3 : n ≠ 0 := by omega
  have h4 : k ≤ Nat.log2 n := (Nat.le_log2 h3).2 h1
  have h5 : Nat.log2 n < k + 1 := (Nat.log2_lt h3).2 h2
  omega
theorem bitsN_bytes {s : ByteArray} (hr : Rt s.data.toList) (h : 0 < s.size) : bitsN (num s.data.toList) = 8 * (s.size - 1) + Lib.bitLen s[0].toNat := by
  have hd : s[0].toNat ≠ 0 := by
    intro e
    have e0 : s[0] = 0 := UInt8.toNat_inj.1 (by simpa using e)
    rw [cons_of_size h, e0] at hr; simp [Rt] at hr
  have hlt := s[0].toNat_lt
  obtain ⟨h1, h2, h3, h4⟩ := bitLen_bounds (x := s[0].toNat) (by rw [W64_eq]; omega) hd
  have hlen : (s.data.toList.drop 1).length = s.size - 1 := by rw [List.length_drop, len_toList]
  have hnl := num_lt (s.data.toList.drop 1)
  rw [hlen] at hnl
  have hn : num s.data.toList = s[0].toNat * 256 ^ (s.size - 1) + num (s.data.toList.drop 1) := by
    conv => lhs; rw [cons_of_size h]
    rw [num_cons, hlen]
  have hP : (256 : Nat) ^ (s.size - 1) = 2 ^ (8 * (s.size - 1)) := by rw [Nat.pow_mul]
  rw [hP] at hn hnl
  generalize s[0].toNat = d at *
  generalize Lib.bitLen d = B at *
  rw [show 8 * (s.size - 1) + B = 8 * (s.size - 1) + (B - 1) + 1 from by omega]
  apply bitsN_of
  · rw [hn, Nat.pow_add, Nat.mul_comm d]
    exact Nat.le_trans (Nat.mul_le_mul_left _ h3) (Nat.le_add_right _ _)
  · rw [hn, show 8 * (s.size - 1) + (B - 1) + 1 = 8 * (s.size - 1) + B from by omega, Nat.pow_add, Nat.mul_comm d]
    have h5 : 2 ^ (8 * (s.size - 1)) * (d + 1) ≤ 2 ^ (8 * (s.size - 1)) * 2 ^ B := Nat.mul_le_mul_left _ h4
    rw [Nat.mul_add] at h5
    omega

theorem bits_any (s : ByteArray) (w : World) (hs : s.size ≤ 1000000000000) :
    Calls Tryd.prog 16 #[.string s] w fun e w' => e = .returned (.int .i64 ((bitsN (num s.data.toList) : Nat) : Int)) ∧ w = w' := by
  have hls : (bytesOf s).size ≤ s.size := canon_length_le _
  have hrt : Rt (bytesOf s).data.toList := rt_canon _
  have hnum : num (bytesOf s).data.toList = num s.data.toList := num_canon _
  rw [← hnum]
  generalize ht : (bytesOf s) = t at hls hrt hnum
  have HT := Lib.hid ht
  clear ht hnum
  rcases Nat.eq_zero_or_pos t.size with h | h
  · have hb : bitsN (num t.data.toList) = 0 := by rw [nil_of_size h]; rfl
    have HB := Lib.hid hb
    have h0 : ((t.size : Int) == 0) = true := by simp [h]
    clear hb
    go_enter Tryd.func16, Tryd.ntmps16
    go_wp2_with fail
    refine (withoutZeros_any s _).mono ?_
    rintro e w' ⟨rfl, rfl⟩
    rw [show (⟨(canon s.data.toList).toArray⟩ : ByteArray) = t from HT.out]
    go_wp2
    go_ret
    exact ⟨by rw [HB.out]; rfl, rfl⟩
  · have hb := bitsN_bytes hrt h
    have HB := Lib.hid hb
    have h0 : ((t.size : Int) == 0) = false := by rw [beq_eq_false_iff_ne]; omega
    have hl8 := t[0].toNat_lt
    have hbl : Lib.bitLen t[0].toNat ≤ 8 := Lib.bitLen_le _ 8 (by omega) (by omega)
    clear hb
    go_enter Tryd.func16, Tryd.ntmps16
    go_wp2_with fail
    refine (withoutZeros_any s _).mono ?_
    rintro e w' ⟨rfl, rfl⟩
    rw [show (⟨(canon s.data.toList).toArray⟩ : ByteArray) = t from HT.out]
    go_wp2_with fail
    refine (Tryd.bits_Len8 _ _ (by omega) (by omega)).mono ?_
    rintro e w' ⟨rfl, rfl⟩
    rw [show Lib.bitLen ((t[0].toNat : Int).toNat) = Lib.bitLen t[0].toNat from rfl]
    generalize Lib.bitLen t[0].toNat = B at hbl HB
    go_wp2
    go_ret
    refine ⟨?_, rfl⟩
    rw [HB.out]
    show Ending.returned (Value.int .i64 (8 * ((t.size : Int) - 1) + (B : Int))) = _
    congr 2
    omega
end Go.Proofs.YtoadjhmehgkeaaaDoor

namespace Go.Proofs.YtoadjhmehgkeaaaDoor
open Go.RowKit Mth

theorem words_nil {xs : List Nat} {N : Nat} (h : Words xs N) (h0 : xs.length = 0) : N = 0 := by rw [← h.val, h0]; rfl
theorem words_one {xs : List Nat} {N : Nat} (h : Words xs N) (h1 : xs.length = 1) : gt xs 0 = N ∧ N < W64 := by
  have h2 := h.val
  have h3 := h.lt
  rw [h1] at h2 h3
  exact ⟨by simpa [vs] using h2, by simpa using h3⟩
theorem words_more {xs : List Nat} {N : Nat} (h : Words xs N) (h1 : 2 ≤ xs.length) : W64 ≤ N := by
  have h2 := h.ge (by omega)
  have h3 : W64 ^ 1 ≤ W64 ^ (xs.length - 1) := Nat.pow_le_pow_right W64_pos (by omega)
  rw [Nat.pow_one] at h3
  omega

theorem int_yes (s : ByteArray) (w : World) (hs : s.size ≤ 1000000000000) (h : num s.data.toList ≤ 9223372036854775807) :
    Calls Tryd.prog 13 #[.string s] w fun e w' => e = .returned (.tuple #[.int .i64 ((num s.data.toList : Nat) : Int), .bool true]) ∧ w.grownBy w' none := by
  have HN := Lib.hid h
  clear h
  go_enter Tryd.func13, Tryd.ntmps13
  go_wp2_with fail
  refine (wordsOf_any s w (by omega)).mono ?_
  rintro e w1 ⟨b1, xs, rfl, hlt1, hb1, hg1, hw1, hsz1⟩
  have hle : xs.length ≤ 1 := by
    rcases Nat.lt_or_ge 1 xs.length with h | h
    · have := words_more hw1 h; have := HN.out; rw [W64_eq] at *; omega
    · exact h
  rcases Nat.eq_zero_or_pos xs.length with h0 | h0
  · have hv := words_nil hw1 h0
    have HV := Lib.hid hv
    have h1 : ((xs.length : Int) == 0) = true := by simp [h0]
    clear hv h0
    go_wp2
    go_ret2
    exact ⟨by rw [HV.out]; rfl, hg1⟩
  · obtain h1 : xs.length = 1 := by omega
    obtain ⟨hv, hv2⟩ := words_one hw1 h1
    have hcell : w1.cell? ⟨b1, 0, none⟩ = some (.int .u64 ((num s.data.toList : Nat) : Int)) := by rw [hb1.cell (by omega), hv]
    have hn := HN.out
    have h2 : ((xs.length : Int) == 0) = false := by rw [h1]; rfl
    obtain ⟨N, hN⟩ : ∃ N, N = num s.data.toList := ⟨_, rfl⟩
    rw [← hN] at hcell hn
    have HE := Lib.hid hN
    clear h1 hv hv2 hw1 hN
    go_wp2
    go_ret2
    exact ⟨by rw [← HE.out]; rfl, hg1⟩
theorem int_no (s : ByteArray) (w : World) (hs : s.size ≤ 1000000000000) (h : 9223372036854775807 < num s.data.toList) :
    Calls Tryd.prog 13 #[.string s] w fun e w' => e = .returned (.tuple #[.int .i64 0, .bool false]) ∧ w.grownBy w' none := by
  have HN := Lib.hid h
  clear h
  go_enter Tryd.func13, Tryd.ntmps13
  go_wp2_with fail
  refine (wordsOf_any s w (by omega)).mono ?_
  rintro e w1 ⟨b1, xs, rfl, hlt1, hb1, hg1, hw1, hsz1⟩
  have hpos : 0 < xs.length := by
    rcases Nat.eq_zero_or_pos xs.length with h | h
    · have := words_nil hw1 h; have := HN.out; omega
    · exact h
  have h2 : ((xs.length : Int) == 0) = false := by rw [beq_eq_false_iff_ne]; omega
  rcases Nat.lt_or_ge 1 xs.length with h0 | h0
  · go_wp2
    go_ret2
    exact ⟨rfl, hg1⟩
  · obtain ⟨hv, hv2⟩ := words_one hw1 (by omega)
    have hcell : w1.cell? ⟨b1, 0, none⟩ = some (.int .u64 ((num s.data.toList : Nat) : Int)) := by rw [hb1.cell (by omega), hv]
    have hn := HN.out
    generalize num s.data.toList = N at hcell hn
    clear hv hv2 hw1
    go_wp2
    go_ret2
    exact ⟨rfl, hg1⟩

theorem drop_at {s : ByteArray} {i : Nat} (h : i < s.size) : s.data.toList.drop i = s[i] :: s.data.toList.drop (i + 1) := by
  rw [List.drop_eq_getElem_cons (by rw [len_toList]; exact h)]; rfl

theorem canon_any (s : ByteArray) (w : World) (hs : s.size ≤ 1000000000000) :
    Calls Tryd.prog 22 #[.string s] w fun e w' => e = .returned (.string ⟨(canon s.data.toList).toArray⟩) ∧ w = w' := by
  go_enter Tryd.func22, Tryd.ntmps22
  go_wp2
  go_loop [3] (fun v => ∃ i : Nat, i ≤ s.size ∧ v = .int .i64 i ∧ Hid (canon (s.data.toList.drop i) = canon s.data.toList)) (fun v => s.size - (intOf v).toNat)
  case atStart => exact ⟨0, Nat.zero_le _, rfl, rfl⟩
  case round =>
    obtain ⟨i, hi, rfl, HC⟩ := hrel
    go_wp2
    · have hlt : i < s.size := by assumption
      have h0 : ((s[i].toNat : Int) == 0) = true := by assumption
      have hz : s[i] = 0 := UInt8.toNat_inj.1 (by have := beq_iff_eq.1 h0; simpa using this)
      refine ⟨⟨i + 1, by omega, by go_num, ?_⟩, by simp [intOf]; omega⟩
      show canon _ = _
      rw [← HC.out, drop_at hlt, hz, canon, if_pos rfl]
    · have hlt : i < s.size := by assumption
      have h0 : ((s[i].toNat : Int) == 0) = false := by assumption
      have hz : s[i] ≠ 0 := by intro e; rw [e] at h0; simp at h0
      have hs2 : (⟨(canon s.data.toList).toArray⟩ : ByteArray) = s.extract i s.size := by
        apply toArray_eq
        rw [Lib.extract_to_end, ← HC.out, drop_at hlt, canon, if_neg hz]
      go_ret
      exact ⟨by rw [hs2]; rfl, rfl⟩
    · have hlt : ¬ i < s.size := by assumption
      have hs2 : (⟨(canon s.data.toList).toArray⟩ : ByteArray) = s.extract i s.size := by
        apply toArray_eq
        rw [Lib.extract_to_end, ← HC.out, List.drop_eq_nil_of_le (by rw [len_toList]; omega)]; rfl
      go_ret
      exact ⟨by rw [hs2]; rfl, rfl⟩

theorem made_nil (w : World) : Calls Tryd.prog 9 #[.slice none 0 0] w fun e w' => e = .returned (.string ⟨#[]⟩) ∧ w = w' := by
  have hcv := run_convert_bytes_nil (P := Tryd.prog) w 22 5 Tryd.underlying22 Tryd.underlying5 0 0 24 Tryd.underlying24
  have hmn : min (0 : Int) 40 = 0 := by decide
  go_enter Tryd.func9, Tryd.ntmps9
  go_wp2
  go_ret
  exact ⟨rfl, rfl⟩

theorem made_any (b off n m c : Nat) (xs : List Nat) (w : World) (hb : ∀ i, i < n → w.cell? ⟨b, off + i, none⟩ = some (.int .u8 ((gt xs i : Nat) : Int))) (hn : xs.length = n) (hc : n ≤ c) (hm : c ≤ maxLen) (hmin : m = min n 40) :
    Calls Tryd.prog 9 #[.slice (some ⟨b, off, none⟩) n c] w fun e w' => e = .returned (.string ⟨(u8s (xs.take m)).toArray⟩) ∧ w = w' := by
  unfold maxLen at hm
  have hm1 : min (n : Int) 40 = (m : Int) := by omega
  have hm2 : m ≤ c := by omega
  have hl : ((xs.take m).map fun v : Nat => (v : Int)).length = m := by simp; omega
  have hcv := fun dst hd => run_convert_bytes_arg (P := Tryd.prog) w 22 5 Tryd.underlying22 Tryd.underlying5 b off m c ((xs.take m).map fun v : Nat => (v : Int)) hl (fun j hj => by
    rw [hb j (by omega)]
    have h1 : j < xs.length := by omega
    simp [gt, List.getD, h1, hj]) dst hd
  have hc2 := hcv 24 Tryd.underlying24
  rw [nums_u8s] at hc2
  generalize (⟨(u8s (xs.take m)).toArray⟩ : ByteArray) = str at hc2
  clear hb hn hcv hl hmin
  go_enter Tryd.func9, Tryd.ntmps9
  go_wp2
  go_ret
  exact ⟨rfl, rfl⟩
end Go.Proofs.YtoadjhmehgkeaaaDoor

namespace Go.Proofs.YtoadjhmehgkeaaaDoor
open Go.RowKit Mth

theorem vs_left (b : Nat) (xs : List Nat) (off m : Nat) : vs b xs off (m + 1) = gt xs off + b * vs b xs (off + 1) m := by
  rw [Nat.add_comm m 1, vs_split]; simp [vs]

def DipInv (xs zs : List Nat) (off n y j r : Nat) : Prop := Wrote xs zs off n ∧ Dg W64 zs ∧ r < y ∧ (∀ i, i < off + j → gt zs i = gt xs i) ∧ vs W64 xs (off + j) (n - j) = y * vs W64 zs (off + j) (n - j) + r
theorem DipInv.next {xs zs : List Nat} {off n y j r : Nat} (h : DipInv xs zs off n y (j + 1) r) (hd : Dg W64 xs) (hj : j < n) (hx : off + n ≤ xs.length) :
    DipInv xs (zs.set (off + j) ((r * W64 + gt zs (off + j)) / y)) off n y j ((r * W64 + gt zs (off + j)) % y) := by
  obtain ⟨h1, h2, h3, h4, h5⟩ := h
  have hl : off + j < zs.length := by rw [h1.len]; omega
  have hy : 0 < y := by omega
  rw [h4 (off + j) (by omega)]
  have hxj := hd (off + j)
  have hq : (r * W64 + gt xs (off + j)) / y < W64 := by
    rw [Nat.div_lt_iff_lt_mul hy]
    have h6 : (r + 1) * W64 ≤ y * W64 := Nat.mul_le_mul_right _ h3
    rw [Nat.add_mul] at h6
    rw [Nat.mul_comm W64]
    omega
  have hdm := Nat.div_add_mod (r * W64 + gt xs (off + j)) y
  have hr := Nat.mod_lt (r * W64 + gt xs (off + j)) hy
  generalize (r * W64 + gt xs (off + j)) / y = q at *
  generalize (r * W64 + gt xs (off + j)) % y = r' at *
  refine ⟨h1.step (by omega) (by omega) (by omega), h2.set hq, hr, fun i hi => ?_, ?_⟩
  · rw [gt_set hl, if_neg (by omega)]; exact h4 i (by omega)
  · rw [show n - j = (n - (j + 1)) + 1 from by omega, vs_left, vs_left, gt_set hl, if_pos rfl]
    rw [vs_congr (xs := zs.set (off + j) q) (ys := zs) (off' := off + j + 1) (fun i hi => by rw [gt_set hl, if_neg (by omega)])]
    rw [show off + j + 1 = off + (j + 1) from by omega, h5, Nat.mul_add, Nat.mul_add]
    rw [Nat.mul_left_comm y W64]
    rw [Nat.mul_comm W64 r]
    omega

/-- What divideInPlace leaves. -/
def Dived (xs zs : List Nat) (off n y r : Nat) : Prop := Wrote xs zs off n ∧ Dg W64 zs ∧ r < y ∧ vs W64 xs off n = y * vs W64 zs off n + r

theorem divideInPlace_any (b off n c y : Nat) (xs : List Nat) (w : World) (hb : Blk .u64 57 w b xs) (hn : off + n ≤ xs.length) (hd : Dg W64 xs) (hm : n ≤ 1099511627776) (hy : 0 < y) (hy2 : y < W64) :
    Calls Tryd.prog 45 #[.slice (some ⟨b, off, none⟩) n c, .int .u64 (y : Int)] w fun e w' => ∃ r zs, e = .returned (.int .u64 ((r : Nat) : Int)) ∧ Blk .u64 57 w' b zs ∧ w.grownBy w' (some b) ∧ Dived xs zs off n y r := by
  have hy0 : DipInv xs xs off n y n 0 := ⟨Wrote.refl _ _ _, hd, hy, fun _ _ => rfl, by simp [vs]⟩
  have HI0 := Lib.hid hy0
  clear hy0
  go_enter Tryd.func45, Tryd.ntmps45
  go_wp2
  go_loopw [5, 6] (fun v i wr => ∃ (j r : Nat) (zs : List Nat), j ≤ n ∧ i = .int .i64 ((j : Int) - 1) ∧ v = .int .u64 r ∧ Blk .u64 57 wr b zs ∧ w.grownBy wr (some b) ∧ Hid (DipInv xs zs off n y j r)) (fun _ i _ => (intOf i + 1).toNat)
  case atStart => exact ⟨n, 0, xs, Nat.le_refl _, rfl, rfl, hb, World.grownBy.refl _ _, HI0⟩
  case round =>
    obtain ⟨j, r, zs, hj, rfl, rfl, hbz, hg, HI⟩ := hrel
    rcases j with _ | j
    · have hi := HI.out
      go_wp2
      go_ret
      exact ⟨r, zs, rfl, hbz, hg, hi.1, hi.2.1, hi.2.2.1, hi.2.2.2.2⟩
    · rw [show (((j + 1 : Nat) : Int) - 1) = (j : Int) from by omega]
      have hlz : zs.length = xs.length := HI.out.1.len
      have hcell : wr.cell? ⟨b, off + j, none⟩ = some (.int .u64 ((gt zs (off + j) : Nat) : Int)) := hbz.cell (by omega)
      have HNX := Lib.hid (HI.out.next hd (by omega) hn)
      have hr := HI.out.2.2.1
      have hx := HI.out.2.1 (off + j)
      have HL := Lib.hid hlz
      clear HI hlz
      go_wp2_with fail
      refine (div64_any r (gt zs (off + j)) y _ hx hr hy2).mono ?_
      rintro e w' ⟨rfl, k, rfl⟩
      obtain ⟨q, hq⟩ : ∃ q, q = (r * W64 + gt zs (off + j)) / y := ⟨_, rfl⟩
      obtain ⟨r', hr'⟩ : ∃ r', r' = (r * W64 + gt zs (off + j)) % y := ⟨_, rfl⟩
      rw [show D64Val r (gt zs (off + j)) y = .tuple #[.int .u64 (q : Int), .int .u64 (r' : Int)] from by unfold D64Val; rw [hq, hr']]
      rw [← hq, ← hr'] at HNX
      clear hq hr'
      have hbz' : Blk .u64 57 (wr.drewN k) b zs := hbz
      have hg' : w.grownBy (wr.drewN k) (some b) := gr_trans hg (gr_drewN _ _ none) (.inr rfl) (.inl rfl)
      have hcell' : (wr.drewN k).cell? ⟨b, off + j, none⟩ = some (.int .u64 ((gt zs (off + j) : Nat) : Int)) := hcell
      have hfr : (wr.drewN k).frozen? ⟨b, off + j, none⟩ = false := hbz.frozen _
      generalize wr.drewN k = wk at *
      clear hcell
      go_wp2
      refine ⟨⟨j, r', _, by omega, rfl, rfl, hbz'.set _ _, gr_trans hg' (gr_set _ _ _ _) (.inr rfl) (.inr (.inl rfl)), HNX⟩, ?_⟩
      simp [intOf]

theorem cmpU64_any (x y : Nat) (w : World) :
    Calls Tryd.prog 83 #[.int .u64 (x : Int), .int .u64 (y : Int)] w fun e w' => e = .returned (.int .i64 (cmpN x y)) ∧ w = w' := by
  rcases Nat.lt_trichotomy x y with h | h | h
  · have hc : cmpN x y = -1 := by unfold cmpN; rw [if_pos h]
    have HC := Lib.hid hc
    clear hc
    go_enter Tryd.func83, Tryd.ntmps83
    go_wp2
    go_ret
    exact ⟨by rw [HC.out]; rfl, rfl⟩
  · have hc : cmpN x y = 0 := by unfold cmpN; rw [if_neg (by omega), if_neg (by omega)]
    have HC := Lib.hid hc
    subst h
    clear hc
    go_enter Tryd.func83, Tryd.ntmps83
    go_wp2
    go_ret
    exact ⟨by rw [HC.out]; rfl, rfl⟩
  · have hc : cmpN x y = 1 := by unfold cmpN; rw [if_neg (by omega), if_pos h]
    have HC := Lib.hid hc
    clear hc
    go_enter Tryd.func83, Tryd.ntmps83
    go_wp2
    go_ret
    exact ⟨by rw [HC.out]; rfl, rfl⟩

theorem cmpN_digit {x y a b P : Nat} (ha : a < P) (hb : b < P) : cmpN (a + P * x) (b + P * y) = if x = y then cmpN a b else cmpN x y := by
  unfold cmpN
  rcases Nat.lt_trichotomy x y with h | h | h
  · have h1 : P * (x + 1) ≤ P * y := Nat.mul_le_mul_left _ h
    rw [Nat.mul_add] at h1
    rw [if_neg (show ¬ x = y by omega), if_pos (by omega), if_pos h]
  · subst h; rw [if_pos rfl]
    split <;> split <;> (try split) <;> omega
  · have h1 : P * (y + 1) ≤ P * x := Nat.mul_le_mul_left _ h
    rw [Nat.mul_add] at h1
    rw [if_neg (show ¬ x = y by omega), if_neg (by omega), if_pos (by omega), if_neg (by omega), if_pos h]
/-- Numbers whose digits from j on are equal are compared by the digit below. -/
theorem cmpN_vs {xs ys : List Nat} {o1 o2 n j : Nat} (hx : Dg W64 xs) (hy : Dg W64 ys) (hj : j < n) (he : ∀ i, j < i → i < n → gt xs (o1 + i) = gt ys (o2 + i)) (hne : gt xs (o1 + j) ≠ gt ys (o2 + j)) :
    cmpN (vs W64 xs o1 n) (vs W64 ys o2 n) = cmpN (gt xs (o1 + j)) (gt ys (o2 + j)) := by
  obtain ⟨m, rfl⟩ : ∃ m, n = j + (m + 1) := ⟨n - (j + 1), by omega⟩
  rw [vs_split W64 xs o1 j (m + 1), vs_split W64 ys o2 j (m + 1), cmpN_digit (vs_lt hx) (vs_lt hy), vs_left, vs_left]
  rw [vs_congr (xs := ys) (ys := xs) (off := o2 + j + 1) (off' := o1 + j + 1) (n := m) (fun i hi => by rw [Nat.add_assoc, Nat.add_assoc, Nat.add_assoc, Nat.add_assoc]; exact (he (j + (1 + i)) (by omega) (by omega)).symm)]
  generalize vs W64 xs (o1 + j + 1) m = T
  generalize gt xs (o1 + j) = x at *
  generalize gt ys (o2 + j) = y at *
  generalize W64 * T = S
  rw [if_neg (by omega)]
  unfold cmpN
  rcases Nat.lt_or_gt_of_ne hne with h | h
  · rw [if_pos (by omega), if_pos (by omega)]
  · rw [if_neg (by omega), if_pos (by omega), if_neg (by omega), if_pos (by omega)]

theorem compare_ne (b1 o1 n1 c1 b2 o2 n2 c2 : Nat) (xs ys : List Nat) (w : World) (hd : Dg W64 xs) (hd2 : Dg W64 ys) (ht1 : n1 = 0 ∨ gt xs (o1 + (n1 - 1)) ≠ 0) (ht2 : n2 = 0 ∨ gt ys (o2 + (n2 - 1)) ≠ 0) (hne : n1 ≠ n2) :
    Calls Tryd.prog 59 #[.slice (some ⟨b1, o1, none⟩) n1 c1, .slice (some ⟨b2, o2, none⟩) n2 c2] w fun e w' => e = .returned (.int .i64 (cmpN (vs W64 xs o1 n1) (vs W64 ys o2 n2))) ∧ w = w' := by
  have hge : ∀ {zs : List Nat} {o n m : Nat}, (n = 0 ∨ gt zs (o + (n - 1)) ≠ 0) → m < n → W64 ^ m ≤ vs W64 zs o n := by
    intro zs o n m ht hm
    obtain ⟨k, rfl⟩ : ∃ k, n = k + 1 := ⟨n - 1, by omega⟩
    have h1 : gt zs (o + k) ≠ 0 := by rcases ht with h | h; omega; simpa using h
    simp only [vs]
    have h2 : W64 ^ k * 1 ≤ W64 ^ k * gt zs (o + k) := Nat.mul_le_mul_left _ (by omega)
    have h3 : W64 ^ m ≤ W64 ^ k := Nat.pow_le_pow_right W64_pos (by omega)
    omega
  have h1 := vs_lt (off := o1) (n := n1) hd
  have h2 := vs_lt (off := o2) (n := n2) hd2
  have hc : Lib.compareInt (n1 : Int) (n2 : Int) = cmpN (vs W64 xs o1 n1) (vs W64 ys o2 n2) := by
    unfold Lib.compareInt cmpN
    rcases Nat.lt_or_gt_of_ne hne with h | h
    · have h3 := hge ht2 h
      rw [if_pos (by omega), if_pos (by omega)]
    · have h3 := hge ht1 h
      rw [if_neg (by omega), if_pos (by omega), if_neg (by omega), if_pos (by omega)]
  have HC := Lib.hid hc
  have hb : ((n1 : Int) != (n2 : Int)) = true := by rw [bne_iff_ne]; omega
  clear hc hge h1 h2 hne
  go_enter Tryd.func59, Tryd.ntmps59
  go_wp2_with fail
  refine (Tryd.cmp_Compare_int _ _ _).mono ?_
  rintro e w' ⟨rfl, rfl⟩
  go_wp2
  go_ret
  exact ⟨by rw [← HC.out]; rfl, rfl⟩

theorem quiet_add_left {P : Program} {f : FuncId} {args : Array Value} {w : World} {a n : Nat} {v : Value}
    (h : Calls P f args (w.drewN (a + n)) fun e w' => e = .returned v ∧ w.drewN (a + n) = w') :
    Calls P f args (w.drewN (a + n)) fun e w'' => e = .returned v ∧ ∃ m, w'' = w.drewN (a + m) :=
  h.mono fun _ _ ⟨he, hm⟩ => ⟨he, n, hm.symm⟩
/-- wr is w, but for draws. -/
def Qt (w wr : World) : Prop := ∃ k, wr = w.drewN k
theorem Qt.refl (w : World) : Qt w w := ⟨0, rfl⟩
theorem Qt.more {w wr : World} (h : Qt w wr) (n : Nat) : Qt w (wr.drewN n) := by obtain ⟨k, rfl⟩ := h; exact ⟨k + n, World.drewN_drewN _ _ _⟩
theorem Qt.gr {w wr : World} (h : Qt w wr) (r : Option Nat) : w.grownBy wr r := by obtain ⟨k, rfl⟩ := h; exact gr_drewN _ _ _

theorem compare_eq (b1 o1 n c1 b2 o2 c2 : Nat) (xs ys : List Nat) (w : World) (hb1 : Blk .u64 57 w b1 xs) (hn1 : o1 + n ≤ xs.length) (hb2 : Blk .u64 57 w b2 ys) (hn2 : o2 + n ≤ ys.length) (hd : Dg W64 xs) (hd2 : Dg W64 ys) (hm : n ≤ 1099511627776) :
    Calls Tryd.prog 59 #[.slice (some ⟨b1, o1, none⟩) n c1, .slice (some ⟨b2, o2, none⟩) n c2] w fun e w' => e = .returned (.int .i64 (cmpN (vs W64 xs o1 n) (vs W64 ys o2 n))) ∧ Qt w w' := by
  have hb : ((n : Int) != (n : Int)) = false := by rw [bne_eq_false_iff_eq]
  go_enter Tryd.func59, Tryd.ntmps59
  go_wp2
  go_loopw [5] (fun i wr => ∃ (j : Nat), j ≤ n ∧ i = .int .i64 ((j : Int) - 1) ∧ Qt w wr ∧ Hid (∀ i, j ≤ i → i < n → gt xs (o1 + i) = gt ys (o2 + i))) (fun i _ => (intOf i + 1).toNat)
  case atStart => exact ⟨n, Nat.le_refl _, rfl, Qt.refl _, fun i h1 h2 => by omega⟩
  case round =>
    obtain ⟨j, hj, rfl, hqt, HE⟩ := hrel
    have hb1r := hb1.kept (hqt.gr none) (by simp)
    have hb2r := hb2.kept (hqt.gr none) (by simp)
    rcases j with _ | j
    · have hv : cmpN (vs W64 xs o1 n) (vs W64 ys o2 n) = 0 := by
        rw [vs_congr (ys := ys) (off' := o2) (fun i hi => HE.out i (Nat.zero_le _) hi)]
        unfold cmpN; rw [if_neg (by omega), if_neg (by omega)]
      have HV := Lib.hid hv
      clear hv
      go_wp2
      go_ret
      exact ⟨by rw [HV.out]; rfl, hqt⟩
    · rw [show (((j + 1 : Nat) : Int) - 1) = (j : Int) from by omega]
      obtain ⟨x, hx⟩ : ∃ x, x = gt xs (o1 + j) := ⟨_, rfl⟩
      obtain ⟨y, hy⟩ : ∃ y, y = gt ys (o2 + j) := ⟨_, rfl⟩
      have hcx : wr.cell? ⟨b1, o1 + j, none⟩ = some (.int .u64 (x : Int)) := by rw [hx]; exact hb1r.cell (by omega)
      have hcy : wr.cell? ⟨b2, o2 + j, none⟩ = some (.int .u64 (y : Int)) := by rw [hy]; exact hb2r.cell (by omega)
      have hjn : (j : Int) < (n : Int) := by omega
      have hj0 : (0 : Int) ≤ (j : Int) := by omega
      have HX := Lib.hid hx
      have HY := Lib.hid hy
      clear hx hy
      by_cases he : x = y
      · have hbx : ((x : Int) != (y : Int)) = false := by rw [bne_eq_false_iff_eq, he]
        have HE2 := Lib.hid he
        clear he
        go_wp2
        go_quiet (fail)
        go_wp2
        refine ⟨⟨j, by omega, rfl, hqt.more _, fun i h1 h2 => ?_⟩, by simp [intOf]⟩
        by_cases e : i = j
        · rw [e, ← HX.out, ← HY.out]; exact HE2.out
        · exact HE.out i (by omega) h2
      · have hbx : ((x : Int) != (y : Int)) = true := by rw [bne_iff_ne]; omega
        go_wp2
        go_quiet (fail)
        go_wp2
        go_quiet ((go_at_call 83; exact quiet_add_left (cmpU64_any _ _ _)))
        go_wp2
        have hv : cmpN (vs W64 xs o1 n) (vs W64 ys o2 n) = cmpN x y := by
          rw [HX.out, HY.out]
          exact cmpN_vs hd hd2 (by omega) (fun i h1 h2 => HE.out i h1 h2) (by rw [← HX.out, ← HY.out]; exact he)
        go_ret
        exact ⟨by rw [hv]; rfl, (hqt.more _).more _⟩

theorem compare_any (b1 o1 n1 c1 b2 o2 n2 c2 : Nat) (xs ys : List Nat) (w : World) (hb1 : Blk .u64 57 w b1 xs) (hn1 : o1 + n1 ≤ xs.length) (hb2 : Blk .u64 57 w b2 ys) (hn2 : o2 + n2 ≤ ys.length) (hd : Dg W64 xs) (hd2 : Dg W64 ys) (hm : n1 ≤ 1099511627776)
    (ht1 : n1 = 0 ∨ gt xs (o1 + (n1 - 1)) ≠ 0) (ht2 : n2 = 0 ∨ gt ys (o2 + (n2 - 1)) ≠ 0) :
    Calls Tryd.prog 59 #[.slice (some ⟨b1, o1, none⟩) n1 c1, .slice (some ⟨b2, o2, none⟩) n2 c2] w fun e w' => e = .returned (.int .i64 (cmpN (vs W64 xs o1 n1) (vs W64 ys o2 n2))) ∧ Qt w w' := by
  by_cases h : n1 = n2
  · subst h; exact compare_eq b1 o1 n1 c1 b2 o2 c2 xs ys w hb1 hn1 hb2 hn2 hd hd2 hm
  · exact (compare_ne b1 o1 n1 c1 b2 o2 n2 c2 xs ys w hd hd2 ht1 ht2 h).mono fun _ _ ⟨h1, h2⟩ => ⟨h1, h2 ▸ Qt.refl _⟩

theorem gcdOfWords_any (x y : Nat) (w : World) (_hx : x < W64) (_hy : y < W64) :
    Calls Tryd.prog 44 #[.int .u64 (x : Int), .int .u64 (y : Int)] w fun e w' => e = .returned (.int .u64 ((Nat.gcd x y : Nat) : Int)) ∧ Qt w w' := by
  go_enter Tryd.func44, Tryd.ntmps44
  go_wp2
  go_loopw [0, 1] (fun u v wr => ∃ (a b : Nat), u = .int .u64 a ∧ v = .int .u64 b ∧ Qt w wr ∧ Hid (Nat.gcd a b = Nat.gcd x y)) (fun _ v _ => (intOf v).toNat)
  case atStart => exact ⟨x, y, rfl, rfl, Qt.refl _, rfl⟩
  case round =>
    obtain ⟨a, b, rfl, rfl, hqt, HG⟩ := hrel
    rcases Nat.eq_zero_or_pos b with h | h
    · subst h
      go_wp2
      go_ret
      exact ⟨by rw [← HG.out, Nat.gcd_zero_right]; rfl, hqt⟩
    · have hb0 : ((b : Int) == 0) = false := by rw [beq_eq_false_iff_ne]; omega
      have hlt := Nat.mod_lt a h
      obtain ⟨r, hr⟩ : ∃ r, r = a % b := ⟨_, rfl⟩
      have hw : (a : Int) % (b : Int) = (r : Int) := by rw [hr, Int.natCast_emod]
      rw [← hr] at hlt
      have HR := Lib.hid hr
      clear hr
      go_wp2
      go_quiet (fail)
      go_wp2
      refine ⟨⟨b, r, rfl, by rw [hw], hqt.more _, ?_⟩, by rw [hw]; simp [intOf]; omega⟩
      show _ = _
      rw [← HG.out, HR.out, Nat.gcd_comm b, ← Nat.gcd_rec, Nat.gcd_comm]
end Go.Proofs.YtoadjhmehgkeaaaDoor

namespace Go.Proofs.YtoadjhmehgkeaaaDoor
open Go.RowKit Mth

theorem est_of {xs ys : List Nat} {o1 o2 n U V : Nat} (hd1 : Dg W64 xs) (hd2 : Dg W64 ys) (hn : 2 ≤ n) (hU : vs W64 xs o1 (n + 1) = U) (hV : vs W64 ys o2 n = V) (htop : gt ys (o2 + (n - 1)) ≠ 0) (hlt : U < W64 * V) :
    Est (W64 ^ (n - 2)) U V (gt xs (o1 + n)) (gt xs (o1 + (n - 1))) (gt xs (o1 + (n - 2))) (gt ys (o2 + (n - 1))) (gt ys (o2 + (n - 2))) := by
  obtain ⟨k, rfl⟩ : ∃ k, n = k + 2 := ⟨n - 2, by omega⟩
  simp only [vs, show k + 2 - 1 = k + 1 from by omega, show k + 2 - 2 = k from by omega] at *
  refine ⟨⟨vs W64 xs o1 k, ?_, vs_lt hd1⟩, ⟨vs W64 ys o2 k, ?_, vs_lt hd2⟩, by omega, hlt, hd1 _, hd1 _, hd2 _⟩
  · rw [← hU, Nat.pow_succ, Nat.pow_succ]; grind
  · rw [← hV, Nat.pow_succ]; grind

theorem add64_small (x y : Nat) (h : x + y < W64 * 2) : (addLo x y 0) + W64 * (addHi x y 0) = x + y ∧ addHi x y 0 ≤ 1 := by
  refine ⟨by have := add_split x y 0; omega, ?_⟩
  unfold addHi; rw [W64_eq] at *; omega

theorem quiet_add_more {P : Program} {f : FuncId} {args : Array Value} {w : World} {a n : Nat} {v : Value}
    (h : Calls P f args (w.drewN (a + n)) fun e w' => e = .returned v ∧ ∃ m, w' = (w.drewN (a + n)).drewN m) :
    Calls P f args (w.drewN (a + n)) fun e w'' => e = .returned v ∧ ∃ m, w'' = w.drewN (a + m) :=
  h.mono fun _ _ ⟨he, m, hm⟩ => ⟨he, n + m, by rw [hm, World.drewN_drewN, Nat.add_assoc]⟩

set_option maxHeartbeats 2000000 in
theorem estimateDigit_any (b1 o1 n c1 b2 o2 c2 U V : Nat) (xs ys : List Nat) (w : World) (hb1 : Blk .u64 57 w b1 xs) (hn1 : o1 + (n + 1) ≤ xs.length) (hd1 : Dg W64 xs) (hb2 : Blk .u64 57 w b2 ys) (hn2 : o2 + n ≤ ys.length) (hd2 : Dg W64 ys) (hm : n ≤ 1099511627776)
    (hn : 2 ≤ n) (hU : vs W64 xs o1 (n + 1) = U) (hV : vs W64 ys o2 n = V) (htop : gt ys (o2 + (n - 1)) ≠ 0) (hlt : U < W64 * V) :
    Calls Tryd.prog 84 #[.slice (some ⟨b1, o1, none⟩) (n + 1) c1, .slice (some ⟨b2, o2, none⟩) n c2] w fun e w' => ∃ d, e = .returned (.int .u64 ((d : Nat) : Int)) ∧ U / V ≤ d ∧ d ≤ U / V + 1 ∧ d < W64 ∧ Qt w w' := by
  have hest := est_of hd1 hd2 hn hU hV htop hlt
  have hcu : w.cell? ⟨b1, o1 + n, none⟩ = some (.int .u64 ((gt xs (o1 + n) : Nat) : Int)) := hb1.cell (by omega)
  have hcu1 : w.cell? ⟨b1, o1 + (n - 1), none⟩ = some (.int .u64 ((gt xs (o1 + (n - 1)) : Nat) : Int)) := hb1.cell (by omega)
  have hcu2 : w.cell? ⟨b1, o1 + (n - 2), none⟩ = some (.int .u64 ((gt xs (o1 + (n - 2)) : Nat) : Int)) := hb1.cell (by omega)
  have hcv1 : w.cell? ⟨b2, o2 + (n - 1), none⟩ = some (.int .u64 ((gt ys (o2 + (n - 1)) : Nat) : Int)) := hb2.cell (by omega)
  have hcv2 : w.cell? ⟨b2, o2 + (n - 2), none⟩ = some (.int .u64 ((gt ys (o2 + (n - 2)) : Nat) : Int)) := hb2.cell (by omega)
  have hv1 := hd2 (o2 + (n - 1))
  have hv2 := hd2 (o2 + (n - 2))
  have hu1 := hd1 (o1 + (n - 1))
  have hu2 := hd1 (o1 + (n - 2))
  generalize gt xs (o1 + n) = u at *
  generalize gt xs (o1 + (n - 1)) = u1 at *
  generalize gt xs (o1 + (n - 2)) = u2 at *
  generalize gt ys (o2 + (n - 1)) = v1 at *
  generalize gt ys (o2 + (n - 2)) = v2 at *
  have HE := Lib.hid hest
  have hule := hest.u_le
  clear hest hb1 hd1 hb2 hd2 hU hV htop hlt hn1 hn2
  have ha := add64_run0
  go_enter Tryd.func84, Tryd.ntmps84
  go_wp2
  go_step3
  go_wp2
  go_quiet (fail)
  rcases Nat.lt_or_ge u v1 with hlt | hge
  · have hd : decide ((u : Int) < (v1 : Int)) = true := decide_eq_true (by omega)
    have hinit := HE.out.init_lt hlt
    have hv1p := HE.out.pos
    have hrlt := Nat.mod_lt (u * W64 + u1) hv1p
    have hdiv : ∀ w, Calls Tryd.prog 73 #[.int .u64 (u : Int), .int .u64 (u1 : Int), .int .u64 (v1 : Int)] w fun e w' => e = .returned (.tuple #[.int .u64 (((u * W64 + u1) / v1 : Nat) : Int), .int .u64 (((u * W64 + u1) % v1 : Nat) : Int)]) ∧ ∃ n, w' = w.drewN n := fun w => div64_any u u1 v1 w hu1 hlt hv1
    have HD := Lib.hid hdiv
    have HI0 := Lib.hid hinit
    generalize (u * W64 + u1) / v1 = q at *
    generalize (u * W64 + u1) % v1 = r0 at *
    clear hdiv hinit
    go_wp2
    go_quiet ((go_at_call 73; exact quiet_add_more (HD.out _)))
    go_wp2_with fail
    go_step3
    go_wp2_with fail
    go_loopw [8, 9, 10] (fun vd vr vc wr => ∃ (d r c : Nat), vd = .int .u64 d ∧ vr = .int .u64 r ∧ vc = .int .u64 c ∧ r < W64 ∧ c ≤ 1 ∧ Hid (EInv U V u u1 v1 d (r + W64 * c)) ∧ d < W64 ∧ Qt w wr) (fun vd _ _ _ => (intOf vd).toNat)
    case atStart => exact ⟨q, r0, 0, rfl, rfl, rfl, by omega, by omega, by rw [Nat.mul_zero, Nat.add_zero]; exact HI0, HI0.out.lt, (Qt.more ⟨_, rfl⟩ _)⟩
    case round =>
      obtain ⟨d, r, c, rfl, rfl, rfl, hr, hc, HI, hdW, k, rfl⟩ := hrel
      have hcu2' : (w.drewN k).cell? ⟨b1, o1 + (n - 2), none⟩ = some (.int .u64 (u2 : Int)) := hcu2
      rcases Nat.lt_or_ge c 1 with h0 | h1
      · obtain rfl : c = 0 := by omega
        have hgo := HI.out
        rw [Nat.mul_zero, Nat.add_zero] at hgo
        have hsp := mul_split d v2
        have HG := Lib.hid hgo
        clear HI hgo hcu hcu1 hcu2 hcv1 hcv2
        go_wp2_with fail
        refine (mul64_run _ _ hdW hv2 _).mono ?_
        rintro e w' ⟨rfl, rfl⟩
        have hlo := mulLo_lt d v2
        generalize mulHi d v2 = hi at *
        generalize mulLo d v2 = lo at *
        by_cases hle : lo + W64 * hi ≤ r * W64 + u2
        · have hfin := HG.out.done HE.out (by rw [← hsp]; exact hle)
          have HF := Lib.hid (And.intro HG.out.ge hfin)
          have hor : hi < r ∨ (hi = r ∧ lo ≤ u2) := by
            rcases Nat.lt_trichotomy hi r with h | h | h
            · exact .inl h
            · subst h; exact .inr ⟨rfl, by rw [Nat.mul_comm] at hle; omega⟩
            · exfalso
              have : W64 * (r + 1) ≤ W64 * hi := Nat.mul_le_mul_left _ h
              rw [Nat.mul_add, Nat.mul_comm W64 r] at this
              omega
          clear hle hsp hfin
          rcases hor with h | ⟨h, h'⟩
          · have hb1 : decide ((hi : Int) < (r : Int)) = true := decide_eq_true (by omega)
            go_wp2
            rw [Exit.noGoto_ret]
            go_ret
            exact ⟨d, rfl, HF.out.1, HF.out.2, hdW, k, rfl⟩
          · subst h
            go_wp2
            rw [Exit.noGoto_ret]
            go_ret
            exact ⟨d, rfl, HF.out.1, HF.out.2, hdW, k, rfl⟩
        · have hlt2 : r * W64 + u2 < d * v2 := by rw [← hsp]; omega
          obtain ⟨hd0, hnx⟩ := HG.out.next HE.out hlt2
          have hsum := add_split r v1 0
          rw [Nat.add_zero] at hsum
          rw [← hsum] at hnx
          have HN := Lib.hid hnx
          have hhi := addHi_le hr hv1 (Nat.zero_le 1)
          have hlow := addLo_lt r v1 0
          have hwr : IntKind.u64.wrap ((d : Int) - 1) = ((d - 1 : Nat) : Int) := by
            rw [show (d : Int) - 1 = ((d - 1 : Nat) : Int) from by omega]; exact wrap_u64 _ (by omega)
          have hor : r < hi ∨ (hi = r ∧ u2 < lo) := by
            rcases Nat.lt_trichotomy hi r with h | h | h
            · exfalso
              have : W64 * (hi + 1) ≤ W64 * r := Nat.mul_le_mul_left _ h
              rw [Nat.mul_add, Nat.mul_comm W64 r] at this
              omega
            · subst h; exact .inr ⟨rfl, by rw [Nat.mul_comm] at hle; omega⟩
            · exact .inl h
          have hd1 : d - 1 < W64 := by omega
          clear hle hsp hlt2 hnx hsum
          rcases hor with h | ⟨h, h'⟩
          · have hb2 : ¬ hi = r := by omega
            go_wp2
            go_roundw
            case rel => exact ⟨d - 1, _, _, by first | rfl | rw [hwr], rfl, rfl, hlow, hhi, HN, hd1, k, rfl⟩
            case measure => simp [intOf]; omega
          · subst h
            go_wp2
            go_roundw
            case rel => exact ⟨d - 1, _, _, by first | rfl | rw [hwr], rfl, rfl, hlow, hhi, HN, hd1, k, rfl⟩
            case measure => simp [intOf]; omega
      · obtain rfl : c = 1 := by omega
        have hfin := HI.out.done HE.out (HI.out.over HE.out (by omega))
        have HF := Lib.hid (And.intro HI.out.ge hfin)
        clear hfin HI
        go_wp2
        rw [Exit.noGoto_ret]
        go_ret
        exact ⟨d, rfl, HF.out.1, HF.out.2, hdW, k, rfl⟩
  · have hd : decide ((u : Int) < (v1 : Int)) = false := decide_eq_false (by omega)
    have heq : u = v1 := by omega
    have hnlt : ¬ u < v1 := by omega
    have hinit := HE.out.init_eq heq
    have hsum := add_split u1 v1 0
    rw [Nat.add_zero] at hsum
    rw [← hsum] at hinit
    have HI0 := Lib.hid hinit
    have hhi0 := addHi_le hu1 hv1 (Nat.zero_le 1)
    have hlo0 := addLo_lt u1 v1 0
    clear hinit hsum heq
    go_wp2_with fail
    go_step3
    go_wp2_with fail
    go_loopw [8, 9, 10] (fun vd vr vc wr => ∃ (d r c : Nat), vd = .int .u64 d ∧ vr = .int .u64 r ∧ vc = .int .u64 c ∧ r < W64 ∧ c ≤ 1 ∧ Hid (EInv U V u u1 v1 d (r + W64 * c)) ∧ d < W64 ∧ Qt w wr) (fun vd _ _ _ => (intOf vd).toNat)
    case atStart => exact ⟨W64 - 1, _, _, rfl, rfl, rfl, hlo0, hhi0, HI0, by decide, ⟨_, rfl⟩⟩
    case round =>
      obtain ⟨d, r, c, rfl, rfl, rfl, hr, hc, HI, hdW, k, rfl⟩ := hrel
      have hcu2' : (w.drewN k).cell? ⟨b1, o1 + (n - 2), none⟩ = some (.int .u64 (u2 : Int)) := hcu2
      rcases Nat.lt_or_ge c 1 with h0 | h1
      · obtain rfl : c = 0 := by omega
        have hgo := HI.out
        rw [Nat.mul_zero, Nat.add_zero] at hgo
        have hsp := mul_split d v2
        have HG := Lib.hid hgo
        clear HI hgo hcu hcu1 hcu2 hcv1 hcv2
        go_wp2_with fail
        refine (mul64_run _ _ hdW hv2 _).mono ?_
        rintro e w' ⟨rfl, rfl⟩
        have hlo := mulLo_lt d v2
        generalize mulHi d v2 = hi at *
        generalize mulLo d v2 = lo at *
        by_cases hle : lo + W64 * hi ≤ r * W64 + u2
        · have hfin := HG.out.done HE.out (by rw [← hsp]; exact hle)
          have HF := Lib.hid (And.intro HG.out.ge hfin)
          have hor : hi < r ∨ (hi = r ∧ lo ≤ u2) := by
            rcases Nat.lt_trichotomy hi r with h | h | h
            · exact .inl h
            · subst h; exact .inr ⟨rfl, by rw [Nat.mul_comm] at hle; omega⟩
            · exfalso
              have : W64 * (r + 1) ≤ W64 * hi := Nat.mul_le_mul_left _ h
              rw [Nat.mul_add, Nat.mul_comm W64 r] at this
              omega
          clear hle hsp hfin
          rcases hor with h | ⟨h, h'⟩
          · have hb1 : decide ((hi : Int) < (r : Int)) = true := decide_eq_true (by omega)
            go_wp2
            rw [Exit.noGoto_ret]
            go_ret
            exact ⟨d, rfl, HF.out.1, HF.out.2, hdW, k, rfl⟩
          · subst h
            go_wp2
            rw [Exit.noGoto_ret]
            go_ret
            exact ⟨d, rfl, HF.out.1, HF.out.2, hdW, k, rfl⟩
        · have hlt2 : r * W64 + u2 < d * v2 := by rw [← hsp]; omega
          obtain ⟨hd0, hnx⟩ := HG.out.next HE.out hlt2
          have hsum := add_split r v1 0
          rw [Nat.add_zero] at hsum
          rw [← hsum] at hnx
          have HN := Lib.hid hnx
          have hhi := addHi_le hr hv1 (Nat.zero_le 1)
          have hlow := addLo_lt r v1 0
          have hwr : IntKind.u64.wrap ((d : Int) - 1) = ((d - 1 : Nat) : Int) := by
            rw [show (d : Int) - 1 = ((d - 1 : Nat) : Int) from by omega]; exact wrap_u64 _ (by omega)
          have hor : r < hi ∨ (hi = r ∧ u2 < lo) := by
            rcases Nat.lt_trichotomy hi r with h | h | h
            · exfalso
              have : W64 * (hi + 1) ≤ W64 * r := Nat.mul_le_mul_left _ h
              rw [Nat.mul_add, Nat.mul_comm W64 r] at this
              omega
            · subst h; exact .inr ⟨rfl, by rw [Nat.mul_comm] at hle; omega⟩
            · exact .inl h
          have hd1 : d - 1 < W64 := by omega
          clear hle hsp hlt2 hnx hsum
          rcases hor with h | ⟨h, h'⟩
          · have hb2 : ¬ hi = r := by omega
            go_wp2
            go_roundw
            case rel => exact ⟨d - 1, _, _, by first | rfl | rw [hwr], rfl, rfl, hlow, hhi, HN, hd1, k, rfl⟩
            case measure => simp [intOf]; omega
          · subst h
            go_wp2
            go_roundw
            case rel => exact ⟨d - 1, _, _, by first | rfl | rw [hwr], rfl, rfl, hlow, hhi, HN, hd1, k, rfl⟩
            case measure => simp [intOf]; omega
      · obtain rfl : c = 1 := by omega
        have hfin := HI.out.done HE.out (HI.out.over HE.out (by omega))
        have HF := Lib.hid (And.intro HI.out.ge hfin)
        clear hfin HI
        go_wp2
        rw [Exit.noGoto_ret]
        go_ret
        exact ⟨d, rfl, HF.out.1, HF.out.2, hdW, k, rfl⟩
end Go.Proofs.YtoadjhmehgkeaaaDoor
