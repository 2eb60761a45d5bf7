/- The contract of nat.wordsOf: the words of a number, in new memory. -/
import Derived.Test.YtednijejgadmnaaDoorTrim
import Derived.Test.YtednijejgadmnaaDoorArith
import Derived.RegionTactic
import Derived.BigRegion
namespace Go.Proofs.YtednijejgadmnaaDoor
open Go.RowKit Mth

theorem infoW : (Tryd.prog.info? 57).map (fun i => (i.zero, i.size, i.bytes)) = some (some (.int .u64 0), 1, 8) := by kernel_rfl
def bytesOf (s : ByteArray) : ByteArray := ⟨(canon s.data.toList).toArray⟩

theorem wordsOf_any (s : ByteArray) (w : World) (hs : s.size ≤ 1099511627776) :
    Calls Tryd.prog 31 #[.string s] w fun e w' => ∃ b xs, e = .returned (.slice (some ⟨b, 0, none⟩) xs.length xs.length) ∧ w.heap.size ≤ b ∧ Blk .u64 57 w' b xs ∧ w.grownBy w' none ∧ Words xs (num s.data.toList) ∧ xs.length ≤ 137438953473 := by
  have hls : (bytesOf s).size ≤ s.size := canon_length_le _
  have hrt : Rt (bytesOf s).data.toList := rt_canon _
  have hnum : num (bytesOf s).data.toList = num s.data.toList := num_canon _
  generalize ht : (bytesOf s) = t at hls hrt hnum
  have HT := Lib.hid ht
  have HR := Lib.hid hrt
  have HV := Lib.hid hnum
  clear ht hrt hnum
  obtain ⟨i0, hi, hz0, hz1, hz2⟩ := info_parts infoW
  obtain ⟨n, hn⟩ : ∃ n, n = (t.size + 7) / 8 := ⟨_, rfl⟩
  have HN := Lib.hid hn
  have hn1 : n * 8 ≤ t.size + 7 := by omega
  have hn2 : t.size ≤ n * 8 := by omega
  clear hn
  go_enter Tryd.func31, Tryd.ntmps31
  go_wp2_with fail
  refine (withoutZeros_any s _).mono ?_
  rintro e w' ⟨rfl, rfl⟩
  rw [show (⟨(canon s.data.toList).toArray⟩ : ByteArray) = t from HT.out]
  go_wp2_with (at_make; refine wpList_make_full _ rfl _ _ 51 rfl 0 57 i0 (.int .u64 0) 1 Tryd.underlying51 hi hz0 hz1 .i64 .i64 _ _ n rfl rfl ?_ ?_ ?_ ?_ (Nat.zero_le _) ?_)
  case refine_1 => have := HN.out; omega
  case refine_2 => have := HN.out; omega
  case refine_3 => rw [hz2]; omega
  case refine_4 => unfold maxLen; omega
  intro w1 hown hgr
  have hb0 := blk_made' hown
  rw [← wordsN_zero, ← front_zero t.data.toList] at hb0
  clear hown hi hz0 hz1 hz2
  go_wp2
  go_loopw [16] (fun j wr => ∃ i : Nat, i ≤ t.size ∧ j = .int .i64 i ∧ Blk .u64 57 wr w.heap.size (wordsN n (front t.data.toList i)) ∧ w.grownBy wr none) (fun j _ => t.size - (intOf j).toNat)
  case atStart => exact ⟨0, Nat.zero_le _, rfl, hb0, hgr⟩
  case round =>
    obtain ⟨i, hile, rfl, hbz, hg⟩ := hrel
    by_cases hlt : i < t.size
    · have hlen : (wordsN n (front t.data.toList i)).length = n := length_wordsN _ _
      have hcell : wr.cell? ⟨w.heap.size, (t.size - 1 - i) / 8, none⟩ = some (.int .u64 ((gt (wordsN n (front t.data.toList i)) ((t.size - 1 - i) / 8) : Nat) : Int)) := hbz.cell (by omega)
      have hfr : wr.frozen? ⟨w.heap.size, (t.size - 1 - i) / 8, none⟩ = false := hbz.frozen _
      have hq : (t.size - 1 - i) / 8 < n := by omega
      have hres : (wordsN n (front t.data.toList i)).set ((t.size - 1 - i) / 8) (gt (wordsN n (front t.data.toList i)) ((t.size - 1 - i) / 8) ||| (t[i].toNat * 256 ^ ((t.size - 1 - i) % 8))) = wordsN n (front t.data.toList (i + 1)) :=
        words_round t.data.toList (i := i) (q := (t.size - 1 - i) / 8) (r := (t.size - 1 - i) % 8) hlt (by show t.size - 1 - i = _; omega) (Nat.mod_lt _ (by decide)) hq rfl
      have hor := or_word (gt (wordsN n (front t.data.toList i)) ((t.size - 1 - i) / 8)) t[i].toNat ((t.size - 1 - i) % 8) (dg_wordsN _ _ _) t[i].toNat_lt (Nat.mod_lt _ (by decide))
      have HRES := Lib.hid hres
      have HOR := Lib.hid hor
      clear hb0 hres hor
      go_wp2
      go_region
      go_wp2
      refine ⟨⟨i + 1, by omega, by go_num, ?_, ?_⟩, by simp [intOf]; omega⟩
      · rw [HOR.out, ← HRES.out]
        exact (hbz.set _ _).drew
      · exact gr_trans (gr_trans hg (gr_set _ _ _ _) (.inl rfl) (.inr (.inr fun k e => by cases e; exact Nat.le_refl _))) (gr_drew _ none) (.inl rfl) (.inl rfl)
    · obtain rfl : i = t.size := by omega
      have hw := words_of (HR.out)
      rw [HV.out] at hw
      go_wp2
      go_ret
      have hl : (wordsN n (front t.data.toList t.size)).length = n := length_wordsN _ _
      refine ⟨w.heap.size, wordsN n (front t.data.toList t.size), ?_, Nat.le_refl _, hbz, hg, ?_, by rw [hl]; omega⟩
      · rw [hl]; rfl
      · rw [show front t.data.toList t.size = num t.data.toList from front_all _, HN.out, HV.out]
        rw [HV.out] at *
        exact hw
end Go.Proofs.YtednijejgadmnaaDoor
