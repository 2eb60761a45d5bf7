/- Contracts of the program and of the reference, part 10: RefS, MthS, RefD, RefN, RefM. -/
import Derived.Test.YteajpefbmiiioaaGreatDoorBRat9
import Derived.BigRegion
import Derived.Deep.RegionLaw
import Derived.BigQuiet
namespace Go.Proofs.YteajpefbmiiioaaGreatDoor
open Go.RowKit Mth

theorem rright_nil (s : ByteArray) (w : World) (h : s.size = 0) :
    Calls Tryz.prog 23 #[.string s] w fun e w' => e = .returned (.bool (rtB s.data.toList)) ∧ w = w' := by
  have hr : rtB s.data.toList = true := by rw [nil_of_size h]; rfl
  have HR := Lib.hid hr
  clear hr
  have hz : s = ByteArray.empty := by
    have := nil_of_size h
    cases s with | mk d => cases d with | mk l => simp at this; subst this; rfl
  subst hz
  go_enter Tryz.func23, Tryz.ntmps23
  go_wp2
  go_ret
  exact ⟨by rw [HR.out]; rfl, rfl⟩
theorem rright_cons (s : ByteArray) (w : World) (h : 0 < s.size) :
    Calls Tryz.prog 23 #[.string s] w fun e w' => e = .returned (.bool (rtB s.data.toList)) ∧ w = w' := by
  have hr : rtB s.data.toList = ((s[0].toNat : Int) != 0) := by
    rw [cons_of_size h]
    simp only [rtB]
    rw [Bool.eq_iff_iff, bne_iff_ne, bne_iff_ne]
    constructor
    · intro h1 h2; exact h1 (UInt8.toNat_inj.1 (by simpa using h2))
    · intro h1 h2; rw [h2] at h1; simp at h1
  have HR := Lib.hid hr
  have hne : ((s.size : Int) == 0) = false := by simp; intro e; rw [e] at h; simp at h
  clear hr
  go_enter Tryz.func23, Tryz.ntmps23
  go_wp2
  go_ret
  exact ⟨by rw [HR.out]; rfl, rfl⟩
theorem rright_any (s : ByteArray) (w : World) :
    Calls Tryz.prog 23 #[.string s] w fun e w' => e = .returned (.bool (rtB s.data.toList)) ∧ w = w' := by
  rcases Nat.eq_zero_or_pos s.size with h | h
  · exact rright_nil s w h
  · exact rright_cons s w h

theorem num_take_le (l : List UInt8) (k : Nat) : num (l.take k) ≤ num l := by
  have h := num_append (l.take k) (l.drop k)
  rw [List.take_append_drop] at h
  rw [h]
  exact Nat.le_trans (Nat.le_mul_of_pos_right _ (Nat.pow_pos (by decide))) (Nat.le_add_right _ _)
theorem num_take_succ (t : ByteArray) {k : Nat} (h : k < t.size) : num (t.data.toList.take (k + 1)) = 256 * num (t.data.toList.take k) + t[k].toNat := by
  rw [List.take_succ_eq_append_getElem (by rw [len_toList]; exact h), num_snoc]; rfl
theorem canon_size_le {t : ByteArray} (hr : Rt t.data.toList) {k : Nat} (h : num t.data.toList < 256 ^ k) : t.size ≤ k := by
  rcases Nat.lt_or_ge k t.size with h1 | h1
  · have hne : t.data.toList ≠ [] := by intro e; have := len_toList t; rw [e] at this; simp at this; omega
    have h2 := num_ge hr hne
    rw [len_toList] at h2
    have h3 : 256 ^ k ≤ 256 ^ (t.size - 1) := Nat.pow_le_pow_right (by decide) (by omega)
    omega
  · exact h1
theorem canon_size_gt {t : ByteArray} {k : Nat} (h : 256 ^ k ≤ num t.data.toList) : k < t.size := by
  have h1 := num_lt t.data.toList
  rw [len_toList] at h1
  exact (Nat.pow_lt_pow_iff_right (by decide)).1 (Nat.lt_of_le_of_lt h h1)
theorem canon_first {t : ByteArray} (h8 : t.size = 8) : (t[0]'(by omega)).toNat * 256 ^ 7 ≤ num t.data.toList ∧ num t.data.toList < ((t[0]'(by omega)).toNat + 1) * 256 ^ 7 := by
  have hlen : (t.data.toList.drop 1).length = 7 := by rw [List.length_drop, len_toList, h8]
  have hnl := num_lt (t.data.toList.drop 1)
  rw [hlen] at hnl
  have hn : num t.data.toList = t[0].toNat * 256 ^ 7 + num (t.data.toList.drop 1) := by
    conv => lhs; rw [cons_of_size (show 0 < t.size by omega)]
    rw [num_cons, hlen]
  rw [Nat.add_mul]
  omega

theorem rint_yes (s : ByteArray) (w : World) (hs : s.size ≤ 1000000000000) (h : num s.data.toList ≤ 9223372036854775807) :
    Calls Tryz.prog 99 #[.string s] w fun e w' => e = .returned (.tuple #[.int .i64 ((num s.data.toList : Nat) : Int), .bool true]) ∧ w = w' := by
  have hrt : Rt (bytesOf s).data.toList := rt_canon _
  have hnum : num (bytesOf s).data.toList = num s.data.toList := num_canon _
  rw [← hnum] at h ⊢
  generalize ht : (bytesOf s) = t at hrt hnum h ⊢
  have HT := Lib.hid ht
  have h8 : t.size ≤ 8 := canon_size_le hrt (by omega)
  have hfirst : (t.size : Int) = 8 → ∃ h : 0 < t.size, (t[0].toNat : Int) ≤ 127 := fun e => by
    have h1 := (canon_first (t := t) (by omega)).1
    exact ⟨by omega, by omega⟩
  have HN := Lib.hid h
  clear ht hnum h hrt
  go_enter Tryz.func99, Tryz.ntmps99
  go_wp2_with fail
  refine (canon_any s _ hs).mono ?_
  rintro e w' ⟨rfl, rfl⟩
  rw [show (⟨(canon s.data.toList).toArray⟩ : ByteArray) = t from HT.out]
  have hlen8 : ¬ (8 : Int) < (t.size : Int) := by omega
  rcases Nat.lt_or_ge t.size 8 with h7 | h7
  · clear hfirst
    go_wp2
    go_loop [4, 5] (fun u v => ∃ (k n : Nat), k ≤ t.size ∧ v = .int .i64 k ∧ u = .int .i64 n ∧ Hid (n = num (t.data.toList.take k))) (fun _ v => t.size - (intOf v).toNat)
    case atStart => exact ⟨0, 0, Nat.zero_le _, rfl, rfl, rfl⟩
    case round =>
      obtain ⟨k, n, hk, rfl, rfl, HNK⟩ := hrel
      by_cases hlt : k < t.size
      · have hsucc := num_take_succ t hlt
        rw [← HNK.out] at hsucc
        have hle2 := num_take_le t.data.toList (k + 1)
        rw [hsucc] at hle2
        have hb := HN.out
        have HS := Lib.hid hsucc
        have hbound : 256 * n + t[k].toNat ≤ 9223372036854775807 := by omega
        clear hsucc hle2 hb
        go_wp2
        refine ⟨⟨k + 1, 256 * n + t[k].toNat, by omega, by go_num, ?_, HS.out.symm⟩, by simp [intOf]; omega⟩
        go_num
      · obtain rfl : k = t.size := by omega
        have hfin : n = num t.data.toList := by rw [HNK.out, List.take_of_length_le (by rw [len_toList]; omega)]
        have HF := Lib.hid hfin
        clear hfin
        go_wp2
        go_ret2
        exact ⟨by rw [← HF.out]; rfl, rfl⟩
  · obtain ⟨hpos, hle⟩ := hfirst (by omega)
    clear hfirst
    go_wp2
    go_loop [4, 5] (fun u v => ∃ (k n : Nat), k ≤ t.size ∧ v = .int .i64 k ∧ u = .int .i64 n ∧ Hid (n = num (t.data.toList.take k))) (fun _ v => t.size - (intOf v).toNat)
    case atStart => exact ⟨0, 0, Nat.zero_le _, rfl, rfl, rfl⟩
    case round =>
      obtain ⟨k, n, hk, rfl, rfl, HNK⟩ := hrel
      by_cases hlt : k < t.size
      · have hsucc := num_take_succ t hlt
        rw [← HNK.out] at hsucc
        have hle2 := num_take_le t.data.toList (k + 1)
        rw [hsucc] at hle2
        have hb := HN.out
        have HS := Lib.hid hsucc
        have hbound : 256 * n + t[k].toNat ≤ 9223372036854775807 := by omega
        clear hsucc hle2 hb
        go_wp2
        refine ⟨⟨k + 1, 256 * n + t[k].toNat, by omega, by go_num, ?_, HS.out.symm⟩, by simp [intOf]; omega⟩
        go_num
      · obtain rfl : k = t.size := by omega
        have hfin : n = num t.data.toList := by rw [HNK.out, List.take_of_length_le (by rw [len_toList]; omega)]
        have HF := Lib.hid hfin
        clear hfin
        go_wp2
        go_ret2
        exact ⟨by rw [← HF.out]; rfl, rfl⟩
theorem rint_no (s : ByteArray) (w : World) (hs : s.size ≤ 1000000000000) (h : 9223372036854775807 < num s.data.toList) :
    Calls Tryz.prog 99 #[.string s] w fun e w' => e = .returned (.tuple #[.int .i64 0, .bool false]) ∧ w = w' := by
  have hrt : Rt (bytesOf s).data.toList := rt_canon _
  have hnum : num (bytesOf s).data.toList = num s.data.toList := num_canon _
  rw [← hnum] at h
  generalize ht : (bytesOf s) = t at hrt hnum h
  have HT := Lib.hid ht
  have h8 : 7 < t.size := canon_size_gt (by omega)
  have hfirst : t.size = 8 → ∃ h : 0 < t.size, (127 : Int) < (t[0].toNat : Int) := fun e => by
    have h1 := (canon_first (t := t) e).2
    exact ⟨by omega, by omega⟩
  clear ht hnum h hrt
  go_enter Tryz.func99, Tryz.ntmps99
  go_wp2_with fail
  refine (canon_any s _ hs).mono ?_
  rintro e w' ⟨rfl, rfl⟩
  rw [show (⟨(canon s.data.toList).toArray⟩ : ByteArray) = t from HT.out]
  rcases Nat.lt_or_ge 8 t.size with h9 | h9
  · clear hfirst
    go_wp2
    go_ret2
    exact ⟨rfl, rfl⟩
  · obtain ⟨hpos, hle⟩ := hfirst (by omega)
    clear hfirst
    go_wp2
    go_ret2
    exact ⟨rfl, rfl⟩
theorem small_yes (s : ByteArray) (k : Nat) (hk : k ≤ 7) (w : World) (hs : s.size ≤ 1000000000000) (h : num s.data.toList < 256 ^ k) :
    Calls Tryz.prog 78 #[.string s, .int .i64 (k : Int)] w fun e w' => e = .returned (.tuple #[.int .i64 ((num s.data.toList : Nat) : Int), .bool true]) ∧ w = w' := by
  have hrt : Rt (bytesOf s).data.toList := rt_canon _
  have hnum : num (bytesOf s).data.toList = num s.data.toList := num_canon _
  have hsz : (bytesOf s).size ≤ k := canon_size_le hrt (by omega)
  have hle : num s.data.toList ≤ 9223372036854775807 := by
    have : 256 ^ k ≤ 256 ^ 7 := Nat.pow_le_pow_right (by decide) hk
    omega
  have HLE := Lib.hid hle
  generalize ht : (bytesOf s) = t at hsz
  have HT := Lib.hid ht
  clear ht hnum h hrt hle
  go_enter Tryz.func78, Tryz.ntmps78
  go_wp2_with fail
  refine (canon_any s _ hs).mono ?_
  rintro e w' ⟨rfl, rfl⟩
  rw [show (⟨(canon s.data.toList).toArray⟩ : ByteArray) = t from HT.out]
  have hd : ¬ (k : Int) < (t.size : Int) := by omega
  go_wp2_with fail
  refine (rint_yes s _ hs HLE.out).mono ?_
  rintro e w' ⟨rfl, rfl⟩
  generalize hN : num s.data.toList = N
  have HNN := Lib.hid hN
  clear hN
  go_wp2
  go_ret2
  exact ⟨by rw [HNN.out]; rfl, rfl⟩
theorem small_no (s : ByteArray) (k : Nat) (w : World) (hs : s.size ≤ 1000000000000) (h : 256 ^ k ≤ num s.data.toList) :
    Calls Tryz.prog 78 #[.string s, .int .i64 (k : Int)] w fun e w' => e = .returned (.tuple #[.int .i64 0, .bool false]) ∧ w = w' := by
  have hnum : num (bytesOf s).data.toList = num s.data.toList := num_canon _
  have hsz : k < (bytesOf s).size := canon_size_gt (by omega)
  generalize ht : (bytesOf s) = t at hsz
  have HT := Lib.hid ht
  clear ht hnum h
  go_enter Tryz.func78, Tryz.ntmps78
  go_wp2_with fail
  refine (canon_any s _ hs).mono ?_
  rintro e w' ⟨rfl, rfl⟩
  rw [show (⟨(canon s.data.toList).toArray⟩ : ByteArray) = t from HT.out]
  have hd : (k : Int) < (t.size : Int) := by omega
  go_wp2
  go_ret2
  exact ⟨rfl, rfl⟩

set_option maxRecDepth 100000 in
theorem rof_le (n : Int) (w : World) (h : n ≤ 0) :
    Calls Tryz.prog 25 #[.int .i64 n] w fun e w' => e = .returned (.string ⟨#[]⟩) ∧ w = w' := by
  have hcv := run_convert_bytes_nil (P := Tryz.prog) w 22 5 Tryz.underlying22 Tryz.underlying5 0 0 24 Tryz.underlying24
  go_enter Tryz.func25, Tryz.ntmps25
  go_wp2
  go_loop [3, 4] (fun u v => u = .slice none 0 0 ∧ v = .int .i64 56) (fun _ _ => 0)
  case atStart => exact ⟨rfl, rfl⟩
  case round =>
    obtain ⟨rfl, rfl⟩ := hrel
    go_wp2_with fail
    refine (canon_any ByteArray.empty _ (Nat.zero_le _)).mono ?_
    rintro e w' ⟨rfl, rfl⟩
    rw [show (⟨(canon ByteArray.empty.data.toList).toArray⟩ : ByteArray) = ⟨#[]⟩ from rfl]
    go_wp2
    go_ret
    exact ⟨rfl, rfl⟩

/-- The bytes of n, the m last ones left out. -/
theorem of_byte {n m : Nat} : num (u8s [n / 256 ^ m % 256]) = n / 256 ^ m % 256 := by
  simp [u8s, num]
theorem u8s_append (a b : List Nat) : u8s (a ++ b) = u8s a ++ u8s b := by simp [u8s]
theorem of_step {l : List Nat} {n m : Nat} (h : num (u8s l) = n / 256 ^ (m + 1)) : num (u8s (l ++ [n / 256 ^ m % 256])) = n / 256 ^ m := by
  rw [u8s_append, show u8s [n / 256 ^ m % 256] = [UInt8.ofNat (n / 256 ^ m % 256)] from rfl, num_snoc, h, Nat.pow_succ, ← Nat.div_div_eq_div_mul]
  have : (UInt8.ofNat (n / 256 ^ m % 256)).toNat = n / 256 ^ m % 256 := by simp
  rw [this]; omega

set_option maxHeartbeats 2000000 in
set_option maxRecDepth 100000 in
theorem rof_pos (n : Nat) (w : World) (h0 : 0 < n) (h : n ≤ 9223372036854775807) :
    Calls Tryz.prog 25 #[.int .i64 (n : Int)] w fun e w' => e = .returned (.string ⟨(enc n).toArray⟩) ∧ w.grownBy w' none := by
  obtain ⟨i0, hi, hz0, hz1, hz2⟩ := info_parts infoB
  have hn8 : n / 256 ^ 8 = 0 := Nat.div_eq_of_lt (by omega)
  have HB := Lib.hid (show num (u8s []) = n / 256 ^ 8 from by rw [hn8]; rfl)
  clear hn8
  go_enter Tryz.func25, Tryz.ntmps25
  go_wp2
  go_loopw [3, 4] (fun u v wr => ∃ (m : Nat) (l : List Nat), m ≤ 8 ∧ v = .int .i64 (8 * (m : Int) - 8) ∧ Acc .u8 5 w wr u l ∧ l.length + m = 8 ∧ Hid (num (u8s l) = n / 256 ^ m)) (fun _ v _ => (intOf v + 8).toNat)
  case atStart => exact ⟨8, [], Nat.le_refl _, rfl, .nil _ _ _, rfl, HB⟩
  case round =>
    obtain ⟨m, l, hm, rfl, hacc, hlen, HN⟩ := hrel
    rcases m with _ | m
    · have HA := Lib.hid hacc
      have hcv := hacc.str (P := Tryz.prog) 22 24 Tryz.underlying22 Tryz.underlying5 Tryz.underlying24
      have hl8 : l.length = 8 := by omega
      have hsz : (⟨(u8s l).toArray⟩ : ByteArray).size ≤ 1000000000000 := by
        have : (⟨(u8s l).toArray⟩ : ByteArray).size = l.length := by show (u8s l).toArray.size = _; simp [u8s]
        omega
      generalize hstr : (⟨(u8s l).toArray⟩ : ByteArray) = str at hcv hsz
      have HSTR := Lib.hid hstr
      clear hstr hacc hi hz0 hz1 hz2 hl8
      go_wp2_with fail
      refine (canon_any str _ hsz).mono ?_
      rintro e w' ⟨rfl, rfl⟩
      have hfin : (⟨(canon str.data.toList).toArray⟩ : ByteArray) = ⟨(enc n).toArray⟩ := by
        rw [← HSTR.out, ← enc_num_canon]
        have h1 := HN.out
        rw [Nat.pow_zero, Nat.div_one] at h1
        rw [h1]
      rw [hfin]
      go_wp2
      go_ret
      exact ⟨rfl, HA.out.gr⟩
    · rw [show 8 * ((m + 1 : Nat) : Int) - 8 = 8 * (m : Int) from by omega]
      have hbv : ((n : Int) / (2 : Int) ^ (8 * m) % 256) = ((n / 256 ^ m % 256 : Nat) : Int) := byte_word n m
      have HBV := Lib.hid hbv
      obtain ⟨d, hd⟩ : ∃ d, d = n / 256 ^ m % 256 := ⟨_, rfl⟩
      have HNX := Lib.hid (of_step HN.out)
      rw [← hd] at HNX
      have HD := Lib.hid hd
      have hnpos : (0 : Int) < (n : Int) := by omega
      have hm8 : (0 : Int) ≤ 8 * (m : Int) := by omega
      clear hd hbv
      go_wp2_with (at_builtin; rw [HBV.out, ← HD.out]; refine wpList_acc rfl (.tmp 13) (.tmp 18) 22 rfl .u8 5 i0 1 Tryz.underlying22 hi hz0 hz1 hz2 _ l [d] hacc rfl rfl (by simp) ?_ ?_ ?_)
      case refine_1 => unfold maxLen; simp; omega
      case refine_2 => simp; omega
      intro v' w' hacc'
      clear hacc hi hz0 hz1 hz2
      go_wp2
      refine ⟨⟨m, l ++ [d], by omega, by rfl, hacc', by simp; omega, HNX⟩, ?_⟩
      simp [intOf]; omega
theorem rof_any (n : Nat) (w : World) (h : n ≤ 9223372036854775807) :
    Calls Tryz.prog 25 #[.int .i64 (n : Int)] w fun e w' => e = .returned (.string ⟨(enc n).toArray⟩) ∧ w.grownBy w' none := by
  rcases Nat.eq_zero_or_pos n with h0 | h0
  · subst h0
    refine (rof_le 0 w (Int.le_refl _)).mono ?_
    rintro e w' ⟨rfl, rfl⟩
    exact ⟨by rw [enc_zero], World.grownBy.refl _ _⟩
  · exact rof_pos n w h0 h
end Go.Proofs.YteajpefbmiiioaaGreatDoor
namespace Go.Proofs.YteajpefbmiiioaaGreatDoor
namespace Mth

theorem sp_pow_split {P D lo hi s : Nat} (h : lo + D * hi = s) : P * lo + P * D * hi = P * s := by
  rw [← h, Nat.mul_add, Nat.mul_assoc]
theorem mod_div24 (s : Nat) : s % D24 + D24 * (s / D24) = s := Nat.mod_add_div _ _
theorem vs_dgt_all {N k : Nat} (h : (dgt N).length ≤ k) : vs D24 (dgt N) 0 k = N := by
  rw [vs_dgt]
  refine Nat.mod_eq_of_lt (Nat.lt_of_lt_of_le (dgt_lt N) (Nat.pow_le_pow_right D24_pos h))

/-- Digits times a digit, k of them. -/
def TimesInv (u : List Nat) (d k : Nat) (l : List Nat) (c : Nat) : Prop := l.length = k ∧ Dg D24 l ∧ c < D24 ∧ val D24 l + D24 ^ k * c = vs D24 u 0 k * d
theorem TimesInv.zero (u : List Nat) (d : Nat) : TimesInv u d 0 [] 0 := ⟨rfl, dg_nil, D24_pos, by simp [val, vs]⟩
theorem times_lt {x d c : Nat} (hx : x < D24) (hd : d < D24) (hc : c < D24) : x * d + c < D24 * D24 ∧ x * d ≤ 281474976710656 := by
  have h1 : x * d ≤ (D24 - 1) * (D24 - 1) := Nat.mul_le_mul (by omega) (by omega)
  have h2 : (D24 - 1) * (D24 - 1) + (D24 - 1) < D24 * D24 := by decide
  have h3 : (D24 - 1) * (D24 - 1) ≤ 281474976710656 := by decide
  omega
theorem TimesInv.next {u l : List Nat} {d k c : Nat} (h : TimesInv u d k l c) (hu : Dg D24 u) (hd : d < D24) : TimesInv u d (k + 1) (l ++ [(gt u k * d + c) % D24]) ((gt u k * d + c) / D24) := by
  obtain ⟨h1, h2, h3, h4⟩ := h
  have hs := (times_lt (hu k) hd h3).1
  refine ⟨by simp [h1], dg_snoc h2 (Nat.mod_lt _ D24_pos), Nat.div_lt_of_lt_mul hs, ?_⟩
  rw [val_snoc, h1, Nat.pow_succ, Nat.add_assoc, sp_pow_split (mod_div24 _)]
  simp only [vs, Nat.zero_add]
  rw [Nat.add_mul, Nat.mul_add, Nat.mul_assoc]
  omega
theorem TimesInv.last {N d : Nat} {l : List Nat} {c : Nat} (h : TimesInv (dgt N) d (dgt N).length l c) : Dg D24 (l ++ [c]) ∧ val D24 (l ++ [c]) = N * d := by
  obtain ⟨h1, h2, h3, h4⟩ := h
  refine ⟨dg_snoc h2 h3, ?_⟩
  rw [val_snoc, h1, h4, vs_dgt_all (Nat.le_refl _)]

/-- Digits less digits, k of them. -/
def MinusInv (u v : List Nat) (k : Nat) (l : List Nat) (b : Nat) : Prop := l.length = k ∧ Dg D24 l ∧ b ≤ 1 ∧ val D24 l + vs D24 v 0 k = vs D24 u 0 k + D24 ^ k * b
theorem MinusInv.zero (u v : List Nat) : MinusInv u v 0 [] 0 := ⟨rfl, dg_nil, by omega, by simp [val, vs]⟩
theorem MinusInv.less {u v l : List Nat} {k b : Nat} (h : MinusInv u v k l b) (hv : Dg D24 v) (hlt : gt u k < b + gt v k) : MinusInv u v (k + 1) (l ++ [gt u k + D24 - b - gt v k]) 1 := by
  obtain ⟨h1, h2, h3, h4⟩ := h
  have hvk := hv k
  refine ⟨by simp [h1], dg_snoc h2 (by omega), by omega, ?_⟩
  rw [val_snoc, h1]
  simp only [vs, Nat.zero_add]
  have e : D24 ^ k * (gt u k + D24 - b - gt v k) + D24 ^ k * b + D24 ^ k * gt v k = D24 ^ k * gt u k + D24 ^ (k + 1) * 1 := by
    rw [Nat.pow_succ, Nat.mul_one, ← Nat.mul_add, ← Nat.mul_add, ← Nat.mul_add]; congr 1; omega
  omega
theorem MinusInv.more {u v l : List Nat} {k b : Nat} (h : MinusInv u v k l b) (hu : Dg D24 u) (hge : b + gt v k ≤ gt u k) : MinusInv u v (k + 1) (l ++ [gt u k - b - gt v k]) 0 := by
  obtain ⟨h1, h2, h3, h4⟩ := h
  have huk := hu k
  refine ⟨by simp [h1], dg_snoc h2 (by omega), by omega, ?_⟩
  rw [val_snoc, h1]
  simp only [vs, Nat.zero_add]
  have e : D24 ^ k * (gt u k - b - gt v k) + D24 ^ k * b + D24 ^ k * gt v k = D24 ^ k * gt u k := by
    rw [← Nat.mul_add, ← Nat.mul_add]; congr 1; omega
  omega
theorem MinusInv.last {M N : Nat} {l : List Nat} {b : Nat} (h : MinusInv (dgt M) (dgt N) (dgt M).length l b) (hle : N ≤ M) : Dg D24 l ∧ val D24 l = M - N := by
  obtain ⟨h1, h2, h3, h4⟩ := h
  rw [vs_dgt_all (Nat.le_refl _), vs_dgt_all (dgt_inj_len hle)] at h4
  have h5 := val_lt D24 l h2.mem
  rw [h1] at h5
  refine ⟨h2, ?_⟩
  rcases Nat.eq_zero_or_pos b with hb | hb
  · subst hb; omega
  · obtain rfl : b = 1 := by omega
    omega

/-- The sum of digits, k of them. -/
def AddInv (u v : List Nat) (k : Nat) (l : List Nat) (c : Nat) : Prop := l.length = k ∧ Dg D24 l ∧ c ≤ 1 ∧ val D24 l + D24 ^ k * c = vs D24 u 0 k + vs D24 v 0 k
theorem AddInv.zero (u v : List Nat) : AddInv u v 0 [] 0 := ⟨rfl, dg_nil, by omega, by simp [val, vs]⟩
theorem AddInv.next {u v l : List Nat} {k c : Nat} (h : AddInv u v k l c) (hu : Dg D24 u) (hv : Dg D24 v) : AddInv u v (k + 1) (l ++ [(c + gt u k + gt v k) % D24]) ((c + gt u k + gt v k) / D24) := by
  obtain ⟨h1, h2, h3, h4⟩ := h
  have huk := hu k
  have hvk := hv k
  refine ⟨by simp [h1], dg_snoc h2 (Nat.mod_lt _ D24_pos), ?_, ?_⟩
  · rw [D24_eq] at *; omega
  · rw [val_snoc, h1, Nat.pow_succ, Nat.add_assoc, sp_pow_split (mod_div24 _)]
    simp only [vs, Nat.zero_add]
    rw [Nat.mul_add, Nat.mul_add]
    omega
theorem AddInv.last {M N k : Nat} {l : List Nat} (h : AddInv (dgt M) (dgt N) k l 0) (h1 : (dgt M).length ≤ k) (h2 : (dgt N).length ≤ k) : Dg D24 l ∧ val D24 l = M + N := by
  obtain ⟨_, h4, _, h6⟩ := h
  rw [vs_dgt_all h1, vs_dgt_all h2] at h6
  exact ⟨h4, by omega⟩

theorem val_set {zs : List Nat} {i x : Nat} (h : i < zs.length) : val D24 (zs.set i x) + D24 ^ i * gt zs i = val D24 zs + D24 ^ i * x := by
  have key : ∀ ys : List Nat, ys.length = zs.length → val D24 ys = vs D24 ys 0 i + D24 ^ i * (gt ys i) + D24 ^ (i + 1) * vs D24 ys (i + 1) (zs.length - (i + 1)) := by
    intro ys hl
    rw [← vs_val, hl]
    have := vs_split D24 ys 0 (i + 1) (zs.length - (i + 1))
    rw [show i + 1 + (zs.length - (i + 1)) = zs.length from by omega] at this
    rw [this]
    simp only [vs, Nat.zero_add]
  rw [key (zs.set i x) (by simp), key zs rfl, gt_set h, if_pos rfl]
  rw [vs_congr (ys := zs) (off := 0) (off' := 0) (fun j hj => by rw [gt_set h, if_neg (by omega)])]
  rw [vs_congr (ys := zs) (off := i + 1) (off' := i + 1) (fun j hj => by rw [gt_set h, if_neg (by omega)])]
  omega
/-- The product of digits, i of the first factor. -/
def RMulInv (u v : List Nat) (B i : Nat) (zs : List Nat) : Prop := Dg D24 zs ∧ (∀ j, i + v.length ≤ j → gt zs j = 0) ∧ val D24 zs = vs D24 u 0 i * B
/-- Within it, j digits of the second factor. -/
def RMulIn (u v : List Nat) (B i j c : Nat) (zs : List Nat) : Prop := Dg D24 zs ∧ c < D24 ∧ (∀ j, i + v.length ≤ j → gt zs j = 0) ∧ val D24 zs + D24 ^ (i + j) * c = vs D24 u 0 i * B + D24 ^ i * (gt u i * vs D24 v 0 j)
theorem RMulInv.start {u v zs : List Nat} {B i : Nat} (h : RMulInv u v B i zs) : RMulIn u v B i 0 0 zs := ⟨h.1, D24_pos, h.2.1, by rw [h.2.2]; simp [vs]⟩
theorem rmul_lt {a x y c : Nat} (ha : a < D24) (hx : x < D24) (hy : y < D24) (hc : c < D24) : a + x * y + c < D24 * D24 ∧ x * y ≤ 281474976710656 := by
  have h1 : x * y ≤ (D24 - 1) * (D24 - 1) := Nat.mul_le_mul (by omega) (by omega)
  have h2 : (D24 - 1) + (D24 - 1) * (D24 - 1) + (D24 - 1) < D24 * D24 := by decide
  have h3 : (D24 - 1) * (D24 - 1) ≤ 281474976710656 := by decide
  omega
theorem RMulIn.next {u v zs : List Nat} {B i j c : Nat} (h : RMulIn u v B i j c zs) (hu : Dg D24 u) (hv : Dg D24 v) (hj : j < v.length) (hl : i + v.length ≤ zs.length) : RMulIn u v B i (j + 1) ((gt zs (i + j) + gt u i * gt v j + c) / D24) (zs.set (i + j) ((gt zs (i + j) + gt u i * gt v j + c) % D24)) := by
  obtain ⟨h1, h2, h3, h4⟩ := h
  have hs := (rmul_lt (h1 (i + j)) (hu i) (hv j) h2).1
  have hlt : i + j < zs.length := by omega
  refine ⟨h1.set (Nat.mod_lt _ D24_pos), Nat.div_lt_of_lt_mul hs, fun k hk => ?_, ?_⟩
  · rw [gt_set hlt, if_neg (by omega)]; exact h3 k hk
  · have e1 := val_set (x := (gt zs (i + j) + gt u i * gt v j + c) % D24) hlt
    have e2 := sp_pow_split (P := D24 ^ (i + j)) (mod_div24 (gt zs (i + j) + gt u i * gt v j + c))
    rw [show i + (j + 1) = (i + j) + 1 from by omega, Nat.pow_succ]
    simp only [vs, Nat.zero_add]
    rw [Nat.mul_add, Nat.mul_add] at e2
    rw [Nat.mul_add (gt u i), Nat.mul_add (D24 ^ i)]
    have e3 : D24 ^ i * (gt u i * (D24 ^ j * gt v j)) = D24 ^ (i + j) * (gt u i * gt v j) := by
      rw [Nat.pow_add, Nat.mul_left_comm (gt u i), Nat.mul_assoc]
    omega
theorem RMulIn.last {u v zs : List Nat} {B i c : Nat} (h : RMulIn u v B i v.length c zs) (hB : B = val D24 v) (hl : i + v.length < zs.length) : RMulInv u v B (i + 1) (zs.set (i + v.length) c) := by
  obtain ⟨h1, h2, h3, h4⟩ := h
  refine ⟨h1.set h2, fun k hk => ?_, ?_⟩
  · rw [gt_set hl, if_neg (by omega)]; exact h3 k (by omega)
  · have e1 := val_set (x := c) hl
    rw [h3 _ (Nat.le_refl _), Nat.mul_zero, Nat.add_zero] at e1
    rw [e1, h4, vs_val, ← hB]
    simp only [vs, Nat.zero_add]
    rw [Nat.add_mul, Nat.mul_assoc]
theorem RMulInv.zero (u v : List Nat) (B n : Nat) : RMulInv u v B 0 (List.replicate n 0) := by
  have hz : ∀ j, gt (List.replicate n 0) j = 0 := fun j => by simp [gt, List.getD, List.getElem?_replicate]; split <;> rfl
  exact ⟨fun j => by rw [hz]; exact D24_pos, fun j _ => hz j, by rw [val_zeros]; simp [vs]⟩

/-- Three bytes of a digit. -/
def b3 (d : Nat) : List Nat := [d / 65536 % 256, d / 256 % 256, d % 256]
theorem num_b3 {l : List Nat} {d : Nat} (h : d < D24) : num (u8s (l ++ b3 d)) = num (u8s l) * D24 + d := by
  have e : u8s (l ++ b3 d) = u8s l ++ [UInt8.ofNat (d / 65536 % 256), UInt8.ofNat (d / 256 % 256), UInt8.ofNat (d % 256)] := by simp [u8s, b3]
  rw [e, num_append]
  simp only [num, List.foldl_cons, List.foldl_nil, List.length_cons, List.length_nil]
  have a1 : (UInt8.ofNat (d / 65536 % 256)).toNat = d / 65536 % 256 := by simp
  have a2 : (UInt8.ofNat (d / 256 % 256)).toNat = d / 256 % 256 := by simp
  have a3 : (UInt8.ofNat (d % 256)).toNat = d % 256 := by simp
  rw [a1, a2, a3]
  rw [D24_eq] at *
  omega
theorem number_step {l acc : List Nat} {k : Nat} (hd : Dg D24 l) (hk : k < l.length) (h : num (u8s acc) = val D24 (l.drop (k + 1))) : num (u8s (acc ++ b3 (gt l k))) = val D24 (l.drop k) := by
  rw [num_b3 (hd k), h, val_drop hk, Nat.mul_comm]; omega

/-- Digits from the top that are equal. -/
theorem cmp_step {u v : List Nat} {k : Nat} (hl : u.length = v.length) (hk : k < u.length) (hu : Dg D24 u) (hv : Dg D24 v) (he : u.drop (k + 1) = v.drop (k + 1)) :
    (gt u k < gt v k → val D24 u < val D24 v) ∧ (gt v k < gt u k → val D24 v < val D24 u) ∧ (gt u k = gt v k → u.drop k = v.drop k) := by
  have key : ∀ {a b : List Nat}, a.length = b.length → k < a.length → Dg D24 a → a.drop (k + 1) = b.drop (k + 1) → gt a k < gt b k → val D24 a < val D24 b := by
    intro a b hl hk ha he hlt
    have e : ∀ {x : List Nat}, k < x.length → val D24 x = vs D24 x 0 k + D24 ^ k * (gt x k + D24 * val D24 (x.drop (k + 1))) := by
      intro x hx
      rw [← val_drop hx, vs_take x k (by omega)]
      conv => lhs; rw [← List.take_append_drop k x]
      rw [val_append, List.length_take_of_le (by omega)]
    rw [e (x := a) hk, e (x := b) (by omega), he]
    have h1 := vs_lt (off := 0) (n := k) ha
    have h2 : D24 ^ k * (gt a k + 1) ≤ D24 ^ k * gt b k := Nat.mul_le_mul_left _ hlt
    rw [Nat.mul_add, Nat.mul_add (D24 ^ k) (gt b k)]
    rw [Nat.mul_add] at h2
    omega
  refine ⟨key hl hk hu he, key hl.symm (by omega) hv he.symm, fun e => ?_⟩
  rw [List.drop_eq_getElem_cons (l := u) hk, List.drop_eq_getElem_cons (l := v) (show k < v.length by omega), he, ← gt_of_lt hk, ← gt_of_lt (show k < v.length by omega), e]
theorem lt_of_len {M N : Nat} (h : (dgt M).length < (dgt N).length) : M < N := by
  rcases Nat.lt_or_ge M N with h1 | h1
  · exact h1
  · have := dgt_inj_len h1; omega

/-- One digit more in front of a rest. -/
theorem val_consD (x R : Nat) : val D24 (x :: dgt R) = x + D24 * R := by rw [val_cons, val_dgt]
theorem dg_consD {x R : Nat} (h : x < D24) : Dg D24 (x :: dgt R) := Dg.of_mem D24_pos fun y hy => by
  rcases List.mem_cons.1 hy with rfl | hy
  · exact h
  · exact (dg_dgt R).mem y hy
/-- Division from the top: the number that k digits less make. -/
theorem top_step (A k : Nat) : A / D24 ^ k = D24 * (A / D24 ^ (k + 1)) + gt (dgt A) k := by
  rw [gt_dgt, Nat.pow_succ, ← Nat.div_div_eq_div_mul]
  exact (Nat.div_add_mod _ _).symm
theorem quo_step {H B x : Nat} (hB : 0 < B) (hx : x < D24) : (D24 * H + x) % B = (x + D24 * (H % B)) % B ∧ (D24 * H + x) / B = D24 * (H / B) + (x + D24 * (H % B)) / B ∧ x + D24 * (H % B) < B * D24 := by
  have hm : H = B * (H / B) + H % B := (Nat.div_add_mod H B).symm
  have e : D24 * H + x = B * (D24 * (H / B)) + (x + D24 * (H % B)) := by
    conv => lhs; rw [hm]
    rw [Nat.mul_add, Nat.mul_left_comm]; omega
  refine ⟨?_, ?_, ?_⟩
  · rw [e, Nat.mul_add_mod]
  · rw [e, Nat.mul_add_div hB]
  · have h1 : H % B + 1 ≤ B := Nat.mod_lt _ hB
    have h2 : D24 * (H % B + 1) ≤ D24 * B := Nat.mul_le_mul_left _ h1
    rw [Nat.mul_add] at h2
    rw [Nat.mul_comm B]
    omega
/-- The digits of a quotient from the place k on. -/
def QuoInv (A B k : Nat) (zs : List Nat) : Prop := zs.length = (dgt A).length ∧ ∀ j, gt zs j = if k ≤ j then (A / B) / D24 ^ j % D24 else 0
theorem QuoInv.start (A B : Nat) : QuoInv A B (dgt A).length (List.replicate (dgt A).length 0) := by
  refine ⟨by simp, fun j => ?_⟩
  have hz : gt (List.replicate (dgt A).length 0) j = 0 := by simp [gt, List.getD, List.getElem?_replicate]; split <;> rfl
  rw [hz]
  split
  · rename_i h
    have h1 : A / B < D24 ^ j := Nat.lt_of_le_of_lt (Nat.div_le_self _ _) (Nat.lt_of_lt_of_le (dgt_lt A) (Nat.pow_le_pow_right D24_pos h))
    rw [Nat.div_eq_of_lt h1]; rfl
  · rfl
theorem quo_digit {A B k : Nat} (hB : 0 < B) : (A / B) / D24 ^ k % D24 = (gt (dgt A) k + D24 * (A / D24 ^ (k + 1) % B)) / B ∧ A / D24 ^ k % B = (gt (dgt A) k + D24 * (A / D24 ^ (k + 1) % B)) % B ∧ gt (dgt A) k + D24 * (A / D24 ^ (k + 1) % B) < B * D24 := by
  obtain ⟨h1, h2, h3⟩ := quo_step (H := A / D24 ^ (k + 1)) hB (dg_dgt A k)
  rw [← top_step] at h1 h2
  refine ⟨?_, h1, h3⟩
  rw [Nat.div_div_eq_div_mul, Nat.mul_comm B, ← Nat.div_div_eq_div_mul, h2, Nat.mul_add_mod, Nat.mod_eq_of_lt]
  exact Nat.div_lt_of_lt_mul h3
theorem QuoInv.next {A B k : Nat} {zs : List Nat} (h : QuoInv A B (k + 1) zs) (hk : k < (dgt A).length) : QuoInv A B k (zs.set k ((A / B) / D24 ^ k % D24)) := by
  obtain ⟨h1, h2⟩ := h
  refine ⟨by simp [h1], fun j => ?_⟩
  rw [gt_set (by omega)]
  by_cases e : k = j
  · subst e; simp
  · rw [if_neg e, h2 j]
    by_cases h3 : k ≤ j
    · rw [if_pos h3, if_pos (by omega)]
    · rw [if_neg h3, if_neg (by omega)]
theorem QuoInv.skip {A B k : Nat} {zs : List Nat} (h : QuoInv A B (k + 1) zs) (h0 : (A / B) / D24 ^ k % D24 = 0) : QuoInv A B k zs := by
  obtain ⟨h1, h2⟩ := h
  refine ⟨h1, fun j => ?_⟩
  rw [h2 j]
  by_cases e : k = j
  · subst e; rw [if_pos (Nat.le_refl _), h0, if_neg (by omega)]
  · by_cases h3 : k ≤ j
    · rw [if_pos h3, if_pos (by omega)]
    · rw [if_neg h3, if_neg (by omega)]
theorem QuoInv.last {A B : Nat} {zs : List Nat} (h : QuoInv A B 0 zs) : Dg D24 zs ∧ val D24 zs = A / B := by
  obtain ⟨h1, h2⟩ := h
  have hg : ∀ j, gt zs j = gt (dgt (A / B)) j := fun j => by rw [h2, if_pos (Nat.zero_le _), gt_dgt]
  refine ⟨fun j => by rw [hg]; exact dg_dgt _ j, ?_⟩
  rw [← vs_val, vs_congr (ys := dgt (A / B)) (off' := 0) (fun j _ => by rw [hg]), h1, vs_dgt_all]
  exact dgt_inj_len (Nat.div_le_self _ _)
end Mth
end Go.Proofs.YteajpefbmiiioaaGreatDoor
namespace Go.Proofs.YteajpefbmiiioaaGreatDoor
open Go.RowKit Mth

theorem infoI : (Tryz.prog.info? 3).map (fun i => (i.zero, i.size, i.bytes)) = some (some (.int .i64 0), 1, 8) := by kernel_rfl
theorem take_drop_succ (t : ByteArray) {s k : Nat} (hs : s ≤ k) (hk : k < t.size) : num ((t.data.toList.take (k + 1)).drop s) = 256 * num ((t.data.toList.take k).drop s) + t[k].toNat := by
  rw [List.take_succ_eq_append_getElem (by rw [len_toList]; exact hk), List.drop_append_of_le_length (by rw [List.length_take, len_toList]; omega), num_snoc]; rfl

set_option maxHeartbeats 2000000 in
set_option maxRecDepth 100000 in
theorem rdig_any (s : ByteArray) (w : World) (hs : s.size ≤ 1000000000000) :
    Calls Tryz.prog 76 #[.string s] w fun e w' => ∃ v, e = .returned v ∧ RN w' v (num s.data.toList) ∧ w.grownBy w' none := by
  obtain ⟨i0, hi, hz0, hz1, hz2⟩ := info_parts infoI
  have hrt : Rt (bytesOf s).data.toList := rt_canon _
  have hnum : num (bytesOf s).data.toList = num s.data.toList := num_canon _
  have hls : (bytesOf s).size ≤ s.size := canon_length_le _
  rw [← hnum]
  generalize ht : (bytesOf s) = t at hrt hnum hls
  have HT := Lib.hid ht
  have HRT := Lib.hid hrt
  have hsz : t.size ≤ 1000000000000 := by omega
  clear ht hnum hls hrt
  go_enter Tryz.func76, Tryz.ntmps76
  go_wp2_with fail
  refine (canon_any s _ hs).mono ?_
  rintro e w' ⟨rfl, rfl⟩
  rw [show (⟨(canon s.data.toList).toArray⟩ : ByteArray) = t from HT.out]
  go_wp2
  go_loopw [3, 4] (fun u v wr => ∃ (l : List Nat), 3 * l.length ≤ t.size + 2 ∧ v = .int .i64 ((t.size : Int) - 3 * (l.length : Int)) ∧ Acc .i64 3 w wr u l ∧ Hid (Dg D24 l ∧ val D24 l = num (t.data.toList.drop (t.size - 3 * l.length)))) (fun _ v _ => (intOf v + 2).toNat)
  case atStart => exact ⟨[], by simp, by simp, .nil _ _ _, ⟨dg_nil, by rw [List.drop_of_length_le (by rw [len_toList]; simp)]; rfl⟩⟩
  case round =>
    obtain ⟨l, hl, rfl, hacc, HV⟩ := hrel
    generalize hj : l.length = j at hl
    have HJ := Lib.hid hj
    clear hj
    by_cases hlt : 3 * j < t.size
    · have hcond : (0 : Int) < (t.size : Int) - 3 * (j : Int) := by omega
      obtain ⟨en, hen⟩ : ∃ en, en = t.size - 3 * j := ⟨_, rfl⟩
      obtain ⟨st, hst⟩ : ∃ st, st = en - 3 := ⟨_, rfl⟩
      rw [show (t.size : Int) - 3 * (j : Int) = (en : Int) from by omega] at *
      have hmax : max ((en : Int) - 3) 0 = (st : Int) := by omega
      have hle : st ≤ en := by omega
      have hen2 : en ≤ t.size := by omega
      have HEN := Lib.hid hen
      have HST := Lib.hid hst
      clear hen hst
      go_wp2
      go_loop [5, 6] (fun u v => ∃ (k d : Nat), k ≤ en ∧ st ≤ k ∧ v = .int .i64 k ∧ u = .int .i64 d ∧ d < 256 ^ (k - st) ∧ Hid (d = num ((t.data.toList.take k).drop st))) (fun _ v => en - (intOf v).toNat)
      case atStart => exact ⟨st, 0, hle, Nat.le_refl _, rfl, rfl, by simp, Lib.hid (by rw [List.drop_of_length_le (by simp; omega)]; rfl)⟩
      case round =>
        obtain ⟨k, d, hk1, hk2, rfl, rfl, hd, HD⟩ := hrel
        by_cases hke : k < en
        · have hks : k < t.size := by omega
          have hsucc := take_drop_succ t hk2 hks
          rw [← HD.out] at hsucc
          have HS := Lib.hid hsucc
          have hb := t[k].toNat_lt
          have hd2 : d < 65536 * 256 := by
            have : 256 ^ (k - st) ≤ 256 ^ 3 := Nat.pow_le_pow_right (by decide) (by have := HST.out; omega)
            omega
          have hd3 : d * 256 + t[k].toNat < 256 ^ (k + 1 - st) := by
            rw [show k + 1 - st = (k - st) + 1 from by omega, Nat.pow_succ]; omega
          clear hsucc
          go_wp2
          refine ⟨⟨k + 1, d * 256 + t[k].toNat, by omega, by omega, by go_num, by rfl, hd3, Lib.hid (by rw [HS.out, Nat.mul_comm])⟩, by simp [intOf]; omega⟩
        · obtain rfl : k = en := by omega
          have hd2 : d < D24 := by
            rw [HD.out]; exact num_part_lt _ _ _ (by have := HST.out; omega)
          have hv := HV.out
          have hpart := num_part t.data.toList st k hle (by rw [len_toList]; exact hen2)
          have hlen3 : t.data.toList.length - k = 3 * j := by rw [len_toList]; have := HEN.out; omega
          rw [hlen3, ← D24_pow, ← HD.out] at hpart
          have hnew : val D24 (l ++ [d]) = num (t.data.toList.drop (t.size - 3 * (j + 1))) := by
            rw [val_snoc, HJ.out, hv.2, HJ.out, show t.size - 3 * (j + 1) = st from by have := HEN.out; have := HST.out; omega, hpart, ← HEN.out, Nat.mul_comm d]
            omega
          have HN := Lib.hid (show Dg D24 (l ++ [d]) ∧ val D24 (l ++ [d]) = num (t.data.toList.drop (t.size - 3 * (j + 1))) from ⟨dg_snoc hv.1 hd2, hnew⟩)
          have hjb : j + 1 ≤ 500000000000 := by have := HEN.out; omega
          have HE3 := Lib.hid (show (k : Int) - 3 = (t.size : Int) - 3 * ((j + 1 : Nat) : Int) by have := HEN.out; omega)
          have HJ3 := Lib.hid (show 3 * (j + 1) ≤ t.size + 2 by have := HEN.out; omega)
          have hmeas : (intOf (Value.int .i64 ((k : Int) - 3)) + 2).toNat < (intOf (Value.int .i64 (k : Int)) + 2).toNat := by simp [intOf]; omega
          have HM := Lib.hid hmeas
          clear hv hpart hlen3 hnew hmeas
          go_wp2_with (at_builtin; refine wpList_acc rfl (.tmp 30) (.tmp 32) 86 rfl .i64 3 i0 8 Tryz.underlying86 hi hz0 hz1 hz2 _ l [d] hacc rfl rfl (by simp) ?_ ?_ ?_)
          case refine_1 => rw [HJ.out]; show j + 1 ≤ maxLen; unfold maxLen; omega
          case refine_2 => rw [HJ.out]; show (j + 1) * 8 ≤ _; omega
          intro v' w' hacc'
          clear hacc hi hz0 hz1 hz2
          go_wp2
          refine ⟨⟨l ++ [d], ?_, ?_, hacc', ?_⟩, HM.out⟩
          · rw [List.length_append, HJ.out]; exact HJ3.out
          · rw [List.length_append, HJ.out]; exact congrArg _ HE3.out
          · rw [List.length_append, HJ.out]; exact HN
    · have hcond : ¬ (0 : Int) < (t.size : Int) - 3 * (j : Int) := by omega
      have hv := HV.out
      have hfin : l = dgt (num t.data.toList) := by
        have h0 : t.size - 3 * l.length = 0 := by rw [HJ.out]; omega
        rw [h0, List.drop_zero] at hv
        rw [← hv.2]
        refine eq_dgt_ge hv.1 ?_
        rcases Nat.eq_zero_or_pos j with h1 | h1
        · left; rw [HJ.out, h1]
        · right
          rw [hv.2, D24_pow]
          have hne : t.data.toList ≠ [] := by intro e; have := len_toList t; rw [e] at this; simp at this; omega
          refine Nat.le_trans (Nat.pow_le_pow_right (by decide) ?_) (num_ge HRT.out hne)
          rw [len_toList, HJ.out]; omega
      have HF := Lib.hid hfin
      have HA := Lib.hid hacc
      clear hfin hv hacc hi hz0 hz1 hz2
      go_wp2
      go_ret
      exact ⟨_, rfl, HA.out.rn HF.out, HA.out.gr⟩
end Go.Proofs.YteajpefbmiiioaaGreatDoor
namespace Go.Proofs.YteajpefbmiiioaaGreatDoor
open Go.RowKit Mth

/-- An append whose run is known, as one step of a region that draws. -/
theorem step_append_run {P : Program} {ops : Array Oper} {o : Oper} {a : Act} {w : World} {K : Act → World → Prop} {Q : Exit → Act → World → Prop} {E : Prop}
    (hg : o.guard = none) (s x : Operand) (t : TypeId) (hop : o.op = Op.call { callee := Callee.builtin Builtin.append, args := #[s, x], argTypes := #[t, t] })
    (v xv v' : Value) (w' : World) (hs : a.eval s = v) (hx : a.eval x = xv) (hrun : (Builtin.append_ #[t, t] o.type #[v, xv]).run P w = .ok v' w') (hK : K (a.put o.dst v') w') :
    if Region.wanted o (yielded ops a.tmps) = true then Oper.wp P o a w K Q else E := by
  have hw : Region.wanted o (yielded ops a.tmps) = true := by simp [Region.wanted, hg]
  rw [if_pos hw]
  unfold Oper.wp execOp
  simp only [hop, resolve, invoke, builtin, Sem.run_bind, Sem.run_pure, Result.andThen_ok, List.map_toArray, List.map_cons, List.map_nil, hs, hx, hrun]
  exact hK

set_option maxHeartbeats 4000000 in
set_option maxRecDepth 100000 in
theorem rnumber_pos (g m c : Nat) (l : List Nat) (w : World) (h : Ls w (some ⟨g, 0, none⟩) m c l) (h0 : 0 < m) (hd : Dg D24 l) (hm : m ≤ 100000000000) :
    Calls Tryz.prog 74 #[.slice (some ⟨g, 0, none⟩) m c] w fun e w' => e = .returned (.string ⟨(enc (val D24 l)).toArray⟩) ∧ w.grownBy w' none := by
  obtain ⟨i0, hi, hz0, hz1, hz2⟩ := info_parts infoB
  have hmc : m ≤ c ∧ c ≤ maxLen := by
    obtain ⟨_, _, h1, h2, _⟩ := h.at_ h0
    exact ⟨h1, h2⟩
  have HL := Lib.hid h.len
  obtain ⟨hmc1, hmc2⟩ := hmc
  go_enter Tryz.func74, Tryz.ntmps74
  go_wp2
  go_loopw [3, 4] (fun u v wr => ∃ (k : Nat) (acc : List Nat), k ≤ m ∧ v = .int .i64 ((k : Int) - 1) ∧ Acc .u8 5 w wr u acc ∧ acc.length + 3 * k = 3 * m ∧ Hid (num (u8s acc) = val D24 (l.drop k))) (fun _ v _ => (intOf v + 1).toNat)
  case atStart => exact ⟨m, [], Nat.le_refl _, rfl, .nil _ _ _, by simp, Lib.hid (by rw [HL.out, List.drop_of_length_le (Nat.le_refl _)]; rfl)⟩
  case round =>
    obtain ⟨k, acc, hk, rfl, hacc, hlen, HN⟩ := hrel
    rcases k with _ | k
    · have HA := Lib.hid hacc
      have hcv := hacc.str (P := Tryz.prog) 22 24 Tryz.underlying22 Tryz.underlying5 Tryz.underlying24
      have hsz : (⟨(u8s acc).toArray⟩ : ByteArray).size ≤ 1000000000000 := by
        have : (⟨(u8s acc).toArray⟩ : ByteArray).size = acc.length := by show (u8s acc).toArray.size = _; simp [u8s]
        omega
      have hn := HN.out
      rw [List.drop_zero] at hn
      have hfin : (⟨(canon (u8s acc)).toArray⟩ : ByteArray) = ⟨(enc (val D24 l)).toArray⟩ := by rw [← hn, enc_num_canon]
      have HF := Lib.hid hfin
      generalize hstr : (⟨(u8s acc).toArray⟩ : ByteArray) = str at hcv hsz
      have HSTR := Lib.hid hstr
      clear hstr hacc hi hz0 hz1 hz2 hn hfin
      go_wp2_with fail
      refine (canon_any str _ hsz).mono ?_
      rintro e w' ⟨rfl, rfl⟩
      have e1 : (⟨(canon str.data.toList).toArray⟩ : ByteArray) = ⟨(enc (val D24 l)).toArray⟩ := by
        rw [← HSTR.out, ← HF.out]
      rw [e1]
      go_wp2
      go_ret
      exact ⟨rfl, HA.out.gr⟩
    · rw [show ((k + 1 : Nat) : Int) - 1 = (k : Int) from by omega]
      have hcell : wr.cell? ⟨g, 0 + k, none⟩ = some (.int .i64 ((gt l k : Nat) : Int)) := by
        obtain ⟨g', e1, _, _, e2⟩ := (h.kept hacc.gr).at_ (show k < m by omega)
        cases e1; exact e2
      have hdk := hd k
      have hstep := number_step hd (show k < l.length by have := HL.out; omega) HN.out
      obtain ⟨d, hdd⟩ : ∃ d, d = gt l k := ⟨_, rfl⟩
      rw [← hdd] at hcell hdk hstep
      have hrun0 := run_acc (P := Tryz.prog) 22 22 .u8 5 i0 1 Tryz.underlying22 hi hz0 hz1 hz2 _ acc (b3 d) (hacc.kept (gr_drew wr none)) (by simp [b3]) (by simp [b3]; unfold maxLen; omega) (by simp [b3]; omega)
      obtain ⟨v', w', hrun0, hacc'⟩ := hrun0
      have hcells : cellsOf .u8 (b3 d) = [.int .u8 ((d : Int) / 65536 % 256), .int .u8 ((d : Int) / 256 % 256), .int .u8 ((d : Int) % 256)] := by simp [cellsOf, b3]
      rw [hcells] at hrun0
      have HR := Lib.hid (show (Builtin.append_ #[22, 22] 22 #[_, .slice (some ⟨wr.heap.size, 0, none⟩) 3 3]).run Tryz.prog (wr.alloc (.cells #[.int .u8 ((d : Int) / 65536 % 256), .int .u8 ((d : Int) / 256 % 256), .int .u8 ((d : Int) % 256)] 5)).drew = .ok v' w' from hrun0)
      have HS := Lib.hid hstep
      have hkm : k < m := by omega
      rw [Nat.zero_add] at hcell
      have hcd : wr.drew.cell? ⟨g, k, none⟩ = some (.int .i64 (d : Int)) := hcell
      clear hdd hacc hrun0 hcells hi hz0 hz1 hz2 hstep
      go_wp2
      go_region_law (refine step_append_run rfl (.tmp 12) (.tmp 30) 22 rfl _ _ v' w' rfl rfl HR.out ?_)
      all_goals go_wp2
      all_goals exact ⟨⟨k, acc ++ b3 d, by omega, rfl, hacc', by simp [b3]; omega, HS⟩, by simp [intOf]⟩
set_option maxRecDepth 100000 in
theorem rnumber_nil (a : Option Addr) (c : Nat) (w : World) :
    Calls Tryz.prog 74 #[.slice a 0 c] w fun e w' => e = .returned (.string ⟨#[]⟩) ∧ w.grownBy w' none := by
  have hcv := run_convert_bytes_nil (P := Tryz.prog) w 22 5 Tryz.underlying22 Tryz.underlying5 0 0 24 Tryz.underlying24
  go_enter Tryz.func74, Tryz.ntmps74
  go_wp2
  go_loop [3, 4] (fun u v => u = .slice none 0 0 ∧ v = .int .i64 (-1)) (fun _ _ => 0)
  case atStart => exact ⟨rfl, rfl⟩
  case round =>
    obtain ⟨rfl, rfl⟩ := hrel
    go_wp2_with fail
    refine (canon_any ByteArray.empty _ (Nat.zero_le _)).mono ?_
    rintro e w' ⟨rfl, rfl⟩
    rw [show (⟨(canon ByteArray.empty.data.toList).toArray⟩ : ByteArray) = ⟨#[]⟩ from rfl]
    go_wp2
    go_ret
    exact ⟨rfl, World.grownBy.refl _ _⟩
theorem rnumber_any (a : Option Addr) (m c : Nat) (l : List Nat) (w : World) (h : Ls w a m c l) (hd : Dg D24 l) (hm : m ≤ 100000000000) :
    Calls Tryz.prog 74 #[.slice a m c] w fun e w' => e = .returned (.string ⟨(enc (val D24 l)).toArray⟩) ∧ w.grownBy w' none := by
  rcases Nat.eq_zero_or_pos m with h0 | h0
  · subst h0
    have : l = [] := List.eq_nil_of_length_eq_zero h.len.symm
    subst this
    rw [val_nil, enc_zero]
    exact rnumber_nil a c w
  · obtain ⟨g, zs, rfl, _⟩ := h.mem h0
    exact rnumber_pos g m c l w h h0 hd hm
end Go.Proofs.YteajpefbmiiioaaGreatDoor
namespace Go.Proofs.YteajpefbmiiioaaGreatDoor
open Go.RowKit Mth

theorem dgt_bytes {s : ByteArray} {k : Nat} (h : s.size ≤ k) : (dgt (num s.data.toList)).length ≤ k := by
  refine dgt_len_le _ _ (Nat.lt_of_lt_of_le (num_lt _) ?_)
  rw [len_toList, D24_pow]
  exact Nat.pow_le_pow_right (by decide) (by omega)

set_option maxRecDepth 100000 in
theorem rmul_small (s t : ByteArray) (w : World) (hs : s.size ≤ 1000000000000) (ht : t.size ≤ 1000000000000) (h1 : num s.data.toList < 256 ^ 3) (h2 : num t.data.toList < 256 ^ 4) :
    Calls Tryz.prog 24 #[.string s, .string t] w fun e w' => e = .returned (.string ⟨(enc (num s.data.toList * num t.data.toList)).toArray⟩) ∧ w.grownBy w' none := by
  have H1 := Lib.hid h1
  have H2 := Lib.hid h2
  have hle : num s.data.toList * num t.data.toList ≤ 16777215 * 4294967295 := Nat.mul_le_mul (by omega) (by omega)
  generalize hm : num s.data.toList = m at hle H1
  generalize hn : num t.data.toList = n at hle H2
  have HM := Lib.hid hm
  have HN := Lib.hid hn
  have hc : (m : Int) * (n : Int) = ((m * n : Nat) : Int) := by simp
  generalize hp : m * n = p at hle hc
  have HP := Lib.hid hp
  clear h1 h2 hm hn hp
  go_enter Tryz.func24, Tryz.ntmps24
  go_wp2_with fail
  refine (small_yes s 3 (by omega) _ hs (by rw [HM.out]; exact H1.out)).mono ?_
  rintro e w1 ⟨rfl, rfl⟩
  rw [HM.out]
  go_wp2_with fail
  refine (small_yes t 4 (by omega) _ ht (by rw [HN.out]; exact H2.out)).mono ?_
  rintro e w1 ⟨rfl, rfl⟩
  rw [HN.out]
  go_wp2_with fail
  refine (rof_any p _ (by omega)).mono ?_
  rintro e w1 ⟨rfl, h3⟩
  go_wp2
  go_ret
  exact ⟨rfl, h3⟩

theorem Ls.keptG {w w' : World} {a : Option Addr} {m c G : Nat} {l : List Nat} (h : Ls w a m c l) (hg : w.grownBy w' (some G)) (hG : w.heap.size ≤ G) : Ls w' a m c l := by
  refine ⟨h.len, fun h0 => ?_⟩
  obtain ⟨g, zs, h1, h2, h3⟩ := h.mem h0
  exact ⟨g, zs, h1, h2.kept hg (by have := h2.lt; simp; omega), h3⟩

set_option maxHeartbeats 4000000 in
set_option maxRecDepth 100000 in
theorem rmul_big (s t : ByteArray) (w : World) (hs : s.size ≤ 10000000000) (ht : t.size ≤ 10000000000) (h : 256 ^ 3 ≤ num s.data.toList ∨ 256 ^ 4 ≤ num t.data.toList) :
    Calls Tryz.prog 24 #[.string s, .string t] w fun e w' => e = .returned (.string ⟨(enc (num s.data.toList * num t.data.toList)).toArray⟩) ∧ w.grownBy w' none := by
  obtain ⟨i0, hi, hz0, hz1, hz2⟩ := info_parts infoI
  have hl1 := dgt_bytes hs
  have hl2 := dgt_bytes ht
  obtain ⟨A, hA⟩ : ∃ A, A = num s.data.toList := ⟨_, rfl⟩
  obtain ⟨B, hB⟩ : ∃ B, B = num t.data.toList := ⟨_, rfl⟩
  rw [← hA, ← hB] at h ⊢
  rw [← hA] at hl1
  rw [← hB] at hl2
  have HA := Lib.hid hA
  have HB := Lib.hid hB
  have hsm : (∃ x p, Calls Tryz.prog 78 #[.string s, .int .i64 3] w (fun e w' => e = .returned (.tuple #[.int .i64 x, .bool p]) ∧ w = w') ∧ (256 ^ 3 ≤ A → p = false)) := by
    rcases Nat.lt_or_ge (num s.data.toList) (256 ^ 3) with h1 | h1
    · exact ⟨_, _, small_yes s 3 (by omega) w (by omega) h1, fun h2 => by omega⟩
    · exact ⟨_, _, small_no s 3 w (by omega) h1, fun _ => rfl⟩
  have htm : (∃ x p, Calls Tryz.prog 78 #[.string t, .int .i64 4] w (fun e w' => e = .returned (.tuple #[.int .i64 x, .bool p]) ∧ w = w') ∧ (256 ^ 4 ≤ B → p = false)) := by
    rcases Nat.lt_or_ge (num t.data.toList) (256 ^ 4) with h1 | h1
    · exact ⟨_, _, small_yes t 4 (by omega) w (by omega) h1, fun h2 => by omega⟩
    · exact ⟨_, _, small_no t 4 w (by omega) h1, fun _ => rfl⟩
  obtain ⟨x, p, hx, hxp⟩ := hsm
  obtain ⟨y, q, hy, hyq⟩ := htm
  have hpq : p = false ∨ q = false := by
    rcases h with h | h
    · exact .inl (hxp h)
    · exact .inr (hyq h)
  have HX := Lib.hid hx
  have HY := Lib.hid hy
  clear hA hB h hxp hyq hx hy
  go_enter Tryz.func24, Tryz.ntmps24
  go_wp2_with fail
  refine HX.out.mono ?_
  rintro e w1 ⟨rfl, rfl⟩
  go_wp2_with fail
  refine HY.out.mono ?_
  rintro e w1 ⟨rfl, rfl⟩
  rcases (show (p = false) ∨ (p = true ∧ q = false) by cases p <;> simp_all) with rfl | ⟨rfl, rfl⟩
  all_goals clear hpq
  all_goals
    go_wp2_with fail
    refine (rdig_any s _ (by omega)).mono ?_
    rintro e w1 ⟨v1, rfl, hr1, h1⟩
    have hg := h1
    go_wp2_with fail
    refine (rdig_any t _ (by omega)).mono ?_
    rintro e w2 ⟨v2, rfl, hr2, h2⟩
    have hr1 := hr1.kept h2
    have hg := gr_then hg h2
    clear h1 h2
    rw [← HA.out] at hr1
    rw [← HB.out] at hr2
    obtain ⟨a1, m1, c1, rfl, hs1⟩ := hr1
    obtain ⟨a2, m2, c2, rfl, hs2⟩ := hr2
    rw [← hs1.len] at hl1
    rw [← hs2.len] at hl2
    have HL1 := Lib.hid hs1.len
    have HL2 := Lib.hid hs2.len
    have hd1 := dg_dgt A
    have hd2 := dg_dgt B
    have hv2 := val_dgt B
    have hv1 := vs_val (b := D24) (dgt A)
    rw [val_dgt] at hv1
    generalize dgt A = us at hs1 HL1 hd1 hv1
    generalize dgt B = vs' at hs2 HL2 hd2 hv2
    have HV1 := Lib.hid hv1
    have HV2 := Lib.hid hv2
    have HS1 := Lib.hid hs1
    have HS2 := Lib.hid hs2
    clear hv1 hv2 hs1 hs2
    go_wp2_with (at_make; refine wpList_make_full _ rfl _ _ 86 rfl 0 3 i0 (.int .i64 0) 1 Tryz.underlying86 hi hz0 hz1 .i64 .i64 _ _ (m1 + m2) rfl rfl ?_ ?_ ?_ ?_ (Nat.zero_le _) ?_)
    case refine_1 => omega
    case refine_2 => omega
    case refine_3 => rw [hz2]; omega
    case refine_4 => unfold maxLen; omega
    intro w3 hown hgr
    have hb0 := blk_made' hown
    have hg3 := gr_then hg hgr
    have hge := hg.size
    have hl0 : (List.replicate (m1 + m2) 0 : List Nat).length = m1 + m2 := List.length_replicate
    have hi0 := RMulInv.zero us vs' B (m1 + m2)
    generalize (List.replicate (m1 + m2) 0 : List Nat) = z0 at hb0 hl0 hi0
    generalize hG : w2.heap.size = G at hb0 hge
    have HG := Lib.hid hG
    have HI0 := Lib.hid hi0
    clear hown hi hz0 hz1 hz2 hG hi0
    go_wp2
    have hgr0 := gr_then (r := some G) hgr (World.grownBy.refl w3 (some G))
    go_loopw [12] (fun j wr => ∃ (i : Nat) (zs : List Nat), i ≤ m1 ∧ j = .int .i64 i ∧ Blk .i64 3 wr G zs ∧ zs.length = m1 + m2 ∧ w2.grownBy wr (some G) ∧ Hid (RMulInv us vs' B i zs)) (fun j _ => m1 - (intOf j).toNat)
    case atStart => exact ⟨0, z0, Nat.zero_le _, rfl, hb0, hl0, hgr0, HI0⟩
    case round =>
      obtain ⟨i, zs, hile, rfl, hbz, hlz, hgr, HINV⟩ := hrel
      by_cases hlt : i < m1
      · have HST := Lib.hid (RMulInv.start HINV.out)
        go_wp2
        go_loopw [13, 14] (fun cv j wr => ∃ (j' cc : Nat) (ys : List Nat), j' ≤ m2 ∧ j = .int .i64 j' ∧ cv = .int .i64 cc ∧ Blk .i64 3 wr G ys ∧ ys.length = m1 + m2 ∧ w2.grownBy wr (some G) ∧ Hid (RMulIn us vs' B i j' cc ys)) (fun _ j _ => m2 - (intOf j).toNat)
        case atStart => exact ⟨0, 0, zs, Nat.zero_le _, rfl, rfl, hbz, hlz, hgr, HST⟩
        case round =>
          obtain ⟨j, cc, ys, hjle, rfl, rfl, hby, hly, hgr2, HIN⟩ := hrel
          have HLY := Lib.hid hly
          by_cases hjl : j < m2
          · have hin := HIN.out
            obtain ⟨g1, rfl, hmc1, hmx1, hcell1⟩ := (HS1.out.keptG hgr2 (by rw [HG.out]; exact Nat.le_refl _)).at_ hlt
            obtain ⟨g2, rfl, hmc2, hmx2, hcell2⟩ := (HS2.out.keptG hgr2 (by rw [HG.out]; exact Nat.le_refl _)).at_ hjl
            rw [Nat.zero_add] at hcell1 hcell2
            have hcell3 : wr.cell? ⟨G, i + j, none⟩ = some (.int .i64 ((gt ys (i + j) : Nat) : Int)) := hby.cell (by omega)
            have hfr := hby.frozen (i + j)
            have hij : i + j < m1 + m2 := by omega
            have hb1 := hd1 i
            have hb2 := hd2 j
            have hb3 := hin.1 (i + j)
            have hb4 := hin.2.1
            have hmul := rmul_lt hb3 hb1 hb2 hb4
            have hnx := hin.next hd1 hd2 (by rw [← HL2.out]; exact hjl) (by rw [← HL2.out, hly]; omega)
            generalize gt us i = X at hcell1 hb1 hmul hnx
            generalize gt vs' j = Y at hcell2 hb2 hmul hnx
            generalize gt ys (i + j) = Z at hcell3 hb3 hmul hnx
            have hXY : (X : Int) * (Y : Int) = ((X * Y : Nat) : Int) := by simp
            generalize X * Y = P at hXY hmul hnx
            have hP : P ≤ 281474976710656 := hmul.2
            rw [D24_eq] at hb3 hb4
            have HNX := Lib.hid hnx
            have HQ := Lib.hid (show (((Z : Int) + (P : Int) + (cc : Int)) / 16777216) = (((Z + P + cc) / D24 : Nat) : Int) by rw [D24_eq]; omega)
            have HR := Lib.hid (show (((Z : Int) + (P : Int) + (cc : Int)) % 16777216) = (((Z + P + cc) % D24 : Nat) : Int) by rw [D24_eq]; omega)
            clear hb1 hb2 hmul hnx
            have hd1c : wr.drew.cell? ⟨g1, i, none⟩ = some (.int .i64 (X : Int)) := hcell1
            have hd2c : wr.drew.cell? ⟨g2, j, none⟩ = some (.int .i64 (Y : Int)) := hcell2
            have hd3c : wr.drew.cell? ⟨G, i + j, none⟩ = some (.int .i64 (Z : Int)) := hcell3
            have hfrd : wr.drew.frozen? ⟨G, i + j, none⟩ = false := hfr
            clear hin
            go_wp2
            go_region
            go_wp2
            refine ⟨⟨j + 1, (Z + P + cc) / D24, ys.set (i + j) ((Z + P + cc) % D24), by omega, by go_num, by rw [HQ.out], ?_, by rw [List.length_set]; exact HLY.out, ?_, HNX⟩, by simp [intOf]; omega⟩
            · rw [HR.out]
              exact (hby.set (i + j) _).drew
            · exact gr_trans (gr_trans hgr2 (gr_set _ _ _ _) (.inr rfl) (.inr (.inl rfl))) (gr_drew _ none) (.inr rfl) (.inl rfl)
          · obtain rfl : j = m2 := by omega
            have hin := HIN.out
            have hlim : i + j < m1 + j := by omega
            have hfr := hby.frozen (i + j)
            have hcell3 : wr.cell? ⟨G, i + j, none⟩ = some (.int .i64 ((gt ys (i + j) : Nat) : Int)) := hby.cell (by omega)
            have hlast := hin
            rw [HL2.out] at hlast
            have hnx := RMulIn.last hlast HV2.out.symm (by rw [← HL2.out, hly]; omega)
            rw [← HL2.out] at hnx
            have HNX := Lib.hid hnx
            clear hin hlast hnx
            go_wp2
            refine ⟨⟨i + 1, ys.set (i + j) cc, by omega, by go_num, hby.set _ _, by rw [List.length_set]; exact HLY.out, ?_, HNX⟩, by simp [intOf]; omega⟩
            exact gr_trans hgr2 (gr_set _ _ _ _) (.inr rfl) (.inr (.inl rfl))
      · obtain rfl : i = m1 := by omega
        have hinv := HINV.out
        have hval : val D24 zs = A * B := by
          have := hinv.2.2
          rw [HL1.out, HV1.out] at this
          exact this
        have HVAL := Lib.hid hval
        have HD := Lib.hid hinv.1
        have hls : Ls wr (some ⟨G, 0, none⟩) (i + m2) (i + m2) zs := ⟨hlz.symm, fun _ => ⟨G, zs, rfl, hbz, hlz, Nat.le_refl _, by unfold maxLen; omega, by rw [← hlz, List.take_length]⟩⟩
        have HLS := Lib.hid hls
        have HGR := Lib.hid (gr_new hg hgr hge)
        clear hinv hval hls hlz hbz
        go_wp2_with fail
        refine (rnumber_any _ _ _ zs _ HLS.out HD.out (by omega)).mono ?_
        rintro e w5 ⟨rfl, h5⟩
        rw [HVAL.out]
        go_wp2
        go_ret
        exact ⟨rfl, gr_then HGR.out h5⟩
theorem rmul_any (s t : ByteArray) (w : World) (hs : s.size ≤ 10000000000) (ht : t.size ≤ 10000000000) :
    Calls Tryz.prog 24 #[.string s, .string t] w fun e w' => e = .returned (.string ⟨(enc (num s.data.toList * num t.data.toList)).toArray⟩) ∧ w.grownBy w' none := by
  by_cases h : num s.data.toList < 256 ^ 3 ∧ num t.data.toList < 256 ^ 4
  · exact rmul_small s t w (by omega) (by omega) h.1 h.2
  · exact rmul_big s t w hs ht (by omega)
end Go.Proofs.YteajpefbmiiioaaGreatDoor
