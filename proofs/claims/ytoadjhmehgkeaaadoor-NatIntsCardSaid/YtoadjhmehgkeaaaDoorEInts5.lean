/- Contracts of package nat and of the reference, part 5: Est, Shift, Long, DivG, Even. -/
import Derived.Test.YtoadjhmehgkeaaaDoorEInts4
import Derived.WalkMore
import Derived.Deep.RegionWith
namespace Go.Proofs.YtoadjhmehgkeaaaDoor
open Go.RowKit Mth

theorem est_of {xs ys : List Nat} {o1 o2 n U V : Nat} (hd1 : Dg W64 xs) (hd2 : Dg W64 ys) (hn : 2 ≤ n) (hU : vs W64 xs o1 (n + 1) = U) (hV : vs W64 ys o2 n = V) (htop : gt ys (o2 + (n - 1)) ≠ 0) (hlt : U < W64 * V) :
    Est (W64 ^ (n - 2)) U V (gt xs (o1 + n)) (gt xs (o1 + (n - 1))) (gt xs (o1 + (n - 2))) (gt ys (o2 + (n - 1))) (gt ys (o2 + (n - 2))) := by
  obtain ⟨k, rfl⟩ : ∃ k, n = k + 2 := ⟨n - 2, by omega⟩
  simp only [vs, show k + 2 - 1 = k + 1 from by omega, show k + 2 - 2 = k from by omega] at *
  refine ⟨⟨vs W64 xs o1 k, ?_, vs_lt hd1⟩, ⟨vs W64 ys o2 k, ?_, vs_lt hd2⟩, by omega, hlt, hd1 _, hd1 _, hd2 _⟩
  · rw [← hU, Nat.pow_succ, Nat.pow_succ]; grind
  · rw [← hV, Nat.pow_succ]; grind

theorem add64_small (x y : Nat) (h : x + y < W64 * 2) : (addLo x y 0) + W64 * (addHi x y 0) = x + y ∧ addHi x y 0 ≤ 1 := by
  refine ⟨by have := add_split x y 0; omega, ?_⟩
  unfold addHi; rw [W64_eq] at *; omega

theorem quiet_add_more {P : Program} {f : FuncId} {args : Array Value} {w : World} {a n : Nat} {v : Value}
    (h : Calls P f args (w.drewN (a + n)) fun e w' => e = .returned v ∧ ∃ m, w' = (w.drewN (a + n)).drewN m) :
    Calls P f args (w.drewN (a + n)) fun e w'' => e = .returned v ∧ ∃ m, w'' = w.drewN (a + m) :=
  h.mono fun _ _ ⟨he, m, hm⟩ => ⟨he, n + m, by rw [hm, World.drewN_drewN, Nat.add_assoc]⟩

set_option maxHeartbeats 2000000 in
theorem estimateDigit_any (b1 o1 n c1 b2 o2 c2 U V : Nat) (xs ys : List Nat) (w : World) (hb1 : Blk .u64 57 w b1 xs) (hn1 : o1 + (n + 1) ≤ xs.length) (hd1 : Dg W64 xs) (hb2 : Blk .u64 57 w b2 ys) (hn2 : o2 + n ≤ ys.length) (hd2 : Dg W64 ys) (hm : n ≤ 1099511627776)
    (hn : 2 ≤ n) (hU : vs W64 xs o1 (n + 1) = U) (hV : vs W64 ys o2 n = V) (htop : gt ys (o2 + (n - 1)) ≠ 0) (hlt : U < W64 * V) :
    Calls Tryd.prog 84 #[.slice (some ⟨b1, o1, none⟩) (n + 1) c1, .slice (some ⟨b2, o2, none⟩) n c2] w fun e w' => ∃ d, e = .returned (.int .u64 ((d : Nat) : Int)) ∧ U / V ≤ d ∧ d ≤ U / V + 1 ∧ d < W64 ∧ Qt w w' := by
  have hest := est_of hd1 hd2 hn hU hV htop hlt
  have hcu : w.cell? ⟨b1, o1 + n, none⟩ = some (.int .u64 ((gt xs (o1 + n) : Nat) : Int)) := hb1.cell (by omega)
  have hcu1 : w.cell? ⟨b1, o1 + (n - 1), none⟩ = some (.int .u64 ((gt xs (o1 + (n - 1)) : Nat) : Int)) := hb1.cell (by omega)
  have hcu2 : w.cell? ⟨b1, o1 + (n - 2), none⟩ = some (.int .u64 ((gt xs (o1 + (n - 2)) : Nat) : Int)) := hb1.cell (by omega)
  have hcv1 : w.cell? ⟨b2, o2 + (n - 1), none⟩ = some (.int .u64 ((gt ys (o2 + (n - 1)) : Nat) : Int)) := hb2.cell (by omega)
  have hcv2 : w.cell? ⟨b2, o2 + (n - 2), none⟩ = some (.int .u64 ((gt ys (o2 + (n - 2)) : Nat) : Int)) := hb2.cell (by omega)
  have hv1 := hd2 (o2 + (n - 1))
  have hv2 := hd2 (o2 + (n - 2))
  have hu1 := hd1 (o1 + (n - 1))
  have hu2 := hd1 (o1 + (n - 2))
  generalize gt xs (o1 + n) = u at *
  generalize gt xs (o1 + (n - 1)) = u1 at *
  generalize gt xs (o1 + (n - 2)) = u2 at *
  generalize gt ys (o2 + (n - 1)) = v1 at *
  generalize gt ys (o2 + (n - 2)) = v2 at *
  have HE := Lib.hid hest
  have hule := hest.u_le
  clear hest hb1 hd1 hb2 hd2 hU hV htop hlt hn1 hn2
  have ha := add64_run0
  go_enter Tryd.func84, Tryd.ntmps84
  go_wp2
  go_step3
  go_wp2
  go_quiet (fail)
  rcases Nat.lt_or_ge u v1 with hlt | hge
  · have hd : decide ((u : Int) < (v1 : Int)) = true := decide_eq_true (by omega)
    have hinit := HE.out.init_lt hlt
    have hv1p := HE.out.pos
    have hrlt := Nat.mod_lt (u * W64 + u1) hv1p
    have hdiv : ∀ w, Calls Tryd.prog 73 #[.int .u64 (u : Int), .int .u64 (u1 : Int), .int .u64 (v1 : Int)] w fun e w' => e = .returned (.tuple #[.int .u64 (((u * W64 + u1) / v1 : Nat) : Int), .int .u64 (((u * W64 + u1) % v1 : Nat) : Int)]) ∧ ∃ n, w' = w.drewN n := fun w => div64_any u u1 v1 w hu1 hlt hv1
    have HD := Lib.hid hdiv
    have HI0 := Lib.hid hinit
    generalize (u * W64 + u1) / v1 = q at *
    generalize (u * W64 + u1) % v1 = r0 at *
    clear hdiv hinit
    go_wp2
    go_quiet ((go_at_call 73; exact quiet_add_more (HD.out _)))
    go_wp2_with fail
    go_step3
    go_wp2_with fail
    go_loopw [8, 9, 10] (fun vd vr vc wr => ∃ (d r c : Nat), vd = .int .u64 d ∧ vr = .int .u64 r ∧ vc = .int .u64 c ∧ r < W64 ∧ c ≤ 1 ∧ Hid (EInv U V u u1 v1 d (r + W64 * c)) ∧ d < W64 ∧ Qt w wr) (fun vd _ _ _ => (intOf vd).toNat)
    case atStart => exact ⟨q, r0, 0, rfl, rfl, rfl, by omega, by omega, by rw [Nat.mul_zero, Nat.add_zero]; exact HI0, HI0.out.lt, (Qt.more ⟨_, rfl⟩ _)⟩
    case round =>
      obtain ⟨d, r, c, rfl, rfl, rfl, hr, hc, HI, hdW, k, rfl⟩ := hrel
      have hcu2' : (w.drewN k).cell? ⟨b1, o1 + (n - 2), none⟩ = some (.int .u64 (u2 : Int)) := hcu2
      rcases Nat.lt_or_ge c 1 with h0 | h1
      · obtain rfl : c = 0 := by omega
        have hgo := HI.out
        rw [Nat.mul_zero, Nat.add_zero] at hgo
        have hsp := mul_split d v2
        have HG := Lib.hid hgo
        clear HI hgo hcu hcu1 hcu2 hcv1 hcv2
        go_wp2_with fail
        refine (mul64_run _ _ hdW hv2 _).mono ?_
        rintro e w' ⟨rfl, rfl⟩
        have hlo := mulLo_lt d v2
        generalize mulHi d v2 = hi at *
        generalize mulLo d v2 = lo at *
        by_cases hle : lo + W64 * hi ≤ r * W64 + u2
        · have hfin := HG.out.done HE.out (by rw [← hsp]; exact hle)
          have HF := Lib.hid (And.intro HG.out.ge hfin)
          have hor : hi < r ∨ (hi = r ∧ lo ≤ u2) := by
            rcases Nat.lt_trichotomy hi r with h | h | h
            · exact .inl h
            · subst h; exact .inr ⟨rfl, by rw [Nat.mul_comm] at hle; omega⟩
            · exfalso
              have : W64 * (r + 1) ≤ W64 * hi := Nat.mul_le_mul_left _ h
              rw [Nat.mul_add, Nat.mul_comm W64 r] at this
              omega
          clear hle hsp hfin
          rcases hor with h | ⟨h, h'⟩
          · have hb1 : decide ((hi : Int) < (r : Int)) = true := decide_eq_true (by omega)
            go_wp2
            rw [Exit.noGoto_ret]
            go_ret
            exact ⟨d, rfl, HF.out.1, HF.out.2, hdW, k, rfl⟩
          · subst h
            go_wp2
            rw [Exit.noGoto_ret]
            go_ret
            exact ⟨d, rfl, HF.out.1, HF.out.2, hdW, k, rfl⟩
        · have hlt2 : r * W64 + u2 < d * v2 := by rw [← hsp]; omega
          obtain ⟨hd0, hnx⟩ := HG.out.next HE.out hlt2
          have hsum := add_split r v1 0
          rw [Nat.add_zero] at hsum
          rw [← hsum] at hnx
          have HN := Lib.hid hnx
          have hhi := addHi_le hr hv1 (Nat.zero_le 1)
          have hlow := addLo_lt r v1 0
          have hwr : IntKind.u64.wrap ((d : Int) - 1) = ((d - 1 : Nat) : Int) := by
            rw [show (d : Int) - 1 = ((d - 1 : Nat) : Int) from by omega]; exact wrap_u64 _ (by omega)
          have hor : r < hi ∨ (hi = r ∧ u2 < lo) := by
            rcases Nat.lt_trichotomy hi r with h | h | h
            · exfalso
              have : W64 * (hi + 1) ≤ W64 * r := Nat.mul_le_mul_left _ h
              rw [Nat.mul_add, Nat.mul_comm W64 r] at this
              omega
            · subst h; exact .inr ⟨rfl, by rw [Nat.mul_comm] at hle; omega⟩
            · exact .inl h
          have hd1 : d - 1 < W64 := by omega
          clear hle hsp hlt2 hnx hsum
          rcases hor with h | ⟨h, h'⟩
          · have hb2 : ¬ hi = r := by omega
            go_wp2
            go_roundw
            case rel => exact ⟨d - 1, _, _, by first | rfl | rw [hwr], rfl, rfl, hlow, hhi, HN, hd1, k, rfl⟩
            case measure => simp [intOf]; omega
          · subst h
            go_wp2
            go_roundw
            case rel => exact ⟨d - 1, _, _, by first | rfl | rw [hwr], rfl, rfl, hlow, hhi, HN, hd1, k, rfl⟩
            case measure => simp [intOf]; omega
      · obtain rfl : c = 1 := by omega
        have hfin := HI.out.done HE.out (HI.out.over HE.out (by omega))
        have HF := Lib.hid (And.intro HI.out.ge hfin)
        clear hfin HI
        go_wp2
        rw [Exit.noGoto_ret]
        go_ret
        exact ⟨d, rfl, HF.out.1, HF.out.2, hdW, k, rfl⟩
  · have hd : decide ((u : Int) < (v1 : Int)) = false := decide_eq_false (by omega)
    have heq : u = v1 := by omega
    have hnlt : ¬ u < v1 := by omega
    have hinit := HE.out.init_eq heq
    have hsum := add_split u1 v1 0
    rw [Nat.add_zero] at hsum
    rw [← hsum] at hinit
    have HI0 := Lib.hid hinit
    have hhi0 := addHi_le hu1 hv1 (Nat.zero_le 1)
    have hlo0 := addLo_lt u1 v1 0
    clear hinit hsum heq
    go_wp2_with fail
    go_step3
    go_wp2_with fail
    go_loopw [8, 9, 10] (fun vd vr vc wr => ∃ (d r c : Nat), vd = .int .u64 d ∧ vr = .int .u64 r ∧ vc = .int .u64 c ∧ r < W64 ∧ c ≤ 1 ∧ Hid (EInv U V u u1 v1 d (r + W64 * c)) ∧ d < W64 ∧ Qt w wr) (fun vd _ _ _ => (intOf vd).toNat)
    case atStart => exact ⟨W64 - 1, _, _, rfl, rfl, rfl, hlo0, hhi0, HI0, by decide, ⟨_, rfl⟩⟩
    case round =>
      obtain ⟨d, r, c, rfl, rfl, rfl, hr, hc, HI, hdW, k, rfl⟩ := hrel
      have hcu2' : (w.drewN k).cell? ⟨b1, o1 + (n - 2), none⟩ = some (.int .u64 (u2 : Int)) := hcu2
      rcases Nat.lt_or_ge c 1 with h0 | h1
      · obtain rfl : c = 0 := by omega
        have hgo := HI.out
        rw [Nat.mul_zero, Nat.add_zero] at hgo
        have hsp := mul_split d v2
        have HG := Lib.hid hgo
        clear HI hgo hcu hcu1 hcu2 hcv1 hcv2
        go_wp2_with fail
        refine (mul64_run _ _ hdW hv2 _).mono ?_
        rintro e w' ⟨rfl, rfl⟩
        have hlo := mulLo_lt d v2
        generalize mulHi d v2 = hi at *
        generalize mulLo d v2 = lo at *
        by_cases hle : lo + W64 * hi ≤ r * W64 + u2
        · have hfin := HG.out.done HE.out (by rw [← hsp]; exact hle)
          have HF := Lib.hid (And.intro HG.out.ge hfin)
          have hor : hi < r ∨ (hi = r ∧ lo ≤ u2) := by
            rcases Nat.lt_trichotomy hi r with h | h | h
            · exact .inl h
            · subst h; exact .inr ⟨rfl, by rw [Nat.mul_comm] at hle; omega⟩
            · exfalso
              have : W64 * (r + 1) ≤ W64 * hi := Nat.mul_le_mul_left _ h
              rw [Nat.mul_add, Nat.mul_comm W64 r] at this
              omega
          clear hle hsp hfin
          rcases hor with h | ⟨h, h'⟩
          · have hb1 : decide ((hi : Int) < (r : Int)) = true := decide_eq_true (by omega)
            go_wp2
            rw [Exit.noGoto_ret]
            go_ret
            exact ⟨d, rfl, HF.out.1, HF.out.2, hdW, k, rfl⟩
          · subst h
            go_wp2
            rw [Exit.noGoto_ret]
            go_ret
            exact ⟨d, rfl, HF.out.1, HF.out.2, hdW, k, rfl⟩
        · have hlt2 : r * W64 + u2 < d * v2 := by rw [← hsp]; omega
          obtain ⟨hd0, hnx⟩ := HG.out.next HE.out hlt2
          have hsum := add_split r v1 0
          rw [Nat.add_zero] at hsum
          rw [← hsum] at hnx
          have HN := Lib.hid hnx
          have hhi := addHi_le hr hv1 (Nat.zero_le 1)
          have hlow := addLo_lt r v1 0
          have hwr : IntKind.u64.wrap ((d : Int) - 1) = ((d - 1 : Nat) : Int) := by
            rw [show (d : Int) - 1 = ((d - 1 : Nat) : Int) from by omega]; exact wrap_u64 _ (by omega)
          have hor : r < hi ∨ (hi = r ∧ u2 < lo) := by
            rcases Nat.lt_trichotomy hi r with h | h | h
            · exfalso
              have : W64 * (hi + 1) ≤ W64 * r := Nat.mul_le_mul_left _ h
              rw [Nat.mul_add, Nat.mul_comm W64 r] at this
              omega
            · subst h; exact .inr ⟨rfl, by rw [Nat.mul_comm] at hle; omega⟩
            · exact .inl h
          have hd1 : d - 1 < W64 := by omega
          clear hle hsp hlt2 hnx hsum
          rcases hor with h | ⟨h, h'⟩
          · have hb2 : ¬ hi = r := by omega
            go_wp2
            go_roundw
            case rel => exact ⟨d - 1, _, _, by first | rfl | rw [hwr], rfl, rfl, hlow, hhi, HN, hd1, k, rfl⟩
            case measure => simp [intOf]; omega
          · subst h
            go_wp2
            go_roundw
            case rel => exact ⟨d - 1, _, _, by first | rfl | rw [hwr], rfl, rfl, hlow, hhi, HN, hd1, k, rfl⟩
            case measure => simp [intOf]; omega
      · obtain rfl : c = 1 := by omega
        have hfin := HI.out.done HE.out (HI.out.over HE.out (by omega))
        have HF := Lib.hid (And.intro HI.out.ge hfin)
        clear hfin HI
        go_wp2
        rw [Exit.noGoto_ret]
        go_ret
        exact ⟨d, rfl, HF.out.1, HF.out.2, hdW, k, rfl⟩
end Go.Proofs.YtoadjhmehgkeaaaDoor
namespace Go.Proofs.YtoadjhmehgkeaaaDoor
open Go.RowKit Mth

theorem shl_cast (x s : Nat) : IntKind.u64.wrap ((x : Int) * (2 : Int) ^ s) = ((x * 2 ^ s % W64 : Nat) : Int) := by
  rw [wrap_mod, W64_eq]
  simp
theorem or_cast {x y : Nat} (hx : x < W64) (hy : y < W64) : bits BinOp.or IntKind.u64 (x : Int) (y : Int) = ((x ||| y : Nat) : Int) :=
  bits_or_u64_nat _ _ (by rw [W64_eq] at hx; exact hx) (by rw [W64_eq] at hy; exact hy)

set_option maxHeartbeats 2000000 in
theorem shiftedLeft_any (b o n c s : Nat) (xs : List Nat) (w : World) (hb : Blk .u64 57 w b xs) (hn : o + n ≤ xs.length) (hd : Dg W64 xs) (hm : n ≤ 1099511627776) (hs : s ≤ 63) :
    Calls Tryd.prog 62 #[.slice (some ⟨b, o, none⟩) n c, .int .i64 (s : Int)] w fun e w' => ∃ g zs, e = .returned (.slice (some ⟨g, 0, none⟩) (n + 1) (n + 1)) ∧ w.heap.size ≤ g ∧ Blk .u64 57 w' g zs ∧ w.grownBy w' none ∧ Dg W64 zs ∧ zs.length = n + 1 ∧ vs W64 zs 0 (n + 1) = vs W64 xs o n * 2 ^ s := by
  obtain ⟨i0, hi, hz0, hz1, hz2⟩ := info_parts infoW
  go_enter Tryd.func62, Tryd.ntmps62
  go_wp2_with (at_make; refine wpList_make_full _ rfl _ _ 51 rfl 0 57 i0 (.int .u64 0) 1 Tryd.underlying51 hi hz0 hz1 .i64 .i64 _ _ (n + 1) rfl rfl ?_ ?_ ?_ ?_ (Nat.zero_le _) ?_)
  case refine_1 => omega
  case refine_2 => omega
  case refine_3 => rw [hz2]; omega
  case refine_4 => unfold maxLen; omega
  intro w1 hown hgr
  have hb0 := blk_made' hown
  have hl0 : (List.replicate (n + 1) 0 : List Nat).length = n + 1 := List.length_replicate
  have hz : ∀ j, gt (List.replicate (n + 1) 0) j = 0 := fun j => by simp [gt, List.getD, List.getElem?_replicate]; split <;> rfl
  have hi0 : ShlInv xs (List.replicate (n + 1) 0) o n s 0 := by
    refine ⟨hl0, fun j => by rw [hz]; exact W64_pos, fun j _ => hz j, by rw [hz]; exact Nat.pow_pos (by decide), ?_⟩
    simp [vs, hz]
  have HI0 := Lib.hid hi0
  generalize (List.replicate (n + 1) 0 : List Nat) = z0 at hb0 HI0
  clear hown hi hz0 hz1 hz2 hl0 hz hi0
  go_wp2
  go_loopw [14] (fun j wr => ∃ (i : Nat) (zs : List Nat), i ≤ n ∧ j = .int .i64 i ∧ Blk .u64 57 wr w.heap.size zs ∧ w.grownBy wr none ∧ Hid (ShlInv xs zs o n s i)) (fun j _ => n - (intOf j).toNat)
  case atStart => exact ⟨0, z0, Nat.zero_le _, rfl, hb0, hgr, HI0⟩
  case round =>
    obtain ⟨i, zs, hile, rfl, hbz, hg, HI⟩ := hrel
    have hbr := hb.kept hg (by simp)
    have hne : b ≠ w.heap.size := by have := hb.lt; omega
    have hlz := HI.out.len
    by_cases hlt : i < n
    · have hcell2 : wr.cell? ⟨b, o + i, none⟩ = some (.int .u64 ((gt xs (o + i) : Nat) : Int)) := hbr.cell (by omega)
      have hcell : wr.cell? ⟨w.heap.size, i, none⟩ = some (.int .u64 ((gt zs i : Nat) : Int)) := hbz.cell (by omega)
      have hfr : wr.frozen? ⟨w.heap.size, i, none⟩ = false := hbz.frozen _
      have hcell3 : wr.cell? ⟨w.heap.size, i + 1, none⟩ = some (.int .u64 ((gt zs (i + 1) : Nat) : Int)) := hbz.cell (by omega)
      have hfr3 : wr.frozen? ⟨w.heap.size, i + 1, none⟩ = false := hbz.frozen _
      have HN := Lib.hid (HI.out.next hs hlt (hd (o + i)))
      clear hb0
      go_wp2
      have hor := shl_word (x := gt xs (o + i)) (by omega : s ≤ 64) HI.out.low
      have hlt2 : gt xs (o + i) * 2 ^ s % W64 < W64 := Nat.mod_lt _ W64_pos
      have HO := Lib.hid (or_cast (HI.out.dg i) hlt2)
      have HS := Lib.hid (shl_cast (gt xs (o + i)) s)
      have HR := Lib.hid (show ((gt xs (o + i) : Nat) : Int) / 2 ^ (64 - s) = ((gt xs (o + i) / 2 ^ (64 - s) : Nat) : Int) from by rw [Int.natCast_ediv, Int.natCast_pow]; rfl)
      clear hor hlt2
      go_region
      go_wp2
      refine ⟨⟨i + 1, _, by omega, by go_num, ?_, ?_, HN⟩, by simp [intOf]; omega⟩
      · rw [HS.out, HO.out, HR.out]
        exact ((hbz.set _ _).set _ _).drew
      · exact gr_then (gr_new (gr_new hg (gr_set _ _ _ _) (Nat.le_refl _)) (gr_set _ _ _ _) (Nat.le_refl _)) (gr_drew _ none)
    · obtain rfl : i = n := by omega
      have hfin := HI.out
      have HV := Lib.hid hfin.val
      have HD := Lib.hid hfin.dg
      clear hfin hb0
      go_wp2
      go_ret
      exact ⟨w.heap.size, zs, rfl, Nat.le_refl _, hbz, hg, HD.out, hlz, HV.out⟩

set_option maxHeartbeats 2000000 in
theorem shiftRight_any (b n c s : Nat) (xs : List Nat) (w : World) (hb : Blk .u64 57 w b xs) (hn : n = xs.length) (hd : Dg W64 xs) (hm : n ≤ 1099511627777) (hs : s ≤ 63) :
    Calls Tryd.prog 64 #[.slice (some ⟨b, 0, none⟩) n c, .int .i64 (s : Int)] w fun e w' => e = .returned (.tuple #[]) ∧ ∃ zs, Blk .u64 57 w' b zs ∧ w.grownBy w' (some b) ∧ zs.length = n ∧ Dg W64 zs ∧ vs W64 zs 0 n = vs W64 xs 0 n / 2 ^ s := by
  obtain ⟨X, hX⟩ : ∃ X, X = vs W64 xs 0 xs.length := ⟨_, rfl⟩
  have hi0 : ShrInv X xs xs s 0 := ⟨rfl, hd, fun j hj => by omega, fun _ _ => rfl⟩
  have HI0 := Lib.hid hi0
  have HX := Lib.hid hX
  have HNL := Lib.hid hn
  clear hi0 hX hn
  go_enter Tryd.func64, Tryd.ntmps64
  go_wp2
  go_loopw [7] (fun j wr => ∃ (i : Nat) (zs : List Nat), i ≤ n ∧ j = .int .i64 i ∧ Blk .u64 57 wr b zs ∧ w.grownBy wr (some b) ∧ Hid (ShrInv X xs zs s i)) (fun j _ => n - (intOf j).toNat)
  case atStart => exact ⟨0, xs, Nat.zero_le _, rfl, hb, World.grownBy.refl _ _, HI0⟩
  case round =>
    obtain ⟨i, zs, hile, rfl, hbz, hg, HI⟩ := hrel
    by_cases hlt : i < n
    · have hlz : zs.length = n := HI.out.len.trans HNL.out.symm
      have hix : i < xs.length := by rw [← HNL.out]; exact hlt
      have hcell : wr.cell? ⟨b, i, none⟩ = some (.int .u64 ((gt zs i : Nat) : Int)) := hbz.cell (by omega)
      have hfr : wr.frozen? ⟨b, i, none⟩ = false := hbz.frozen _
      have HR := Lib.hid (show ((gt zs i : Nat) : Int) / 2 ^ s = ((gt zs i / 2 ^ s : Nat) : Int) from by rw [Int.natCast_ediv, Int.natCast_pow]; rfl)
      by_cases hl2 : i + 1 < n
      · have hcell3 : wr.cell? ⟨b, i + 1, none⟩ = some (.int .u64 ((gt zs (i + 1) : Nat) : Int)) := hbz.cell (by omega)
        have hx : gt zs (i + 1) = gt xs (i + 1) := HI.out.rest _ (by omega)
        have HN := Lib.hid (HI.out.next (by omega) HX.out hd hix hx)
        have HW := Lib.hid (shr_word (x := gt zs (i + 1)) (s := s) (by omega) (HI.out.dg i))
        have hlt2 : gt zs (i + 1) * 2 ^ (64 - s) % W64 < W64 := Nat.mod_lt _ W64_pos
        have hlt3 : gt zs i / 2 ^ s < W64 := Nat.lt_of_le_of_lt (Nat.div_le_self _ _) (HI.out.dg i)
        have HO := Lib.hid (or_cast hlt3 hlt2)
        have HS := Lib.hid (shl_cast (gt zs (i + 1)) (64 - s))
        clear hlt2 hlt3 hx
        go_wp2
        go_region
        go_wp2
        refine ⟨⟨i + 1, _, by omega, by go_num, ?_, gr_trans hg (gr_trans (gr_trans (gr_set _ _ _ _) (gr_set _ _ _ _) (.inr rfl) (.inr (.inl rfl))) (gr_drew _ none) (.inr rfl) (.inl rfl)) (.inr rfl) (.inr (.inl rfl)), HN.out.2⟩, by simp [intOf]; omega⟩
        rw [HR.out, HS.out, HO.out, HW.out.1]
        have h2 := (hbz.set i (gt zs i / 2 ^ s)).set i (gt zs i / 2 ^ s + gt zs (i + 1) * 2 ^ (64 - s) % W64)
        rw [List.set_set] at h2
        exact h2.drew
      · have hx : 0 = gt xs (i + 1) := by rw [gt_of_ge (by rw [← HNL.out]; omega)]
        have HN := Lib.hid (HI.out.next (by omega) HX.out hd hix hx)
        clear hx
        go_wp2
        refine ⟨⟨i + 1, _, by omega, by go_num, ?_, gr_trans hg (gr_set _ _ _ _) (.inr rfl) (.inr (.inl rfl)), HN.out.2⟩, by simp [intOf]; omega⟩
        rw [HR.out, Nat.zero_mul, Nat.zero_mod, Nat.add_zero]
        exact hbz.set _ _
    · obtain rfl : i = n := by omega
      have hv := HI.out
      rw [HNL.out] at hv
      have hv2 := hv.all HX.out hd
      have HV := Lib.hid (And.intro (hv.len.trans HNL.out.symm) (And.intro hv.dg hv2))
      clear hv hv2
      go_wp2
      go_end0
      refine ⟨rfl, zs, hbz, hg, HV.out.1, HV.out.2.1, ?_⟩
      rw [HNL.out, HV.out.2.2, HX.out]
end Go.Proofs.YtoadjhmehgkeaaaDoor
namespace Go.Proofs.YtoadjhmehgkeaaaDoor
open Go.RowKit Mth

/-- What the three steps at one place come to. -/
theorem place_steps {zs us : List Nat} {i n U V d c : Nat} (hU : vs W64 zs i (n + 1) = U) (hV0 : 0 < V) (hVn : V ≤ W64 ^ n) (h1 : U / V ≤ d) (h2 : d ≤ U / V + 1)
    (hlen : i + n < zs.length) (hsub : SubbedM zs us i n c (V * d)) :
    (us.set (i + n) (subLo (gt us (i + n)) c 0)).length = zs.length ∧ Dg W64 (us.set (i + n) (subLo (gt us (i + n)) c 0)) ∧ (∀ j, (j < i ∨ i + (n + 1) ≤ j) → gt (us.set (i + n) (subLo (gt us (i + n)) c 0)) j = gt zs j) ∧
      (subHi (gt us (i + n)) c 0 = 0 → d = U / V ∧ vs W64 (us.set (i + n) (subLo (gt us (i + n)) c 0)) i (n + 1) = U % V) ∧
      (subHi (gt us (i + n)) c 0 = 1 → 0 < d ∧ ∀ ws, AddedW (us.set (i + n) (subLo (gt us (i + n)) c 0)) ws i (n + 1) V → 0 < d ∧ d - 1 = U / V ∧ vs W64 ws i (n + 1) = U % V) := by
  obtain ⟨s1, s2, s3, s4⟩ := hsub
  have hl : i + n < us.length := by rw [s1.len]; exact hlen
  have hp : gt us (i + n) = gt zs (i + n) := s1.out _ (by omega)
  have hsp := sub_split (s2 (i + n)) s3 (Nat.zero_le 1)
  have hdz : Dg W64 (us.set (i + n) (subLo (gt us (i + n)) c 0)) := s2.set (subLo_lt _ _ _)
  have hval : vs W64 (us.set (i + n) (subLo (gt us (i + n)) c 0)) i (n + 1) + V * d = U + W64 ^ (n + 1) * subHi (gt us (i + n)) c 0 := by
    rw [← hU]
    simp only [vs]
    rw [gt_set hl, if_pos rfl, vs_congr (ys := us) (off' := i) (n := n) (fun j hj => by rw [gt_set hl, if_neg (by omega)])]
    rw [← hp]
    generalize gt us (i + n) = p at *
    have e : W64 ^ n * subLo p c 0 + W64 ^ n * c = W64 ^ n * p + W64 ^ (n + 1) * subHi p c 0 := by
      rw [Nat.pow_succ, Nat.mul_assoc, ← Nat.mul_add, ← Nat.mul_add]
      congr 1
    omega
  refine ⟨by rw [List.length_set]; exact s1.len, hdz, fun j hj => ?_, fun h0 => ?_, fun h0 => ⟨?_, fun ws hadd => ?_⟩⟩
  · rw [gt_set hl, if_neg (by omega)]; exact s1.out j (by omega)
  · rw [h0, Nat.mul_zero, Nat.add_zero] at hval
    exact step_zero hV0 h1 h2 hval
  · rw [h0, Nat.mul_one] at hval
    rcases Nat.eq_zero_or_pos d with e | e
    · rw [e, Nat.mul_zero] at hval
      have := vs_lt (off := i) (n := n + 1) hdz
      omega
    · exact e
  · rw [h0, Nat.mul_one] at hval
    obtain ⟨a1, a2, k, a3⟩ := hadd
    have hle : W64 ^ n ≤ W64 ^ (n + 1) := Nat.pow_le_pow_right W64_pos (by omega)
    exact step_one hV0 (Nat.le_trans hVn hle) h1 h2 (vs_lt hdz) (vs_lt a2) hval a3

theorem top_ne {ys : List Nat} {n V : Nat} (hd : Dg W64 ys) (hV : vs W64 ys 0 n = V) (h : W64 ^ (n - 1) ≤ V) (hn : 0 < n) : gt ys (0 + (n - 1)) ≠ 0 := by
  intro e
  obtain ⟨k, rfl⟩ : ∃ k, n = k + 1 := ⟨n - 1, by omega⟩
  rw [Nat.add_sub_cancel] at e h
  simp only [vs] at hV
  rw [e] at hV
  have := vs_lt (off := 0) (n := k) hd
  omega

set_option maxHeartbeats 4000000 in
set_option maxRecDepth 100000 in
theorem divideLong_any (b1 n1 c1 b2 n c2 m V R0 : Nat) (xs ys : List Nat) (w : World) (hb1 : Blk .u64 57 w b1 xs) (hl1 : xs.length = n1) (hd1 : Dg W64 xs) (hc1 : c1 = n1) (hb2 : Blk .u64 57 w b2 ys) (hn2 : n ≤ ys.length) (hd2 : Dg W64 ys) (hm1 : n1 ≤ 1099511627777) (hn40 : n ≤ 1099511627776)
    (hne : b2 ≠ b1) (hn : 2 ≤ n) (hm : n1 = m + n) (hV : vs W64 ys 0 n = V) (htop : W64 ^ (n - 1) ≤ V) (hR : vs W64 xs 0 n1 = R0) (hsm : vs W64 xs m n < V) :
    Calls Tryd.prog 63 #[.slice (some ⟨b1, 0, none⟩) n1 c1, .slice (some ⟨b2, 0, none⟩) n c2] w fun e w' => ∃ g qs zs, e = .returned (.slice (some ⟨g, 0, none⟩) m m) ∧ w.heap.size ≤ g ∧ Blk .u64 57 w' g qs ∧ qs.length = m ∧ Dg W64 qs ∧ vs W64 qs 0 m = R0 / V ∧ Blk .u64 57 w' b1 zs ∧ zs.length = n1 ∧ Dg W64 zs ∧ vs W64 zs 0 n1 = R0 % V ∧ w.grownBy w' (some b1) := by
  subst hc1
  subst hm
  obtain ⟨i0, hi, hz0, hz1, hz2⟩ := info_parts infoW
  have HT := Lib.hid (top_ne hd2 hV htop (by omega))
  have hV0 : 0 < V := Nat.lt_of_lt_of_le (Nat.pow_pos W64_pos) htop
  have hVn : V ≤ W64 ^ n := by rw [← hV]; exact Nat.le_of_lt (vs_lt hd2)
  have HVN := Lib.hid hVn
  have HVV := Lib.hid hV
  have hs64 := sub64_runz
  have hlt1 := hb1.lt
  have hi0 : ∀ qs : List Nat, qs.length = m → Dg W64 qs → LongInv R0 V xs qs n m m := fun qs h1 h2 => ⟨by omega, h1, hd1, h2, hsm, fun j hj => gt_of_ge (by omega), by rw [Nat.sub_self]; simp only [vs, Nat.mul_zero, Nat.zero_mul, Nat.zero_add]; exact hR.symm⟩
  have HI0 := Lib.hid hi0
  clear hi0 hsm hR hV htop hVn
  go_enter Tryd.func63, Tryd.ntmps63
  go_wp2_with (at_make; refine wpList_make_full _ rfl _ _ 51 rfl 0 57 i0 (.int .u64 0) 1 Tryd.underlying51 hi hz0 hz1 .i64 .i64 _ _ m rfl rfl ?_ ?_ ?_ ?_ (Nat.zero_le _) ?_)
  case refine_1 => omega
  case refine_2 => omega
  case refine_3 => rw [hz2]; omega
  case refine_4 => unfold maxLen; omega
  intro w1 hown hgr
  have hb0 := blk_made' hown
  have hl0 : (List.replicate m 0 : List Nat).length = m := List.length_replicate
  have hz : ∀ j, gt (List.replicate m 0) j = 0 := fun j => by simp [gt, List.getD, List.getElem?_replicate]; split <;> rfl
  have HI := Lib.hid (HI0.out _ hl0 (fun j => by rw [hz]; exact W64_pos))
  generalize (List.replicate m 0 : List Nat) = q0 at hb0 HI
  have hb1' := hb1.kept hgr (by simp)
  clear hown hi hz0 hz1 hz2 hl0 hz HI0
  go_wp2
  go_loopw [7] (fun j wr => ∃ (i : Nat) (zs qs : List Nat), i ≤ m ∧ j = .int .i64 ((i : Int) - 1) ∧ Blk .u64 57 wr b1 zs ∧ Blk .u64 57 wr w.heap.size qs ∧ w.grownBy wr (some b1) ∧ Hid (LongInv R0 V zs qs n m i)) (fun j _ => (intOf j + 1).toNat)
  case atStart => exact ⟨m, xs, q0, Nat.le_refl _, rfl, hb1', hb0, gr_then hgr (World.grownBy.refl _ _), HI⟩
  case round =>
    obtain ⟨i, zs, qs, hile, rfl, hbz, hbq, hg, HI⟩ := hrel
    have hb2r := hb2.kept hg (by simpa using hne)
    have hneq : w.heap.size ≠ b1 := by omega
    rcases i with _ | i
    · have HF := Lib.hid (HI.out.done hV0)
      have HL := Lib.hid HI.out
      clear hb0 hb1'
      go_wp2
      go_ret
      refine ⟨w.heap.size, qs, zs, rfl, Nat.le_refl _, hbq, HL.out.qlen, HL.out.qdg, HF.out.1, hbz, HL.out.len, HL.out.dg, HF.out.2, hg⟩
    · rw [show (((i + 1 : Nat) : Int) - 1) = (i : Int) from by omega]
      obtain ⟨U, hU⟩ : ∃ U, vs W64 zs i (n + 1) = U := ⟨_, rfl⟩
      have hUlt := HI.out.u_lt
      rw [hU] at hUlt
      have hlz := HI.out.len
      have hdz := HI.out.dg
      have hlq := HI.out.qlen
      have hcut : ¬ m + n = i := by omega
      have HU := Lib.hid hU
      have HLT := Lib.hid hUlt
      have HLZ := Lib.hid hlz
      clear hb0 hb1' hU hUlt hlz
      go_wp2_with fail
      rw [show i + n + 1 - i = n + 1 from by omega]
      refine (estimateDigit_any b1 i n (m + n - i) b2 0 c2 U V zs ys wr hbz (by rw [HLZ.out]; omega) hdz hb2r (by omega) hd2 (by omega) hn HU.out HVV.out HT.out HLT.out).mono ?_
      rintro e w2 ⟨d, rfl, hq1, hq2, hdW, k, rfl⟩
      have HQ := Lib.hid (And.intro hq1 hq2)
      have hbzk : Blk .u64 57 (wr.drewN k) b1 zs := hbz
      have hbqk : Blk .u64 57 (wr.drewN k) w.heap.size qs := hbq
      have hb2k : Blk .u64 57 (wr.drewN k) b2 ys := hb2r
      have hgk : w.grownBy (wr.drewN k) (some b1) := gr_trans hg (gr_drewN _ _ none) (.inr rfl) (.inl rfl)
      generalize wr.drewN k = wk at *
      clear hq1 hq2
      go_wp2_with fail
      refine (subtractMultiple_any b1 i (n + 1) (m + n - i) b2 0 n c2 d zs ys wk hbzk (by rw [HLZ.out]; omega) hdz hb2k (by omega) hd2 hne (by omega) hdW (by unfold maxLen; omega)).mono ?_
      rintro e w3 ⟨c, us, rfl, hu, hg3, hsub⟩
      rw [HVV.out] at hsub
      have hpl := place_steps HU.out hV0 HVN.out HQ.out.1 HQ.out.2 (by rw [HLZ.out]; omega) hsub
      have hlu : us.length = m + n := hsub.1.len.trans HLZ.out
      have hcp : w3.cell? ⟨b1, i + n, none⟩ = some (.int .u64 ((gt us (i + n) : Nat) : Int)) := hu.cell (by omega)
      have hfp : w3.frozen? ⟨b1, i + n, none⟩ = false := hu.frozen _
      have hsub1 := subHi_le (gt us (i + n)) c 0
      have hus := fun v => hu.set (i + n) v
      have hbq3 : Blk .u64 57 w3 w.heap.size qs := hbqk.kept hg3 (by simpa using hneq)
      have hb23 : Blk .u64 57 w3 b2 ys := hb2k.kept hg3 (by simpa using hne)
      have HLU := Lib.hid hlu
      clear hsub hlu hu
      obtain ⟨lo, hlo⟩ : ∃ lo, lo = subLo (gt us (i + n)) c 0 := ⟨_, rfl⟩
      obtain ⟨hi, hhi⟩ : ∃ hi, hi = subHi (gt us (i + n)) c 0 := ⟨_, rfl⟩
      have hs3 := hs64 (gt us (i + n)) c
      rw [← hlo, ← hhi] at hs3
      rw [← hlo, ← hhi] at hpl
      rw [← hhi] at hsub1
      have HPL := Lib.hid hpl
      have husl := hus lo
      clear hpl hlo hhi hs64 hus
      have hgs : w.grownBy (w3.setCell ⟨b1, i + n, none⟩ (.int .u64 (lo : Int))) (some b1) := gr_trans (gr_trans hgk hg3 (.inr rfl) (.inr (.inl rfl))) (gr_set _ _ _ _) (.inr rfl) (.inr (.inl rfl))
      have hbq4 : Blk .u64 57 (w3.setCell ⟨b1, i + n, none⟩ (.int .u64 (lo : Int))) w.heap.size qs := hbq3.setOther hneq _ _
      have hb24 : Blk .u64 57 (w3.setCell ⟨b1, i + n, none⟩ (.int .u64 (lo : Int))) b2 ys := hb23.setOther hne _ _
      rcases Nat.lt_or_ge 0 hi with h1 | h0
      · obtain rfl : hi = 1 := by omega
        have hstep := HPL.out.2.2.2.2 rfl
        have hd0 := hstep.1
        have HST := Lib.hid hstep.2
        have hwr : IntKind.u64.wrap ((d : Int) - 1) = ((d - 1 : Nat) : Int) := by
          rw [show (d : Int) - 1 = ((d - 1 : Nat) : Int) from by omega]; exact wrap_u64 _ (by omega)
        clear hstep
        go_wp2_with fail
        refine (addTo_any b1 i (n + 1) (m + n - i) b2 0 n c2 (us.set (i + n) lo) ys _ husl (by rw [HPL.out.1, HLZ.out]; omega) HPL.out.2.1 (by omega) (by unfold maxLen; omega) hb24 (by omega) hd2 hne (by omega)).mono ?_
        rintro e w5 ⟨rfl, ws, hws, hg5, hadd⟩
        rw [HVV.out] at hadd
        have hfin := HST.out ws hadd
        have HN := Lib.hid (HI.out.next (d := d - 1) (us := ws) (by omega) HVN.out hV0 (hadd.1.len.trans HPL.out.1) (fun j hj => (hadd.1.out j (by omega)).trans (HPL.out.2.2.1 j hj)) hadd.2.1 (by rw [HU.out]; exact hfin.2.1) (by omega) (by rw [HU.out]; exact hfin.2.2))
        have hbq5 : Blk .u64 57 w5 w.heap.size qs := hbq4.kept hg5 (by simpa using hneq)
        have hcq : w5.cell? ⟨w.heap.size, i, none⟩ = some (.int .u64 ((gt qs i : Nat) : Int)) := hbq5.cell (by omega)
        have hfq : w5.frozen? ⟨w.heap.size, i, none⟩ = false := hbq5.frozen _
        have hgs5 : w.grownBy w5 (some b1) := gr_trans hgs hg5 (.inr rfl) (.inr (.inl rfl))
        clear hfin hadd
        go_wp2
        refine ⟨⟨i, _, _, by omega, rfl, hws.setOther (fun e => hneq e.symm) _ _, by first | exact hbq5.set _ _ | (rw [hwr]; exact hbq5.set _ _), gr_trans hgs5 (gr_set _ _ _ _) (.inr rfl) (.inr (.inr fun k e => by cases e; exact Nat.le_refl _)), HN⟩, by simp [intOf]⟩
      · obtain rfl : hi = 0 := by omega
        have hfin := HPL.out.2.2.2.1 rfl
        have HN := Lib.hid (HI.out.next (by omega) HVN.out hV0 HPL.out.1 HPL.out.2.2.1 HPL.out.2.1 (by rw [HU.out]; exact hfin.1) hdW (by rw [HU.out]; exact hfin.2))
        have hcq : (w3.setCell ⟨b1, i + n, none⟩ (.int .u64 (lo : Int))).cell? ⟨w.heap.size, i, none⟩ = some (.int .u64 ((gt qs i : Nat) : Int)) := hbq4.cell (by omega)
        have hfq : (w3.setCell ⟨b1, i + n, none⟩ (.int .u64 (lo : Int))).frozen? ⟨w.heap.size, i, none⟩ = false := hbq4.frozen _
        clear hfin
        go_wp2
        refine ⟨⟨i, _, _, by omega, rfl, husl.setOther (fun e => hneq e.symm) _ _, hbq4.set _ _, gr_trans hgs (gr_set _ _ _ _) (.inr rfl) (.inr (.inr fun k e => by cases e; exact Nat.le_refl _)), HN⟩, by simp [intOf]⟩
end Go.Proofs.YtoadjhmehgkeaaaDoor
namespace Go.Proofs.YtoadjhmehgkeaaaDoor
open Go.RowKit Mth

theorem trimmed_lt (b n c K : Nat) (xs : List Nat) (w : World) (hb : Blk .u64 57 w b xs) (hn : n ≤ xs.length) (hd : Dg W64 xs) (hc : n ≤ c) (hm : c ≤ maxLen) (hK : vs W64 xs 0 n < W64 ^ K) (hs : K ≤ 1099511627776) :
    Calls Tryd.prog 54 #[.slice (some ⟨b, 0, none⟩) n c] w fun e w' => (∃ m, e = .returned (.slice (some ⟨b, 0, none⟩) m c) ∧ NumAt w b 0 m c xs (vs W64 xs 0 n)) ∧ w = w' := by
  refine (trimmed_any b 0 n c xs w hb (by omega) hc hm).mono ?_
  rintro e w' ⟨⟨m, rfl, hmn, hz, htop⟩, rfl⟩
  have hv : vs W64 xs 0 m = vs W64 xs 0 n := by
    obtain ⟨k, rfl⟩ : ∃ k, n = m + k := ⟨n - m, by omega⟩
    rw [vs_split, vs_zero (n := k) (fun i hi => by rw [Nat.add_assoc]; exact hz _ (by omega) (by omega))]; simp
  have hmK : m ≤ K := by
    rcases Nat.lt_or_ge K m with h1 | h1
    · obtain ⟨j, rfl⟩ : ∃ j, m = j + 1 := ⟨m - 1, by omega⟩
      have h3 : gt xs (0 + j) ≠ 0 := by rcases htop with h | h; omega; simpa using h
      rw [← hv] at hK
      simp only [vs] at hK
      have h5 : W64 ^ j * 1 ≤ W64 ^ j * gt xs (0 + j) := Nat.mul_le_mul_left _ (by omega)
      have h6 : W64 ^ K ≤ W64 ^ j := Nat.pow_le_pow_right W64_pos (by omega)
      omega
    · exact h1
  exact ⟨⟨m, rfl, hb, by omega, hd, hv, htop, by omega, hm, by omega⟩, rfl⟩

/-- What divide returns, and where the rest lies. -/
def DivOutB (v1 : Value) (w w' : World) (e : Ending) (N M : Nat) : Prop := ∃ q r, e = .returned (.tuple #[q, r]) ∧ NumQ w' q (N / M) ∧ Num w' r (N % M) ∧ w.grownBy w' none ∧ (r = v1 ∨ ∃ g o m c, r = .slice (some ⟨g, o, none⟩) m c ∧ w.heap.size ≤ g)
theorem DivOutB.out {v1 : Value} {w w' : World} {e : Ending} {N M : Nat} (h : DivOutB v1 w w' e N M) : DivOut w w' e N M := by
  obtain ⟨q, r, h1, h2, h3, h4, _⟩ := h
  exact ⟨q, r, h1, h2, h3, h4⟩
theorem divide_lessB (b1 o1 n1 c1 b2 o2 n2 c2 N M : Nat) (xs ys : List Nat) (w : World) (h1 : NumAt w b1 o1 n1 c1 xs N) (h2 : NumAt w b2 o2 n2 c2 ys M) (hlt : N < M) :
    Calls Tryd.prog 39 #[.slice (some ⟨b1, o1, none⟩) n1 c1, .slice (some ⟨b2, o2, none⟩) n2 c2] w fun e w' => DivOutB (.slice (some ⟨b1, o1, none⟩) n1 c1) w w' e N M := by
  have hc : cmpN (vs W64 xs o1 n1) (vs W64 ys o2 n2) = -1 := by rw [h1.val, h2.val]; unfold cmpN; rw [if_pos hlt]
  have HC := Lib.hid hc
  have H1 := Lib.hid h1
  have HLT := Lib.hid hlt
  clear hc hlt
  go_enter Tryd.func39, Tryd.ntmps39
  go_wp2_with fail
  refine (compare_any b1 o1 n1 c1 b2 o2 n2 c2 xs ys w h1.blk h1.fit h2.blk h2.fit h1.dg h2.dg h1.small h1.top h2.top).mono ?_
  rintro e w1 ⟨rfl, hq1⟩
  rw [HC.out]
  go_wp2
  go_ret2
  refine ⟨.slice none 0 0, .slice (some ⟨b1, o1, none⟩) n1 c1, rfl, .inl ⟨rfl, Nat.div_eq_of_lt HLT.out⟩, ⟨b1, o1, n1, c1, xs, rfl, ?_⟩, hq1.gr none, .inl rfl⟩
  rw [Nat.mod_eq_of_lt HLT.out]
  exact H1.out.kept (hq1.gr none) (by simp)

theorem divide_oneB (b1 o1 n1 c1 b2 o2 c2 N y : Nat) (xs ys : List Nat) (w : World) (h1 : NumAt w b1 o1 n1 c1 xs N) (h2 : NumAt w b2 o2 1 c2 ys y) (hle : y ≤ N) :
    Calls Tryd.prog 39 #[.slice (some ⟨b1, o1, none⟩) n1 c1, .slice (some ⟨b2, o2, none⟩) 1 c2] w fun e w' => DivOutB (.slice (some ⟨b1, o1, none⟩) n1 c1) w w' e N y := by
  have hyv : gt ys o2 = y := by have := h2.val; simpa [vs] using this
  have hy0 : 0 < y := by have := h2.top; simp at this; omega
  have hcmp : cmpN (vs W64 xs o1 n1) (vs W64 ys o2 1) = cmpN N y := by rw [h1.val, h2.val]
  obtain ⟨cc, hcc⟩ : ∃ cc, cmpN N y = cc := ⟨_, rfl⟩
  have hc0 : decide (cc < 0) = false := by rw [decide_eq_false_iff_not, ← hcc]; unfold cmpN; rw [if_neg (by omega)]; split <;> omega
  have hc1 : ¬ cc < 0 := of_decide_eq_false hc0
  have HC := Lib.hid (hcmp.trans hcc)
  have hyW : y < W64 := hyv ▸ h2.dg o2
  have hpos : 0 < n1 := by
    rcases Nat.eq_zero_or_pos n1 with h | h
    · have := h1.val; rw [h] at this; simp [vs] at this; omega
    · exact h
  have hsm := h1.small
  have hcell2 : w.cell? ⟨b2, o2, none⟩ = some (.int .u64 (y : Int)) := by rw [h2.blk.cell (by have := h2.fit; omega), hyv]
  clear hcc hcmp hle hyv
  go_enter Tryd.func39, Tryd.ntmps39
  go_wp2_with fail
  refine (compare_any b1 o1 n1 c1 b2 o2 1 c2 xs ys w h1.blk h1.fit h2.blk h2.fit h1.dg h2.dg h1.small h1.top h2.top).mono ?_
  rintro e w1 ⟨rfl, hq1⟩
  rw [HC.out]
  have hcell2' : w1.cell? ⟨b2, o2, none⟩ = some (.int .u64 (y : Int)) := by obtain ⟨k, rfl⟩ := hq1; exact hcell2
  have hb' := h1.blk.kept (hq1.gr none) (by simp)
  go_wp2_with fail
  refine (clone_any b1 o1 n1 c1 xs w1 hb' h1.fit hsm hpos h1.dg).mono ?_
  rintro e w2 ⟨g, us, rfl, hge, hbg, hlu, hmu, hg2, hdu, heq⟩
  have hval : vs W64 us 0 n1 = N := by rw [← h1.val]; exact vs_congr (fun i hi => by rw [Nat.zero_add]; exact heq i hi)
  have HVAL := Lib.hid hval
  have hcell3 : w2.cell? ⟨b2, o2, none⟩ = some (.int .u64 (y : Int)) := hg2.cell hcell2' (by simp)
  clear heq hval
  go_wp2_with fail
  refine (divideInPlace_any g 0 n1 us.length y us w2 hbg (by omega) hdu hsm hy0 hyW).mono ?_
  rintro e w3 ⟨r, zs, rfl, hbz, hg3, hdv⟩
  obtain ⟨d1, d2, d3, d4⟩ := hdv
  rw [HVAL.out] at d4
  have hlz : zs.length = us.length := d1.len
  have hq : vs W64 zs 0 n1 = N / y := by
    have := Nat.div_mod_unique hy0 (a := N) (d := vs W64 zs 0 n1) (c := r)
    exact (this.2 ⟨by omega, d3⟩).1.symm
  have hr : r = N % y := by
    have := Nat.div_mod_unique hy0 (a := N) (d := vs W64 zs 0 n1) (c := r)
    exact (this.2 ⟨by omega, d3⟩).2.symm
  have HQ := Lib.hid hq
  have HR := Lib.hid hr
  have hfit : 0 + n1 ≤ zs.length := by omega
  have hg3b := hg3
  clear d4 hq hr hlz d1
  go_wp2_with fail
  refine (trimmed_num g 0 n1 us.length zs _ (hbz.alloc _) hfit d2 hlu hmu hsm).mono ?_
  rintro e w4 ⟨⟨m, rfl, hm4⟩, rfl⟩
  go_wp2_with fail
  refine (trimmed_num w3.heap.size 0 1 1 [r] _ (blk_one w3 .u64 57 r) (by simp) (dg_one (by omega)) (Nat.le_refl _) (by decide) (by omega)).mono ?_
  rintro e w5 ⟨⟨m', rfl, hm5⟩, rfl⟩
  rw [HQ.out] at hm4
  rw [vs_one, HR.out] at hm5
  have HM4 := Lib.hid hm4
  have HM5 := Lib.hid hm5
  clear hm4 hm5
  go_wp2
  go_ret2
  refine ⟨.slice (some ⟨g, 0, none⟩) m us.length, .slice (some ⟨w3.heap.size, 0, none⟩) m' 1, rfl, .inr ⟨g, 0, m, us.length, zs, rfl, ?_⟩, ⟨w3.heap.size, 0, m', 1, [r], rfl, ?_⟩, ?_, .inr ⟨_, _, _, _, rfl, by have := (hq1.gr none).size; have := hg2.size; have := hg3b.size; omega⟩⟩
  · rw [← HR.out] at *; exact HM4.out
  · have := HM5.out
    rw [← HR.out] at this ⊢
    exact this
  · have := (hq1.gr none)
    exact gr_then (gr_new (gr_then this hg2) hg3b (by have := (hq1.gr none).size; omega)) (gr_alloc _ _ _)
/-- What the shifted numbers are. -/
structure ShF (N M s V R0 n1 n2 m : Nat) : Prop where
  v : V = M * 2 ^ s
  r : R0 = N * 2 ^ s
  vlt : V < W64 ^ n2
  vge : W64 ^ (n2 - 1) ≤ V
  m1 : n1 + 1 = m + n2
  small : R0 / W64 ^ m < V
theorem shF {N M s n1 n2 top : Nat} (hN : N < W64 ^ n1) (hM : W64 ^ (n2 - 1) * top ≤ M) (hM2 : M < W64 ^ (n2 - 1) * (top + 1)) (ht : top ≠ 0) (hts : top + 1 ≤ 2 ^ (64 - s)) (hs : s ≤ 63) (hn : 2 ≤ n2) (hle : M ≤ N) :
    ShF N M s (M * 2 ^ s) (N * 2 ^ s) n1 n2 (n1 + 1 - n2) := by
  have hS : 0 < 2 ^ s := Nat.pow_pos (by decide)
  have hge : W64 ^ (n2 - 1) ≤ M := Nat.le_trans (Nat.le_mul_of_pos_right _ (by omega)) hM
  have hn12 : n2 ≤ n1 := by
    have h1 : W64 ^ (n2 - 1) < W64 ^ n1 := by omega
    have h2 := (Nat.pow_lt_pow_iff_right (by decide)).1 h1
    omega
  refine ⟨rfl, rfl, ?_, Nat.le_trans hge (Nat.le_mul_of_pos_right _ hS), by omega, ?_⟩
  · have h1 : W64 ^ (n2 - 1) * (top + 1) * 2 ^ s ≤ W64 ^ (n2 - 1) * 2 ^ (64 - s) * 2 ^ s := Nat.mul_le_mul_right _ (Nat.mul_le_mul_left _ hts)
    have h2 : M * 2 ^ s < W64 ^ (n2 - 1) * (top + 1) * 2 ^ s := Nat.mul_lt_mul_of_pos_right hM2 hS
    have h3 : W64 ^ (n2 - 1) * 2 ^ (64 - s) * 2 ^ s = W64 ^ n2 := by
      rw [Nat.mul_assoc, ← pow_parts (by omega), ← Nat.pow_succ, show (n2 - 1).succ = n2 from by omega]
    rw [h3] at h1
    omega
  · rw [Nat.div_lt_iff_lt_mul (Nat.pow_pos W64_pos)]
    have h1 : W64 ^ n1 = W64 ^ (n2 - 1) * W64 ^ (n1 + 1 - n2) := by rw [← Nat.pow_add]; congr 1; omega
    have h2 : N * 2 ^ s < W64 ^ n1 * 2 ^ s := Nat.mul_lt_mul_of_pos_right hN hS
    have h3 : W64 ^ (n2 - 1) * (W64 ^ (n1 + 1 - n2) * 2 ^ s) ≤ M * (W64 ^ (n1 + 1 - n2) * 2 ^ s) := Nat.mul_le_mul_right _ hge
    rw [h1, Nat.mul_assoc] at h2
    rw [Nat.mul_assoc, Nat.mul_comm (2 ^ s)]
    omega
theorem vs_high {xs : List Nat} {m n L X : Nat} (hd : Dg W64 xs) (h : vs W64 xs 0 L = X) (hL : L = m + n) : vs W64 xs m n = X / W64 ^ m := by
  subst hL
  rw [← h, vs_split, Nat.add_mul_div_left _ _ (Nat.pow_pos W64_pos), Nat.div_eq_of_lt (vs_lt hd), Nat.zero_add, Nat.zero_add]
theorem vs_cut {xs : List Nat} {n X : Nat} (h : vs W64 xs 0 (n + 1) = X) (hX : X < W64 ^ n) : vs W64 xs 0 n = X := by
  simp only [vs] at h
  rcases Nat.eq_zero_or_pos (gt xs (0 + n)) with h0 | h0
  · rw [h0] at h; simpa using h
  · have := Nat.le_mul_of_pos_right (W64 ^ n) h0
    omega
theorem NumAt.top_bounds {w : World} {g off m c N : Nat} {xs : List Nat} (h : NumAt w g off m c xs N) (h0 : 0 < m) : gt xs (off + (m - 1)) ≠ 0 ∧ W64 ^ (m - 1) * gt xs (off + (m - 1)) ≤ N ∧ N < W64 ^ (m - 1) * (gt xs (off + (m - 1)) + 1) := by
  obtain ⟨j, rfl⟩ : ∃ j, m = j + 1 := ⟨m - 1, by omega⟩
  have h3 : gt xs (off + (j + 1 - 1)) ≠ 0 := by rcases h.top with h | h; omega; exact h
  have h4 := h.val
  rw [Nat.add_sub_cancel] at h3 ⊢
  simp only [vs] at h4
  have h5 := vs_lt (off := off) (n := j) h.dg
  refine ⟨h3, by omega, ?_⟩
  rw [Nat.mul_add]
  omega

set_option maxHeartbeats 4000000 in
set_option maxRecDepth 100000 in
theorem divide_many (b1 o1 n1 c1 b2 o2 n2 c2 N M : Nat) (xs ys : List Nat) (w : World) (h1 : NumAt w b1 o1 n1 c1 xs N) (h2 : NumAt w b2 o2 n2 c2 ys M) (hle : M ≤ N) (hn : 2 ≤ n2) :
    Calls Tryd.prog 39 #[.slice (some ⟨b1, o1, none⟩) n1 c1, .slice (some ⟨b2, o2, none⟩) n2 c2] w fun e w' => DivOutB (.slice (some ⟨b1, o1, none⟩) n1 c1) w w' e N M := by
  obtain ⟨t1, t2, t3⟩ := h2.top_bounds (by omega)
  obtain ⟨top, htop⟩ : ∃ top, top = gt ys (o2 + (n2 - 1)) := ⟨_, rfl⟩
  have htW : top < W64 := by rw [htop]; exact h2.dg _
  have hcell2 : w.cell? ⟨b2, o2 + (n2 - 1), none⟩ = some (.int .u64 (top : Int)) := by rw [h2.blk.cell (by have := h2.fit; omega), htop]
  rw [← htop] at t1 t2 t3
  obtain ⟨l1, l2, l3, l4⟩ := bitLen_bounds htW t1
  obtain ⟨s, hs⟩ : ∃ s, Lib.bitLen top = 64 - s ∧ s ≤ 63 := ⟨64 - Lib.bitLen top, by omega, by omega⟩
  have hs63 := hs.2
  have HS := Lib.hid hs.1
  rw [hs.1] at l4
  have hNlt : N < W64 ^ n1 := by rw [← h1.val]; exact vs_lt h1.dg
  have hF := shF hNlt t2 t3 t1 l4 hs63 hn hle
  obtain ⟨V, hV⟩ : ∃ V, V = M * 2 ^ s := ⟨_, rfl⟩
  obtain ⟨R0, hR0⟩ : ∃ R0, R0 = N * 2 ^ s := ⟨_, rfl⟩
  obtain ⟨m, hm⟩ : ∃ m, m = n1 + 1 - n2 := ⟨_, rfl⟩
  rw [← hV, ← hR0, ← hm] at hF
  have HM1 := Lib.hid hF.m1
  have hmle : m ≤ 1099511627776 := by have := hF.m1; have := h1.small; omega
  have hM0 : 0 < M := Nat.lt_of_lt_of_le (Nat.mul_pos (Nat.pow_pos W64_pos) (Nat.pos_of_ne_zero t1)) t2
  have hcmp : cmpN (vs W64 xs o1 n1) (vs W64 ys o2 n2) = cmpN N M := by rw [h1.val, h2.val]
  obtain ⟨cc, hcc⟩ : ∃ cc, cmpN N M = cc := ⟨_, rfl⟩
  have hc0 : decide (cc < 0) = false := by rw [decide_eq_false_iff_not, ← hcc]; unfold cmpN; rw [if_neg (by omega)]; split <;> omega
  have hc1 : ¬ cc < 0 := of_decide_eq_false hc0
  have HC := Lib.hid (hcmp.trans hcc)
  have HF := Lib.hid hF
  have HML := Lib.hid h2.val
  have HNL := Lib.hid h1.val
  have hsm1 := h1.small
  have hsm2 := h2.small
  have hne1 : ¬ n2 = 1 := by omega
  have H1 := Lib.hid h1
  have H2 := Lib.hid h2
  have HM0 := Lib.hid hM0
  have htop0 := Nat.pos_of_ne_zero t1
  clear hcc hcmp hle t1 t2 t3 l1 l2 l3 l4 hs hNlt hF hV hR0 hm htop hM0
  go_enter Tryd.func39, Tryd.ntmps39
  go_wp2_with fail
  refine (compare_any b1 o1 n1 c1 b2 o2 n2 c2 xs ys w h1.blk h1.fit h2.blk h2.fit h1.dg h2.dg h1.small h1.top h2.top).mono ?_
  rintro e w1 ⟨rfl, hq1⟩
  rw [HC.out]
  have hgw1 := hq1.gr none
  have hcell2' : w1.cell? ⟨b2, o2 + (n2 - 1), none⟩ = some (.int .u64 (top : Int)) := hgw1.cell hcell2 (by simp)
  go_wp2_with fail
  refine (Tryd.bits_LeadingZeros64 _ _ (by omega) (by rw [W64_eq] at htW; omega)).mono ?_
  rintro e w2 ⟨rfl, rfl⟩
  rw [show Lib.bitLen ((top : Int).toNat) = 64 - s from HS.out]
  rw [show (64 - ((64 - s : Nat) : Int)) = (s : Int) from by omega]
  go_wp2_with fail
  refine (shiftedLeft_any b2 o2 n2 c2 s ys _ (H2.out.blk.kept hgw1 (by simp)) H2.out.fit H2.out.dg hsm2 hs63).mono ?_
  rintro e w3 ⟨g2, zs2, rfl, hlt2, hz2, hg3, hd2, hlz2, hv2⟩
  rw [HML.out, ← HF.out.v] at hv2
  have HV2 := Lib.hid (vs_cut hv2 HF.out.vlt)
  have HLZ2 := Lib.hid hlz2
  clear hv2 hlz2
  go_wp2_with fail
  refine (shiftedLeft_any b1 o1 n1 c1 s xs _ ((H1.out.blk.kept hgw1 (by simp)).kept hg3 (by simp)) H1.out.fit H1.out.dg hsm1 hs63).mono ?_
  rintro e w4 ⟨g1, zs1, rfl, hlt1, hz1, hg4, hd1, hlz1, hv1⟩
  rw [HNL.out, ← HF.out.r] at hv1
  have hz2' := hz2.kept hg4 (by simp)
  have hne : g2 ≠ g1 := by have := hz2.lt; omega
  have HV1 := Lib.hid hv1
  have HHI := Lib.hid (vs_high hd1 hv1 HM1.out)
  have HLZ1 := Lib.hid hlz1
  clear hv1 hlz1
  have hsz1 := hg3.size
  have hsz0 := hgw1.size
  go_wp2_with fail
  refine (divideLong_any g1 (n1 + 1) (n1 + 1) g2 n2 (n2 + 1) m V R0 zs1 zs2 w4 hz1 HLZ1.out hd1 rfl hz2' (by rw [HLZ2.out]; omega) hd2 (by omega) hsm2 hne hn HM1.out HV2.out HF.out.vge HV1.out (by rw [HHI.out]; exact HF.out.small)).mono ?_
  rintro e w5 ⟨gq, qs, zr, rfl, hltq, hbq, hlq, hdq, hvq, hbr, hlr, hdr, hvr, hg5⟩
  have HQ := Lib.hid (And.intro hlq (And.intro hdq hvq))
  have HR := Lib.hid (And.intro hlr hvr)
  have hltg1 := hz1.lt
  have hgqne : gq ≠ g1 := by omega
  clear hlq hdq hvq hlr hvr
  go_wp2_with fail
  refine (shiftRight_any g1 (n1 + 1) (n1 + 1) s zr w5 hbr HR.out.1.symm hdr (by omega) hs63).mono ?_
  rintro e w6 ⟨rfl, us, hbu, hg6, hlu, hdu, hvu⟩
  have HU := Lib.hid (And.intro hlu hvu)
  have hbq6 := hbq.kept hg6 (by simpa using hgqne)
  have hqv : vs W64 qs 0 m = N / M := by
    rw [HQ.out.2.2, HF.out.r, HF.out.v, Nat.mul_div_mul_right _ _ (Nat.pow_pos (by decide))]
  have hrv : vs W64 us 0 (n1 + 1) = N % M := by
    rw [HU.out.2, HR.out.2, HF.out.r, HF.out.v, Nat.mul_mod_mul_right, Nat.mul_div_cancel _ (Nat.pow_pos (by decide))]
  have HQV := Lib.hid hqv
  have HRV := Lib.hid hrv
  have hrlt : vs W64 us 0 (n1 + 1) < W64 ^ n2 := by
    rw [hrv]
    refine Nat.lt_trans (Nat.mod_lt _ HM0.out) ?_
    rw [← HML.out]; exact vs_lt H2.out.dg
  have HRL := Lib.hid hrlt
  clear hqv hrv hrlt hlu hvu
  go_wp2_with fail
  refine (trimmed_num gq 0 m m qs _ hbq6 (by rw [HQ.out.1]; omega) HQ.out.2.1 (Nat.le_refl _) (by unfold maxLen; omega) (by omega)).mono ?_
  rintro e w7 ⟨⟨m7, rfl, hm7⟩, rfl⟩
  go_wp2_with fail
  refine (trimmed_lt g1 (n1 + 1) (n1 + 1) n2 us _ hbu (by rw [HU.out.1]; omega) hdu (Nat.le_refl _) (by unfold maxLen; omega) HRL.out hsm2).mono ?_
  rintro e w8 ⟨⟨m8, rfl, hm8⟩, rfl⟩
  rw [HQV.out] at hm7
  rw [HRV.out] at hm8
  have H7 := Lib.hid hm7
  have H8 := Lib.hid hm8
  have hgA : w.grownBy w6 none := by
    have hA := gr_then hgw1 (gr_then hg3 hg4)
    exact gr_new (gr_new hA hg5 (by omega)) hg6 (by omega)
  clear hm7 hm8
  go_wp2
  go_ret2
  exact ⟨.slice (some ⟨gq, 0, none⟩) m7 m, .slice (some ⟨g1, 0, none⟩) m8 (n1 + 1), rfl, .inr ⟨gq, 0, m7, m, qs, rfl, H7.out⟩, ⟨g1, 0, m8, n1 + 1, us, rfl, H8.out⟩, hgA, .inr ⟨_, _, _, _, rfl, by omega⟩⟩

theorem divide_allB (v1 v2 : Value) (N M : Nat) (w : World) (h1 : Num w v1 N) (h2 : Num w v2 M) (h0 : 0 < M) :
    Calls Tryd.prog 39 #[v1, v2] w fun e w' => DivOutB v1 w w' e N M := by
  obtain ⟨g1, o1, m1, c1, xs, rfl, h1⟩ := h1
  obtain ⟨g2, o2, m2, c2, ys, rfl, h2⟩ := h2
  rcases Nat.lt_or_ge N M with h | h
  · exact divide_lessB g1 o1 m1 c1 g2 o2 m2 c2 N M xs ys w h1 h2 h
  · rcases Nat.lt_or_ge M W64 with hM | hM
    · obtain rfl := h2.len_one h0 hM
      exact divide_oneB g1 o1 m1 c1 g2 o2 c2 N M xs ys w h1 h2 h
    · have h3 : M < W64 ^ m2 := by rw [← h2.val]; exact vs_lt h2.dg
      have h4 : W64 ^ 1 < W64 ^ m2 := by rw [Nat.pow_one]; omega
      exact divide_many g1 o1 m1 c1 g2 o2 m2 c2 N M xs ys w h1 h2 h ((Nat.pow_lt_pow_iff_right (by decide)).1 h4)
theorem divide_all (v1 v2 : Value) (N M : Nat) (w : World) (h1 : Num w v1 N) (h2 : Num w v2 M) (h0 : 0 < M) :
    Calls Tryd.prog 39 #[v1, v2] w fun e w' => DivOut w w' e N M := (divide_allB v1 v2 N M w h1 h2 h0).mono fun _ _ h => h.out

theorem quo_all (s t : ByteArray) (w : World) (hs : s.size ≤ 1000000000000) (ht : t.size ≤ 1000000000000) (h0 : 0 < num t.data.toList) :
    Calls Tryd.prog 23 #[.string s, .string t] w fun e w' => e = .returned (.tuple #[.string ⟨(enc (num s.data.toList / num t.data.toList)).toArray⟩, .string ⟨(enc (num s.data.toList % num t.data.toList)).toArray⟩, .bool true]) ∧ w.grownBy w' none := by
  have H0 := Lib.hid h0
  clear h0
  go_enter Tryd.func23, Tryd.ntmps23
  go_wp2_with fail
  refine (wordsOf_any t w (by omega)).mono ?_
  rintro e w1 ⟨b1, ys, rfl, hlt1, hb1, hg1, hw1, hsz1⟩
  have hpos : 0 < ys.length := by
    rcases Nat.eq_zero_or_pos ys.length with h | h
    · have := words_nil hw1 h; have := H0.out; omega
    · exact h
  have hb0 : ((ys.length : Int) == 0) = false := by rw [beq_eq_false_iff_ne]; omega
  go_wp2_with fail
  refine (wordsOf_any s w1 (by omega)).mono ?_
  rintro e w2 ⟨b2, xs, rfl, hlt2, hb2, hg2, hw2, hsz2⟩
  have hn1 := (Num.of_words hb1 hw1 (by omega)).kept hg2
  have hn2 := Num.of_words hb2 hw2 (by omega)
  have HN1 := Lib.hid hn1
  have HN2 := Lib.hid hn2
  clear hn1 hn2
  go_wp2_with fail
  refine (divide_all _ _ _ _ w2 HN2.out HN1.out H0.out).mono ?_
  rintro e w3 ⟨q, r, rfl, hq, hr, hg3⟩
  have HQ := Lib.hid hq
  have HR := Lib.hid hr
  clear hq hr
  go_wp2_with fail
  refine (natOf_num q _ w3 HQ.out).mono ?_
  rintro e w4 ⟨rfl, hg4⟩
  go_wp2_with fail
  refine (natOf_num r _ w4 (.inr (HR.out.kept hg4))).mono ?_
  rintro e w5 ⟨rfl, hg5⟩
  generalize hsq : (⟨(enc (num s.data.toList / num t.data.toList)).toArray⟩ : ByteArray) = sq
  generalize hsr : (⟨(enc (num s.data.toList % num t.data.toList)).toArray⟩ : ByteArray) = sr
  have HSQ := Lib.hid hsq
  have HSR := Lib.hid hsr
  clear hsq hsr
  go_wp2
  go_ret3
  refine ⟨?_, gr_then hg1 (gr_then hg2 (gr_then hg3 (gr_then hg4 hg5)))⟩
  rw [HSQ.out, HSR.out]; rfl
theorem quo_none (s t : ByteArray) (w : World) (ht : t.size ≤ 1000000000000) (h0 : num t.data.toList = 0) :
    Calls Tryd.prog 23 #[.string s, .string t] w fun e w' => e = .returned (.tuple #[.string ⟨#[]⟩, .string ⟨#[]⟩, .bool false]) ∧ w.grownBy w' none := by
  have H0 := Lib.hid h0
  clear h0
  go_enter Tryd.func23, Tryd.ntmps23
  go_wp2_with fail
  refine (wordsOf_any t w (by omega)).mono ?_
  rintro e w1 ⟨b1, ys, rfl, hlt1, hb1, hg1, hw1, hsz1⟩
  have hpos : ys.length = 0 := by
    rcases Nat.eq_zero_or_pos ys.length with h | h
    · exact h
    · have := hw1.ge h; have := Nat.pow_pos (n := ys.length - 1) W64_pos; have := H0.out; omega
  rw [hpos]
  clear hpos
  go_wp2
  go_ret3
  exact ⟨rfl, hg1⟩
end Go.Proofs.YtoadjhmehgkeaaaDoor
namespace Go.Proofs.YtoadjhmehgkeaaaDoor
open Go.RowKit Mth

theorem len_max {n : Nat} (h : n ≤ 2199023255552) : n ≤ maxLen := by unfold maxLen; omega
theorem NumAt.len_le {w : World} {g off m c N k : Nat} {xs : List Nat} (h : NumAt w g off m c xs N) (hN : N < W64 ^ k) : m ≤ k := by
  rcases Nat.lt_or_ge k m with h1 | h1
  · obtain ⟨j, rfl⟩ : ∃ j, m = j + 1 := ⟨m - 1, by omega⟩
    have h3 : gt xs (off + j) ≠ 0 := by rcases h.top with h | h; omega; simpa using h
    have h4 := h.val
    simp only [vs] at h4
    have h5 : W64 ^ j * 1 ≤ W64 ^ j * gt xs (off + j) := Nat.mul_le_mul_left _ (by omega)
    have h6 : W64 ^ k ≤ W64 ^ j := Nat.pow_le_pow_right W64_pos (by omega)
    omega
  · exact h1

set_option maxHeartbeats 4000000 in
theorem even_times (va vb vm : Value) (A B M Bm : Nat) (w : World) (ha : Num w va A) (hb : Num w vb B) (hm : Num w vm M) (hc : w.cell? ⟨Bm, 0, none⟩ = some vm) (h0 : 0 < M) (K : Nat) (hK : K ≤ 137438953473) (hsz : A < W64 ^ K ∧ B < W64 ^ K) :
    Calls Tryd.prog 72 #[va, vb, .pointer (some ⟨Bm, 0, none⟩)] w fun e w' => ∃ r, e = .returned r ∧ Num w' r (A * B % M) ∧ w.grownBy w' none := by
  obtain ⟨g1, o1, m1, c1, xs, rfl, h1⟩ := ha
  obtain ⟨g2, o2, m2, c2, ys, rfl, h2⟩ := hb
  obtain ⟨g3, o3, m3, c3, us, rfl, h3⟩ := hm
  have H1 := Lib.hid h1
  have H2 := Lib.hid h2
  have H3 := Lib.hid h3
  have hsm : m1 ≤ K ∧ m2 ≤ K := ⟨h1.len_le hsz.1, h2.len_le hsz.2⟩
  have HSM := Lib.hid hsm
  clear h1 h2 h3 hsz hsm
  go_enter Tryd.func72, Tryd.ntmps72
  go_wp2_with fail
  go_region_with (first
    | (go_at_call 30; refine (product_any g1 o1 m1 c1 g2 o2 m2 c2 xs ys _ (by exact H1.out.blk) H1.out.fit H1.out.dg (by exact H2.out.blk) H2.out.fit H2.out.dg H1.out.small H2.out.small).mono ?_; rintro e w3 ⟨b, zs, rfl, hlt, hbz, hg3, hdz, hlz, hvz⟩; have hc3 := hg3.cell (a := ⟨Bm, 0, none⟩) hc (by simp); have HZ := Lib.hid (And.intro hdz (And.intro hlz hvz)); clear hdz hlz hvz)
    | (go_at_call 54; refine (trimmed_num b 0 zs.length zs.length zs w3 hbz (Nat.le_of_eq (Nat.zero_add _)) HZ.out.1 (Nat.le_refl _) (len_max (by have := HZ.out.2.1; have := H1.out.small; have := H2.out.small; omega)) (by have := HZ.out.2.1; have := HSM.out; omega)).mono ?_; rintro e w4 ⟨⟨m4, rfl, hm4⟩, rfl⟩; have HM4 := Lib.hid hm4; clear hm4)
    | (go_at_call 39; refine (divide_all _ _ (A * B) M w3 ⟨b, 0, m4, zs.length, zs, rfl, (by have h := HM4.out; rw [HZ.out.2.2, H1.out.val, H2.out.val] at h; exact h)⟩ ⟨g3, o3, m3, c3, us, rfl, H3.out.kept (gr_then (gr_drew w none) hg3) (by simp)⟩ h0).mono ?_; rintro e w5 ⟨q, r, rfl, hq, hr, hg5⟩; have HQ := Lib.hid hq; have HR := Lib.hid hr; clear hq hr))
  all_goals
    go_wp2
    go_ret
    exact ⟨r, rfl, HR.out, gr_then (gr_then (gr_drew w none) hg3) hg5⟩
end Go.Proofs.YtoadjhmehgkeaaaDoor
