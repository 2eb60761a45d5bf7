/- nat.groupsOf: the digits to the base 10 ^ 19. -/
import Derived.Test.YtednijejgadmnaaDoorFmt
namespace Go.Proofs.YtednijejgadmnaaDoor
open Go.RowKit Mth

def B19 : Nat := 10000000000000000000
theorem B19_eq : B19 = 10000000000000000000 := rfl
theorem W64_le_B19 : W64 ≤ B19 ^ 2 := by decide

/-- m groups are taken off N, rest is left. -/
structure Grp (gs : List Nat) (m N rest : Nat) : Prop where
  val : N = vs B19 gs 0 m + B19 ^ m * rest
  dg : ∀ i, i < m → gt gs i < B19
theorem Grp.next {gs us : List Nat} {m N rest r q : Nat} (h : Grp gs m N rest) (ha : Apped gs us [r] m 1 0) (hr : r < B19) (he : rest = B19 * q + r) : Grp us (m + 1) N q := by
  have hm : gt us m = r := by have := ha.new 0 (by omega); simpa [gt] using this
  constructor
  · rw [vs_split, vs_congr (ys := gs) (off' := 0) (fun i hi => by rw [Nat.zero_add]; exact ha.old i hi)]
    rw [show vs B19 us (0 + m) 1 = r from by simp [vs, hm], h.val, he, Nat.pow_succ, Nat.mul_add, Nat.mul_assoc]
    omega
  · intro i hi
    by_cases e : i = m
    · rw [e, hm]; exact hr
    · rw [ha.old i (by omega)]; exact h.dg i (by omega)
theorem Grp.few {gs : List Nat} {m N rest n : Nat} (h : Grp gs m N rest) (hN : N < W64 ^ n) (h0 : 0 < rest) : m < 2 * n := by
  have h1 : B19 ^ m ≤ N := by
    rw [h.val]
    have := Nat.mul_le_mul_left (B19 ^ m) h0
    omega
  have h2 : W64 ^ n ≤ B19 ^ (2 * n) := by rw [Nat.pow_mul]; exact Nat.pow_le_pow_left W64_le_B19 n
  rcases Nat.lt_or_ge m (2 * n) with h3 | h3
  · exact h3
  · have := Nat.pow_le_pow_right (n := B19) (by decide) h3
    omega

/-- What groupsOf leaves. -/
def Groups (w w' : World) (e : Ending) (N k : Nat) : Prop := ∃ v m gs, e = .returned v ∧ Own .u64 57 w' v m gs ∧ (v.ownBlock = none ∨ ∃ g, v.ownBlock = some g ∧ w.heap.size ≤ g) ∧ vs B19 gs 0 m = N ∧ (∀ i, i < m → gt gs i < B19) ∧ (m = 0 ∨ gt gs (m - 1) ≠ 0) ∧ m ≤ k

theorem NumAt.pos {w : World} {g off m c N : Nat} {xs : List Nat} (h : NumAt w g off m c xs N) (h0 : 0 < m) : 0 < N := by
  obtain ⟨k, rfl⟩ : ∃ k, m = k + 1 := ⟨m - 1, by omega⟩
  have ht := h.top
  rw [← h.val, vs_split]
  rcases ht with ht | ht
  · omega
  · rw [show off + (k + 1 - 1) = off + k from by omega] at ht
    have h1 : 0 < W64 ^ k * gt xs (off + k) := Nat.mul_pos (Nat.pow_pos W64_pos) (by omega)
    have h2 : vs W64 xs (off + k) 1 = gt xs (off + k) := by simp [vs]
    rw [h2]; omega

set_option maxHeartbeats 2000000 in
set_option maxRecDepth 100000 in
theorem groupsOf_num (b n c N : Nat) (xs : List Nat) (w : World) (h : NumAt w b 0 n c xs N) :
    Calls Tryd.prog 49 #[.slice (some ⟨b, 0, none⟩) n c] w fun e w' => Groups w w' e N (2 * n) ∧ w.grownBy w' (some b) := by
  have HB := Lib.hid (show N < W64 ^ n from by rw [← h.val]; exact vs_lt h.dg)
  have hlt := h.blk.lt
  have hsm := h.small
  obtain ⟨i0, hi, hz0, hz1, hz2⟩ := info_parts infoW
  go_enter Tryd.func49, Tryd.ntmps49
  go_wp2
  go_loopw [0, 3] (fun v u wr => ∃ (m rest k : Nat) (zs gs : List Nat), v = .slice (some ⟨b, 0, none⟩) k c ∧ lenOf u = m ∧ Own .u64 57 wr u m gs ∧ (u.ownBlock = none ∨ ∃ g, u.ownBlock = some g ∧ w.heap.size ≤ g) ∧ NumAt wr b 0 k c zs rest ∧ w.grownBy wr (some b) ∧ Hid (Grp gs m N rest) ∧ (rest = 0 → m = 0 ∨ gt gs (m - 1) ≠ 0) ∧ m ≤ 2 * n) (fun _ u _ => 2 * n - lenOf u)
  case atStart => exact ⟨0, N, n, xs, [], rfl, rfl, .nil _ _ _, .inl rfl, h, World.grownBy.refl _ _, ⟨by simp [vs], fun i hi => by omega⟩, fun _ => .inl rfl, Nat.zero_le _⟩
  case round =>
    obtain ⟨m, rest, k, zs, gs, rfl, hlm, hown, hblk, hnum, hg, HG, htop, hm2⟩ := hrel
    by_cases hk : 0 < k
    · have hrest := hnum.pos hk
      have hfew := HG.out.few HB.out hrest
      have hval := hnum.val
      have HV := Lib.hid hval
      have hdec : decide ((k : Int) > 0) = true := by simpa using hk
      clear htop hval
      have hnb : u3.ownBlock = none ∨ u3.ownBlock ≠ some b := by
        rcases hblk with h | ⟨g, h, h'⟩
        · exact .inl h
        · exact .inr (by rw [h]; intro e; cases e; omega)
      go_wp2_with fail
      refine (divideInPlace_any b 0 k c B19 zs wr hnum.blk hnum.fit hnum.dg hnum.small (by decide) (by decide)).mono ?_
      rintro e w1 ⟨r, zs1, rfl, hb1, hg1, hdv⟩
      have hown1 := hown.kept hg1 hnb
      have hown2 := hown1.kept (gr_alloc w1 (.cells #[.int .u64 (r : Int)] 57) none) (Decidable.em _)
      have hbr : Blk .u64 57 (w1.alloc (.cells #[.int .u64 (r : Int)] 57)) w1.heap.size [r] := by unfold Blk; rw [heap_alloc_new]; simp [cellsOf]
      have HO := Lib.hid hown2
      have HD := Lib.hid hdv
      have HU := Lib.hid (show m ≤ 2199023255552 from by omega)
      have hfew := Lib.hid hfew
      clear hown hown1 hown2 hdv
      go_wp2_with (at_builtin; refine wpList_append_blk rfl (.tmp 7) (.tmp 10) 51 rfl .u64 57 i0 8 Tryd.underlying51 hi hz0 hz1 hz2 _ m gs rfl HO.out w1.heap.size 0 1 1 [r] rfl ?_ (by simp) (by omega) ?_ ?_ ?_)
      case refine_1 => intro j hj; exact hbr.cell (by simpa using hj)
      case refine_2 => have := HU.out; unfold maxLen; omega
      case refine_3 => have := HU.out; omega
      intro v' w2 us hownv hg2 happ hblkv
      rcases hownv with ⟨_, h0, _⟩ | ⟨g, rfl, hbg, h1, h2⟩
      · omega
      have hge : w.heap.size ≤ g := by
        rcases hblkv with h | ⟨g', h, h'⟩
        · rcases hblk with h'' | ⟨g'', h'', h'⟩
          · rw [h''] at h; simp [Value.ownBlock] at h
          · rw [h''] at h; simp only [Value.ownBlock, Option.some.injEq] at h; omega
        · simp only [Value.ownBlock, Option.some.injEq] at h
          have h3 : (w1.alloc (.cells #[.int .u64 (r : Int)] 57)).heap.size = w1.heap.size + 1 := by simp
          have := hg.size; have := hg1.size
          omega
      have hgb : w.grownBy w2 (some b) := by
        refine gr_trans (gr_trans hg hg1 (.inr rfl) (.inr (.inl rfl))) (gr_then (gr_alloc w1 (.cells #[.int .u64 (r : Int)] 57) none) hg2) (.inr rfl) (.inr (.inr fun j e => ?_))
        rcases hblk with h' | ⟨g', h', h''⟩
        · rw [h'] at e; cases e
        · rw [h'] at e; cases e; exact h''
      have hb2 : Blk .u64 57 w2 b zs1 := by
        refine (hb1.alloc _).kept hg2 ?_
        rcases hnb with h | h
        · rw [h]; simp
        · exact fun e => h e.symm
      obtain ⟨q, hq⟩ : ∃ q, q = vs W64 zs1 0 k := ⟨_, rfl⟩
      have hrq : rest = B19 * q + r := by rw [hq, ← HV.out]; exact HD.out.2.2.2
      have HN := Lib.hid (HG.out.next happ HD.out.2.2.1 hrq)
      have HR := Lib.hid (show q = 0 → gt us m ≠ 0 from fun e => by
        have := happ.new 0 (by omega)
        rw [Nat.add_zero] at this
        rw [this]
        rw [e] at hrq
        simp [gt]
        omega)
      have hl1 : zs1.length = zs.length := HD.out.1.len
      have htr := trimmed_num b 0 k c zs1 w2 hb2 (by rw [hl1]; exact hnum.fit) HD.out.2.1 hnum.cap hnum.max hnum.small
      rw [← hq] at htr
      clear hi hz0 hz1 hz2 HO hb1 hb2 hq hrq hl1 happ hblkv hblk
      go_wp2_with fail
      refine htr.mono ?_
      rintro e w3 ⟨⟨k', rfl, hk'⟩, rfl⟩
      go_wp2
      refine ⟨⟨m + 1, q, k', zs1, us, rfl, rfl, .inr ⟨g, rfl, hbg, h1, h2⟩, .inr ⟨g, rfl, hge⟩, hk', hgb, HN, fun e => .inr (HR.out e), by have := hfew.out; omega⟩, ?_⟩
      have := hfew.out
      show 2 * n - (m + 1) < 2 * n - lenOf u3
      rw [hlm]; omega
    · have hk0 : k = 0 := by omega
      subst hk0
      have hrest : rest = 0 := by rw [← hnum.val]; simp [vs]
      subst hrest
      have hv := HG.out.val
      have hdec : decide (((0 : Nat) : Int) > 0) = false := by decide
      have HV := Lib.hid hv
      clear hv
      go_wp2
      go_ret
      exact ⟨⟨u3, m, gs, rfl, hown, hblk, by rw [HV.out]; simp, HG.out.dg, htop trivial, hm2⟩, hg⟩
end Go.Proofs.YtednijejgadmnaaDoor
