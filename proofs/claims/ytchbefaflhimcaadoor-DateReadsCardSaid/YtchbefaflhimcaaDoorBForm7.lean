/- Contracts of the program and of the reference, part 7: Lay. -/
import Derived.Test.YtchbefaflhimcaaDoorBForm6
import Derived.Deep.RegionHeld3
import Derived.Deep.DeepCutAuto
import Derived.Deep.CutRange
import Derived.Deep.QuietTactic
import Derived.BigQuiet
import Derived.BigRegion
namespace Go.Proofs.YtchbefaflhimcaaDoor
open Go.RowKit Mth

/-- Block b holds just these cells. -/
def Row (w : World) (b : Nat) (cs : List Value) (t : TypeId) : Prop := w.heap[b]? = some (.cells cs.toArray t (0, 0))
section
variable {w w1 : World} {b : Nat} {cs : List Value} {t : TypeId}
theorem Row.lt (h : Row w b cs t) : b < w.heap.size := (Array.getElem?_eq_some_iff.1 h).1
theorem Row.cell (h : Row w b cs t) (i : Nat) (v : Value) (hi : cs[i]? = some v) : w.cell? ⟨b, i, none⟩ = some v := by
  rw [cell_of_row w b i _ t (0, 0) h]; simpa using hi
theorem Row.kept (h : Row w b cs t) (hg : w.grownBy w1 none) : Row w1 b cs t := by
  unfold Row at *; rw [hg.block b (Array.getElem?_eq_some_iff.1 h).1 (by simp)]; exact h
theorem Row.new_at (hb : b = w.heap.size) : Row (w.alloc (.cells cs.toArray t)) b cs t := by subst hb; exact heap_alloc_new w _
end
theorem gr_rfl (w : World) : w.grownBy w none := ⟨rfl, rfl, rfl, Nat.le_refl _, fun _ _ _ => rfl⟩
theorem gr_al {W w : World} {o : Obj} (h : W.grownBy w none) : W.grownBy (w.alloc o) none := gr_then h (gr_alloc w o none)
theorem gr_dr {W w : World} (h : W.grownBy w none) : W.grownBy w.drew none := gr_then h ⟨rfl, rfl, rfl, Nat.le_refl _, fun _ _ _ => rfl⟩
abbrev yyyyS : ByteArray := ⟨#[89, 89, 89, 89]⟩
def mS : Nat → ByteArray | 0 => ⟨#[77, 77]⟩ | _ => ⟨#[77]⟩
def dS : Nat → ByteArray | 0 => ⟨#[68, 68]⟩ | _ => ⟨#[68]⟩
def fS (a b : Nat) : Nat → ByteArray | 0 => yyyyS | 1 => mS a | _ => dS b
def oD : Nat → Nat × Nat × Nat | 0 => (0, 1, 2) | 1 => (0, 2, 1) | 2 => (1, 0, 2) | 3 => (1, 2, 0) | 4 => (2, 0, 1) | _ => (2, 1, 0)
def sepD : Nat → ByteArray | 0 => ⟨#[45]⟩ | 1 => ⟨#[46]⟩ | 2 => ⟨#[47]⟩ | 3 => ⟨#[32]⟩ | 4 => ⟨#[44, 32]⟩ | 5 => ⟨#[120]⟩ | 6 => ⟨#[32, 111, 102, 32]⟩ | _ => ⟨#[]⟩
theorem mS_at {a : Nat} (h : a < 2) : (#[Value.string ⟨#[77, 77]⟩, Value.string ⟨#[77]⟩] : Array Value)[a]? = some (.string (mS a)) := by
  rcases (show a = 0 ∨ a = 1 by omega) with rfl | rfl <;> rfl
theorem mS_get {a : Nat} (h : a < 2) : ([Value.string ⟨#[77, 77]⟩, Value.string ⟨#[77]⟩] : List Value)[a]'(by simpa using h) = .string (mS a) := by
  rcases (show a = 0 ∨ a = 1 by omega) with rfl | rfl <;> rfl
theorem dS_get {a : Nat} (h : a < 2) : ([Value.string ⟨#[68, 68]⟩, Value.string ⟨#[68]⟩] : List Value)[a]'(by simpa using h) = .string (dS a) := by
  rcases (show a = 0 ∨ a = 1 by omega) with rfl | rfl <;> rfl
theorem dS_at {a : Nat} (h : a < 2) : (#[Value.string ⟨#[68, 68]⟩, Value.string ⟨#[68]⟩] : Array Value)[a]? = some (.string (dS a)) := by
  rcases (show a = 0 ∨ a = 1 by omega) with rfl | rfl <;> rfl

/-- The layout without its wild changes. -/
def layT (a b k : Nat) (s : ByteArray) : ByteArray := fS a b (oD k).1 ++ s ++ fS a b (oD k).2.1 ++ s ++ fS a b (oD k).2.2
def sepW : Nat → ByteArray | 7 => ⟨#[95]⟩ | c => sepD c
/-- What Layout gives. -/
def LayOk (wild : Bool) (w : World) (e : Ending) (w' : World) : Prop := ∃ t : ByteArray, e = .returned (.string t) ∧ t.size ≤ 100 ∧ (wild = false → ∃ a b k c, a < 2 ∧ b < 2 ∧ k < 6 ∧ c < 8 ∧ t = layT a b k (sepW c)) ∧ w.grownBy w' none
theorem fS_size (a b k : Nat) : (fS a b k).size ≤ 4 := by
  unfold fS
  split
  · decide
  · unfold mS; split <;> decide
  · unfold dS; split <;> decide
theorem oD_lt (k : Nat) : (oD k).1 < 3 ∧ (oD k).2.1 < 3 ∧ (oD k).2.2 < 3 := by
  unfold oD; split <;> decide
theorem Row.al {w : World} {b : Nat} {cs : List Value} {t : TypeId} {o : Obj} (h : Row w b cs t) : Row (w.alloc o) b cs t := h.kept (gr_alloc w o none)
theorem Row.dr {w : World} {b : Nat} {cs : List Value} {t : TypeId} (h : Row w b cs t) : Row w.drew b cs t := h
abbrev io (a b c : Int) : Obj := .cells #[.int .i64 a, .int .i64 b, .int .i64 c] 3
/-- The world behind the orders. -/
def W7 (w : World) : World := ((((((w.alloc (io 0 1 2)).alloc (io 0 2 1)).alloc (io 1 0 2)).alloc (io 1 2 0)).alloc (io 2 0 1)).alloc (io 2 1 0)).alloc (.cells #[.slice (some ⟨w.heap.size, 0, none⟩) 3 3, .slice (some ⟨w.heap.size + 1, 0, none⟩) 3 3, .slice (some ⟨w.heap.size + 1 + 1, 0, none⟩) 3 3, .slice (some ⟨w.heap.size + 1 + 1 + 1, 0, none⟩) 3 3, .slice (some ⟨w.heap.size + 1 + 1 + 1 + 1, 0, none⟩) 3 3, .slice (some ⟨w.heap.size + 1 + 1 + 1 + 1 + 1, 0, none⟩) 3 3] 25)
theorem w7_gr (w : World) : w.grownBy (W7 w) none := gr_al (gr_al (gr_al (gr_al (gr_al (gr_al (gr_al (gr_rfl w)))))))
theorem w7_row (w : World) : Row (W7 w) (w.heap.size + 1 + 1 + 1 + 1 + 1 + 1) [.slice (some ⟨w.heap.size, 0, none⟩) 3 3, .slice (some ⟨w.heap.size + 1, 0, none⟩) 3 3, .slice (some ⟨w.heap.size + 1 + 1, 0, none⟩) 3 3, .slice (some ⟨w.heap.size + 1 + 1 + 1, 0, none⟩) 3 3, .slice (some ⟨w.heap.size + 1 + 1 + 1 + 1, 0, none⟩) 3 3, .slice (some ⟨w.heap.size + 1 + 1 + 1 + 1 + 1, 0, none⟩) 3 3] 25 := Row.new_at (by simp)
theorem w7_int (w : World) (k : Nat) (hk : k < 6) : Row (W7 w) (w.heap.size + k) [.int .i64 ((oD k).1 : Nat), .int .i64 ((oD k).2.1 : Nat), .int .i64 ((oD k).2.2 : Nat)] 3 := by
  rcases (show k = 0 ∨ k = 1 ∨ k = 2 ∨ k = 3 ∨ k = 4 ∨ k = 5 by omega) with rfl | rfl | rfl | rfl | rfl | rfl
  · exact (Row.new_at (by simp)).al.al.al.al.al.al
  · exact (Row.new_at (by simp)).al.al.al.al.al
  · exact (Row.new_at (by simp)).al.al.al.al
  · exact (Row.new_at (by simp)).al.al.al
  · exact (Row.new_at (by simp)).al.al
  · exact (Row.new_at (by simp)).al
theorem w7_slice {w wx : World} {k : Nat} (hk : k < 6) (h : Row wx (w.heap.size + 1 + 1 + 1 + 1 + 1 + 1) [.slice (some ⟨w.heap.size, 0, none⟩) 3 3, .slice (some ⟨w.heap.size + 1, 0, none⟩) 3 3, .slice (some ⟨w.heap.size + 1 + 1, 0, none⟩) 3 3, .slice (some ⟨w.heap.size + 1 + 1 + 1, 0, none⟩) 3 3, .slice (some ⟨w.heap.size + 1 + 1 + 1 + 1, 0, none⟩) 3 3, .slice (some ⟨w.heap.size + 1 + 1 + 1 + 1 + 1, 0, none⟩) 3 3] 25) : wx.cell? ⟨w.heap.size + 1 + 1 + 1 + 1 + 1 + 1, k, none⟩ = some (.slice (some ⟨w.heap.size + k, 0, none⟩) 3 3) := by
  refine h.cell k _ ?_
  rcases (show k = 0 ∨ k = 1 ∨ k = 2 ∨ k = 3 ∨ k = 4 ∨ k = 5 by omega) with rfl | rfl | rfl | rfl | rfl | rfl <;> rfl
abbrev sepL : List Value := [.string ⟨#[45]⟩, .string ⟨#[46]⟩, .string ⟨#[47]⟩, .string ⟨#[32]⟩, .string ⟨#[44, 32]⟩, .string ⟨#[120]⟩, .string ⟨#[32, 111, 102, 32]⟩, .string ⟨#[]⟩]
theorem sep_at {c : Nat} (h : c < 8) : (#[.string ⟨#[45]⟩, .string ⟨#[46]⟩, .string ⟨#[47]⟩, .string ⟨#[32]⟩, .string ⟨#[44, 32]⟩, .string ⟨#[120]⟩, .string ⟨#[32, 111, 102, 32]⟩, .string ⟨#[]⟩] : Array Value)[c]? = some (.string (sepD c)) := by
  rcases (show c = 0 ∨ c = 1 ∨ c = 2 ∨ c = 3 ∨ c = 4 ∨ c = 5 ∨ c = 6 ∨ c = 7 by omega) with rfl | rfl | rfl | rfl | rfl | rfl | rfl | rfl <;> rfl
theorem sep_get {c : Nat} (h : c < 8) : ([.string ⟨#[45]⟩, .string ⟨#[46]⟩, .string ⟨#[47]⟩, .string ⟨#[32]⟩, .string ⟨#[44, 32]⟩, .string ⟨#[120]⟩, .string ⟨#[32, 111, 102, 32]⟩, .string ⟨#[]⟩] : List Value)[c]'(by simpa using h) = .string (sepD c) := by
  rcases (show c = 0 ∨ c = 1 ∨ c = 2 ∨ c = 3 ∨ c = 4 ∨ c = 5 ∨ c = 6 ∨ c = 7 by omega) with rfl | rfl | rfl | rfl | rfl | rfl | rfl | rfl <;> rfl
theorem sep_ne {c : Nat} (h : c < 7) : ¬ (sepD c).toList = [] := by
  rcases (show c = 0 ∨ c = 1 ∨ c = 2 ∨ c = 3 ∨ c = 4 ∨ c = 5 ∨ c = 6 by omega) with rfl | rfl | rfl | rfl | rfl | rfl | rfl <;> decide +kernel
theorem sep_size {c : Nat} (h : c < 7) : 0 < (sepD c).size ∧ (sepD c).size ≤ 4 := by
  rcases (show c = 0 ∨ c = 1 ∨ c = 2 ∨ c = 3 ∨ c = 4 ∨ c = 5 ∨ c = 6 by omega) with rfl | rfl | rfl | rfl | rfl | rfl | rfl <;> decide
theorem cell_kp {w w1 : World} {a : Addr} {v : Value} (h : w.cell? a = some v) (hg : w.grownBy w1 none) : w1.cell? a = some v := hg.cell h (by simp)
theorem row_f {w : World} {g a b : Nat} (h : Row w g [.string yyyyS, .string (mS a), .string (dS b)] 9) {k : Nat} (hk : k < 3) : w.cell? ⟨g, k, none⟩ = some (.string (fS a b k)) := by
  rcases (show k = 0 ∨ k = 1 ∨ k = 2 by omega) with rfl | rfl | rfl
  · exact h.cell 0 _ rfl
  · exact h.cell 1 _ rfl
  · exact h.cell 2 _ rfl
set_option maxHeartbeats 16000000 in
set_option maxRecDepth 100000 in
theorem lay_any (q0 q1 q2 : Int) (wild : Bool) (w : World) (h0 : -9223372036854775808 ≤ q0 ∧ q0 ≤ 9223372036854775807) (h1 : -9223372036854775808 ≤ q1 ∧ q1 ≤ 9223372036854775807) (h2 : -9223372036854775808 ≤ q2 ∧ q2 ≤ 9223372036854775807) :
    Calls Tryd.prog 29 #[.agg #[.int .i64 q0, .int .i64 q1, .int .i64 q2], .bool wild] w (LayOk wild w) := by
  have hMA := fun w => mod_any q0 2 (by decide) (by decide) w
  have ha : modD q0 2 < 2 := (modD_lt (n := q0) (m := 2) (by decide)).2
  have ld : -9223372036854775808 ≤ q0.tdiv 2 ∧ q0.tdiv 2 ≤ 9223372036854775807 := by
    have h := Int.natAbs_tdiv_le_natAbs q0 2
    have e : (q0.tdiv 2).natAbs = q0.natAbs / 2 := by rw [Int.natAbs_tdiv]; rfl
    omega
  generalize hd : q0.tdiv 2 = d at ld
  have hwd : IntKind.i64.wrap d = d := IntWalk.i64_in _ (by omega)
  have hMB := fun w => mod_any d 2 (by decide) (by decide) w
  have hb : modD d 2 < 2 := (modD_lt (n := d) (m := 2) (by decide)).2
  generalize modD q0 2 = a at hMA ha
  generalize modD d 2 = b at hMB hb
  have ka := mS_at ha
  have kb := dS_at hb
  have kga := mS_get ha
  have kgb := dS_get hb
  have ka0 : (0 : Int) ≤ (a : Int) := by omega
  have ka1 : (a : Int) < 2 := by omega
  have kb0 : (0 : Int) ≤ (b : Int) := by omega
  have kb1 : (b : Int) < 2 := by omega
  have HMA := Lib.hid hMA
  have HMB := Lib.hid hMB
  clear hMA hMB
  go_enter Tryd.func29, Tryd.ntmps29
  go_wp2_with fail
  have RQ : Row (w.alloc (.cells #[.int .i64 q0, .int .i64 q1, .int .i64 q2] 22)) w.heap.size [.int .i64 q0, .int .i64 q1, .int .i64 q2] 22 := Row.new_at rfl
  have G := gr_alloc w (.cells #[.int .i64 q0, .int .i64 q1, .int .i64 q2] 22) none
  generalize w.alloc (.cells #[.int .i64 q0, .int .i64 q1, .int .i64 q2] 22) = w1 at RQ G ⊢
  go_cut [5] from 10 to 23 (fun v wx => ∃ g : Nat, v = .slice (some ⟨g, 0, none⟩) 3 3 ∧ Row wx g [.string yyyyS, .string (mS a), .string (dS b)] 9 ∧ Row wx w.heap.size [.int .i64 q0, .int .i64 q1, .int .i64 q2] 22 ∧ w.grownBy wx none)
  case first =>
    have hK : ∀ w', w1.grownBy w' none → (w'.cell? ⟨w.heap.size, 0, none⟩ = some (.int .i64 q0)) := fun w' h => (RQ.kept h).cell 0 _ rfl
    have HK := Lib.hid hK
    clear hK
    refine wp_region_noPanic ?_
    refine wp_region_held_drew (S := fun w' => w'.cell? ⟨w.heap.size, 0, none⟩ = some (.int .i64 q0)) (by kernel_rfl) ?_ (fun hHeld => ?_)
    · ((refine HK.out _ ?_; repeat (first | (with_reducible exact gr_rfl _) | (with_reducible refine gr_al ?_) | (with_reducible refine gr_dr ?_))))
    refine wpAnyH_take (i := 1) (oi := _) (v := ?v1) rfl (by kernel_rfl) (by kernel_rfl) (by kernel_rfl) (fun _ _ _ h => h) (Or.inl ⟨by rfl, ?hy1⟩) (by assumption) ?rest1
    case hy1 => ((intro w hSw; (try dsimp only at hSw); go_simp); try (with_reducible rfl))
    ((try dsimp only [List.getElem_toArray, List.getElem_cons_succ, List.getElem_cons_zero]); try simp only [Act.put, List.setIfInBounds_toArray, List.set_cons_zero, List.set_cons_succ])
    refine wpAnyH_take (i := 2) (oi := _) (v := ?v2) rfl (by kernel_rfl) (by kernel_rfl) (by kernel_rfl) (fun _ _ _ h => h) (Or.inl ⟨by rfl, ?hy2⟩) (by assumption) ?rest2
    case hy2 => ((intro w hSw; (try dsimp only at hSw); go_simp); try (with_reducible rfl))
    ((try dsimp only [List.getElem_toArray, List.getElem_cons_succ, List.getElem_cons_zero]); try simp only [Act.put, List.setIfInBounds_toArray, List.set_cons_zero, List.set_cons_succ])
    refine wpAnyH_take (i := 7) (oi := _) (v := ?v3) rfl (by kernel_rfl) (by kernel_rfl) (by kernel_rfl) (fun _ _ _ h => h) (Or.inl ⟨by rfl, ?hy3⟩) (by assumption) ?rest3
    case hy3 => ((intro w hSw; (try dsimp only at hSw); go_simp); try (with_reducible rfl))
    ((try dsimp only [List.getElem_toArray, List.getElem_cons_succ, List.getElem_cons_zero]); try simp only [Act.put, List.setIfInBounds_toArray, List.set_cons_zero, List.set_cons_succ])
    refine wpAnyH_take (i := 8) (oi := _) (v := ?v4) rfl (by kernel_rfl) (by kernel_rfl) (by kernel_rfl) (fun _ _ _ h => h) (Or.inl ⟨by rfl, ?hy4⟩) (by assumption) ?rest4
    case hy4 => ((intro w hSw; (try dsimp only at hSw); go_simp); try (with_reducible rfl))
    ((try dsimp only [List.getElem_toArray, List.getElem_cons_succ, List.getElem_cons_zero]); try simp only [Act.put, List.setIfInBounds_toArray, List.set_cons_zero, List.set_cons_succ])
    refine wpAnyH_take (i := 9) (oi := _) (v := ?v5) rfl (by kernel_rfl) (by kernel_rfl) (by kernel_rfl) (fun _ _ _ h => h) (Or.inl ⟨by rfl, ?hy5⟩) (by assumption) ?rest5
    case hy5 => ((intro w hSw; (try dsimp only at hSw); go_simp); try (with_reducible rfl))
    ((try dsimp only [List.getElem_toArray, List.getElem_cons_succ, List.getElem_cons_zero]); try simp only [Act.put, List.setIfInBounds_toArray, List.set_cons_zero, List.set_cons_succ])
    refine wpAnyH_ready (rs := [0, 3, 6]) (by kernel_rfl) (by simp) ?_
    refine AllReadyH.cons (o := _) rfl (fun K hK => ?_) ?_
    · go_simp
      refine hK.out _ _ ?_ (fun hHeld => ?_)
      · (try dsimp only); ((refine HK.out _ ?_; repeat (first | (with_reducible exact gr_rfl _) | (with_reducible refine gr_al ?_) | (with_reducible refine gr_dr ?_))))
      clear hK K
      try simp only [Act.put, List.setIfInBounds_toArray, List.set_cons_zero, List.set_cons_succ]
      refine wpAnyH_ready (rs := [3, 6]) (by kernel_rfl) (by simp) ?_
      refine AllReadyH.cons (o := _) rfl (fun K hK => ?_) ?_
      · go_simp
        ((with_reducible refine (HMA.out _).mono ?_); rintro e w2 ⟨rfl, rfl⟩)
        refine hK.out _ _ ?_ (fun hHeld => ?_)
        · (try dsimp only); ((refine HK.out _ ?_; repeat (first | (with_reducible exact gr_rfl _) | (with_reducible refine gr_al ?_) | (with_reducible refine gr_dr ?_))))
        clear hK K
        try simp only [Act.put, List.setIfInBounds_toArray, List.set_cons_zero, List.set_cons_succ]
        refine wpAnyH_take (i := 4) (oi := _) (v := ?v8) rfl (by kernel_rfl) (by kernel_rfl) (by kernel_rfl) (fun _ _ _ h => h) (Or.inl ⟨by rfl, ?hy8⟩) (by assumption) ?rest8
        case hy8 => ((intro w hSw; (try dsimp only at hSw); go_simp); try (with_reducible rfl))
        ((try dsimp only [List.getElem_toArray, List.getElem_cons_succ, List.getElem_cons_zero]); try simp only [Act.put, List.setIfInBounds_toArray, List.set_cons_zero, List.set_cons_succ])
        refine wpAnyH_ready (rs := [5, 6, 10]) (by kernel_rfl) (by simp) ?_
        refine AllReadyH.cons (o := _) rfl (fun K hK => ?_) ?_
        · go_simp
          refine hK.out _ _ ?_ (fun hHeld => ?_)
          · (try dsimp only); ((refine HK.out _ ?_; repeat (first | (with_reducible exact gr_rfl _) | (with_reducible refine gr_al ?_) | (with_reducible refine gr_dr ?_))))
          clear hK K
          try simp only [Act.put, List.setIfInBounds_toArray, List.set_cons_zero, List.set_cons_succ]
          refine wpAnyH_ready (rs := [6, 10]) (by kernel_rfl) (by simp) ?_
          refine AllReadyH.cons (o := _) rfl (fun K hK => ?_) ?_
          · go_simp
            refine hK.out _ _ ?_ (fun hHeld => ?_)
            · (try dsimp only); ((refine HK.out _ ?_; repeat (first | (with_reducible exact gr_rfl _) | (with_reducible refine gr_al ?_) | (with_reducible refine gr_dr ?_))))
            clear hK K
            try simp only [Act.put, List.setIfInBounds_toArray, List.set_cons_zero, List.set_cons_succ]
            refine wpAnyH_ready (rs := [10]) (by kernel_rfl) (by simp) ?_
            refine AllReadyH.cons (o := _) rfl (fun K hK => ?_) ?_
            · go_simp
              ((with_reducible refine (HMB.out _).mono ?_); rintro e w2 ⟨rfl, rfl⟩)
              refine hK.out _ _ ?_ (fun hHeld => ?_)
              · (try dsimp only); ((refine HK.out _ ?_; repeat (first | (with_reducible exact gr_rfl _) | (with_reducible refine gr_al ?_) | (with_reducible refine gr_dr ?_))))
              clear hK K
              try simp only [Act.put, List.setIfInBounds_toArray, List.set_cons_zero, List.set_cons_succ]
              refine wpAnyH_take (i := 11) (oi := _) (v := ?v12) rfl (by kernel_rfl) (by kernel_rfl) (by kernel_rfl) (fun _ _ _ h => h) (Or.inl ⟨by rfl, ?hy12⟩) (by assumption) ?rest12
              case hy12 => ((intro w hSw; (try dsimp only at hSw); go_simp); try (with_reducible rfl))
              ((try dsimp only [List.getElem_toArray, List.getElem_cons_succ, List.getElem_cons_zero]); try simp only [Act.put, List.setIfInBounds_toArray, List.set_cons_zero, List.set_cons_succ])
              refine wpAnyH_ready (rs := [12]) (by kernel_rfl) (by simp) ?_
              refine AllReadyH.cons (o := _) rfl (fun K hK => ?_) ?_
              · go_simp
                refine hK.out _ _ ?_ (fun hHeld => ?_)
                · (try dsimp only); ((refine HK.out _ ?_; repeat (first | (with_reducible exact gr_rfl _) | (with_reducible refine gr_al ?_) | (with_reducible refine gr_dr ?_))))
                clear hK K
                try simp only [Act.put, List.setIfInBounds_toArray, List.set_cons_zero, List.set_cons_succ]
                refine wpAnyH_ready (rs := [13]) (by kernel_rfl) (by simp) ?_
                refine AllReadyH.cons (o := _) rfl (fun K hK => ?_) ?_
                · go_simp
                  refine hK.out _ _ ?_ (fun hHeld => ?_)
                  · (try dsimp only); ((refine HK.out _ ?_; repeat (first | (with_reducible exact gr_rfl _) | (with_reducible refine gr_al ?_) | (with_reducible refine gr_dr ?_))))
                  clear hK K
                  try simp only [Act.put, List.setIfInBounds_toArray, List.set_cons_zero, List.set_cons_succ]
                  refine wpAnyH_take (i := 14) (oi := _) (v := ?v15) rfl (by kernel_rfl) (by kernel_rfl) (by kernel_rfl) (fun _ _ _ h => h) (Or.inl ⟨by rfl, ?hy15⟩) (by assumption) ?rest15
                  case hy15 => ((intro w hSw; (try dsimp only at hSw); go_simp); try (with_reducible rfl))
                  ((try dsimp only [List.getElem_toArray, List.getElem_cons_succ, List.getElem_cons_zero]); try simp only [Act.put, List.setIfInBounds_toArray, List.set_cons_zero, List.set_cons_succ])
                  refine wpAnyH_done (by kernel_rfl) ?_ _
                  refine NoPanic.normal ?_
                  go_wp2_with fail
                  go_meet
                  refine ⟨_, rfl, Row.dr (Row.new_at (by simp)), RQ.kept ?_, gr_then G ?_⟩
                  all_goals (repeat (first | (with_reducible exact gr_rfl _) | (with_reducible refine gr_al ?_) | (with_reducible refine gr_dr ?_)))
                exact AllReadyH.nil
              exact AllReadyH.nil
            exact AllReadyH.nil
          refine AllReadyH.cons (o := _) rfl (fun K hK => ?_) ?_
          · go_simp
            ((with_reducible refine (HMB.out _).mono ?_); rintro e w2 ⟨rfl, rfl⟩)
            refine hK.out _ _ ?_ (fun hHeld => ?_)
            · (try dsimp only); ((refine HK.out _ ?_; repeat (first | (with_reducible exact gr_rfl _) | (with_reducible refine gr_al ?_) | (with_reducible refine gr_dr ?_))))
            clear hK K
            try simp only [Act.put, List.setIfInBounds_toArray, List.set_cons_zero, List.set_cons_succ]
            refine wpAnyH_ready (rs := [6]) (by kernel_rfl) (by simp) ?_
            refine AllReadyH.cons (o := _) rfl (fun K hK => ?_) ?_
            · go_simp
              refine hK.out _ _ ?_ (fun hHeld => ?_)
              · (try dsimp only); ((refine HK.out _ ?_; repeat (first | (with_reducible exact gr_rfl _) | (with_reducible refine gr_al ?_) | (with_reducible refine gr_dr ?_))))
              clear hK K
              try simp only [Act.put, List.setIfInBounds_toArray, List.set_cons_zero, List.set_cons_succ]
              refine wpAnyH_take (i := 11) (oi := _) (v := ?v18) rfl (by kernel_rfl) (by kernel_rfl) (by kernel_rfl) (fun _ _ _ h => h) (Or.inl ⟨by rfl, ?hy18⟩) (by assumption) ?rest18
              case hy18 => ((intro w hSw; (try dsimp only at hSw); go_simp); try (with_reducible rfl))
              ((try dsimp only [List.getElem_toArray, List.getElem_cons_succ, List.getElem_cons_zero]); try simp only [Act.put, List.setIfInBounds_toArray, List.set_cons_zero, List.set_cons_succ])
              refine wpAnyH_ready (rs := [12]) (by kernel_rfl) (by simp) ?_
              refine AllReadyH.cons (o := _) rfl (fun K hK => ?_) ?_
              · go_simp
                refine hK.out _ _ ?_ (fun hHeld => ?_)
                · (try dsimp only); ((refine HK.out _ ?_; repeat (first | (with_reducible exact gr_rfl _) | (with_reducible refine gr_al ?_) | (with_reducible refine gr_dr ?_))))
                clear hK K
                try simp only [Act.put, List.setIfInBounds_toArray, List.set_cons_zero, List.set_cons_succ]
                refine wpAnyH_ready (rs := [13]) (by kernel_rfl) (by simp) ?_
                refine AllReadyH.cons (o := _) rfl (fun K hK => ?_) ?_
                · go_simp
                  refine hK.out _ _ ?_ (fun hHeld => ?_)
                  · (try dsimp only); ((refine HK.out _ ?_; repeat (first | (with_reducible exact gr_rfl _) | (with_reducible refine gr_al ?_) | (with_reducible refine gr_dr ?_))))
                  clear hK K
                  try simp only [Act.put, List.setIfInBounds_toArray, List.set_cons_zero, List.set_cons_succ]
                  refine wpAnyH_take (i := 14) (oi := _) (v := ?v21) rfl (by kernel_rfl) (by kernel_rfl) (by kernel_rfl) (fun _ _ _ h => h) (Or.inl ⟨by rfl, ?hy21⟩) (by assumption) ?rest21
                  case hy21 => ((intro w hSw; (try dsimp only at hSw); go_simp); try (with_reducible rfl))
                  ((try dsimp only [List.getElem_toArray, List.getElem_cons_succ, List.getElem_cons_zero]); try simp only [Act.put, List.setIfInBounds_toArray, List.set_cons_zero, List.set_cons_succ])
                  refine wpAnyH_done (by kernel_rfl) ?_ _
                  refine NoPanic.normal ?_
                  go_wp2_with fail
                  go_meet
                  refine ⟨_, rfl, Row.dr (Row.new_at (by simp)), RQ.kept ?_, gr_then G ?_⟩
                  all_goals (repeat (first | (with_reducible exact gr_rfl _) | (with_reducible refine gr_al ?_) | (with_reducible refine gr_dr ?_)))
                exact AllReadyH.nil
              exact AllReadyH.nil
            exact AllReadyH.nil
          exact AllReadyH.nil
        refine AllReadyH.cons (o := _) rfl (fun K hK => ?_) ?_
        · go_simp
          refine hK.out _ _ ?_ (fun hHeld => ?_)
          · (try dsimp only); ((refine HK.out _ ?_; repeat (first | (with_reducible exact gr_rfl _) | (with_reducible refine gr_al ?_) | (with_reducible refine gr_dr ?_))))
          clear hK K
          try simp only [Act.put, List.setIfInBounds_toArray, List.set_cons_zero, List.set_cons_succ]
          refine wpAnyH_ready (rs := [5, 10]) (by kernel_rfl) (by simp) ?_
          refine AllReadyH.cons (o := _) rfl (fun K hK => ?_) ?_
          · go_simp
            refine hK.out _ _ ?_ (fun hHeld => ?_)
            · (try dsimp only); ((refine HK.out _ ?_; repeat (first | (with_reducible exact gr_rfl _) | (with_reducible refine gr_al ?_) | (with_reducible refine gr_dr ?_))))
            clear hK K
            try simp only [Act.put, List.setIfInBounds_toArray, List.set_cons_zero, List.set_cons_succ]
            refine wpAnyH_ready (rs := [10]) (by kernel_rfl) (by simp) ?_
            refine AllReadyH.cons (o := _) rfl (fun K hK => ?_) ?_
            · go_simp
              ((with_reducible refine (HMB.out _).mono ?_); rintro e w2 ⟨rfl, rfl⟩)
              refine hK.out _ _ ?_ (fun hHeld => ?_)
              · (try dsimp only); ((refine HK.out _ ?_; repeat (first | (with_reducible exact gr_rfl _) | (with_reducible refine gr_al ?_) | (with_reducible refine gr_dr ?_))))
              clear hK K
              try simp only [Act.put, List.setIfInBounds_toArray, List.set_cons_zero, List.set_cons_succ]
              refine wpAnyH_take (i := 11) (oi := _) (v := ?v25) rfl (by kernel_rfl) (by kernel_rfl) (by kernel_rfl) (fun _ _ _ h => h) (Or.inl ⟨by rfl, ?hy25⟩) (by assumption) ?rest25
              case hy25 => ((intro w hSw; (try dsimp only at hSw); go_simp); try (with_reducible rfl))
              ((try dsimp only [List.getElem_toArray, List.getElem_cons_succ, List.getElem_cons_zero]); try simp only [Act.put, List.setIfInBounds_toArray, List.set_cons_zero, List.set_cons_succ])
              refine wpAnyH_ready (rs := [12]) (by kernel_rfl) (by simp) ?_
              refine AllReadyH.cons (o := _) rfl (fun K hK => ?_) ?_
              · go_simp
                refine hK.out _ _ ?_ (fun hHeld => ?_)
                · (try dsimp only); ((refine HK.out _ ?_; repeat (first | (with_reducible exact gr_rfl _) | (with_reducible refine gr_al ?_) | (with_reducible refine gr_dr ?_))))
                clear hK K
                try simp only [Act.put, List.setIfInBounds_toArray, List.set_cons_zero, List.set_cons_succ]
                refine wpAnyH_ready (rs := [13]) (by kernel_rfl) (by simp) ?_
                refine AllReadyH.cons (o := _) rfl (fun K hK => ?_) ?_
                · go_simp
                  refine hK.out _ _ ?_ (fun hHeld => ?_)
                  · (try dsimp only); ((refine HK.out _ ?_; repeat (first | (with_reducible exact gr_rfl _) | (with_reducible refine gr_al ?_) | (with_reducible refine gr_dr ?_))))
                  clear hK K
                  try simp only [Act.put, List.setIfInBounds_toArray, List.set_cons_zero, List.set_cons_succ]
                  refine wpAnyH_take (i := 14) (oi := _) (v := ?v28) rfl (by kernel_rfl) (by kernel_rfl) (by kernel_rfl) (fun _ _ _ h => h) (Or.inl ⟨by rfl, ?hy28⟩) (by assumption) ?rest28
                  case hy28 => ((intro w hSw; (try dsimp only at hSw); go_simp); try (with_reducible rfl))
                  ((try dsimp only [List.getElem_toArray, List.getElem_cons_succ, List.getElem_cons_zero]); try simp only [Act.put, List.setIfInBounds_toArray, List.set_cons_zero, List.set_cons_succ])
                  refine wpAnyH_done (by kernel_rfl) ?_ _
                  refine NoPanic.normal ?_
                  go_wp2_with fail
                  go_meet
                  refine ⟨_, rfl, Row.dr (Row.new_at (by simp)), RQ.kept ?_, gr_then G ?_⟩
                  all_goals (repeat (first | (with_reducible exact gr_rfl _) | (with_reducible refine gr_al ?_) | (with_reducible refine gr_dr ?_)))
                exact AllReadyH.nil
              exact AllReadyH.nil
            exact AllReadyH.nil
          refine AllReadyH.cons (o := _) rfl (fun K hK => ?_) ?_
          · go_simp
            ((with_reducible refine (HMB.out _).mono ?_); rintro e w2 ⟨rfl, rfl⟩)
            refine hK.out _ _ ?_ (fun hHeld => ?_)
            · (try dsimp only); ((refine HK.out _ ?_; repeat (first | (with_reducible exact gr_rfl _) | (with_reducible refine gr_al ?_) | (with_reducible refine gr_dr ?_))))
            clear hK K
            try simp only [Act.put, List.setIfInBounds_toArray, List.set_cons_zero, List.set_cons_succ]
            refine wpAnyH_take (i := 11) (oi := _) (v := ?v30) rfl (by kernel_rfl) (by kernel_rfl) (by kernel_rfl) (fun _ _ _ h => h) (Or.inl ⟨by rfl, ?hy30⟩) (by assumption) ?rest30
            case hy30 => ((intro w hSw; (try dsimp only at hSw); go_simp); try (with_reducible rfl))
            ((try dsimp only [List.getElem_toArray, List.getElem_cons_succ, List.getElem_cons_zero]); try simp only [Act.put, List.setIfInBounds_toArray, List.set_cons_zero, List.set_cons_succ])
            refine wpAnyH_ready (rs := [5, 12]) (by kernel_rfl) (by simp) ?_
            refine AllReadyH.cons (o := _) rfl (fun K hK => ?_) ?_
            · go_simp
              refine hK.out _ _ ?_ (fun hHeld => ?_)
              · (try dsimp only); ((refine HK.out _ ?_; repeat (first | (with_reducible exact gr_rfl _) | (with_reducible refine gr_al ?_) | (with_reducible refine gr_dr ?_))))
              clear hK K
              try simp only [Act.put, List.setIfInBounds_toArray, List.set_cons_zero, List.set_cons_succ]
              refine wpAnyH_ready (rs := [12]) (by kernel_rfl) (by simp) ?_
              refine AllReadyH.cons (o := _) rfl (fun K hK => ?_) ?_
              · go_simp
                refine hK.out _ _ ?_ (fun hHeld => ?_)
                · (try dsimp only); ((refine HK.out _ ?_; repeat (first | (with_reducible exact gr_rfl _) | (with_reducible refine gr_al ?_) | (with_reducible refine gr_dr ?_))))
                clear hK K
                try simp only [Act.put, List.setIfInBounds_toArray, List.set_cons_zero, List.set_cons_succ]
                refine wpAnyH_ready (rs := [13]) (by kernel_rfl) (by simp) ?_
                refine AllReadyH.cons (o := _) rfl (fun K hK => ?_) ?_
                · go_simp
                  refine hK.out _ _ ?_ (fun hHeld => ?_)
                  · (try dsimp only); ((refine HK.out _ ?_; repeat (first | (with_reducible exact gr_rfl _) | (with_reducible refine gr_al ?_) | (with_reducible refine gr_dr ?_))))
                  clear hK K
                  try simp only [Act.put, List.setIfInBounds_toArray, List.set_cons_zero, List.set_cons_succ]
                  refine wpAnyH_take (i := 14) (oi := _) (v := ?v34) rfl (by kernel_rfl) (by kernel_rfl) (by kernel_rfl) (fun _ _ _ h => h) (Or.inl ⟨by rfl, ?hy34⟩) (by assumption) ?rest34
                  case hy34 => ((intro w hSw; (try dsimp only at hSw); go_simp); try (with_reducible rfl))
                  ((try dsimp only [List.getElem_toArray, List.getElem_cons_succ, List.getElem_cons_zero]); try simp only [Act.put, List.setIfInBounds_toArray, List.set_cons_zero, List.set_cons_succ])
                  refine wpAnyH_done (by kernel_rfl) ?_ _
                  refine NoPanic.normal ?_
                  go_wp2_with fail
                  go_meet
                  refine ⟨_, rfl, Row.dr (Row.new_at (by simp)), RQ.kept ?_, gr_then G ?_⟩
                  all_goals (repeat (first | (with_reducible exact gr_rfl _) | (with_reducible refine gr_al ?_) | (with_reducible refine gr_dr ?_)))
                exact AllReadyH.nil
              exact AllReadyH.nil
            refine AllReadyH.cons (o := _) rfl (fun K hK => ?_) ?_
            · go_simp
              refine hK.out _ _ ?_ (fun hHeld => ?_)
              · (try dsimp only); ((refine HK.out _ ?_; repeat (first | (with_reducible exact gr_rfl _) | (with_reducible refine gr_al ?_) | (with_reducible refine gr_dr ?_))))
              clear hK K
              try simp only [Act.put, List.setIfInBounds_toArray, List.set_cons_zero, List.set_cons_succ]
              refine wpAnyH_ready (rs := [5]) (by kernel_rfl) (by simp) ?_
              refine AllReadyH.cons (o := _) rfl (fun K hK => ?_) ?_
              · go_simp
                refine hK.out _ _ ?_ (fun hHeld => ?_)
                · (try dsimp only); ((refine HK.out _ ?_; repeat (first | (with_reducible exact gr_rfl _) | (with_reducible refine gr_al ?_) | (with_reducible refine gr_dr ?_))))
                clear hK K
                try simp only [Act.put, List.setIfInBounds_toArray, List.set_cons_zero, List.set_cons_succ]
                refine wpAnyH_ready (rs := [13]) (by kernel_rfl) (by simp) ?_
                refine AllReadyH.cons (o := _) rfl (fun K hK => ?_) ?_
                · go_simp
                  refine hK.out _ _ ?_ (fun hHeld => ?_)
                  · (try dsimp only); ((refine HK.out _ ?_; repeat (first | (with_reducible exact gr_rfl _) | (with_reducible refine gr_al ?_) | (with_reducible refine gr_dr ?_))))
                  clear hK K
                  try simp only [Act.put, List.setIfInBounds_toArray, List.set_cons_zero, List.set_cons_succ]
                  refine wpAnyH_take (i := 14) (oi := _) (v := ?v38) rfl (by kernel_rfl) (by kernel_rfl) (by kernel_rfl) (fun _ _ _ h => h) (Or.inl ⟨by rfl, ?hy38⟩) (by assumption) ?rest38
                  case hy38 => ((intro w hSw; (try dsimp only at hSw); go_simp); try (with_reducible rfl))
                  ((try dsimp only [List.getElem_toArray, List.getElem_cons_succ, List.getElem_cons_zero]); try simp only [Act.put, List.setIfInBounds_toArray, List.set_cons_zero, List.set_cons_succ])
                  refine wpAnyH_done (by kernel_rfl) ?_ _
                  refine NoPanic.normal ?_
                  go_wp2_with fail
                  go_meet
                  refine ⟨_, rfl, Row.dr (Row.new_at (by simp)), RQ.kept ?_, gr_then G ?_⟩
                  all_goals (repeat (first | (with_reducible exact gr_rfl _) | (with_reducible refine gr_al ?_) | (with_reducible refine gr_dr ?_)))
                exact AllReadyH.nil
              exact AllReadyH.nil
            exact AllReadyH.nil
          exact AllReadyH.nil
        refine AllReadyH.cons (o := _) rfl (fun K hK => ?_) ?_
        · go_simp
          ((with_reducible refine (HMB.out _).mono ?_); rintro e w2 ⟨rfl, rfl⟩)
          refine hK.out _ _ ?_ (fun hHeld => ?_)
          · (try dsimp only); ((refine HK.out _ ?_; repeat (first | (with_reducible exact gr_rfl _) | (with_reducible refine gr_al ?_) | (with_reducible refine gr_dr ?_))))
          clear hK K
          try simp only [Act.put, List.setIfInBounds_toArray, List.set_cons_zero, List.set_cons_succ]
          refine wpAnyH_ready (rs := [5, 6]) (by kernel_rfl) (by simp) ?_
          refine AllReadyH.cons (o := _) rfl (fun K hK => ?_) ?_
          · go_simp
            refine hK.out _ _ ?_ (fun hHeld => ?_)
            · (try dsimp only); ((refine HK.out _ ?_; repeat (first | (with_reducible exact gr_rfl _) | (with_reducible refine gr_al ?_) | (with_reducible refine gr_dr ?_))))
            clear hK K
            try simp only [Act.put, List.setIfInBounds_toArray, List.set_cons_zero, List.set_cons_succ]
            refine wpAnyH_ready (rs := [6]) (by kernel_rfl) (by simp) ?_
            refine AllReadyH.cons (o := _) rfl (fun K hK => ?_) ?_
            · go_simp
              refine hK.out _ _ ?_ (fun hHeld => ?_)
              · (try dsimp only); ((refine HK.out _ ?_; repeat (first | (with_reducible exact gr_rfl _) | (with_reducible refine gr_al ?_) | (with_reducible refine gr_dr ?_))))
              clear hK K
              try simp only [Act.put, List.setIfInBounds_toArray, List.set_cons_zero, List.set_cons_succ]
              refine wpAnyH_take (i := 11) (oi := _) (v := ?v42) rfl (by kernel_rfl) (by kernel_rfl) (by kernel_rfl) (fun _ _ _ h => h) (Or.inl ⟨by rfl, ?hy42⟩) (by assumption) ?rest42
              case hy42 => ((intro w hSw; (try dsimp only at hSw); go_simp); try (with_reducible rfl))
              ((try dsimp only [List.getElem_toArray, List.getElem_cons_succ, List.getElem_cons_zero]); try simp only [Act.put, List.setIfInBounds_toArray, List.set_cons_zero, List.set_cons_succ])
              refine wpAnyH_ready (rs := [12]) (by kernel_rfl) (by simp) ?_
              refine AllReadyH.cons (o := _) rfl (fun K hK => ?_) ?_
              · go_simp
                refine hK.out _ _ ?_ (fun hHeld => ?_)
                · (try dsimp only); ((refine HK.out _ ?_; repeat (first | (with_reducible exact gr_rfl _) | (with_reducible refine gr_al ?_) | (with_reducible refine gr_dr ?_))))
                clear hK K
                try simp only [Act.put, List.setIfInBounds_toArray, List.set_cons_zero, List.set_cons_succ]
                refine wpAnyH_ready (rs := [13]) (by kernel_rfl) (by simp) ?_
                refine AllReadyH.cons (o := _) rfl (fun K hK => ?_) ?_
                · go_simp
                  refine hK.out _ _ ?_ (fun hHeld => ?_)
                  · (try dsimp only); ((refine HK.out _ ?_; repeat (first | (with_reducible exact gr_rfl _) | (with_reducible refine gr_al ?_) | (with_reducible refine gr_dr ?_))))
                  clear hK K
                  try simp only [Act.put, List.setIfInBounds_toArray, List.set_cons_zero, List.set_cons_succ]
                  refine wpAnyH_take (i := 14) (oi := _) (v := ?v45) rfl (by kernel_rfl) (by kernel_rfl) (by kernel_rfl) (fun _ _ _ h => h) (Or.inl ⟨by rfl, ?hy45⟩) (by assumption) ?rest45
                  case hy45 => ((intro w hSw; (try dsimp only at hSw); go_simp); try (with_reducible rfl))
                  ((try dsimp only [List.getElem_toArray, List.getElem_cons_succ, List.getElem_cons_zero]); try simp only [Act.put, List.setIfInBounds_toArray, List.set_cons_zero, List.set_cons_succ])
                  refine wpAnyH_done (by kernel_rfl) ?_ _
                  refine NoPanic.normal ?_
                  go_wp2_with fail
                  go_meet
                  refine ⟨_, rfl, Row.dr (Row.new_at (by simp)), RQ.kept ?_, gr_then G ?_⟩
                  all_goals (repeat (first | (with_reducible exact gr_rfl _) | (with_reducible refine gr_al ?_) | (with_reducible refine gr_dr ?_)))
                exact AllReadyH.nil
              exact AllReadyH.nil
            exact AllReadyH.nil
          refine AllReadyH.cons (o := _) rfl (fun K hK => ?_) ?_
          · go_simp
            refine hK.out _ _ ?_ (fun hHeld => ?_)
            · (try dsimp only); ((refine HK.out _ ?_; repeat (first | (with_reducible exact gr_rfl _) | (with_reducible refine gr_al ?_) | (with_reducible refine gr_dr ?_))))
            clear hK K
            try simp only [Act.put, List.setIfInBounds_toArray, List.set_cons_zero, List.set_cons_succ]
            refine wpAnyH_take (i := 11) (oi := _) (v := ?v47) rfl (by kernel_rfl) (by kernel_rfl) (by kernel_rfl) (fun _ _ _ h => h) (Or.inl ⟨by rfl, ?hy47⟩) (by assumption) ?rest47
            case hy47 => ((intro w hSw; (try dsimp only at hSw); go_simp); try (with_reducible rfl))
            ((try dsimp only [List.getElem_toArray, List.getElem_cons_succ, List.getElem_cons_zero]); try simp only [Act.put, List.setIfInBounds_toArray, List.set_cons_zero, List.set_cons_succ])
            refine wpAnyH_ready (rs := [5, 12]) (by kernel_rfl) (by simp) ?_
            refine AllReadyH.cons (o := _) rfl (fun K hK => ?_) ?_
            · go_simp
              refine hK.out _ _ ?_ (fun hHeld => ?_)
              · (try dsimp only); ((refine HK.out _ ?_; repeat (first | (with_reducible exact gr_rfl _) | (with_reducible refine gr_al ?_) | (with_reducible refine gr_dr ?_))))
              clear hK K
              try simp only [Act.put, List.setIfInBounds_toArray, List.set_cons_zero, List.set_cons_succ]
              refine wpAnyH_ready (rs := [12]) (by kernel_rfl) (by simp) ?_
              refine AllReadyH.cons (o := _) rfl (fun K hK => ?_) ?_
              · go_simp
                refine hK.out _ _ ?_ (fun hHeld => ?_)
                · (try dsimp only); ((refine HK.out _ ?_; repeat (first | (with_reducible exact gr_rfl _) | (with_reducible refine gr_al ?_) | (with_reducible refine gr_dr ?_))))
                clear hK K
                try simp only [Act.put, List.setIfInBounds_toArray, List.set_cons_zero, List.set_cons_succ]
                refine wpAnyH_ready (rs := [13]) (by kernel_rfl) (by simp) ?_
                refine AllReadyH.cons (o := _) rfl (fun K hK => ?_) ?_
                · go_simp
                  refine hK.out _ _ ?_ (fun hHeld => ?_)
                  · (try dsimp only); ((refine HK.out _ ?_; repeat (first | (with_reducible exact gr_rfl _) | (with_reducible refine gr_al ?_) | (with_reducible refine gr_dr ?_))))
                  clear hK K
                  try simp only [Act.put, List.setIfInBounds_toArray, List.set_cons_zero, List.set_cons_succ]
                  refine wpAnyH_take (i := 14) (oi := _) (v := ?v51) rfl (by kernel_rfl) (by kernel_rfl) (by kernel_rfl) (fun _ _ _ h => h) (Or.inl ⟨by rfl, ?hy51⟩) (by assumption) ?rest51
                  case hy51 => ((intro w hSw; (try dsimp only at hSw); go_simp); try (with_reducible rfl))
                  ((try dsimp only [List.getElem_toArray, List.getElem_cons_succ, List.getElem_cons_zero]); try simp only [Act.put, List.setIfInBounds_toArray, List.set_cons_zero, List.set_cons_succ])
                  refine wpAnyH_done (by kernel_rfl) ?_ _
                  refine NoPanic.normal ?_
                  go_wp2_with fail
                  go_meet
                  refine ⟨_, rfl, Row.dr (Row.new_at (by simp)), RQ.kept ?_, gr_then G ?_⟩
                  all_goals (repeat (first | (with_reducible exact gr_rfl _) | (with_reducible refine gr_al ?_) | (with_reducible refine gr_dr ?_)))
                exact AllReadyH.nil
              exact AllReadyH.nil
            refine AllReadyH.cons (o := _) rfl (fun K hK => ?_) ?_
            · go_simp
              refine hK.out _ _ ?_ (fun hHeld => ?_)
              · (try dsimp only); ((refine HK.out _ ?_; repeat (first | (with_reducible exact gr_rfl _) | (with_reducible refine gr_al ?_) | (with_reducible refine gr_dr ?_))))
              clear hK K
              try simp only [Act.put, List.setIfInBounds_toArray, List.set_cons_zero, List.set_cons_succ]
              refine wpAnyH_ready (rs := [5]) (by kernel_rfl) (by simp) ?_
              refine AllReadyH.cons (o := _) rfl (fun K hK => ?_) ?_
              · go_simp
                refine hK.out _ _ ?_ (fun hHeld => ?_)
                · (try dsimp only); ((refine HK.out _ ?_; repeat (first | (with_reducible exact gr_rfl _) | (with_reducible refine gr_al ?_) | (with_reducible refine gr_dr ?_))))
                clear hK K
                try simp only [Act.put, List.setIfInBounds_toArray, List.set_cons_zero, List.set_cons_succ]
                refine wpAnyH_ready (rs := [13]) (by kernel_rfl) (by simp) ?_
                refine AllReadyH.cons (o := _) rfl (fun K hK => ?_) ?_
                · go_simp
                  refine hK.out _ _ ?_ (fun hHeld => ?_)
                  · (try dsimp only); ((refine HK.out _ ?_; repeat (first | (with_reducible exact gr_rfl _) | (with_reducible refine gr_al ?_) | (with_reducible refine gr_dr ?_))))
                  clear hK K
                  try simp only [Act.put, List.setIfInBounds_toArray, List.set_cons_zero, List.set_cons_succ]
                  refine wpAnyH_take (i := 14) (oi := _) (v := ?v55) rfl (by kernel_rfl) (by kernel_rfl) (by kernel_rfl) (fun _ _ _ h => h) (Or.inl ⟨by rfl, ?hy55⟩) (by assumption) ?rest55
                  case hy55 => ((intro w hSw; (try dsimp only at hSw); go_simp); try (with_reducible rfl))
                  ((try dsimp only [List.getElem_toArray, List.getElem_cons_succ, List.getElem_cons_zero]); try simp only [Act.put, List.setIfInBounds_toArray, List.set_cons_zero, List.set_cons_succ])
                  refine wpAnyH_done (by kernel_rfl) ?_ _
                  refine NoPanic.normal ?_
                  go_wp2_with fail
                  go_meet
                  refine ⟨_, rfl, Row.dr (Row.new_at (by simp)), RQ.kept ?_, gr_then G ?_⟩
                  all_goals (repeat (first | (with_reducible exact gr_rfl _) | (with_reducible refine gr_al ?_) | (with_reducible refine gr_dr ?_)))
                exact AllReadyH.nil
              exact AllReadyH.nil
            exact AllReadyH.nil
          exact AllReadyH.nil
        exact AllReadyH.nil
      refine AllReadyH.cons (o := _) rfl (fun K hK => ?_) ?_
      · go_simp
        refine hK.out _ _ ?_ (fun hHeld => ?_)
        · (try dsimp only); ((refine HK.out _ ?_; repeat (first | (with_reducible exact gr_rfl _) | (with_reducible refine gr_al ?_) | (with_reducible refine gr_dr ?_))))
        clear hK K
        try simp only [Act.put, List.setIfInBounds_toArray, List.set_cons_zero, List.set_cons_succ]
        refine wpAnyH_ready (rs := [3]) (by kernel_rfl) (by simp) ?_
        refine AllReadyH.cons (o := _) rfl (fun K hK => ?_) ?_
        · go_simp
          ((with_reducible refine (HMA.out _).mono ?_); rintro e w2 ⟨rfl, rfl⟩)
          refine hK.out _ _ ?_ (fun hHeld => ?_)
          · (try dsimp only); ((refine HK.out _ ?_; repeat (first | (with_reducible exact gr_rfl _) | (with_reducible refine gr_al ?_) | (with_reducible refine gr_dr ?_))))
          clear hK K
          try simp only [Act.put, List.setIfInBounds_toArray, List.set_cons_zero, List.set_cons_succ]
          refine wpAnyH_take (i := 4) (oi := _) (v := ?v58) rfl (by kernel_rfl) (by kernel_rfl) (by kernel_rfl) (fun _ _ _ h => h) (Or.inl ⟨by rfl, ?hy58⟩) (by assumption) ?rest58
          case hy58 => ((intro w hSw; (try dsimp only at hSw); go_simp); try (with_reducible rfl))
          ((try dsimp only [List.getElem_toArray, List.getElem_cons_succ, List.getElem_cons_zero]); try simp only [Act.put, List.setIfInBounds_toArray, List.set_cons_zero, List.set_cons_succ])
          refine wpAnyH_ready (rs := [5, 10]) (by kernel_rfl) (by simp) ?_
          refine AllReadyH.cons (o := _) rfl (fun K hK => ?_) ?_
          · go_simp
            refine hK.out _ _ ?_ (fun hHeld => ?_)
            · (try dsimp only); ((refine HK.out _ ?_; repeat (first | (with_reducible exact gr_rfl _) | (with_reducible refine gr_al ?_) | (with_reducible refine gr_dr ?_))))
            clear hK K
            try simp only [Act.put, List.setIfInBounds_toArray, List.set_cons_zero, List.set_cons_succ]
            refine wpAnyH_ready (rs := [10]) (by kernel_rfl) (by simp) ?_
            refine AllReadyH.cons (o := _) rfl (fun K hK => ?_) ?_
            · go_simp
              ((with_reducible refine (HMB.out _).mono ?_); rintro e w2 ⟨rfl, rfl⟩)
              refine hK.out _ _ ?_ (fun hHeld => ?_)
              · (try dsimp only); ((refine HK.out _ ?_; repeat (first | (with_reducible exact gr_rfl _) | (with_reducible refine gr_al ?_) | (with_reducible refine gr_dr ?_))))
              clear hK K
              try simp only [Act.put, List.setIfInBounds_toArray, List.set_cons_zero, List.set_cons_succ]
              refine wpAnyH_take (i := 11) (oi := _) (v := ?v61) rfl (by kernel_rfl) (by kernel_rfl) (by kernel_rfl) (fun _ _ _ h => h) (Or.inl ⟨by rfl, ?hy61⟩) (by assumption) ?rest61
              case hy61 => ((intro w hSw; (try dsimp only at hSw); go_simp); try (with_reducible rfl))
              ((try dsimp only [List.getElem_toArray, List.getElem_cons_succ, List.getElem_cons_zero]); try simp only [Act.put, List.setIfInBounds_toArray, List.set_cons_zero, List.set_cons_succ])
              refine wpAnyH_ready (rs := [12]) (by kernel_rfl) (by simp) ?_
              refine AllReadyH.cons (o := _) rfl (fun K hK => ?_) ?_
              · go_simp
                refine hK.out _ _ ?_ (fun hHeld => ?_)
                · (try dsimp only); ((refine HK.out _ ?_; repeat (first | (with_reducible exact gr_rfl _) | (with_reducible refine gr_al ?_) | (with_reducible refine gr_dr ?_))))
                clear hK K
                try simp only [Act.put, List.setIfInBounds_toArray, List.set_cons_zero, List.set_cons_succ]
                refine wpAnyH_ready (rs := [13]) (by kernel_rfl) (by simp) ?_
                refine AllReadyH.cons (o := _) rfl (fun K hK => ?_) ?_
                · go_simp
                  refine hK.out _ _ ?_ (fun hHeld => ?_)
                  · (try dsimp only); ((refine HK.out _ ?_; repeat (first | (with_reducible exact gr_rfl _) | (with_reducible refine gr_al ?_) | (with_reducible refine gr_dr ?_))))
                  clear hK K
                  try simp only [Act.put, List.setIfInBounds_toArray, List.set_cons_zero, List.set_cons_succ]
                  refine wpAnyH_take (i := 14) (oi := _) (v := ?v64) rfl (by kernel_rfl) (by kernel_rfl) (by kernel_rfl) (fun _ _ _ h => h) (Or.inl ⟨by rfl, ?hy64⟩) (by assumption) ?rest64
                  case hy64 => ((intro w hSw; (try dsimp only at hSw); go_simp); try (with_reducible rfl))
                  ((try dsimp only [List.getElem_toArray, List.getElem_cons_succ, List.getElem_cons_zero]); try simp only [Act.put, List.setIfInBounds_toArray, List.set_cons_zero, List.set_cons_succ])
                  refine wpAnyH_done (by kernel_rfl) ?_ _
                  refine NoPanic.normal ?_
                  go_wp2_with fail
                  go_meet
                  refine ⟨_, rfl, Row.dr (Row.new_at (by simp)), RQ.kept ?_, gr_then G ?_⟩
                  all_goals (repeat (first | (with_reducible exact gr_rfl _) | (with_reducible refine gr_al ?_) | (with_reducible refine gr_dr ?_)))
                exact AllReadyH.nil
              exact AllReadyH.nil
            exact AllReadyH.nil
          refine AllReadyH.cons (o := _) rfl (fun K hK => ?_) ?_
          · go_simp
            ((with_reducible refine (HMB.out _).mono ?_); rintro e w2 ⟨rfl, rfl⟩)
            refine hK.out _ _ ?_ (fun hHeld => ?_)
            · (try dsimp only); ((refine HK.out _ ?_; repeat (first | (with_reducible exact gr_rfl _) | (with_reducible refine gr_al ?_) | (with_reducible refine gr_dr ?_))))
            clear hK K
            try simp only [Act.put, List.setIfInBounds_toArray, List.set_cons_zero, List.set_cons_succ]
            refine wpAnyH_take (i := 11) (oi := _) (v := ?v66) rfl (by kernel_rfl) (by kernel_rfl) (by kernel_rfl) (fun _ _ _ h => h) (Or.inl ⟨by rfl, ?hy66⟩) (by assumption) ?rest66
            case hy66 => ((intro w hSw; (try dsimp only at hSw); go_simp); try (with_reducible rfl))
            ((try dsimp only [List.getElem_toArray, List.getElem_cons_succ, List.getElem_cons_zero]); try simp only [Act.put, List.setIfInBounds_toArray, List.set_cons_zero, List.set_cons_succ])
            refine wpAnyH_ready (rs := [5, 12]) (by kernel_rfl) (by simp) ?_
            refine AllReadyH.cons (o := _) rfl (fun K hK => ?_) ?_
            · go_simp
              refine hK.out _ _ ?_ (fun hHeld => ?_)
              · (try dsimp only); ((refine HK.out _ ?_; repeat (first | (with_reducible exact gr_rfl _) | (with_reducible refine gr_al ?_) | (with_reducible refine gr_dr ?_))))
              clear hK K
              try simp only [Act.put, List.setIfInBounds_toArray, List.set_cons_zero, List.set_cons_succ]
              refine wpAnyH_ready (rs := [12]) (by kernel_rfl) (by simp) ?_
              refine AllReadyH.cons (o := _) rfl (fun K hK => ?_) ?_
              · go_simp
                refine hK.out _ _ ?_ (fun hHeld => ?_)
                · (try dsimp only); ((refine HK.out _ ?_; repeat (first | (with_reducible exact gr_rfl _) | (with_reducible refine gr_al ?_) | (with_reducible refine gr_dr ?_))))
                clear hK K
                try simp only [Act.put, List.setIfInBounds_toArray, List.set_cons_zero, List.set_cons_succ]
                refine wpAnyH_ready (rs := [13]) (by kernel_rfl) (by simp) ?_
                refine AllReadyH.cons (o := _) rfl (fun K hK => ?_) ?_
                · go_simp
                  refine hK.out _ _ ?_ (fun hHeld => ?_)
                  · (try dsimp only); ((refine HK.out _ ?_; repeat (first | (with_reducible exact gr_rfl _) | (with_reducible refine gr_al ?_) | (with_reducible refine gr_dr ?_))))
                  clear hK K
                  try simp only [Act.put, List.setIfInBounds_toArray, List.set_cons_zero, List.set_cons_succ]
                  refine wpAnyH_take (i := 14) (oi := _) (v := ?v70) rfl (by kernel_rfl) (by kernel_rfl) (by kernel_rfl) (fun _ _ _ h => h) (Or.inl ⟨by rfl, ?hy70⟩) (by assumption) ?rest70
                  case hy70 => ((intro w hSw; (try dsimp only at hSw); go_simp); try (with_reducible rfl))
                  ((try dsimp only [List.getElem_toArray, List.getElem_cons_succ, List.getElem_cons_zero]); try simp only [Act.put, List.setIfInBounds_toArray, List.set_cons_zero, List.set_cons_succ])
                  refine wpAnyH_done (by kernel_rfl) ?_ _
                  refine NoPanic.normal ?_
                  go_wp2_with fail
                  go_meet
                  refine ⟨_, rfl, Row.dr (Row.new_at (by simp)), RQ.kept ?_, gr_then G ?_⟩
                  all_goals (repeat (first | (with_reducible exact gr_rfl _) | (with_reducible refine gr_al ?_) | (with_reducible refine gr_dr ?_)))
                exact AllReadyH.nil
              exact AllReadyH.nil
            refine AllReadyH.cons (o := _) rfl (fun K hK => ?_) ?_
            · go_simp
              refine hK.out _ _ ?_ (fun hHeld => ?_)
              · (try dsimp only); ((refine HK.out _ ?_; repeat (first | (with_reducible exact gr_rfl _) | (with_reducible refine gr_al ?_) | (with_reducible refine gr_dr ?_))))
              clear hK K
              try simp only [Act.put, List.setIfInBounds_toArray, List.set_cons_zero, List.set_cons_succ]
              refine wpAnyH_ready (rs := [5]) (by kernel_rfl) (by simp) ?_
              refine AllReadyH.cons (o := _) rfl (fun K hK => ?_) ?_
              · go_simp
                refine hK.out _ _ ?_ (fun hHeld => ?_)
                · (try dsimp only); ((refine HK.out _ ?_; repeat (first | (with_reducible exact gr_rfl _) | (with_reducible refine gr_al ?_) | (with_reducible refine gr_dr ?_))))
                clear hK K
                try simp only [Act.put, List.setIfInBounds_toArray, List.set_cons_zero, List.set_cons_succ]
                refine wpAnyH_ready (rs := [13]) (by kernel_rfl) (by simp) ?_
                refine AllReadyH.cons (o := _) rfl (fun K hK => ?_) ?_
                · go_simp
                  refine hK.out _ _ ?_ (fun hHeld => ?_)
                  · (try dsimp only); ((refine HK.out _ ?_; repeat (first | (with_reducible exact gr_rfl _) | (with_reducible refine gr_al ?_) | (with_reducible refine gr_dr ?_))))
                  clear hK K
                  try simp only [Act.put, List.setIfInBounds_toArray, List.set_cons_zero, List.set_cons_succ]
                  refine wpAnyH_take (i := 14) (oi := _) (v := ?v74) rfl (by kernel_rfl) (by kernel_rfl) (by kernel_rfl) (fun _ _ _ h => h) (Or.inl ⟨by rfl, ?hy74⟩) (by assumption) ?rest74
                  case hy74 => ((intro w hSw; (try dsimp only at hSw); go_simp); try (with_reducible rfl))
                  ((try dsimp only [List.getElem_toArray, List.getElem_cons_succ, List.getElem_cons_zero]); try simp only [Act.put, List.setIfInBounds_toArray, List.set_cons_zero, List.set_cons_succ])
                  refine wpAnyH_done (by kernel_rfl) ?_ _
                  refine NoPanic.normal ?_
                  go_wp2_with fail
                  go_meet
                  refine ⟨_, rfl, Row.dr (Row.new_at (by simp)), RQ.kept ?_, gr_then G ?_⟩
                  all_goals (repeat (first | (with_reducible exact gr_rfl _) | (with_reducible refine gr_al ?_) | (with_reducible refine gr_dr ?_)))
                exact AllReadyH.nil
              exact AllReadyH.nil
            exact AllReadyH.nil
          exact AllReadyH.nil
        exact AllReadyH.nil
      exact AllReadyH.nil
    refine AllReadyH.cons (o := _) rfl (fun K hK => ?_) ?_
    · go_simp
      ((with_reducible refine (HMA.out _).mono ?_); rintro e w2 ⟨rfl, rfl⟩)
      refine hK.out _ _ ?_ (fun hHeld => ?_)
      · (try dsimp only); ((refine HK.out _ ?_; repeat (first | (with_reducible exact gr_rfl _) | (with_reducible refine gr_al ?_) | (with_reducible refine gr_dr ?_))))
      clear hK K
      try simp only [Act.put, List.setIfInBounds_toArray, List.set_cons_zero, List.set_cons_succ]
      refine wpAnyH_ready (rs := [0, 6, 10]) (by kernel_rfl) (by simp) ?_
      refine AllReadyH.cons (o := _) rfl (fun K hK => ?_) ?_
      · go_simp
        refine hK.out _ _ ?_ (fun hHeld => ?_)
        · (try dsimp only); ((refine HK.out _ ?_; repeat (first | (with_reducible exact gr_rfl _) | (with_reducible refine gr_al ?_) | (with_reducible refine gr_dr ?_))))
        clear hK K
        try simp only [Act.put, List.setIfInBounds_toArray, List.set_cons_zero, List.set_cons_succ]
        refine wpAnyH_take (i := 4) (oi := _) (v := ?v77) rfl (by kernel_rfl) (by kernel_rfl) (by kernel_rfl) (fun _ _ _ h => h) (Or.inl ⟨by rfl, ?hy77⟩) (by assumption) ?rest77
        case hy77 => ((intro w hSw; (try dsimp only at hSw); go_simp); try (with_reducible rfl))
        ((try dsimp only [List.getElem_toArray, List.getElem_cons_succ, List.getElem_cons_zero]); try simp only [Act.put, List.setIfInBounds_toArray, List.set_cons_zero, List.set_cons_succ])
        refine wpAnyH_ready (rs := [5, 6, 10]) (by kernel_rfl) (by simp) ?_
        refine AllReadyH.cons (o := _) rfl (fun K hK => ?_) ?_
        · go_simp
          refine hK.out _ _ ?_ (fun hHeld => ?_)
          · (try dsimp only); ((refine HK.out _ ?_; repeat (first | (with_reducible exact gr_rfl _) | (with_reducible refine gr_al ?_) | (with_reducible refine gr_dr ?_))))
          clear hK K
          try simp only [Act.put, List.setIfInBounds_toArray, List.set_cons_zero, List.set_cons_succ]
          refine wpAnyH_ready (rs := [6, 10]) (by kernel_rfl) (by simp) ?_
          refine AllReadyH.cons (o := _) rfl (fun K hK => ?_) ?_
          · go_simp
            refine hK.out _ _ ?_ (fun hHeld => ?_)
            · (try dsimp only); ((refine HK.out _ ?_; repeat (first | (with_reducible exact gr_rfl _) | (with_reducible refine gr_al ?_) | (with_reducible refine gr_dr ?_))))
            clear hK K
            try simp only [Act.put, List.setIfInBounds_toArray, List.set_cons_zero, List.set_cons_succ]
            refine wpAnyH_ready (rs := [10]) (by kernel_rfl) (by simp) ?_
            refine AllReadyH.cons (o := _) rfl (fun K hK => ?_) ?_
            · go_simp
              ((with_reducible refine (HMB.out _).mono ?_); rintro e w2 ⟨rfl, rfl⟩)
              refine hK.out _ _ ?_ (fun hHeld => ?_)
              · (try dsimp only); ((refine HK.out _ ?_; repeat (first | (with_reducible exact gr_rfl _) | (with_reducible refine gr_al ?_) | (with_reducible refine gr_dr ?_))))
              clear hK K
              try simp only [Act.put, List.setIfInBounds_toArray, List.set_cons_zero, List.set_cons_succ]
              refine wpAnyH_take (i := 11) (oi := _) (v := ?v81) rfl (by kernel_rfl) (by kernel_rfl) (by kernel_rfl) (fun _ _ _ h => h) (Or.inl ⟨by rfl, ?hy81⟩) (by assumption) ?rest81
              case hy81 => ((intro w hSw; (try dsimp only at hSw); go_simp); try (with_reducible rfl))
              ((try dsimp only [List.getElem_toArray, List.getElem_cons_succ, List.getElem_cons_zero]); try simp only [Act.put, List.setIfInBounds_toArray, List.set_cons_zero, List.set_cons_succ])
              refine wpAnyH_ready (rs := [12]) (by kernel_rfl) (by simp) ?_
              refine AllReadyH.cons (o := _) rfl (fun K hK => ?_) ?_
              · go_simp
                refine hK.out _ _ ?_ (fun hHeld => ?_)
                · (try dsimp only); ((refine HK.out _ ?_; repeat (first | (with_reducible exact gr_rfl _) | (with_reducible refine gr_al ?_) | (with_reducible refine gr_dr ?_))))
                clear hK K
                try simp only [Act.put, List.setIfInBounds_toArray, List.set_cons_zero, List.set_cons_succ]
                refine wpAnyH_ready (rs := [13]) (by kernel_rfl) (by simp) ?_
                refine AllReadyH.cons (o := _) rfl (fun K hK => ?_) ?_
                · go_simp
                  refine hK.out _ _ ?_ (fun hHeld => ?_)
                  · (try dsimp only); ((refine HK.out _ ?_; repeat (first | (with_reducible exact gr_rfl _) | (with_reducible refine gr_al ?_) | (with_reducible refine gr_dr ?_))))
                  clear hK K
                  try simp only [Act.put, List.setIfInBounds_toArray, List.set_cons_zero, List.set_cons_succ]
                  refine wpAnyH_take (i := 14) (oi := _) (v := ?v84) rfl (by kernel_rfl) (by kernel_rfl) (by kernel_rfl) (fun _ _ _ h => h) (Or.inl ⟨by rfl, ?hy84⟩) (by assumption) ?rest84
                  case hy84 => ((intro w hSw; (try dsimp only at hSw); go_simp); try (with_reducible rfl))
                  ((try dsimp only [List.getElem_toArray, List.getElem_cons_succ, List.getElem_cons_zero]); try simp only [Act.put, List.setIfInBounds_toArray, List.set_cons_zero, List.set_cons_succ])
                  refine wpAnyH_done (by kernel_rfl) ?_ _
                  refine NoPanic.normal ?_
                  go_wp2_with fail
                  go_meet
                  refine ⟨_, rfl, Row.dr (Row.new_at (by simp)), RQ.kept ?_, gr_then G ?_⟩
                  all_goals (repeat (first | (with_reducible exact gr_rfl _) | (with_reducible refine gr_al ?_) | (with_reducible refine gr_dr ?_)))
                exact AllReadyH.nil
              exact AllReadyH.nil
            exact AllReadyH.nil
          refine AllReadyH.cons (o := _) rfl (fun K hK => ?_) ?_
          · go_simp
            ((with_reducible refine (HMB.out _).mono ?_); rintro e w2 ⟨rfl, rfl⟩)
            refine hK.out _ _ ?_ (fun hHeld => ?_)
            · (try dsimp only); ((refine HK.out _ ?_; repeat (first | (with_reducible exact gr_rfl _) | (with_reducible refine gr_al ?_) | (with_reducible refine gr_dr ?_))))
            clear hK K
            try simp only [Act.put, List.setIfInBounds_toArray, List.set_cons_zero, List.set_cons_succ]
            refine wpAnyH_ready (rs := [6]) (by kernel_rfl) (by simp) ?_
            refine AllReadyH.cons (o := _) rfl (fun K hK => ?_) ?_
            · go_simp
              refine hK.out _ _ ?_ (fun hHeld => ?_)
              · (try dsimp only); ((refine HK.out _ ?_; repeat (first | (with_reducible exact gr_rfl _) | (with_reducible refine gr_al ?_) | (with_reducible refine gr_dr ?_))))
              clear hK K
              try simp only [Act.put, List.setIfInBounds_toArray, List.set_cons_zero, List.set_cons_succ]
              refine wpAnyH_take (i := 11) (oi := _) (v := ?v87) rfl (by kernel_rfl) (by kernel_rfl) (by kernel_rfl) (fun _ _ _ h => h) (Or.inl ⟨by rfl, ?hy87⟩) (by assumption) ?rest87
              case hy87 => ((intro w hSw; (try dsimp only at hSw); go_simp); try (with_reducible rfl))
              ((try dsimp only [List.getElem_toArray, List.getElem_cons_succ, List.getElem_cons_zero]); try simp only [Act.put, List.setIfInBounds_toArray, List.set_cons_zero, List.set_cons_succ])
              refine wpAnyH_ready (rs := [12]) (by kernel_rfl) (by simp) ?_
              refine AllReadyH.cons (o := _) rfl (fun K hK => ?_) ?_
              · go_simp
                refine hK.out _ _ ?_ (fun hHeld => ?_)
                · (try dsimp only); ((refine HK.out _ ?_; repeat (first | (with_reducible exact gr_rfl _) | (with_reducible refine gr_al ?_) | (with_reducible refine gr_dr ?_))))
                clear hK K
                try simp only [Act.put, List.setIfInBounds_toArray, List.set_cons_zero, List.set_cons_succ]
                refine wpAnyH_ready (rs := [13]) (by kernel_rfl) (by simp) ?_
                refine AllReadyH.cons (o := _) rfl (fun K hK => ?_) ?_
                · go_simp
                  refine hK.out _ _ ?_ (fun hHeld => ?_)
                  · (try dsimp only); ((refine HK.out _ ?_; repeat (first | (with_reducible exact gr_rfl _) | (with_reducible refine gr_al ?_) | (with_reducible refine gr_dr ?_))))
                  clear hK K
                  try simp only [Act.put, List.setIfInBounds_toArray, List.set_cons_zero, List.set_cons_succ]
                  refine wpAnyH_take (i := 14) (oi := _) (v := ?v90) rfl (by kernel_rfl) (by kernel_rfl) (by kernel_rfl) (fun _ _ _ h => h) (Or.inl ⟨by rfl, ?hy90⟩) (by assumption) ?rest90
                  case hy90 => ((intro w hSw; (try dsimp only at hSw); go_simp); try (with_reducible rfl))
                  ((try dsimp only [List.getElem_toArray, List.getElem_cons_succ, List.getElem_cons_zero]); try simp only [Act.put, List.setIfInBounds_toArray, List.set_cons_zero, List.set_cons_succ])
                  refine wpAnyH_done (by kernel_rfl) ?_ _
                  refine NoPanic.normal ?_
                  go_wp2_with fail
                  go_meet
                  refine ⟨_, rfl, Row.dr (Row.new_at (by simp)), RQ.kept ?_, gr_then G ?_⟩
                  all_goals (repeat (first | (with_reducible exact gr_rfl _) | (with_reducible refine gr_al ?_) | (with_reducible refine gr_dr ?_)))
                exact AllReadyH.nil
              exact AllReadyH.nil
            exact AllReadyH.nil
          exact AllReadyH.nil
        refine AllReadyH.cons (o := _) rfl (fun K hK => ?_) ?_
        · go_simp
          refine hK.out _ _ ?_ (fun hHeld => ?_)
          · (try dsimp only); ((refine HK.out _ ?_; repeat (first | (with_reducible exact gr_rfl _) | (with_reducible refine gr_al ?_) | (with_reducible refine gr_dr ?_))))
          clear hK K
          try simp only [Act.put, List.setIfInBounds_toArray, List.set_cons_zero, List.set_cons_succ]
          refine wpAnyH_ready (rs := [5, 10]) (by kernel_rfl) (by simp) ?_
          refine AllReadyH.cons (o := _) rfl (fun K hK => ?_) ?_
          · go_simp
            refine hK.out _ _ ?_ (fun hHeld => ?_)
            · (try dsimp only); ((refine HK.out _ ?_; repeat (first | (with_reducible exact gr_rfl _) | (with_reducible refine gr_al ?_) | (with_reducible refine gr_dr ?_))))
            clear hK K
            try simp only [Act.put, List.setIfInBounds_toArray, List.set_cons_zero, List.set_cons_succ]
            refine wpAnyH_ready (rs := [10]) (by kernel_rfl) (by simp) ?_
            refine AllReadyH.cons (o := _) rfl (fun K hK => ?_) ?_
            · go_simp
              ((with_reducible refine (HMB.out _).mono ?_); rintro e w2 ⟨rfl, rfl⟩)
              refine hK.out _ _ ?_ (fun hHeld => ?_)
              · (try dsimp only); ((refine HK.out _ ?_; repeat (first | (with_reducible exact gr_rfl _) | (with_reducible refine gr_al ?_) | (with_reducible refine gr_dr ?_))))
              clear hK K
              try simp only [Act.put, List.setIfInBounds_toArray, List.set_cons_zero, List.set_cons_succ]
              refine wpAnyH_take (i := 11) (oi := _) (v := ?v94) rfl (by kernel_rfl) (by kernel_rfl) (by kernel_rfl) (fun _ _ _ h => h) (Or.inl ⟨by rfl, ?hy94⟩) (by assumption) ?rest94
              case hy94 => ((intro w hSw; (try dsimp only at hSw); go_simp); try (with_reducible rfl))
              ((try dsimp only [List.getElem_toArray, List.getElem_cons_succ, List.getElem_cons_zero]); try simp only [Act.put, List.setIfInBounds_toArray, List.set_cons_zero, List.set_cons_succ])
              refine wpAnyH_ready (rs := [12]) (by kernel_rfl) (by simp) ?_
              refine AllReadyH.cons (o := _) rfl (fun K hK => ?_) ?_
              · go_simp
                refine hK.out _ _ ?_ (fun hHeld => ?_)
                · (try dsimp only); ((refine HK.out _ ?_; repeat (first | (with_reducible exact gr_rfl _) | (with_reducible refine gr_al ?_) | (with_reducible refine gr_dr ?_))))
                clear hK K
                try simp only [Act.put, List.setIfInBounds_toArray, List.set_cons_zero, List.set_cons_succ]
                refine wpAnyH_ready (rs := [13]) (by kernel_rfl) (by simp) ?_
                refine AllReadyH.cons (o := _) rfl (fun K hK => ?_) ?_
                · go_simp
                  refine hK.out _ _ ?_ (fun hHeld => ?_)
                  · (try dsimp only); ((refine HK.out _ ?_; repeat (first | (with_reducible exact gr_rfl _) | (with_reducible refine gr_al ?_) | (with_reducible refine gr_dr ?_))))
                  clear hK K
                  try simp only [Act.put, List.setIfInBounds_toArray, List.set_cons_zero, List.set_cons_succ]
                  refine wpAnyH_take (i := 14) (oi := _) (v := ?v97) rfl (by kernel_rfl) (by kernel_rfl) (by kernel_rfl) (fun _ _ _ h => h) (Or.inl ⟨by rfl, ?hy97⟩) (by assumption) ?rest97
                  case hy97 => ((intro w hSw; (try dsimp only at hSw); go_simp); try (with_reducible rfl))
                  ((try dsimp only [List.getElem_toArray, List.getElem_cons_succ, List.getElem_cons_zero]); try simp only [Act.put, List.setIfInBounds_toArray, List.set_cons_zero, List.set_cons_succ])
                  refine wpAnyH_done (by kernel_rfl) ?_ _
                  refine NoPanic.normal ?_
                  go_wp2_with fail
                  go_meet
                  refine ⟨_, rfl, Row.dr (Row.new_at (by simp)), RQ.kept ?_, gr_then G ?_⟩
                  all_goals (repeat (first | (with_reducible exact gr_rfl _) | (with_reducible refine gr_al ?_) | (with_reducible refine gr_dr ?_)))
                exact AllReadyH.nil
              exact AllReadyH.nil
            exact AllReadyH.nil
          refine AllReadyH.cons (o := _) rfl (fun K hK => ?_) ?_
          · go_simp
            ((with_reducible refine (HMB.out _).mono ?_); rintro e w2 ⟨rfl, rfl⟩)
            refine hK.out _ _ ?_ (fun hHeld => ?_)
            · (try dsimp only); ((refine HK.out _ ?_; repeat (first | (with_reducible exact gr_rfl _) | (with_reducible refine gr_al ?_) | (with_reducible refine gr_dr ?_))))
            clear hK K
            try simp only [Act.put, List.setIfInBounds_toArray, List.set_cons_zero, List.set_cons_succ]
            refine wpAnyH_take (i := 11) (oi := _) (v := ?v99) rfl (by kernel_rfl) (by kernel_rfl) (by kernel_rfl) (fun _ _ _ h => h) (Or.inl ⟨by rfl, ?hy99⟩) (by assumption) ?rest99
            case hy99 => ((intro w hSw; (try dsimp only at hSw); go_simp); try (with_reducible rfl))
            ((try dsimp only [List.getElem_toArray, List.getElem_cons_succ, List.getElem_cons_zero]); try simp only [Act.put, List.setIfInBounds_toArray, List.set_cons_zero, List.set_cons_succ])
            refine wpAnyH_ready (rs := [5, 12]) (by kernel_rfl) (by simp) ?_
            refine AllReadyH.cons (o := _) rfl (fun K hK => ?_) ?_
            · go_simp
              refine hK.out _ _ ?_ (fun hHeld => ?_)
              · (try dsimp only); ((refine HK.out _ ?_; repeat (first | (with_reducible exact gr_rfl _) | (with_reducible refine gr_al ?_) | (with_reducible refine gr_dr ?_))))
              clear hK K
              try simp only [Act.put, List.setIfInBounds_toArray, List.set_cons_zero, List.set_cons_succ]
              refine wpAnyH_ready (rs := [12]) (by kernel_rfl) (by simp) ?_
              refine AllReadyH.cons (o := _) rfl (fun K hK => ?_) ?_
              · go_simp
                refine hK.out _ _ ?_ (fun hHeld => ?_)
                · (try dsimp only); ((refine HK.out _ ?_; repeat (first | (with_reducible exact gr_rfl _) | (with_reducible refine gr_al ?_) | (with_reducible refine gr_dr ?_))))
                clear hK K
                try simp only [Act.put, List.setIfInBounds_toArray, List.set_cons_zero, List.set_cons_succ]
                refine wpAnyH_ready (rs := [13]) (by kernel_rfl) (by simp) ?_
                refine AllReadyH.cons (o := _) rfl (fun K hK => ?_) ?_
                · go_simp
                  refine hK.out _ _ ?_ (fun hHeld => ?_)
                  · (try dsimp only); ((refine HK.out _ ?_; repeat (first | (with_reducible exact gr_rfl _) | (with_reducible refine gr_al ?_) | (with_reducible refine gr_dr ?_))))
                  clear hK K
                  try simp only [Act.put, List.setIfInBounds_toArray, List.set_cons_zero, List.set_cons_succ]
                  refine wpAnyH_take (i := 14) (oi := _) (v := ?v103) rfl (by kernel_rfl) (by kernel_rfl) (by kernel_rfl) (fun _ _ _ h => h) (Or.inl ⟨by rfl, ?hy103⟩) (by assumption) ?rest103
                  case hy103 => ((intro w hSw; (try dsimp only at hSw); go_simp); try (with_reducible rfl))
                  ((try dsimp only [List.getElem_toArray, List.getElem_cons_succ, List.getElem_cons_zero]); try simp only [Act.put, List.setIfInBounds_toArray, List.set_cons_zero, List.set_cons_succ])
                  refine wpAnyH_done (by kernel_rfl) ?_ _
                  refine NoPanic.normal ?_
                  go_wp2_with fail
                  go_meet
                  refine ⟨_, rfl, Row.dr (Row.new_at (by simp)), RQ.kept ?_, gr_then G ?_⟩
                  all_goals (repeat (first | (with_reducible exact gr_rfl _) | (with_reducible refine gr_al ?_) | (with_reducible refine gr_dr ?_)))
                exact AllReadyH.nil
              exact AllReadyH.nil
            refine AllReadyH.cons (o := _) rfl (fun K hK => ?_) ?_
            · go_simp
              refine hK.out _ _ ?_ (fun hHeld => ?_)
              · (try dsimp only); ((refine HK.out _ ?_; repeat (first | (with_reducible exact gr_rfl _) | (with_reducible refine gr_al ?_) | (with_reducible refine gr_dr ?_))))
              clear hK K
              try simp only [Act.put, List.setIfInBounds_toArray, List.set_cons_zero, List.set_cons_succ]
              refine wpAnyH_ready (rs := [5]) (by kernel_rfl) (by simp) ?_
              refine AllReadyH.cons (o := _) rfl (fun K hK => ?_) ?_
              · go_simp
                refine hK.out _ _ ?_ (fun hHeld => ?_)
                · (try dsimp only); ((refine HK.out _ ?_; repeat (first | (with_reducible exact gr_rfl _) | (with_reducible refine gr_al ?_) | (with_reducible refine gr_dr ?_))))
                clear hK K
                try simp only [Act.put, List.setIfInBounds_toArray, List.set_cons_zero, List.set_cons_succ]
                refine wpAnyH_ready (rs := [13]) (by kernel_rfl) (by simp) ?_
                refine AllReadyH.cons (o := _) rfl (fun K hK => ?_) ?_
                · go_simp
                  refine hK.out _ _ ?_ (fun hHeld => ?_)
                  · (try dsimp only); ((refine HK.out _ ?_; repeat (first | (with_reducible exact gr_rfl _) | (with_reducible refine gr_al ?_) | (with_reducible refine gr_dr ?_))))
                  clear hK K
                  try simp only [Act.put, List.setIfInBounds_toArray, List.set_cons_zero, List.set_cons_succ]
                  refine wpAnyH_take (i := 14) (oi := _) (v := ?v107) rfl (by kernel_rfl) (by kernel_rfl) (by kernel_rfl) (fun _ _ _ h => h) (Or.inl ⟨by rfl, ?hy107⟩) (by assumption) ?rest107
                  case hy107 => ((intro w hSw; (try dsimp only at hSw); go_simp); try (with_reducible rfl))
                  ((try dsimp only [List.getElem_toArray, List.getElem_cons_succ, List.getElem_cons_zero]); try simp only [Act.put, List.setIfInBounds_toArray, List.set_cons_zero, List.set_cons_succ])
                  refine wpAnyH_done (by kernel_rfl) ?_ _
                  refine NoPanic.normal ?_
                  go_wp2_with fail
                  go_meet
                  refine ⟨_, rfl, Row.dr (Row.new_at (by simp)), RQ.kept ?_, gr_then G ?_⟩
                  all_goals (repeat (first | (with_reducible exact gr_rfl _) | (with_reducible refine gr_al ?_) | (with_reducible refine gr_dr ?_)))
                exact AllReadyH.nil
              exact AllReadyH.nil
            exact AllReadyH.nil
          exact AllReadyH.nil
        refine AllReadyH.cons (o := _) rfl (fun K hK => ?_) ?_
        · go_simp
          ((with_reducible refine (HMB.out _).mono ?_); rintro e w2 ⟨rfl, rfl⟩)
          refine hK.out _ _ ?_ (fun hHeld => ?_)
          · (try dsimp only); ((refine HK.out _ ?_; repeat (first | (with_reducible exact gr_rfl _) | (with_reducible refine gr_al ?_) | (with_reducible refine gr_dr ?_))))
          clear hK K
          try simp only [Act.put, List.setIfInBounds_toArray, List.set_cons_zero, List.set_cons_succ]
          refine wpAnyH_ready (rs := [5, 6]) (by kernel_rfl) (by simp) ?_
          refine AllReadyH.cons (o := _) rfl (fun K hK => ?_) ?_
          · go_simp
            refine hK.out _ _ ?_ (fun hHeld => ?_)
            · (try dsimp only); ((refine HK.out _ ?_; repeat (first | (with_reducible exact gr_rfl _) | (with_reducible refine gr_al ?_) | (with_reducible refine gr_dr ?_))))
            clear hK K
            try simp only [Act.put, List.setIfInBounds_toArray, List.set_cons_zero, List.set_cons_succ]
            refine wpAnyH_ready (rs := [6]) (by kernel_rfl) (by simp) ?_
            refine AllReadyH.cons (o := _) rfl (fun K hK => ?_) ?_
            · go_simp
              refine hK.out _ _ ?_ (fun hHeld => ?_)
              · (try dsimp only); ((refine HK.out _ ?_; repeat (first | (with_reducible exact gr_rfl _) | (with_reducible refine gr_al ?_) | (with_reducible refine gr_dr ?_))))
              clear hK K
              try simp only [Act.put, List.setIfInBounds_toArray, List.set_cons_zero, List.set_cons_succ]
              refine wpAnyH_take (i := 11) (oi := _) (v := ?v111) rfl (by kernel_rfl) (by kernel_rfl) (by kernel_rfl) (fun _ _ _ h => h) (Or.inl ⟨by rfl, ?hy111⟩) (by assumption) ?rest111
              case hy111 => ((intro w hSw; (try dsimp only at hSw); go_simp); try (with_reducible rfl))
              ((try dsimp only [List.getElem_toArray, List.getElem_cons_succ, List.getElem_cons_zero]); try simp only [Act.put, List.setIfInBounds_toArray, List.set_cons_zero, List.set_cons_succ])
              refine wpAnyH_ready (rs := [12]) (by kernel_rfl) (by simp) ?_
              refine AllReadyH.cons (o := _) rfl (fun K hK => ?_) ?_
              · go_simp
                refine hK.out _ _ ?_ (fun hHeld => ?_)
                · (try dsimp only); ((refine HK.out _ ?_; repeat (first | (with_reducible exact gr_rfl _) | (with_reducible refine gr_al ?_) | (with_reducible refine gr_dr ?_))))
                clear hK K
                try simp only [Act.put, List.setIfInBounds_toArray, List.set_cons_zero, List.set_cons_succ]
                refine wpAnyH_ready (rs := [13]) (by kernel_rfl) (by simp) ?_
                refine AllReadyH.cons (o := _) rfl (fun K hK => ?_) ?_
                · go_simp
                  refine hK.out _ _ ?_ (fun hHeld => ?_)
                  · (try dsimp only); ((refine HK.out _ ?_; repeat (first | (with_reducible exact gr_rfl _) | (with_reducible refine gr_al ?_) | (with_reducible refine gr_dr ?_))))
                  clear hK K
                  try simp only [Act.put, List.setIfInBounds_toArray, List.set_cons_zero, List.set_cons_succ]
                  refine wpAnyH_take (i := 14) (oi := _) (v := ?v114) rfl (by kernel_rfl) (by kernel_rfl) (by kernel_rfl) (fun _ _ _ h => h) (Or.inl ⟨by rfl, ?hy114⟩) (by assumption) ?rest114
                  case hy114 => ((intro w hSw; (try dsimp only at hSw); go_simp); try (with_reducible rfl))
                  ((try dsimp only [List.getElem_toArray, List.getElem_cons_succ, List.getElem_cons_zero]); try simp only [Act.put, List.setIfInBounds_toArray, List.set_cons_zero, List.set_cons_succ])
                  refine wpAnyH_done (by kernel_rfl) ?_ _
                  refine NoPanic.normal ?_
                  go_wp2_with fail
                  go_meet
                  refine ⟨_, rfl, Row.dr (Row.new_at (by simp)), RQ.kept ?_, gr_then G ?_⟩
                  all_goals (repeat (first | (with_reducible exact gr_rfl _) | (with_reducible refine gr_al ?_) | (with_reducible refine gr_dr ?_)))
                exact AllReadyH.nil
              exact AllReadyH.nil
            exact AllReadyH.nil
          refine AllReadyH.cons (o := _) rfl (fun K hK => ?_) ?_
          · go_simp
            refine hK.out _ _ ?_ (fun hHeld => ?_)
            · (try dsimp only); ((refine HK.out _ ?_; repeat (first | (with_reducible exact gr_rfl _) | (with_reducible refine gr_al ?_) | (with_reducible refine gr_dr ?_))))
            clear hK K
            try simp only [Act.put, List.setIfInBounds_toArray, List.set_cons_zero, List.set_cons_succ]
            refine wpAnyH_take (i := 11) (oi := _) (v := ?v116) rfl (by kernel_rfl) (by kernel_rfl) (by kernel_rfl) (fun _ _ _ h => h) (Or.inl ⟨by rfl, ?hy116⟩) (by assumption) ?rest116
            case hy116 => ((intro w hSw; (try dsimp only at hSw); go_simp); try (with_reducible rfl))
            ((try dsimp only [List.getElem_toArray, List.getElem_cons_succ, List.getElem_cons_zero]); try simp only [Act.put, List.setIfInBounds_toArray, List.set_cons_zero, List.set_cons_succ])
            refine wpAnyH_ready (rs := [5, 12]) (by kernel_rfl) (by simp) ?_
            refine AllReadyH.cons (o := _) rfl (fun K hK => ?_) ?_
            · go_simp
              refine hK.out _ _ ?_ (fun hHeld => ?_)
              · (try dsimp only); ((refine HK.out _ ?_; repeat (first | (with_reducible exact gr_rfl _) | (with_reducible refine gr_al ?_) | (with_reducible refine gr_dr ?_))))
              clear hK K
              try simp only [Act.put, List.setIfInBounds_toArray, List.set_cons_zero, List.set_cons_succ]
              refine wpAnyH_ready (rs := [12]) (by kernel_rfl) (by simp) ?_
              refine AllReadyH.cons (o := _) rfl (fun K hK => ?_) ?_
              · go_simp
                refine hK.out _ _ ?_ (fun hHeld => ?_)
                · (try dsimp only); ((refine HK.out _ ?_; repeat (first | (with_reducible exact gr_rfl _) | (with_reducible refine gr_al ?_) | (with_reducible refine gr_dr ?_))))
                clear hK K
                try simp only [Act.put, List.setIfInBounds_toArray, List.set_cons_zero, List.set_cons_succ]
                refine wpAnyH_ready (rs := [13]) (by kernel_rfl) (by simp) ?_
                refine AllReadyH.cons (o := _) rfl (fun K hK => ?_) ?_
                · go_simp
                  refine hK.out _ _ ?_ (fun hHeld => ?_)
                  · (try dsimp only); ((refine HK.out _ ?_; repeat (first | (with_reducible exact gr_rfl _) | (with_reducible refine gr_al ?_) | (with_reducible refine gr_dr ?_))))
                  clear hK K
                  try simp only [Act.put, List.setIfInBounds_toArray, List.set_cons_zero, List.set_cons_succ]
                  refine wpAnyH_take (i := 14) (oi := _) (v := ?v120) rfl (by kernel_rfl) (by kernel_rfl) (by kernel_rfl) (fun _ _ _ h => h) (Or.inl ⟨by rfl, ?hy120⟩) (by assumption) ?rest120
                  case hy120 => ((intro w hSw; (try dsimp only at hSw); go_simp); try (with_reducible rfl))
                  ((try dsimp only [List.getElem_toArray, List.getElem_cons_succ, List.getElem_cons_zero]); try simp only [Act.put, List.setIfInBounds_toArray, List.set_cons_zero, List.set_cons_succ])
                  refine wpAnyH_done (by kernel_rfl) ?_ _
                  refine NoPanic.normal ?_
                  go_wp2_with fail
                  go_meet
                  refine ⟨_, rfl, Row.dr (Row.new_at (by simp)), RQ.kept ?_, gr_then G ?_⟩
                  all_goals (repeat (first | (with_reducible exact gr_rfl _) | (with_reducible refine gr_al ?_) | (with_reducible refine gr_dr ?_)))
                exact AllReadyH.nil
              exact AllReadyH.nil
            refine AllReadyH.cons (o := _) rfl (fun K hK => ?_) ?_
            · go_simp
              refine hK.out _ _ ?_ (fun hHeld => ?_)
              · (try dsimp only); ((refine HK.out _ ?_; repeat (first | (with_reducible exact gr_rfl _) | (with_reducible refine gr_al ?_) | (with_reducible refine gr_dr ?_))))
              clear hK K
              try simp only [Act.put, List.setIfInBounds_toArray, List.set_cons_zero, List.set_cons_succ]
              refine wpAnyH_ready (rs := [5]) (by kernel_rfl) (by simp) ?_
              refine AllReadyH.cons (o := _) rfl (fun K hK => ?_) ?_
              · go_simp
                refine hK.out _ _ ?_ (fun hHeld => ?_)
                · (try dsimp only); ((refine HK.out _ ?_; repeat (first | (with_reducible exact gr_rfl _) | (with_reducible refine gr_al ?_) | (with_reducible refine gr_dr ?_))))
                clear hK K
                try simp only [Act.put, List.setIfInBounds_toArray, List.set_cons_zero, List.set_cons_succ]
                refine wpAnyH_ready (rs := [13]) (by kernel_rfl) (by simp) ?_
                refine AllReadyH.cons (o := _) rfl (fun K hK => ?_) ?_
                · go_simp
                  refine hK.out _ _ ?_ (fun hHeld => ?_)
                  · (try dsimp only); ((refine HK.out _ ?_; repeat (first | (with_reducible exact gr_rfl _) | (with_reducible refine gr_al ?_) | (with_reducible refine gr_dr ?_))))
                  clear hK K
                  try simp only [Act.put, List.setIfInBounds_toArray, List.set_cons_zero, List.set_cons_succ]
                  refine wpAnyH_take (i := 14) (oi := _) (v := ?v124) rfl (by kernel_rfl) (by kernel_rfl) (by kernel_rfl) (fun _ _ _ h => h) (Or.inl ⟨by rfl, ?hy124⟩) (by assumption) ?rest124
                  case hy124 => ((intro w hSw; (try dsimp only at hSw); go_simp); try (with_reducible rfl))
                  ((try dsimp only [List.getElem_toArray, List.getElem_cons_succ, List.getElem_cons_zero]); try simp only [Act.put, List.setIfInBounds_toArray, List.set_cons_zero, List.set_cons_succ])
                  refine wpAnyH_done (by kernel_rfl) ?_ _
                  refine NoPanic.normal ?_
                  go_wp2_with fail
                  go_meet
                  refine ⟨_, rfl, Row.dr (Row.new_at (by simp)), RQ.kept ?_, gr_then G ?_⟩
                  all_goals (repeat (first | (with_reducible exact gr_rfl _) | (with_reducible refine gr_al ?_) | (with_reducible refine gr_dr ?_)))
                exact AllReadyH.nil
              exact AllReadyH.nil
            exact AllReadyH.nil
          exact AllReadyH.nil
        exact AllReadyH.nil
      refine AllReadyH.cons (o := _) rfl (fun K hK => ?_) ?_
      · go_simp
        refine hK.out _ _ ?_ (fun hHeld => ?_)
        · (try dsimp only); ((refine HK.out _ ?_; repeat (first | (with_reducible exact gr_rfl _) | (with_reducible refine gr_al ?_) | (with_reducible refine gr_dr ?_))))
        clear hK K
        try simp only [Act.put, List.setIfInBounds_toArray, List.set_cons_zero, List.set_cons_succ]
        refine wpAnyH_ready (rs := [0, 10]) (by kernel_rfl) (by simp) ?_
        refine AllReadyH.cons (o := _) rfl (fun K hK => ?_) ?_
        · go_simp
          refine hK.out _ _ ?_ (fun hHeld => ?_)
          · (try dsimp only); ((refine HK.out _ ?_; repeat (first | (with_reducible exact gr_rfl _) | (with_reducible refine gr_al ?_) | (with_reducible refine gr_dr ?_))))
          clear hK K
          try simp only [Act.put, List.setIfInBounds_toArray, List.set_cons_zero, List.set_cons_succ]
          refine wpAnyH_take (i := 4) (oi := _) (v := ?v127) rfl (by kernel_rfl) (by kernel_rfl) (by kernel_rfl) (fun _ _ _ h => h) (Or.inl ⟨by rfl, ?hy127⟩) (by assumption) ?rest127
          case hy127 => ((intro w hSw; (try dsimp only at hSw); go_simp); try (with_reducible rfl))
          ((try dsimp only [List.getElem_toArray, List.getElem_cons_succ, List.getElem_cons_zero]); try simp only [Act.put, List.setIfInBounds_toArray, List.set_cons_zero, List.set_cons_succ])
          refine wpAnyH_ready (rs := [5, 10]) (by kernel_rfl) (by simp) ?_
          refine AllReadyH.cons (o := _) rfl (fun K hK => ?_) ?_
          · go_simp
            refine hK.out _ _ ?_ (fun hHeld => ?_)
            · (try dsimp only); ((refine HK.out _ ?_; repeat (first | (with_reducible exact gr_rfl _) | (with_reducible refine gr_al ?_) | (with_reducible refine gr_dr ?_))))
            clear hK K
            try simp only [Act.put, List.setIfInBounds_toArray, List.set_cons_zero, List.set_cons_succ]
            refine wpAnyH_ready (rs := [10]) (by kernel_rfl) (by simp) ?_
            refine AllReadyH.cons (o := _) rfl (fun K hK => ?_) ?_
            · go_simp
              ((with_reducible refine (HMB.out _).mono ?_); rintro e w2 ⟨rfl, rfl⟩)
              refine hK.out _ _ ?_ (fun hHeld => ?_)
              · (try dsimp only); ((refine HK.out _ ?_; repeat (first | (with_reducible exact gr_rfl _) | (with_reducible refine gr_al ?_) | (with_reducible refine gr_dr ?_))))
              clear hK K
              try simp only [Act.put, List.setIfInBounds_toArray, List.set_cons_zero, List.set_cons_succ]
              refine wpAnyH_take (i := 11) (oi := _) (v := ?v130) rfl (by kernel_rfl) (by kernel_rfl) (by kernel_rfl) (fun _ _ _ h => h) (Or.inl ⟨by rfl, ?hy130⟩) (by assumption) ?rest130
              case hy130 => ((intro w hSw; (try dsimp only at hSw); go_simp); try (with_reducible rfl))
              ((try dsimp only [List.getElem_toArray, List.getElem_cons_succ, List.getElem_cons_zero]); try simp only [Act.put, List.setIfInBounds_toArray, List.set_cons_zero, List.set_cons_succ])
              refine wpAnyH_ready (rs := [12]) (by kernel_rfl) (by simp) ?_
              refine AllReadyH.cons (o := _) rfl (fun K hK => ?_) ?_
              · go_simp
                refine hK.out _ _ ?_ (fun hHeld => ?_)
                · (try dsimp only); ((refine HK.out _ ?_; repeat (first | (with_reducible exact gr_rfl _) | (with_reducible refine gr_al ?_) | (with_reducible refine gr_dr ?_))))
                clear hK K
                try simp only [Act.put, List.setIfInBounds_toArray, List.set_cons_zero, List.set_cons_succ]
                refine wpAnyH_ready (rs := [13]) (by kernel_rfl) (by simp) ?_
                refine AllReadyH.cons (o := _) rfl (fun K hK => ?_) ?_
                · go_simp
                  refine hK.out _ _ ?_ (fun hHeld => ?_)
                  · (try dsimp only); ((refine HK.out _ ?_; repeat (first | (with_reducible exact gr_rfl _) | (with_reducible refine gr_al ?_) | (with_reducible refine gr_dr ?_))))
                  clear hK K
                  try simp only [Act.put, List.setIfInBounds_toArray, List.set_cons_zero, List.set_cons_succ]
                  refine wpAnyH_take (i := 14) (oi := _) (v := ?v133) rfl (by kernel_rfl) (by kernel_rfl) (by kernel_rfl) (fun _ _ _ h => h) (Or.inl ⟨by rfl, ?hy133⟩) (by assumption) ?rest133
                  case hy133 => ((intro w hSw; (try dsimp only at hSw); go_simp); try (with_reducible rfl))
                  ((try dsimp only [List.getElem_toArray, List.getElem_cons_succ, List.getElem_cons_zero]); try simp only [Act.put, List.setIfInBounds_toArray, List.set_cons_zero, List.set_cons_succ])
                  refine wpAnyH_done (by kernel_rfl) ?_ _
                  refine NoPanic.normal ?_
                  go_wp2_with fail
                  go_meet
                  refine ⟨_, rfl, Row.dr (Row.new_at (by simp)), RQ.kept ?_, gr_then G ?_⟩
                  all_goals (repeat (first | (with_reducible exact gr_rfl _) | (with_reducible refine gr_al ?_) | (with_reducible refine gr_dr ?_)))
                exact AllReadyH.nil
              exact AllReadyH.nil
            exact AllReadyH.nil
          refine AllReadyH.cons (o := _) rfl (fun K hK => ?_) ?_
          · go_simp
            ((with_reducible refine (HMB.out _).mono ?_); rintro e w2 ⟨rfl, rfl⟩)
            refine hK.out _ _ ?_ (fun hHeld => ?_)
            · (try dsimp only); ((refine HK.out _ ?_; repeat (first | (with_reducible exact gr_rfl _) | (with_reducible refine gr_al ?_) | (with_reducible refine gr_dr ?_))))
            clear hK K
            try simp only [Act.put, List.setIfInBounds_toArray, List.set_cons_zero, List.set_cons_succ]
            refine wpAnyH_take (i := 11) (oi := _) (v := ?v135) rfl (by kernel_rfl) (by kernel_rfl) (by kernel_rfl) (fun _ _ _ h => h) (Or.inl ⟨by rfl, ?hy135⟩) (by assumption) ?rest135
            case hy135 => ((intro w hSw; (try dsimp only at hSw); go_simp); try (with_reducible rfl))
            ((try dsimp only [List.getElem_toArray, List.getElem_cons_succ, List.getElem_cons_zero]); try simp only [Act.put, List.setIfInBounds_toArray, List.set_cons_zero, List.set_cons_succ])
            refine wpAnyH_ready (rs := [5, 12]) (by kernel_rfl) (by simp) ?_
            refine AllReadyH.cons (o := _) rfl (fun K hK => ?_) ?_
            · go_simp
              refine hK.out _ _ ?_ (fun hHeld => ?_)
              · (try dsimp only); ((refine HK.out _ ?_; repeat (first | (with_reducible exact gr_rfl _) | (with_reducible refine gr_al ?_) | (with_reducible refine gr_dr ?_))))
              clear hK K
              try simp only [Act.put, List.setIfInBounds_toArray, List.set_cons_zero, List.set_cons_succ]
              refine wpAnyH_ready (rs := [12]) (by kernel_rfl) (by simp) ?_
              refine AllReadyH.cons (o := _) rfl (fun K hK => ?_) ?_
              · go_simp
                refine hK.out _ _ ?_ (fun hHeld => ?_)
                · (try dsimp only); ((refine HK.out _ ?_; repeat (first | (with_reducible exact gr_rfl _) | (with_reducible refine gr_al ?_) | (with_reducible refine gr_dr ?_))))
                clear hK K
                try simp only [Act.put, List.setIfInBounds_toArray, List.set_cons_zero, List.set_cons_succ]
                refine wpAnyH_ready (rs := [13]) (by kernel_rfl) (by simp) ?_
                refine AllReadyH.cons (o := _) rfl (fun K hK => ?_) ?_
                · go_simp
                  refine hK.out _ _ ?_ (fun hHeld => ?_)
                  · (try dsimp only); ((refine HK.out _ ?_; repeat (first | (with_reducible exact gr_rfl _) | (with_reducible refine gr_al ?_) | (with_reducible refine gr_dr ?_))))
                  clear hK K
                  try simp only [Act.put, List.setIfInBounds_toArray, List.set_cons_zero, List.set_cons_succ]
                  refine wpAnyH_take (i := 14) (oi := _) (v := ?v139) rfl (by kernel_rfl) (by kernel_rfl) (by kernel_rfl) (fun _ _ _ h => h) (Or.inl ⟨by rfl, ?hy139⟩) (by assumption) ?rest139
                  case hy139 => ((intro w hSw; (try dsimp only at hSw); go_simp); try (with_reducible rfl))
                  ((try dsimp only [List.getElem_toArray, List.getElem_cons_succ, List.getElem_cons_zero]); try simp only [Act.put, List.setIfInBounds_toArray, List.set_cons_zero, List.set_cons_succ])
                  refine wpAnyH_done (by kernel_rfl) ?_ _
                  refine NoPanic.normal ?_
                  go_wp2_with fail
                  go_meet
                  refine ⟨_, rfl, Row.dr (Row.new_at (by simp)), RQ.kept ?_, gr_then G ?_⟩
                  all_goals (repeat (first | (with_reducible exact gr_rfl _) | (with_reducible refine gr_al ?_) | (with_reducible refine gr_dr ?_)))
                exact AllReadyH.nil
              exact AllReadyH.nil
            refine AllReadyH.cons (o := _) rfl (fun K hK => ?_) ?_
            · go_simp
              refine hK.out _ _ ?_ (fun hHeld => ?_)
              · (try dsimp only); ((refine HK.out _ ?_; repeat (first | (with_reducible exact gr_rfl _) | (with_reducible refine gr_al ?_) | (with_reducible refine gr_dr ?_))))
              clear hK K
              try simp only [Act.put, List.setIfInBounds_toArray, List.set_cons_zero, List.set_cons_succ]
              refine wpAnyH_ready (rs := [5]) (by kernel_rfl) (by simp) ?_
              refine AllReadyH.cons (o := _) rfl (fun K hK => ?_) ?_
              · go_simp
                refine hK.out _ _ ?_ (fun hHeld => ?_)
                · (try dsimp only); ((refine HK.out _ ?_; repeat (first | (with_reducible exact gr_rfl _) | (with_reducible refine gr_al ?_) | (with_reducible refine gr_dr ?_))))
                clear hK K
                try simp only [Act.put, List.setIfInBounds_toArray, List.set_cons_zero, List.set_cons_succ]
                refine wpAnyH_ready (rs := [13]) (by kernel_rfl) (by simp) ?_
                refine AllReadyH.cons (o := _) rfl (fun K hK => ?_) ?_
                · go_simp
                  refine hK.out _ _ ?_ (fun hHeld => ?_)
                  · (try dsimp only); ((refine HK.out _ ?_; repeat (first | (with_reducible exact gr_rfl _) | (with_reducible refine gr_al ?_) | (with_reducible refine gr_dr ?_))))
                  clear hK K
                  try simp only [Act.put, List.setIfInBounds_toArray, List.set_cons_zero, List.set_cons_succ]
                  refine wpAnyH_take (i := 14) (oi := _) (v := ?v143) rfl (by kernel_rfl) (by kernel_rfl) (by kernel_rfl) (fun _ _ _ h => h) (Or.inl ⟨by rfl, ?hy143⟩) (by assumption) ?rest143
                  case hy143 => ((intro w hSw; (try dsimp only at hSw); go_simp); try (with_reducible rfl))
                  ((try dsimp only [List.getElem_toArray, List.getElem_cons_succ, List.getElem_cons_zero]); try simp only [Act.put, List.setIfInBounds_toArray, List.set_cons_zero, List.set_cons_succ])
                  refine wpAnyH_done (by kernel_rfl) ?_ _
                  refine NoPanic.normal ?_
                  go_wp2_with fail
                  go_meet
                  refine ⟨_, rfl, Row.dr (Row.new_at (by simp)), RQ.kept ?_, gr_then G ?_⟩
                  all_goals (repeat (first | (with_reducible exact gr_rfl _) | (with_reducible refine gr_al ?_) | (with_reducible refine gr_dr ?_)))
                exact AllReadyH.nil
              exact AllReadyH.nil
            exact AllReadyH.nil
          exact AllReadyH.nil
        refine AllReadyH.cons (o := _) rfl (fun K hK => ?_) ?_
        · go_simp
          ((with_reducible refine (HMB.out _).mono ?_); rintro e w2 ⟨rfl, rfl⟩)
          refine hK.out _ _ ?_ (fun hHeld => ?_)
          · (try dsimp only); ((refine HK.out _ ?_; repeat (first | (with_reducible exact gr_rfl _) | (with_reducible refine gr_al ?_) | (with_reducible refine gr_dr ?_))))
          clear hK K
          try simp only [Act.put, List.setIfInBounds_toArray, List.set_cons_zero, List.set_cons_succ]
          refine wpAnyH_take (i := 11) (oi := _) (v := ?v145) rfl (by kernel_rfl) (by kernel_rfl) (by kernel_rfl) (fun _ _ _ h => h) (Or.inl ⟨by rfl, ?hy145⟩) (by assumption) ?rest145
          case hy145 => ((intro w hSw; (try dsimp only at hSw); go_simp); try (with_reducible rfl))
          ((try dsimp only [List.getElem_toArray, List.getElem_cons_succ, List.getElem_cons_zero]); try simp only [Act.put, List.setIfInBounds_toArray, List.set_cons_zero, List.set_cons_succ])
          refine wpAnyH_ready (rs := [0, 12]) (by kernel_rfl) (by simp) ?_
          refine AllReadyH.cons (o := _) rfl (fun K hK => ?_) ?_
          · go_simp
            refine hK.out _ _ ?_ (fun hHeld => ?_)
            · (try dsimp only); ((refine HK.out _ ?_; repeat (first | (with_reducible exact gr_rfl _) | (with_reducible refine gr_al ?_) | (with_reducible refine gr_dr ?_))))
            clear hK K
            try simp only [Act.put, List.setIfInBounds_toArray, List.set_cons_zero, List.set_cons_succ]
            refine wpAnyH_take (i := 4) (oi := _) (v := ?v147) rfl (by kernel_rfl) (by kernel_rfl) (by kernel_rfl) (fun _ _ _ h => h) (Or.inl ⟨by rfl, ?hy147⟩) (by assumption) ?rest147
            case hy147 => ((intro w hSw; (try dsimp only at hSw); go_simp); try (with_reducible rfl))
            ((try dsimp only [List.getElem_toArray, List.getElem_cons_succ, List.getElem_cons_zero]); try simp only [Act.put, List.setIfInBounds_toArray, List.set_cons_zero, List.set_cons_succ])
            refine wpAnyH_ready (rs := [5, 12]) (by kernel_rfl) (by simp) ?_
            refine AllReadyH.cons (o := _) rfl (fun K hK => ?_) ?_
            · go_simp
              refine hK.out _ _ ?_ (fun hHeld => ?_)
              · (try dsimp only); ((refine HK.out _ ?_; repeat (first | (with_reducible exact gr_rfl _) | (with_reducible refine gr_al ?_) | (with_reducible refine gr_dr ?_))))
              clear hK K
              try simp only [Act.put, List.setIfInBounds_toArray, List.set_cons_zero, List.set_cons_succ]
              refine wpAnyH_ready (rs := [12]) (by kernel_rfl) (by simp) ?_
              refine AllReadyH.cons (o := _) rfl (fun K hK => ?_) ?_
              · go_simp
                refine hK.out _ _ ?_ (fun hHeld => ?_)
                · (try dsimp only); ((refine HK.out _ ?_; repeat (first | (with_reducible exact gr_rfl _) | (with_reducible refine gr_al ?_) | (with_reducible refine gr_dr ?_))))
                clear hK K
                try simp only [Act.put, List.setIfInBounds_toArray, List.set_cons_zero, List.set_cons_succ]
                refine wpAnyH_ready (rs := [13]) (by kernel_rfl) (by simp) ?_
                refine AllReadyH.cons (o := _) rfl (fun K hK => ?_) ?_
                · go_simp
                  refine hK.out _ _ ?_ (fun hHeld => ?_)
                  · (try dsimp only); ((refine HK.out _ ?_; repeat (first | (with_reducible exact gr_rfl _) | (with_reducible refine gr_al ?_) | (with_reducible refine gr_dr ?_))))
                  clear hK K
                  try simp only [Act.put, List.setIfInBounds_toArray, List.set_cons_zero, List.set_cons_succ]
                  refine wpAnyH_take (i := 14) (oi := _) (v := ?v151) rfl (by kernel_rfl) (by kernel_rfl) (by kernel_rfl) (fun _ _ _ h => h) (Or.inl ⟨by rfl, ?hy151⟩) (by assumption) ?rest151
                  case hy151 => ((intro w hSw; (try dsimp only at hSw); go_simp); try (with_reducible rfl))
                  ((try dsimp only [List.getElem_toArray, List.getElem_cons_succ, List.getElem_cons_zero]); try simp only [Act.put, List.setIfInBounds_toArray, List.set_cons_zero, List.set_cons_succ])
                  refine wpAnyH_done (by kernel_rfl) ?_ _
                  refine NoPanic.normal ?_
                  go_wp2_with fail
                  go_meet
                  refine ⟨_, rfl, Row.dr (Row.new_at (by simp)), RQ.kept ?_, gr_then G ?_⟩
                  all_goals (repeat (first | (with_reducible exact gr_rfl _) | (with_reducible refine gr_al ?_) | (with_reducible refine gr_dr ?_)))
                exact AllReadyH.nil
              exact AllReadyH.nil
            refine AllReadyH.cons (o := _) rfl (fun K hK => ?_) ?_
            · go_simp
              refine hK.out _ _ ?_ (fun hHeld => ?_)
              · (try dsimp only); ((refine HK.out _ ?_; repeat (first | (with_reducible exact gr_rfl _) | (with_reducible refine gr_al ?_) | (with_reducible refine gr_dr ?_))))
              clear hK K
              try simp only [Act.put, List.setIfInBounds_toArray, List.set_cons_zero, List.set_cons_succ]
              refine wpAnyH_ready (rs := [5]) (by kernel_rfl) (by simp) ?_
              refine AllReadyH.cons (o := _) rfl (fun K hK => ?_) ?_
              · go_simp
                refine hK.out _ _ ?_ (fun hHeld => ?_)
                · (try dsimp only); ((refine HK.out _ ?_; repeat (first | (with_reducible exact gr_rfl _) | (with_reducible refine gr_al ?_) | (with_reducible refine gr_dr ?_))))
                clear hK K
                try simp only [Act.put, List.setIfInBounds_toArray, List.set_cons_zero, List.set_cons_succ]
                refine wpAnyH_ready (rs := [13]) (by kernel_rfl) (by simp) ?_
                refine AllReadyH.cons (o := _) rfl (fun K hK => ?_) ?_
                · go_simp
                  refine hK.out _ _ ?_ (fun hHeld => ?_)
                  · (try dsimp only); ((refine HK.out _ ?_; repeat (first | (with_reducible exact gr_rfl _) | (with_reducible refine gr_al ?_) | (with_reducible refine gr_dr ?_))))
                  clear hK K
                  try simp only [Act.put, List.setIfInBounds_toArray, List.set_cons_zero, List.set_cons_succ]
                  refine wpAnyH_take (i := 14) (oi := _) (v := ?v155) rfl (by kernel_rfl) (by kernel_rfl) (by kernel_rfl) (fun _ _ _ h => h) (Or.inl ⟨by rfl, ?hy155⟩) (by assumption) ?rest155
                  case hy155 => ((intro w hSw; (try dsimp only at hSw); go_simp); try (with_reducible rfl))
                  ((try dsimp only [List.getElem_toArray, List.getElem_cons_succ, List.getElem_cons_zero]); try simp only [Act.put, List.setIfInBounds_toArray, List.set_cons_zero, List.set_cons_succ])
                  refine wpAnyH_done (by kernel_rfl) ?_ _
                  refine NoPanic.normal ?_
                  go_wp2_with fail
                  go_meet
                  refine ⟨_, rfl, Row.dr (Row.new_at (by simp)), RQ.kept ?_, gr_then G ?_⟩
                  all_goals (repeat (first | (with_reducible exact gr_rfl _) | (with_reducible refine gr_al ?_) | (with_reducible refine gr_dr ?_)))
                exact AllReadyH.nil
              exact AllReadyH.nil
            exact AllReadyH.nil
          refine AllReadyH.cons (o := _) rfl (fun K hK => ?_) ?_
          · go_simp
            refine hK.out _ _ ?_ (fun hHeld => ?_)
            · (try dsimp only); ((refine HK.out _ ?_; repeat (first | (with_reducible exact gr_rfl _) | (with_reducible refine gr_al ?_) | (with_reducible refine gr_dr ?_))))
            clear hK K
            try simp only [Act.put, List.setIfInBounds_toArray, List.set_cons_zero, List.set_cons_succ]
            refine wpAnyH_ready (rs := [0]) (by kernel_rfl) (by simp) ?_
            refine AllReadyH.cons (o := _) rfl (fun K hK => ?_) ?_
            · go_simp
              refine hK.out _ _ ?_ (fun hHeld => ?_)
              · (try dsimp only); ((refine HK.out _ ?_; repeat (first | (with_reducible exact gr_rfl _) | (with_reducible refine gr_al ?_) | (with_reducible refine gr_dr ?_))))
              clear hK K
              try simp only [Act.put, List.setIfInBounds_toArray, List.set_cons_zero, List.set_cons_succ]
              refine wpAnyH_take (i := 4) (oi := _) (v := ?v158) rfl (by kernel_rfl) (by kernel_rfl) (by kernel_rfl) (fun _ _ _ h => h) (Or.inl ⟨by rfl, ?hy158⟩) (by assumption) ?rest158
              case hy158 => ((intro w hSw; (try dsimp only at hSw); go_simp); try (with_reducible rfl))
              ((try dsimp only [List.getElem_toArray, List.getElem_cons_succ, List.getElem_cons_zero]); try simp only [Act.put, List.setIfInBounds_toArray, List.set_cons_zero, List.set_cons_succ])
              refine wpAnyH_ready (rs := [5]) (by kernel_rfl) (by simp) ?_
              refine AllReadyH.cons (o := _) rfl (fun K hK => ?_) ?_
              · go_simp
                refine hK.out _ _ ?_ (fun hHeld => ?_)
                · (try dsimp only); ((refine HK.out _ ?_; repeat (first | (with_reducible exact gr_rfl _) | (with_reducible refine gr_al ?_) | (with_reducible refine gr_dr ?_))))
                clear hK K
                try simp only [Act.put, List.setIfInBounds_toArray, List.set_cons_zero, List.set_cons_succ]
                refine wpAnyH_ready (rs := [13]) (by kernel_rfl) (by simp) ?_
                refine AllReadyH.cons (o := _) rfl (fun K hK => ?_) ?_
                · go_simp
                  refine hK.out _ _ ?_ (fun hHeld => ?_)
                  · (try dsimp only); ((refine HK.out _ ?_; repeat (first | (with_reducible exact gr_rfl _) | (with_reducible refine gr_al ?_) | (with_reducible refine gr_dr ?_))))
                  clear hK K
                  try simp only [Act.put, List.setIfInBounds_toArray, List.set_cons_zero, List.set_cons_succ]
                  refine wpAnyH_take (i := 14) (oi := _) (v := ?v161) rfl (by kernel_rfl) (by kernel_rfl) (by kernel_rfl) (fun _ _ _ h => h) (Or.inl ⟨by rfl, ?hy161⟩) (by assumption) ?rest161
                  case hy161 => ((intro w hSw; (try dsimp only at hSw); go_simp); try (with_reducible rfl))
                  ((try dsimp only [List.getElem_toArray, List.getElem_cons_succ, List.getElem_cons_zero]); try simp only [Act.put, List.setIfInBounds_toArray, List.set_cons_zero, List.set_cons_succ])
                  refine wpAnyH_done (by kernel_rfl) ?_ _
                  refine NoPanic.normal ?_
                  go_wp2_with fail
                  go_meet
                  refine ⟨_, rfl, Row.dr (Row.new_at (by simp)), RQ.kept ?_, gr_then G ?_⟩
                  all_goals (repeat (first | (with_reducible exact gr_rfl _) | (with_reducible refine gr_al ?_) | (with_reducible refine gr_dr ?_)))
                exact AllReadyH.nil
              exact AllReadyH.nil
            exact AllReadyH.nil
          exact AllReadyH.nil
        exact AllReadyH.nil
      refine AllReadyH.cons (o := _) rfl (fun K hK => ?_) ?_
      · go_simp
        ((with_reducible refine (HMB.out _).mono ?_); rintro e w2 ⟨rfl, rfl⟩)
        refine hK.out _ _ ?_ (fun hHeld => ?_)
        · (try dsimp only); ((refine HK.out _ ?_; repeat (first | (with_reducible exact gr_rfl _) | (with_reducible refine gr_al ?_) | (with_reducible refine gr_dr ?_))))
        clear hK K
        try simp only [Act.put, List.setIfInBounds_toArray, List.set_cons_zero, List.set_cons_succ]
        refine wpAnyH_ready (rs := [0, 6]) (by kernel_rfl) (by simp) ?_
        refine AllReadyH.cons (o := _) rfl (fun K hK => ?_) ?_
        · go_simp
          refine hK.out _ _ ?_ (fun hHeld => ?_)
          · (try dsimp only); ((refine HK.out _ ?_; repeat (first | (with_reducible exact gr_rfl _) | (with_reducible refine gr_al ?_) | (with_reducible refine gr_dr ?_))))
          clear hK K
          try simp only [Act.put, List.setIfInBounds_toArray, List.set_cons_zero, List.set_cons_succ]
          refine wpAnyH_take (i := 4) (oi := _) (v := ?v164) rfl (by kernel_rfl) (by kernel_rfl) (by kernel_rfl) (fun _ _ _ h => h) (Or.inl ⟨by rfl, ?hy164⟩) (by assumption) ?rest164
          case hy164 => ((intro w hSw; (try dsimp only at hSw); go_simp); try (with_reducible rfl))
          ((try dsimp only [List.getElem_toArray, List.getElem_cons_succ, List.getElem_cons_zero]); try simp only [Act.put, List.setIfInBounds_toArray, List.set_cons_zero, List.set_cons_succ])
          refine wpAnyH_ready (rs := [5, 6]) (by kernel_rfl) (by simp) ?_
          refine AllReadyH.cons (o := _) rfl (fun K hK => ?_) ?_
          · go_simp
            refine hK.out _ _ ?_ (fun hHeld => ?_)
            · (try dsimp only); ((refine HK.out _ ?_; repeat (first | (with_reducible exact gr_rfl _) | (with_reducible refine gr_al ?_) | (with_reducible refine gr_dr ?_))))
            clear hK K
            try simp only [Act.put, List.setIfInBounds_toArray, List.set_cons_zero, List.set_cons_succ]
            refine wpAnyH_ready (rs := [6]) (by kernel_rfl) (by simp) ?_
            refine AllReadyH.cons (o := _) rfl (fun K hK => ?_) ?_
            · go_simp
              refine hK.out _ _ ?_ (fun hHeld => ?_)
              · (try dsimp only); ((refine HK.out _ ?_; repeat (first | (with_reducible exact gr_rfl _) | (with_reducible refine gr_al ?_) | (with_reducible refine gr_dr ?_))))
              clear hK K
              try simp only [Act.put, List.setIfInBounds_toArray, List.set_cons_zero, List.set_cons_succ]
              refine wpAnyH_take (i := 11) (oi := _) (v := ?v167) rfl (by kernel_rfl) (by kernel_rfl) (by kernel_rfl) (fun _ _ _ h => h) (Or.inl ⟨by rfl, ?hy167⟩) (by assumption) ?rest167
              case hy167 => ((intro w hSw; (try dsimp only at hSw); go_simp); try (with_reducible rfl))
              ((try dsimp only [List.getElem_toArray, List.getElem_cons_succ, List.getElem_cons_zero]); try simp only [Act.put, List.setIfInBounds_toArray, List.set_cons_zero, List.set_cons_succ])
              refine wpAnyH_ready (rs := [12]) (by kernel_rfl) (by simp) ?_
              refine AllReadyH.cons (o := _) rfl (fun K hK => ?_) ?_
              · go_simp
                refine hK.out _ _ ?_ (fun hHeld => ?_)
                · (try dsimp only); ((refine HK.out _ ?_; repeat (first | (with_reducible exact gr_rfl _) | (with_reducible refine gr_al ?_) | (with_reducible refine gr_dr ?_))))
                clear hK K
                try simp only [Act.put, List.setIfInBounds_toArray, List.set_cons_zero, List.set_cons_succ]
                refine wpAnyH_ready (rs := [13]) (by kernel_rfl) (by simp) ?_
                refine AllReadyH.cons (o := _) rfl (fun K hK => ?_) ?_
                · go_simp
                  refine hK.out _ _ ?_ (fun hHeld => ?_)
                  · (try dsimp only); ((refine HK.out _ ?_; repeat (first | (with_reducible exact gr_rfl _) | (with_reducible refine gr_al ?_) | (with_reducible refine gr_dr ?_))))
                  clear hK K
                  try simp only [Act.put, List.setIfInBounds_toArray, List.set_cons_zero, List.set_cons_succ]
                  refine wpAnyH_take (i := 14) (oi := _) (v := ?v170) rfl (by kernel_rfl) (by kernel_rfl) (by kernel_rfl) (fun _ _ _ h => h) (Or.inl ⟨by rfl, ?hy170⟩) (by assumption) ?rest170
                  case hy170 => ((intro w hSw; (try dsimp only at hSw); go_simp); try (with_reducible rfl))
                  ((try dsimp only [List.getElem_toArray, List.getElem_cons_succ, List.getElem_cons_zero]); try simp only [Act.put, List.setIfInBounds_toArray, List.set_cons_zero, List.set_cons_succ])
                  refine wpAnyH_done (by kernel_rfl) ?_ _
                  refine NoPanic.normal ?_
                  go_wp2_with fail
                  go_meet
                  refine ⟨_, rfl, Row.dr (Row.new_at (by simp)), RQ.kept ?_, gr_then G ?_⟩
                  all_goals (repeat (first | (with_reducible exact gr_rfl _) | (with_reducible refine gr_al ?_) | (with_reducible refine gr_dr ?_)))
                exact AllReadyH.nil
              exact AllReadyH.nil
            exact AllReadyH.nil
          refine AllReadyH.cons (o := _) rfl (fun K hK => ?_) ?_
          · go_simp
            refine hK.out _ _ ?_ (fun hHeld => ?_)
            · (try dsimp only); ((refine HK.out _ ?_; repeat (first | (with_reducible exact gr_rfl _) | (with_reducible refine gr_al ?_) | (with_reducible refine gr_dr ?_))))
            clear hK K
            try simp only [Act.put, List.setIfInBounds_toArray, List.set_cons_zero, List.set_cons_succ]
            refine wpAnyH_take (i := 11) (oi := _) (v := ?v172) rfl (by kernel_rfl) (by kernel_rfl) (by kernel_rfl) (fun _ _ _ h => h) (Or.inl ⟨by rfl, ?hy172⟩) (by assumption) ?rest172
            case hy172 => ((intro w hSw; (try dsimp only at hSw); go_simp); try (with_reducible rfl))
            ((try dsimp only [List.getElem_toArray, List.getElem_cons_succ, List.getElem_cons_zero]); try simp only [Act.put, List.setIfInBounds_toArray, List.set_cons_zero, List.set_cons_succ])
            refine wpAnyH_ready (rs := [5, 12]) (by kernel_rfl) (by simp) ?_
            refine AllReadyH.cons (o := _) rfl (fun K hK => ?_) ?_
            · go_simp
              refine hK.out _ _ ?_ (fun hHeld => ?_)
              · (try dsimp only); ((refine HK.out _ ?_; repeat (first | (with_reducible exact gr_rfl _) | (with_reducible refine gr_al ?_) | (with_reducible refine gr_dr ?_))))
              clear hK K
              try simp only [Act.put, List.setIfInBounds_toArray, List.set_cons_zero, List.set_cons_succ]
              refine wpAnyH_ready (rs := [12]) (by kernel_rfl) (by simp) ?_
              refine AllReadyH.cons (o := _) rfl (fun K hK => ?_) ?_
              · go_simp
                refine hK.out _ _ ?_ (fun hHeld => ?_)
                · (try dsimp only); ((refine HK.out _ ?_; repeat (first | (with_reducible exact gr_rfl _) | (with_reducible refine gr_al ?_) | (with_reducible refine gr_dr ?_))))
                clear hK K
                try simp only [Act.put, List.setIfInBounds_toArray, List.set_cons_zero, List.set_cons_succ]
                refine wpAnyH_ready (rs := [13]) (by kernel_rfl) (by simp) ?_
                refine AllReadyH.cons (o := _) rfl (fun K hK => ?_) ?_
                · go_simp
                  refine hK.out _ _ ?_ (fun hHeld => ?_)
                  · (try dsimp only); ((refine HK.out _ ?_; repeat (first | (with_reducible exact gr_rfl _) | (with_reducible refine gr_al ?_) | (with_reducible refine gr_dr ?_))))
                  clear hK K
                  try simp only [Act.put, List.setIfInBounds_toArray, List.set_cons_zero, List.set_cons_succ]
                  refine wpAnyH_take (i := 14) (oi := _) (v := ?v176) rfl (by kernel_rfl) (by kernel_rfl) (by kernel_rfl) (fun _ _ _ h => h) (Or.inl ⟨by rfl, ?hy176⟩) (by assumption) ?rest176
                  case hy176 => ((intro w hSw; (try dsimp only at hSw); go_simp); try (with_reducible rfl))
                  ((try dsimp only [List.getElem_toArray, List.getElem_cons_succ, List.getElem_cons_zero]); try simp only [Act.put, List.setIfInBounds_toArray, List.set_cons_zero, List.set_cons_succ])
                  refine wpAnyH_done (by kernel_rfl) ?_ _
                  refine NoPanic.normal ?_
                  go_wp2_with fail
                  go_meet
                  refine ⟨_, rfl, Row.dr (Row.new_at (by simp)), RQ.kept ?_, gr_then G ?_⟩
                  all_goals (repeat (first | (with_reducible exact gr_rfl _) | (with_reducible refine gr_al ?_) | (with_reducible refine gr_dr ?_)))
                exact AllReadyH.nil
              exact AllReadyH.nil
            refine AllReadyH.cons (o := _) rfl (fun K hK => ?_) ?_
            · go_simp
              refine hK.out _ _ ?_ (fun hHeld => ?_)
              · (try dsimp only); ((refine HK.out _ ?_; repeat (first | (with_reducible exact gr_rfl _) | (with_reducible refine gr_al ?_) | (with_reducible refine gr_dr ?_))))
              clear hK K
              try simp only [Act.put, List.setIfInBounds_toArray, List.set_cons_zero, List.set_cons_succ]
              refine wpAnyH_ready (rs := [5]) (by kernel_rfl) (by simp) ?_
              refine AllReadyH.cons (o := _) rfl (fun K hK => ?_) ?_
              · go_simp
                refine hK.out _ _ ?_ (fun hHeld => ?_)
                · (try dsimp only); ((refine HK.out _ ?_; repeat (first | (with_reducible exact gr_rfl _) | (with_reducible refine gr_al ?_) | (with_reducible refine gr_dr ?_))))
                clear hK K
                try simp only [Act.put, List.setIfInBounds_toArray, List.set_cons_zero, List.set_cons_succ]
                refine wpAnyH_ready (rs := [13]) (by kernel_rfl) (by simp) ?_
                refine AllReadyH.cons (o := _) rfl (fun K hK => ?_) ?_
                · go_simp
                  refine hK.out _ _ ?_ (fun hHeld => ?_)
                  · (try dsimp only); ((refine HK.out _ ?_; repeat (first | (with_reducible exact gr_rfl _) | (with_reducible refine gr_al ?_) | (with_reducible refine gr_dr ?_))))
                  clear hK K
                  try simp only [Act.put, List.setIfInBounds_toArray, List.set_cons_zero, List.set_cons_succ]
                  refine wpAnyH_take (i := 14) (oi := _) (v := ?v180) rfl (by kernel_rfl) (by kernel_rfl) (by kernel_rfl) (fun _ _ _ h => h) (Or.inl ⟨by rfl, ?hy180⟩) (by assumption) ?rest180
                  case hy180 => ((intro w hSw; (try dsimp only at hSw); go_simp); try (with_reducible rfl))
                  ((try dsimp only [List.getElem_toArray, List.getElem_cons_succ, List.getElem_cons_zero]); try simp only [Act.put, List.setIfInBounds_toArray, List.set_cons_zero, List.set_cons_succ])
                  refine wpAnyH_done (by kernel_rfl) ?_ _
                  refine NoPanic.normal ?_
                  go_wp2_with fail
                  go_meet
                  refine ⟨_, rfl, Row.dr (Row.new_at (by simp)), RQ.kept ?_, gr_then G ?_⟩
                  all_goals (repeat (first | (with_reducible exact gr_rfl _) | (with_reducible refine gr_al ?_) | (with_reducible refine gr_dr ?_)))
                exact AllReadyH.nil
              exact AllReadyH.nil
            exact AllReadyH.nil
          exact AllReadyH.nil
        refine AllReadyH.cons (o := _) rfl (fun K hK => ?_) ?_
        · go_simp
          refine hK.out _ _ ?_ (fun hHeld => ?_)
          · (try dsimp only); ((refine HK.out _ ?_; repeat (first | (with_reducible exact gr_rfl _) | (with_reducible refine gr_al ?_) | (with_reducible refine gr_dr ?_))))
          clear hK K
          try simp only [Act.put, List.setIfInBounds_toArray, List.set_cons_zero, List.set_cons_succ]
          refine wpAnyH_take (i := 11) (oi := _) (v := ?v182) rfl (by kernel_rfl) (by kernel_rfl) (by kernel_rfl) (fun _ _ _ h => h) (Or.inl ⟨by rfl, ?hy182⟩) (by assumption) ?rest182
          case hy182 => ((intro w hSw; (try dsimp only at hSw); go_simp); try (with_reducible rfl))
          ((try dsimp only [List.getElem_toArray, List.getElem_cons_succ, List.getElem_cons_zero]); try simp only [Act.put, List.setIfInBounds_toArray, List.set_cons_zero, List.set_cons_succ])
          refine wpAnyH_ready (rs := [0, 12]) (by kernel_rfl) (by simp) ?_
          refine AllReadyH.cons (o := _) rfl (fun K hK => ?_) ?_
          · go_simp
            refine hK.out _ _ ?_ (fun hHeld => ?_)
            · (try dsimp only); ((refine HK.out _ ?_; repeat (first | (with_reducible exact gr_rfl _) | (with_reducible refine gr_al ?_) | (with_reducible refine gr_dr ?_))))
            clear hK K
            try simp only [Act.put, List.setIfInBounds_toArray, List.set_cons_zero, List.set_cons_succ]
            refine wpAnyH_take (i := 4) (oi := _) (v := ?v184) rfl (by kernel_rfl) (by kernel_rfl) (by kernel_rfl) (fun _ _ _ h => h) (Or.inl ⟨by rfl, ?hy184⟩) (by assumption) ?rest184
            case hy184 => ((intro w hSw; (try dsimp only at hSw); go_simp); try (with_reducible rfl))
            ((try dsimp only [List.getElem_toArray, List.getElem_cons_succ, List.getElem_cons_zero]); try simp only [Act.put, List.setIfInBounds_toArray, List.set_cons_zero, List.set_cons_succ])
            refine wpAnyH_ready (rs := [5, 12]) (by kernel_rfl) (by simp) ?_
            refine AllReadyH.cons (o := _) rfl (fun K hK => ?_) ?_
            · go_simp
              refine hK.out _ _ ?_ (fun hHeld => ?_)
              · (try dsimp only); ((refine HK.out _ ?_; repeat (first | (with_reducible exact gr_rfl _) | (with_reducible refine gr_al ?_) | (with_reducible refine gr_dr ?_))))
              clear hK K
              try simp only [Act.put, List.setIfInBounds_toArray, List.set_cons_zero, List.set_cons_succ]
              refine wpAnyH_ready (rs := [12]) (by kernel_rfl) (by simp) ?_
              refine AllReadyH.cons (o := _) rfl (fun K hK => ?_) ?_
              · go_simp
                refine hK.out _ _ ?_ (fun hHeld => ?_)
                · (try dsimp only); ((refine HK.out _ ?_; repeat (first | (with_reducible exact gr_rfl _) | (with_reducible refine gr_al ?_) | (with_reducible refine gr_dr ?_))))
                clear hK K
                try simp only [Act.put, List.setIfInBounds_toArray, List.set_cons_zero, List.set_cons_succ]
                refine wpAnyH_ready (rs := [13]) (by kernel_rfl) (by simp) ?_
                refine AllReadyH.cons (o := _) rfl (fun K hK => ?_) ?_
                · go_simp
                  refine hK.out _ _ ?_ (fun hHeld => ?_)
                  · (try dsimp only); ((refine HK.out _ ?_; repeat (first | (with_reducible exact gr_rfl _) | (with_reducible refine gr_al ?_) | (with_reducible refine gr_dr ?_))))
                  clear hK K
                  try simp only [Act.put, List.setIfInBounds_toArray, List.set_cons_zero, List.set_cons_succ]
                  refine wpAnyH_take (i := 14) (oi := _) (v := ?v188) rfl (by kernel_rfl) (by kernel_rfl) (by kernel_rfl) (fun _ _ _ h => h) (Or.inl ⟨by rfl, ?hy188⟩) (by assumption) ?rest188
                  case hy188 => ((intro w hSw; (try dsimp only at hSw); go_simp); try (with_reducible rfl))
                  ((try dsimp only [List.getElem_toArray, List.getElem_cons_succ, List.getElem_cons_zero]); try simp only [Act.put, List.setIfInBounds_toArray, List.set_cons_zero, List.set_cons_succ])
                  refine wpAnyH_done (by kernel_rfl) ?_ _
                  refine NoPanic.normal ?_
                  go_wp2_with fail
                  go_meet
                  refine ⟨_, rfl, Row.dr (Row.new_at (by simp)), RQ.kept ?_, gr_then G ?_⟩
                  all_goals (repeat (first | (with_reducible exact gr_rfl _) | (with_reducible refine gr_al ?_) | (with_reducible refine gr_dr ?_)))
                exact AllReadyH.nil
              exact AllReadyH.nil
            refine AllReadyH.cons (o := _) rfl (fun K hK => ?_) ?_
            · go_simp
              refine hK.out _ _ ?_ (fun hHeld => ?_)
              · (try dsimp only); ((refine HK.out _ ?_; repeat (first | (with_reducible exact gr_rfl _) | (with_reducible refine gr_al ?_) | (with_reducible refine gr_dr ?_))))
              clear hK K
              try simp only [Act.put, List.setIfInBounds_toArray, List.set_cons_zero, List.set_cons_succ]
              refine wpAnyH_ready (rs := [5]) (by kernel_rfl) (by simp) ?_
              refine AllReadyH.cons (o := _) rfl (fun K hK => ?_) ?_
              · go_simp
                refine hK.out _ _ ?_ (fun hHeld => ?_)
                · (try dsimp only); ((refine HK.out _ ?_; repeat (first | (with_reducible exact gr_rfl _) | (with_reducible refine gr_al ?_) | (with_reducible refine gr_dr ?_))))
                clear hK K
                try simp only [Act.put, List.setIfInBounds_toArray, List.set_cons_zero, List.set_cons_succ]
                refine wpAnyH_ready (rs := [13]) (by kernel_rfl) (by simp) ?_
                refine AllReadyH.cons (o := _) rfl (fun K hK => ?_) ?_
                · go_simp
                  refine hK.out _ _ ?_ (fun hHeld => ?_)
                  · (try dsimp only); ((refine HK.out _ ?_; repeat (first | (with_reducible exact gr_rfl _) | (with_reducible refine gr_al ?_) | (with_reducible refine gr_dr ?_))))
                  clear hK K
                  try simp only [Act.put, List.setIfInBounds_toArray, List.set_cons_zero, List.set_cons_succ]
                  refine wpAnyH_take (i := 14) (oi := _) (v := ?v192) rfl (by kernel_rfl) (by kernel_rfl) (by kernel_rfl) (fun _ _ _ h => h) (Or.inl ⟨by rfl, ?hy192⟩) (by assumption) ?rest192
                  case hy192 => ((intro w hSw; (try dsimp only at hSw); go_simp); try (with_reducible rfl))
                  ((try dsimp only [List.getElem_toArray, List.getElem_cons_succ, List.getElem_cons_zero]); try simp only [Act.put, List.setIfInBounds_toArray, List.set_cons_zero, List.set_cons_succ])
                  refine wpAnyH_done (by kernel_rfl) ?_ _
                  refine NoPanic.normal ?_
                  go_wp2_with fail
                  go_meet
                  refine ⟨_, rfl, Row.dr (Row.new_at (by simp)), RQ.kept ?_, gr_then G ?_⟩
                  all_goals (repeat (first | (with_reducible exact gr_rfl _) | (with_reducible refine gr_al ?_) | (with_reducible refine gr_dr ?_)))
                exact AllReadyH.nil
              exact AllReadyH.nil
            exact AllReadyH.nil
          refine AllReadyH.cons (o := _) rfl (fun K hK => ?_) ?_
          · go_simp
            refine hK.out _ _ ?_ (fun hHeld => ?_)
            · (try dsimp only); ((refine HK.out _ ?_; repeat (first | (with_reducible exact gr_rfl _) | (with_reducible refine gr_al ?_) | (with_reducible refine gr_dr ?_))))
            clear hK K
            try simp only [Act.put, List.setIfInBounds_toArray, List.set_cons_zero, List.set_cons_succ]
            refine wpAnyH_ready (rs := [0]) (by kernel_rfl) (by simp) ?_
            refine AllReadyH.cons (o := _) rfl (fun K hK => ?_) ?_
            · go_simp
              refine hK.out _ _ ?_ (fun hHeld => ?_)
              · (try dsimp only); ((refine HK.out _ ?_; repeat (first | (with_reducible exact gr_rfl _) | (with_reducible refine gr_al ?_) | (with_reducible refine gr_dr ?_))))
              clear hK K
              try simp only [Act.put, List.setIfInBounds_toArray, List.set_cons_zero, List.set_cons_succ]
              refine wpAnyH_take (i := 4) (oi := _) (v := ?v195) rfl (by kernel_rfl) (by kernel_rfl) (by kernel_rfl) (fun _ _ _ h => h) (Or.inl ⟨by rfl, ?hy195⟩) (by assumption) ?rest195
              case hy195 => ((intro w hSw; (try dsimp only at hSw); go_simp); try (with_reducible rfl))
              ((try dsimp only [List.getElem_toArray, List.getElem_cons_succ, List.getElem_cons_zero]); try simp only [Act.put, List.setIfInBounds_toArray, List.set_cons_zero, List.set_cons_succ])
              refine wpAnyH_ready (rs := [5]) (by kernel_rfl) (by simp) ?_
              refine AllReadyH.cons (o := _) rfl (fun K hK => ?_) ?_
              · go_simp
                refine hK.out _ _ ?_ (fun hHeld => ?_)
                · (try dsimp only); ((refine HK.out _ ?_; repeat (first | (with_reducible exact gr_rfl _) | (with_reducible refine gr_al ?_) | (with_reducible refine gr_dr ?_))))
                clear hK K
                try simp only [Act.put, List.setIfInBounds_toArray, List.set_cons_zero, List.set_cons_succ]
                refine wpAnyH_ready (rs := [13]) (by kernel_rfl) (by simp) ?_
                refine AllReadyH.cons (o := _) rfl (fun K hK => ?_) ?_
                · go_simp
                  refine hK.out _ _ ?_ (fun hHeld => ?_)
                  · (try dsimp only); ((refine HK.out _ ?_; repeat (first | (with_reducible exact gr_rfl _) | (with_reducible refine gr_al ?_) | (with_reducible refine gr_dr ?_))))
                  clear hK K
                  try simp only [Act.put, List.setIfInBounds_toArray, List.set_cons_zero, List.set_cons_succ]
                  refine wpAnyH_take (i := 14) (oi := _) (v := ?v198) rfl (by kernel_rfl) (by kernel_rfl) (by kernel_rfl) (fun _ _ _ h => h) (Or.inl ⟨by rfl, ?hy198⟩) (by assumption) ?rest198
                  case hy198 => ((intro w hSw; (try dsimp only at hSw); go_simp); try (with_reducible rfl))
                  ((try dsimp only [List.getElem_toArray, List.getElem_cons_succ, List.getElem_cons_zero]); try simp only [Act.put, List.setIfInBounds_toArray, List.set_cons_zero, List.set_cons_succ])
                  refine wpAnyH_done (by kernel_rfl) ?_ _
                  refine NoPanic.normal ?_
                  go_wp2_with fail
                  go_meet
                  refine ⟨_, rfl, Row.dr (Row.new_at (by simp)), RQ.kept ?_, gr_then G ?_⟩
                  all_goals (repeat (first | (with_reducible exact gr_rfl _) | (with_reducible refine gr_al ?_) | (with_reducible refine gr_dr ?_)))
                exact AllReadyH.nil
              exact AllReadyH.nil
            exact AllReadyH.nil
          exact AllReadyH.nil
        exact AllReadyH.nil
      exact AllReadyH.nil
    refine AllReadyH.cons (o := _) rfl (fun K hK => ?_) ?_
    · go_simp
      refine hK.out _ _ ?_ (fun hHeld => ?_)
      · (try dsimp only); ((refine HK.out _ ?_; repeat (first | (with_reducible exact gr_rfl _) | (with_reducible refine gr_al ?_) | (with_reducible refine gr_dr ?_))))
      clear hK K
      try simp only [Act.put, List.setIfInBounds_toArray, List.set_cons_zero, List.set_cons_succ]
      refine wpAnyH_ready (rs := [0, 3]) (by kernel_rfl) (by simp) ?_
      refine AllReadyH.cons (o := _) rfl (fun K hK => ?_) ?_
      · go_simp
        refine hK.out _ _ ?_ (fun hHeld => ?_)
        · (try dsimp only); ((refine HK.out _ ?_; repeat (first | (with_reducible exact gr_rfl _) | (with_reducible refine gr_al ?_) | (with_reducible refine gr_dr ?_))))
        clear hK K
        try simp only [Act.put, List.setIfInBounds_toArray, List.set_cons_zero, List.set_cons_succ]
        refine wpAnyH_ready (rs := [3]) (by kernel_rfl) (by simp) ?_
        refine AllReadyH.cons (o := _) rfl (fun K hK => ?_) ?_
        · go_simp
          ((with_reducible refine (HMA.out _).mono ?_); rintro e w2 ⟨rfl, rfl⟩)
          refine hK.out _ _ ?_ (fun hHeld => ?_)
          · (try dsimp only); ((refine HK.out _ ?_; repeat (first | (with_reducible exact gr_rfl _) | (with_reducible refine gr_al ?_) | (with_reducible refine gr_dr ?_))))
          clear hK K
          try simp only [Act.put, List.setIfInBounds_toArray, List.set_cons_zero, List.set_cons_succ]
          refine wpAnyH_take (i := 4) (oi := _) (v := ?v202) rfl (by kernel_rfl) (by kernel_rfl) (by kernel_rfl) (fun _ _ _ h => h) (Or.inl ⟨by rfl, ?hy202⟩) (by assumption) ?rest202
          case hy202 => ((intro w hSw; (try dsimp only at hSw); go_simp); try (with_reducible rfl))
          ((try dsimp only [List.getElem_toArray, List.getElem_cons_succ, List.getElem_cons_zero]); try simp only [Act.put, List.setIfInBounds_toArray, List.set_cons_zero, List.set_cons_succ])
          refine wpAnyH_ready (rs := [5, 10]) (by kernel_rfl) (by simp) ?_
          refine AllReadyH.cons (o := _) rfl (fun K hK => ?_) ?_
          · go_simp
            refine hK.out _ _ ?_ (fun hHeld => ?_)
            · (try dsimp only); ((refine HK.out _ ?_; repeat (first | (with_reducible exact gr_rfl _) | (with_reducible refine gr_al ?_) | (with_reducible refine gr_dr ?_))))
            clear hK K
            try simp only [Act.put, List.setIfInBounds_toArray, List.set_cons_zero, List.set_cons_succ]
            refine wpAnyH_ready (rs := [10]) (by kernel_rfl) (by simp) ?_
            refine AllReadyH.cons (o := _) rfl (fun K hK => ?_) ?_
            · go_simp
              ((with_reducible refine (HMB.out _).mono ?_); rintro e w2 ⟨rfl, rfl⟩)
              refine hK.out _ _ ?_ (fun hHeld => ?_)
              · (try dsimp only); ((refine HK.out _ ?_; repeat (first | (with_reducible exact gr_rfl _) | (with_reducible refine gr_al ?_) | (with_reducible refine gr_dr ?_))))
              clear hK K
              try simp only [Act.put, List.setIfInBounds_toArray, List.set_cons_zero, List.set_cons_succ]
              refine wpAnyH_take (i := 11) (oi := _) (v := ?v205) rfl (by kernel_rfl) (by kernel_rfl) (by kernel_rfl) (fun _ _ _ h => h) (Or.inl ⟨by rfl, ?hy205⟩) (by assumption) ?rest205
              case hy205 => ((intro w hSw; (try dsimp only at hSw); go_simp); try (with_reducible rfl))
              ((try dsimp only [List.getElem_toArray, List.getElem_cons_succ, List.getElem_cons_zero]); try simp only [Act.put, List.setIfInBounds_toArray, List.set_cons_zero, List.set_cons_succ])
              refine wpAnyH_ready (rs := [12]) (by kernel_rfl) (by simp) ?_
              refine AllReadyH.cons (o := _) rfl (fun K hK => ?_) ?_
              · go_simp
                refine hK.out _ _ ?_ (fun hHeld => ?_)
                · (try dsimp only); ((refine HK.out _ ?_; repeat (first | (with_reducible exact gr_rfl _) | (with_reducible refine gr_al ?_) | (with_reducible refine gr_dr ?_))))
                clear hK K
                try simp only [Act.put, List.setIfInBounds_toArray, List.set_cons_zero, List.set_cons_succ]
                refine wpAnyH_ready (rs := [13]) (by kernel_rfl) (by simp) ?_
                refine AllReadyH.cons (o := _) rfl (fun K hK => ?_) ?_
                · go_simp
                  refine hK.out _ _ ?_ (fun hHeld => ?_)
                  · (try dsimp only); ((refine HK.out _ ?_; repeat (first | (with_reducible exact gr_rfl _) | (with_reducible refine gr_al ?_) | (with_reducible refine gr_dr ?_))))
                  clear hK K
                  try simp only [Act.put, List.setIfInBounds_toArray, List.set_cons_zero, List.set_cons_succ]
                  refine wpAnyH_take (i := 14) (oi := _) (v := ?v208) rfl (by kernel_rfl) (by kernel_rfl) (by kernel_rfl) (fun _ _ _ h => h) (Or.inl ⟨by rfl, ?hy208⟩) (by assumption) ?rest208
                  case hy208 => ((intro w hSw; (try dsimp only at hSw); go_simp); try (with_reducible rfl))
                  ((try dsimp only [List.getElem_toArray, List.getElem_cons_succ, List.getElem_cons_zero]); try simp only [Act.put, List.setIfInBounds_toArray, List.set_cons_zero, List.set_cons_succ])
                  refine wpAnyH_done (by kernel_rfl) ?_ _
                  refine NoPanic.normal ?_
                  go_wp2_with fail
                  go_meet
                  refine ⟨_, rfl, Row.dr (Row.new_at (by simp)), RQ.kept ?_, gr_then G ?_⟩
                  all_goals (repeat (first | (with_reducible exact gr_rfl _) | (with_reducible refine gr_al ?_) | (with_reducible refine gr_dr ?_)))
                exact AllReadyH.nil
              exact AllReadyH.nil
            exact AllReadyH.nil
          refine AllReadyH.cons (o := _) rfl (fun K hK => ?_) ?_
          · go_simp
            ((with_reducible refine (HMB.out _).mono ?_); rintro e w2 ⟨rfl, rfl⟩)
            refine hK.out _ _ ?_ (fun hHeld => ?_)
            · (try dsimp only); ((refine HK.out _ ?_; repeat (first | (with_reducible exact gr_rfl _) | (with_reducible refine gr_al ?_) | (with_reducible refine gr_dr ?_))))
            clear hK K
            try simp only [Act.put, List.setIfInBounds_toArray, List.set_cons_zero, List.set_cons_succ]
            refine wpAnyH_take (i := 11) (oi := _) (v := ?v210) rfl (by kernel_rfl) (by kernel_rfl) (by kernel_rfl) (fun _ _ _ h => h) (Or.inl ⟨by rfl, ?hy210⟩) (by assumption) ?rest210
            case hy210 => ((intro w hSw; (try dsimp only at hSw); go_simp); try (with_reducible rfl))
            ((try dsimp only [List.getElem_toArray, List.getElem_cons_succ, List.getElem_cons_zero]); try simp only [Act.put, List.setIfInBounds_toArray, List.set_cons_zero, List.set_cons_succ])
            refine wpAnyH_ready (rs := [5, 12]) (by kernel_rfl) (by simp) ?_
            refine AllReadyH.cons (o := _) rfl (fun K hK => ?_) ?_
            · go_simp
              refine hK.out _ _ ?_ (fun hHeld => ?_)
              · (try dsimp only); ((refine HK.out _ ?_; repeat (first | (with_reducible exact gr_rfl _) | (with_reducible refine gr_al ?_) | (with_reducible refine gr_dr ?_))))
              clear hK K
              try simp only [Act.put, List.setIfInBounds_toArray, List.set_cons_zero, List.set_cons_succ]
              refine wpAnyH_ready (rs := [12]) (by kernel_rfl) (by simp) ?_
              refine AllReadyH.cons (o := _) rfl (fun K hK => ?_) ?_
              · go_simp
                refine hK.out _ _ ?_ (fun hHeld => ?_)
                · (try dsimp only); ((refine HK.out _ ?_; repeat (first | (with_reducible exact gr_rfl _) | (with_reducible refine gr_al ?_) | (with_reducible refine gr_dr ?_))))
                clear hK K
                try simp only [Act.put, List.setIfInBounds_toArray, List.set_cons_zero, List.set_cons_succ]
                refine wpAnyH_ready (rs := [13]) (by kernel_rfl) (by simp) ?_
                refine AllReadyH.cons (o := _) rfl (fun K hK => ?_) ?_
                · go_simp
                  refine hK.out _ _ ?_ (fun hHeld => ?_)
                  · (try dsimp only); ((refine HK.out _ ?_; repeat (first | (with_reducible exact gr_rfl _) | (with_reducible refine gr_al ?_) | (with_reducible refine gr_dr ?_))))
                  clear hK K
                  try simp only [Act.put, List.setIfInBounds_toArray, List.set_cons_zero, List.set_cons_succ]
                  refine wpAnyH_take (i := 14) (oi := _) (v := ?v214) rfl (by kernel_rfl) (by kernel_rfl) (by kernel_rfl) (fun _ _ _ h => h) (Or.inl ⟨by rfl, ?hy214⟩) (by assumption) ?rest214
                  case hy214 => ((intro w hSw; (try dsimp only at hSw); go_simp); try (with_reducible rfl))
                  ((try dsimp only [List.getElem_toArray, List.getElem_cons_succ, List.getElem_cons_zero]); try simp only [Act.put, List.setIfInBounds_toArray, List.set_cons_zero, List.set_cons_succ])
                  refine wpAnyH_done (by kernel_rfl) ?_ _
                  refine NoPanic.normal ?_
                  go_wp2_with fail
                  go_meet
                  refine ⟨_, rfl, Row.dr (Row.new_at (by simp)), RQ.kept ?_, gr_then G ?_⟩
                  all_goals (repeat (first | (with_reducible exact gr_rfl _) | (with_reducible refine gr_al ?_) | (with_reducible refine gr_dr ?_)))
                exact AllReadyH.nil
              exact AllReadyH.nil
            refine AllReadyH.cons (o := _) rfl (fun K hK => ?_) ?_
            · go_simp
              refine hK.out _ _ ?_ (fun hHeld => ?_)
              · (try dsimp only); ((refine HK.out _ ?_; repeat (first | (with_reducible exact gr_rfl _) | (with_reducible refine gr_al ?_) | (with_reducible refine gr_dr ?_))))
              clear hK K
              try simp only [Act.put, List.setIfInBounds_toArray, List.set_cons_zero, List.set_cons_succ]
              refine wpAnyH_ready (rs := [5]) (by kernel_rfl) (by simp) ?_
              refine AllReadyH.cons (o := _) rfl (fun K hK => ?_) ?_
              · go_simp
                refine hK.out _ _ ?_ (fun hHeld => ?_)
                · (try dsimp only); ((refine HK.out _ ?_; repeat (first | (with_reducible exact gr_rfl _) | (with_reducible refine gr_al ?_) | (with_reducible refine gr_dr ?_))))
                clear hK K
                try simp only [Act.put, List.setIfInBounds_toArray, List.set_cons_zero, List.set_cons_succ]
                refine wpAnyH_ready (rs := [13]) (by kernel_rfl) (by simp) ?_
                refine AllReadyH.cons (o := _) rfl (fun K hK => ?_) ?_
                · go_simp
                  refine hK.out _ _ ?_ (fun hHeld => ?_)
                  · (try dsimp only); ((refine HK.out _ ?_; repeat (first | (with_reducible exact gr_rfl _) | (with_reducible refine gr_al ?_) | (with_reducible refine gr_dr ?_))))
                  clear hK K
                  try simp only [Act.put, List.setIfInBounds_toArray, List.set_cons_zero, List.set_cons_succ]
                  refine wpAnyH_take (i := 14) (oi := _) (v := ?v218) rfl (by kernel_rfl) (by kernel_rfl) (by kernel_rfl) (fun _ _ _ h => h) (Or.inl ⟨by rfl, ?hy218⟩) (by assumption) ?rest218
                  case hy218 => ((intro w hSw; (try dsimp only at hSw); go_simp); try (with_reducible rfl))
                  ((try dsimp only [List.getElem_toArray, List.getElem_cons_succ, List.getElem_cons_zero]); try simp only [Act.put, List.setIfInBounds_toArray, List.set_cons_zero, List.set_cons_succ])
                  refine wpAnyH_done (by kernel_rfl) ?_ _
                  refine NoPanic.normal ?_
                  go_wp2_with fail
                  go_meet
                  refine ⟨_, rfl, Row.dr (Row.new_at (by simp)), RQ.kept ?_, gr_then G ?_⟩
                  all_goals (repeat (first | (with_reducible exact gr_rfl _) | (with_reducible refine gr_al ?_) | (with_reducible refine gr_dr ?_)))
                exact AllReadyH.nil
              exact AllReadyH.nil
            exact AllReadyH.nil
          exact AllReadyH.nil
        exact AllReadyH.nil
      refine AllReadyH.cons (o := _) rfl (fun K hK => ?_) ?_
      · go_simp
        ((with_reducible refine (HMA.out _).mono ?_); rintro e w2 ⟨rfl, rfl⟩)
        refine hK.out _ _ ?_ (fun hHeld => ?_)
        · (try dsimp only); ((refine HK.out _ ?_; repeat (first | (with_reducible exact gr_rfl _) | (with_reducible refine gr_al ?_) | (with_reducible refine gr_dr ?_))))
        clear hK K
        try simp only [Act.put, List.setIfInBounds_toArray, List.set_cons_zero, List.set_cons_succ]
        refine wpAnyH_ready (rs := [0, 10]) (by kernel_rfl) (by simp) ?_
        refine AllReadyH.cons (o := _) rfl (fun K hK => ?_) ?_
        · go_simp
          refine hK.out _ _ ?_ (fun hHeld => ?_)
          · (try dsimp only); ((refine HK.out _ ?_; repeat (first | (with_reducible exact gr_rfl _) | (with_reducible refine gr_al ?_) | (with_reducible refine gr_dr ?_))))
          clear hK K
          try simp only [Act.put, List.setIfInBounds_toArray, List.set_cons_zero, List.set_cons_succ]
          refine wpAnyH_take (i := 4) (oi := _) (v := ?v221) rfl (by kernel_rfl) (by kernel_rfl) (by kernel_rfl) (fun _ _ _ h => h) (Or.inl ⟨by rfl, ?hy221⟩) (by assumption) ?rest221
          case hy221 => ((intro w hSw; (try dsimp only at hSw); go_simp); try (with_reducible rfl))
          ((try dsimp only [List.getElem_toArray, List.getElem_cons_succ, List.getElem_cons_zero]); try simp only [Act.put, List.setIfInBounds_toArray, List.set_cons_zero, List.set_cons_succ])
          refine wpAnyH_ready (rs := [5, 10]) (by kernel_rfl) (by simp) ?_
          refine AllReadyH.cons (o := _) rfl (fun K hK => ?_) ?_
          · go_simp
            refine hK.out _ _ ?_ (fun hHeld => ?_)
            · (try dsimp only); ((refine HK.out _ ?_; repeat (first | (with_reducible exact gr_rfl _) | (with_reducible refine gr_al ?_) | (with_reducible refine gr_dr ?_))))
            clear hK K
            try simp only [Act.put, List.setIfInBounds_toArray, List.set_cons_zero, List.set_cons_succ]
            refine wpAnyH_ready (rs := [10]) (by kernel_rfl) (by simp) ?_
            refine AllReadyH.cons (o := _) rfl (fun K hK => ?_) ?_
            · go_simp
              ((with_reducible refine (HMB.out _).mono ?_); rintro e w2 ⟨rfl, rfl⟩)
              refine hK.out _ _ ?_ (fun hHeld => ?_)
              · (try dsimp only); ((refine HK.out _ ?_; repeat (first | (with_reducible exact gr_rfl _) | (with_reducible refine gr_al ?_) | (with_reducible refine gr_dr ?_))))
              clear hK K
              try simp only [Act.put, List.setIfInBounds_toArray, List.set_cons_zero, List.set_cons_succ]
              refine wpAnyH_take (i := 11) (oi := _) (v := ?v224) rfl (by kernel_rfl) (by kernel_rfl) (by kernel_rfl) (fun _ _ _ h => h) (Or.inl ⟨by rfl, ?hy224⟩) (by assumption) ?rest224
              case hy224 => ((intro w hSw; (try dsimp only at hSw); go_simp); try (with_reducible rfl))
              ((try dsimp only [List.getElem_toArray, List.getElem_cons_succ, List.getElem_cons_zero]); try simp only [Act.put, List.setIfInBounds_toArray, List.set_cons_zero, List.set_cons_succ])
              refine wpAnyH_ready (rs := [12]) (by kernel_rfl) (by simp) ?_
              refine AllReadyH.cons (o := _) rfl (fun K hK => ?_) ?_
              · go_simp
                refine hK.out _ _ ?_ (fun hHeld => ?_)
                · (try dsimp only); ((refine HK.out _ ?_; repeat (first | (with_reducible exact gr_rfl _) | (with_reducible refine gr_al ?_) | (with_reducible refine gr_dr ?_))))
                clear hK K
                try simp only [Act.put, List.setIfInBounds_toArray, List.set_cons_zero, List.set_cons_succ]
                refine wpAnyH_ready (rs := [13]) (by kernel_rfl) (by simp) ?_
                refine AllReadyH.cons (o := _) rfl (fun K hK => ?_) ?_
                · go_simp
                  refine hK.out _ _ ?_ (fun hHeld => ?_)
                  · (try dsimp only); ((refine HK.out _ ?_; repeat (first | (with_reducible exact gr_rfl _) | (with_reducible refine gr_al ?_) | (with_reducible refine gr_dr ?_))))
                  clear hK K
                  try simp only [Act.put, List.setIfInBounds_toArray, List.set_cons_zero, List.set_cons_succ]
                  refine wpAnyH_take (i := 14) (oi := _) (v := ?v227) rfl (by kernel_rfl) (by kernel_rfl) (by kernel_rfl) (fun _ _ _ h => h) (Or.inl ⟨by rfl, ?hy227⟩) (by assumption) ?rest227
                  case hy227 => ((intro w hSw; (try dsimp only at hSw); go_simp); try (with_reducible rfl))
                  ((try dsimp only [List.getElem_toArray, List.getElem_cons_succ, List.getElem_cons_zero]); try simp only [Act.put, List.setIfInBounds_toArray, List.set_cons_zero, List.set_cons_succ])
                  refine wpAnyH_done (by kernel_rfl) ?_ _
                  refine NoPanic.normal ?_
                  go_wp2_with fail
                  go_meet
                  refine ⟨_, rfl, Row.dr (Row.new_at (by simp)), RQ.kept ?_, gr_then G ?_⟩
                  all_goals (repeat (first | (with_reducible exact gr_rfl _) | (with_reducible refine gr_al ?_) | (with_reducible refine gr_dr ?_)))
                exact AllReadyH.nil
              exact AllReadyH.nil
            exact AllReadyH.nil
          refine AllReadyH.cons (o := _) rfl (fun K hK => ?_) ?_
          · go_simp
            ((with_reducible refine (HMB.out _).mono ?_); rintro e w2 ⟨rfl, rfl⟩)
            refine hK.out _ _ ?_ (fun hHeld => ?_)
            · (try dsimp only); ((refine HK.out _ ?_; repeat (first | (with_reducible exact gr_rfl _) | (with_reducible refine gr_al ?_) | (with_reducible refine gr_dr ?_))))
            clear hK K
            try simp only [Act.put, List.setIfInBounds_toArray, List.set_cons_zero, List.set_cons_succ]
            refine wpAnyH_take (i := 11) (oi := _) (v := ?v229) rfl (by kernel_rfl) (by kernel_rfl) (by kernel_rfl) (fun _ _ _ h => h) (Or.inl ⟨by rfl, ?hy229⟩) (by assumption) ?rest229
            case hy229 => ((intro w hSw; (try dsimp only at hSw); go_simp); try (with_reducible rfl))
            ((try dsimp only [List.getElem_toArray, List.getElem_cons_succ, List.getElem_cons_zero]); try simp only [Act.put, List.setIfInBounds_toArray, List.set_cons_zero, List.set_cons_succ])
            refine wpAnyH_ready (rs := [5, 12]) (by kernel_rfl) (by simp) ?_
            refine AllReadyH.cons (o := _) rfl (fun K hK => ?_) ?_
            · go_simp
              refine hK.out _ _ ?_ (fun hHeld => ?_)
              · (try dsimp only); ((refine HK.out _ ?_; repeat (first | (with_reducible exact gr_rfl _) | (with_reducible refine gr_al ?_) | (with_reducible refine gr_dr ?_))))
              clear hK K
              try simp only [Act.put, List.setIfInBounds_toArray, List.set_cons_zero, List.set_cons_succ]
              refine wpAnyH_ready (rs := [12]) (by kernel_rfl) (by simp) ?_
              refine AllReadyH.cons (o := _) rfl (fun K hK => ?_) ?_
              · go_simp
                refine hK.out _ _ ?_ (fun hHeld => ?_)
                · (try dsimp only); ((refine HK.out _ ?_; repeat (first | (with_reducible exact gr_rfl _) | (with_reducible refine gr_al ?_) | (with_reducible refine gr_dr ?_))))
                clear hK K
                try simp only [Act.put, List.setIfInBounds_toArray, List.set_cons_zero, List.set_cons_succ]
                refine wpAnyH_ready (rs := [13]) (by kernel_rfl) (by simp) ?_
                refine AllReadyH.cons (o := _) rfl (fun K hK => ?_) ?_
                · go_simp
                  refine hK.out _ _ ?_ (fun hHeld => ?_)
                  · (try dsimp only); ((refine HK.out _ ?_; repeat (first | (with_reducible exact gr_rfl _) | (with_reducible refine gr_al ?_) | (with_reducible refine gr_dr ?_))))
                  clear hK K
                  try simp only [Act.put, List.setIfInBounds_toArray, List.set_cons_zero, List.set_cons_succ]
                  refine wpAnyH_take (i := 14) (oi := _) (v := ?v233) rfl (by kernel_rfl) (by kernel_rfl) (by kernel_rfl) (fun _ _ _ h => h) (Or.inl ⟨by rfl, ?hy233⟩) (by assumption) ?rest233
                  case hy233 => ((intro w hSw; (try dsimp only at hSw); go_simp); try (with_reducible rfl))
                  ((try dsimp only [List.getElem_toArray, List.getElem_cons_succ, List.getElem_cons_zero]); try simp only [Act.put, List.setIfInBounds_toArray, List.set_cons_zero, List.set_cons_succ])
                  refine wpAnyH_done (by kernel_rfl) ?_ _
                  refine NoPanic.normal ?_
                  go_wp2_with fail
                  go_meet
                  refine ⟨_, rfl, Row.dr (Row.new_at (by simp)), RQ.kept ?_, gr_then G ?_⟩
                  all_goals (repeat (first | (with_reducible exact gr_rfl _) | (with_reducible refine gr_al ?_) | (with_reducible refine gr_dr ?_)))
                exact AllReadyH.nil
              exact AllReadyH.nil
            refine AllReadyH.cons (o := _) rfl (fun K hK => ?_) ?_
            · go_simp
              refine hK.out _ _ ?_ (fun hHeld => ?_)
              · (try dsimp only); ((refine HK.out _ ?_; repeat (first | (with_reducible exact gr_rfl _) | (with_reducible refine gr_al ?_) | (with_reducible refine gr_dr ?_))))
              clear hK K
              try simp only [Act.put, List.setIfInBounds_toArray, List.set_cons_zero, List.set_cons_succ]
              refine wpAnyH_ready (rs := [5]) (by kernel_rfl) (by simp) ?_
              refine AllReadyH.cons (o := _) rfl (fun K hK => ?_) ?_
              · go_simp
                refine hK.out _ _ ?_ (fun hHeld => ?_)
                · (try dsimp only); ((refine HK.out _ ?_; repeat (first | (with_reducible exact gr_rfl _) | (with_reducible refine gr_al ?_) | (with_reducible refine gr_dr ?_))))
                clear hK K
                try simp only [Act.put, List.setIfInBounds_toArray, List.set_cons_zero, List.set_cons_succ]
                refine wpAnyH_ready (rs := [13]) (by kernel_rfl) (by simp) ?_
                refine AllReadyH.cons (o := _) rfl (fun K hK => ?_) ?_
                · go_simp
                  refine hK.out _ _ ?_ (fun hHeld => ?_)
                  · (try dsimp only); ((refine HK.out _ ?_; repeat (first | (with_reducible exact gr_rfl _) | (with_reducible refine gr_al ?_) | (with_reducible refine gr_dr ?_))))
                  clear hK K
                  try simp only [Act.put, List.setIfInBounds_toArray, List.set_cons_zero, List.set_cons_succ]
                  refine wpAnyH_take (i := 14) (oi := _) (v := ?v237) rfl (by kernel_rfl) (by kernel_rfl) (by kernel_rfl) (fun _ _ _ h => h) (Or.inl ⟨by rfl, ?hy237⟩) (by assumption) ?rest237
                  case hy237 => ((intro w hSw; (try dsimp only at hSw); go_simp); try (with_reducible rfl))
                  ((try dsimp only [List.getElem_toArray, List.getElem_cons_succ, List.getElem_cons_zero]); try simp only [Act.put, List.setIfInBounds_toArray, List.set_cons_zero, List.set_cons_succ])
                  refine wpAnyH_done (by kernel_rfl) ?_ _
                  refine NoPanic.normal ?_
                  go_wp2_with fail
                  go_meet
                  refine ⟨_, rfl, Row.dr (Row.new_at (by simp)), RQ.kept ?_, gr_then G ?_⟩
                  all_goals (repeat (first | (with_reducible exact gr_rfl _) | (with_reducible refine gr_al ?_) | (with_reducible refine gr_dr ?_)))
                exact AllReadyH.nil
              exact AllReadyH.nil
            exact AllReadyH.nil
          exact AllReadyH.nil
        refine AllReadyH.cons (o := _) rfl (fun K hK => ?_) ?_
        · go_simp
          ((with_reducible refine (HMB.out _).mono ?_); rintro e w2 ⟨rfl, rfl⟩)
          refine hK.out _ _ ?_ (fun hHeld => ?_)
          · (try dsimp only); ((refine HK.out _ ?_; repeat (first | (with_reducible exact gr_rfl _) | (with_reducible refine gr_al ?_) | (with_reducible refine gr_dr ?_))))
          clear hK K
          try simp only [Act.put, List.setIfInBounds_toArray, List.set_cons_zero, List.set_cons_succ]
          refine wpAnyH_take (i := 11) (oi := _) (v := ?v239) rfl (by kernel_rfl) (by kernel_rfl) (by kernel_rfl) (fun _ _ _ h => h) (Or.inl ⟨by rfl, ?hy239⟩) (by assumption) ?rest239
          case hy239 => ((intro w hSw; (try dsimp only at hSw); go_simp); try (with_reducible rfl))
          ((try dsimp only [List.getElem_toArray, List.getElem_cons_succ, List.getElem_cons_zero]); try simp only [Act.put, List.setIfInBounds_toArray, List.set_cons_zero, List.set_cons_succ])
          refine wpAnyH_ready (rs := [0, 12]) (by kernel_rfl) (by simp) ?_
          refine AllReadyH.cons (o := _) rfl (fun K hK => ?_) ?_
          · go_simp
            refine hK.out _ _ ?_ (fun hHeld => ?_)
            · (try dsimp only); ((refine HK.out _ ?_; repeat (first | (with_reducible exact gr_rfl _) | (with_reducible refine gr_al ?_) | (with_reducible refine gr_dr ?_))))
            clear hK K
            try simp only [Act.put, List.setIfInBounds_toArray, List.set_cons_zero, List.set_cons_succ]
            refine wpAnyH_take (i := 4) (oi := _) (v := ?v241) rfl (by kernel_rfl) (by kernel_rfl) (by kernel_rfl) (fun _ _ _ h => h) (Or.inl ⟨by rfl, ?hy241⟩) (by assumption) ?rest241
            case hy241 => ((intro w hSw; (try dsimp only at hSw); go_simp); try (with_reducible rfl))
            ((try dsimp only [List.getElem_toArray, List.getElem_cons_succ, List.getElem_cons_zero]); try simp only [Act.put, List.setIfInBounds_toArray, List.set_cons_zero, List.set_cons_succ])
            refine wpAnyH_ready (rs := [5, 12]) (by kernel_rfl) (by simp) ?_
            refine AllReadyH.cons (o := _) rfl (fun K hK => ?_) ?_
            · go_simp
              refine hK.out _ _ ?_ (fun hHeld => ?_)
              · (try dsimp only); ((refine HK.out _ ?_; repeat (first | (with_reducible exact gr_rfl _) | (with_reducible refine gr_al ?_) | (with_reducible refine gr_dr ?_))))
              clear hK K
              try simp only [Act.put, List.setIfInBounds_toArray, List.set_cons_zero, List.set_cons_succ]
              refine wpAnyH_ready (rs := [12]) (by kernel_rfl) (by simp) ?_
              refine AllReadyH.cons (o := _) rfl (fun K hK => ?_) ?_
              · go_simp
                refine hK.out _ _ ?_ (fun hHeld => ?_)
                · (try dsimp only); ((refine HK.out _ ?_; repeat (first | (with_reducible exact gr_rfl _) | (with_reducible refine gr_al ?_) | (with_reducible refine gr_dr ?_))))
                clear hK K
                try simp only [Act.put, List.setIfInBounds_toArray, List.set_cons_zero, List.set_cons_succ]
                refine wpAnyH_ready (rs := [13]) (by kernel_rfl) (by simp) ?_
                refine AllReadyH.cons (o := _) rfl (fun K hK => ?_) ?_
                · go_simp
                  refine hK.out _ _ ?_ (fun hHeld => ?_)
                  · (try dsimp only); ((refine HK.out _ ?_; repeat (first | (with_reducible exact gr_rfl _) | (with_reducible refine gr_al ?_) | (with_reducible refine gr_dr ?_))))
                  clear hK K
                  try simp only [Act.put, List.setIfInBounds_toArray, List.set_cons_zero, List.set_cons_succ]
                  refine wpAnyH_take (i := 14) (oi := _) (v := ?v245) rfl (by kernel_rfl) (by kernel_rfl) (by kernel_rfl) (fun _ _ _ h => h) (Or.inl ⟨by rfl, ?hy245⟩) (by assumption) ?rest245
                  case hy245 => ((intro w hSw; (try dsimp only at hSw); go_simp); try (with_reducible rfl))
                  ((try dsimp only [List.getElem_toArray, List.getElem_cons_succ, List.getElem_cons_zero]); try simp only [Act.put, List.setIfInBounds_toArray, List.set_cons_zero, List.set_cons_succ])
                  refine wpAnyH_done (by kernel_rfl) ?_ _
                  refine NoPanic.normal ?_
                  go_wp2_with fail
                  go_meet
                  refine ⟨_, rfl, Row.dr (Row.new_at (by simp)), RQ.kept ?_, gr_then G ?_⟩
                  all_goals (repeat (first | (with_reducible exact gr_rfl _) | (with_reducible refine gr_al ?_) | (with_reducible refine gr_dr ?_)))
                exact AllReadyH.nil
              exact AllReadyH.nil
            refine AllReadyH.cons (o := _) rfl (fun K hK => ?_) ?_
            · go_simp
              refine hK.out _ _ ?_ (fun hHeld => ?_)
              · (try dsimp only); ((refine HK.out _ ?_; repeat (first | (with_reducible exact gr_rfl _) | (with_reducible refine gr_al ?_) | (with_reducible refine gr_dr ?_))))
              clear hK K
              try simp only [Act.put, List.setIfInBounds_toArray, List.set_cons_zero, List.set_cons_succ]
              refine wpAnyH_ready (rs := [5]) (by kernel_rfl) (by simp) ?_
              refine AllReadyH.cons (o := _) rfl (fun K hK => ?_) ?_
              · go_simp
                refine hK.out _ _ ?_ (fun hHeld => ?_)
                · (try dsimp only); ((refine HK.out _ ?_; repeat (first | (with_reducible exact gr_rfl _) | (with_reducible refine gr_al ?_) | (with_reducible refine gr_dr ?_))))
                clear hK K
                try simp only [Act.put, List.setIfInBounds_toArray, List.set_cons_zero, List.set_cons_succ]
                refine wpAnyH_ready (rs := [13]) (by kernel_rfl) (by simp) ?_
                refine AllReadyH.cons (o := _) rfl (fun K hK => ?_) ?_
                · go_simp
                  refine hK.out _ _ ?_ (fun hHeld => ?_)
                  · (try dsimp only); ((refine HK.out _ ?_; repeat (first | (with_reducible exact gr_rfl _) | (with_reducible refine gr_al ?_) | (with_reducible refine gr_dr ?_))))
                  clear hK K
                  try simp only [Act.put, List.setIfInBounds_toArray, List.set_cons_zero, List.set_cons_succ]
                  refine wpAnyH_take (i := 14) (oi := _) (v := ?v249) rfl (by kernel_rfl) (by kernel_rfl) (by kernel_rfl) (fun _ _ _ h => h) (Or.inl ⟨by rfl, ?hy249⟩) (by assumption) ?rest249
                  case hy249 => ((intro w hSw; (try dsimp only at hSw); go_simp); try (with_reducible rfl))
                  ((try dsimp only [List.getElem_toArray, List.getElem_cons_succ, List.getElem_cons_zero]); try simp only [Act.put, List.setIfInBounds_toArray, List.set_cons_zero, List.set_cons_succ])
                  refine wpAnyH_done (by kernel_rfl) ?_ _
                  refine NoPanic.normal ?_
                  go_wp2_with fail
                  go_meet
                  refine ⟨_, rfl, Row.dr (Row.new_at (by simp)), RQ.kept ?_, gr_then G ?_⟩
                  all_goals (repeat (first | (with_reducible exact gr_rfl _) | (with_reducible refine gr_al ?_) | (with_reducible refine gr_dr ?_)))
                exact AllReadyH.nil
              exact AllReadyH.nil
            exact AllReadyH.nil
          refine AllReadyH.cons (o := _) rfl (fun K hK => ?_) ?_
          · go_simp
            refine hK.out _ _ ?_ (fun hHeld => ?_)
            · (try dsimp only); ((refine HK.out _ ?_; repeat (first | (with_reducible exact gr_rfl _) | (with_reducible refine gr_al ?_) | (with_reducible refine gr_dr ?_))))
            clear hK K
            try simp only [Act.put, List.setIfInBounds_toArray, List.set_cons_zero, List.set_cons_succ]
            refine wpAnyH_ready (rs := [0]) (by kernel_rfl) (by simp) ?_
            refine AllReadyH.cons (o := _) rfl (fun K hK => ?_) ?_
            · go_simp
              refine hK.out _ _ ?_ (fun hHeld => ?_)
              · (try dsimp only); ((refine HK.out _ ?_; repeat (first | (with_reducible exact gr_rfl _) | (with_reducible refine gr_al ?_) | (with_reducible refine gr_dr ?_))))
              clear hK K
              try simp only [Act.put, List.setIfInBounds_toArray, List.set_cons_zero, List.set_cons_succ]
              refine wpAnyH_take (i := 4) (oi := _) (v := ?v252) rfl (by kernel_rfl) (by kernel_rfl) (by kernel_rfl) (fun _ _ _ h => h) (Or.inl ⟨by rfl, ?hy252⟩) (by assumption) ?rest252
              case hy252 => ((intro w hSw; (try dsimp only at hSw); go_simp); try (with_reducible rfl))
              ((try dsimp only [List.getElem_toArray, List.getElem_cons_succ, List.getElem_cons_zero]); try simp only [Act.put, List.setIfInBounds_toArray, List.set_cons_zero, List.set_cons_succ])
              refine wpAnyH_ready (rs := [5]) (by kernel_rfl) (by simp) ?_
              refine AllReadyH.cons (o := _) rfl (fun K hK => ?_) ?_
              · go_simp
                refine hK.out _ _ ?_ (fun hHeld => ?_)
                · (try dsimp only); ((refine HK.out _ ?_; repeat (first | (with_reducible exact gr_rfl _) | (with_reducible refine gr_al ?_) | (with_reducible refine gr_dr ?_))))
                clear hK K
                try simp only [Act.put, List.setIfInBounds_toArray, List.set_cons_zero, List.set_cons_succ]
                refine wpAnyH_ready (rs := [13]) (by kernel_rfl) (by simp) ?_
                refine AllReadyH.cons (o := _) rfl (fun K hK => ?_) ?_
                · go_simp
                  refine hK.out _ _ ?_ (fun hHeld => ?_)
                  · (try dsimp only); ((refine HK.out _ ?_; repeat (first | (with_reducible exact gr_rfl _) | (with_reducible refine gr_al ?_) | (with_reducible refine gr_dr ?_))))
                  clear hK K
                  try simp only [Act.put, List.setIfInBounds_toArray, List.set_cons_zero, List.set_cons_succ]
                  refine wpAnyH_take (i := 14) (oi := _) (v := ?v255) rfl (by kernel_rfl) (by kernel_rfl) (by kernel_rfl) (fun _ _ _ h => h) (Or.inl ⟨by rfl, ?hy255⟩) (by assumption) ?rest255
                  case hy255 => ((intro w hSw; (try dsimp only at hSw); go_simp); try (with_reducible rfl))
                  ((try dsimp only [List.getElem_toArray, List.getElem_cons_succ, List.getElem_cons_zero]); try simp only [Act.put, List.setIfInBounds_toArray, List.set_cons_zero, List.set_cons_succ])
                  refine wpAnyH_done (by kernel_rfl) ?_ _
                  refine NoPanic.normal ?_
                  go_wp2_with fail
                  go_meet
                  refine ⟨_, rfl, Row.dr (Row.new_at (by simp)), RQ.kept ?_, gr_then G ?_⟩
                  all_goals (repeat (first | (with_reducible exact gr_rfl _) | (with_reducible refine gr_al ?_) | (with_reducible refine gr_dr ?_)))
                exact AllReadyH.nil
              exact AllReadyH.nil
            exact AllReadyH.nil
          exact AllReadyH.nil
        exact AllReadyH.nil
      exact AllReadyH.nil
    exact AllReadyH.nil
  case rest =>
    clear RQ G ka kb kga kgb ka0 ka1 kb0 kb1 HMA HMB
    obtain ⟨g5, rfl, R5, RQ, G⟩ := hcut
    have hMO := fun w => mod_any q1 6 (by decide) (by decide) w
    have hk : modD q1 6 < 6 := (modD_lt (n := q1) (m := 6) (by decide)).2
    generalize modD q1 6 = k at hMO hk
    have HMO := Lib.hid hMO
    clear hMO
    have hMC := fun w => mod_any q2 8 (by decide) (by decide) w
    have hc : modD q2 8 < 8 := (modD_lt (n := q2) (m := 8) (by decide)).2
    generalize modD q2 8 = c at hMC hc
    have HMC := Lib.hid hMC
    clear hMC
    have lq8 : -9223372036854775808 ≤ q2.tdiv 8 ∧ q2.tdiv 8 ≤ 9223372036854775807 := by
      have e : (q2.tdiv 8).natAbs = q2.natAbs / 8 := by rw [Int.natAbs_tdiv]; rfl
      omega
    generalize hq8 : q2.tdiv 8 = e8 at lq8
    have hw8 : IntKind.i64.wrap e8 = e8 := IntWalk.i64_in _ (by omega)
    have hMR := fun w => mod_any e8 9 (by decide) (by decide) w
    have h9 : modD e8 9 < 9 := (modD_lt (n := e8) (m := 9) (by decide)).2
    generalize modD e8 9 = r9 at hMR h9
    have HMR := Lib.hid hMR
    clear hMR
    go_upto_region 3 with fail
    have RS := w7_row wc
    have RI := w7_int wc k hk
    have R5 := R5.kept (w7_gr wc)
    have RQ := RQ.kept (w7_gr wc)
    have G := gr_then G (w7_gr wc)
    show Code.wp Tryd.prog _ _ _ (W7 wc)
    generalize W7 wc = wx at RS RI R5 RQ G ⊢
    have cs := w7_slice hk RS
    have c1 := RQ.cell 1 _ rfl
    have k0 : (0 : Int) ≤ (k : Int) := by omega
    have k1 : (k : Int) < 6 := by omega
    clear RS
    generalize wc.heap.size + k = g7 at RI cs
    go_wp2_with fail
    refine (HMO.out _).mono ?_
    rintro e w2 ⟨rfl, rfl⟩
    clear c1
    have c2 := RQ.cell 2 _ rfl
    have lq := RQ.lt
    go_wp2_with fail
    refine (HMC.out _).mono ?_
    rintro e w2 ⟨rfl, rfl⟩
    clear c2 cs
    have l0 : (0 : Int) ≤ (c : Int) := by omega
    have l1 : (c : Int) < 8 := by omega
    have ha8 := sep_at hc
    have hg8 := sep_get hc
    have S8 := gr_alloc wx (.cells #[.string ⟨#[45]⟩, .string ⟨#[46]⟩, .string ⟨#[47]⟩, .string ⟨#[32]⟩, .string ⟨#[44, 32]⟩, .string ⟨#[120]⟩, .string ⟨#[32, 111, 102, 32]⟩, .string ⟨#[]⟩] 9) none
    have R5 := R5.kept S8
    have RQ := RQ.kept S8
    have RI := RI.kept S8
    have G := gr_then G S8
    clear S8
    have hs7 : c < 7 ∨ c = 7 := by omega
    have ho := oD_lt k
    obtain ⟨o1, o2, o3, hoD⟩ : ∃ o1 o2 o3, oD k = (o1, o2, o3) := ⟨_, _, _, rfl⟩
    rw [hoD] at ho RI
    obtain ⟨x1, x2, x3⟩ := ho
    dsimp only at x1 x2 x3 RI
    have i1 := RI.cell 0 _ rfl
    have i2 := RI.cell 1 _ rfl
    have i3 := RI.cell 2 _ rfl
    have p1 := row_f R5 x1
    have p2 := row_f R5 x2
    have p3 := row_f R5 x3
    have z1 := fS_size a b o1
    have z2 := fS_size a b o2
    have z3 := fS_size a b o3
    have hT := fun s => show layT a b k s = fS a b o1 ++ s ++ fS a b o2 ++ s ++ fS a b o3 by unfold layT; rw [hoD]
    generalize fS a b o1 = t1 at p1 z1 hT
    generalize fS a b o2 = t2 at p2 z2 hT
    generalize fS a b o3 = t3 at p3 z3 hT
    have HT := Lib.hid hT
    clear hT hoD
    have b10 : (0 : Int) ≤ (o1 : Int) := by omega
    have b11 : (o1 : Int) < 3 := by omega
    have b20 : (0 : Int) ≤ (o2 : Int) := by omega
    have b21 : (o2 : Int) < 3 := by omega
    have b30 : (0 : Int) ≤ (o3 : Int) := by omega
    have b31 : (o3 : Int) < 3 := by omega
    rcases hs7 with h7 | rfl
    · have hsz := sep_size h7
      have hne := sep_ne h7
      have hw : sepW c = sepD c := by unfold sepW; split; omega; rfl
      generalize sepD c = s at ha8 hg8 hsz hne hw
      obtain ⟨hs1, hs2⟩ := hsz
      cases wild
      · have y1 : (t1 ++ s : ByteArray).size ≤ 8 := by rw [ByteArray.size_append]; omega
        have y2 : (t1 ++ s ++ t2 : ByteArray).size ≤ 12 := by rw [ByteArray.size_append]; omega
        have y3 : (t1 ++ s ++ t2 ++ s : ByteArray).size ≤ 16 := by rw [ByteArray.size_append]; omega
        have y4 : (t1 ++ s ++ t2 ++ s ++ t3 : ByteArray).size ≤ 20 := by rw [ByteArray.size_append]; omega
        go_wp2_with fail
        go_quiet (fail)
        have G := gr_then G (gr_drewN _ nq none)
        go_wp2
        go_ret
        exact ⟨_, rfl, by omega, fun _ => ⟨a, b, k, c, ha, hb, hk, by omega, by rw [hw, HT.out]⟩, G⟩
      · have y1 : (t1 ++ s : ByteArray).size ≤ 8 := by rw [ByteArray.size_append]; omega
        have y2 : (t1 ++ s ++ t2 : ByteArray).size ≤ 12 := by rw [ByteArray.size_append]; omega
        have y3 : (t1 ++ s ++ t2 ++ s : ByteArray).size ≤ 16 := by rw [ByteArray.size_append]; omega
        have y4 : (t1 ++ s ++ t2 ++ s ++ t3 : ByteArray).size ≤ 20 := by rw [ByteArray.size_append]; omega
        go_wp2_with fail
        go_quiet (fail)
        have G := gr_then G (gr_drewN _ nq none)
        have RQ := RQ.kept (gr_drewN _ nq none)
        have R5 := R5.kept (gr_drewN _ nq none)
        have RI := RI.kept (gr_drewN _ nq none)
        have c2 := RQ.cell 2 _ rfl
        have i1 := RI.cell 0 _ rfl
        have i2 := RI.cell 1 _ rfl
        have p1 := cell_kp p1 (gr_drewN _ nq none)
        have p2 := cell_kp p2 (gr_drewN _ nq none)
        go_wp2_with fail
        refine (HMR.out _).mono ?_
        rintro e w2 ⟨rfl, rfl⟩
        generalize hTT : (t1 ++ s ++ t2 ++ s ++ t3 : ByteArray) = T at y4 ⊢
        clear hTT
        have x0 : (T ++ ⟨#[68]⟩ : ByteArray).size ≤ 21 := by rw [ByteArray.size_append]; have hS : (⟨#[68]⟩ : ByteArray).size = 1 := rfl; omega
        have x1 : (⟨#[89]⟩ ++ T : ByteArray).size ≤ 21 := by rw [ByteArray.size_append]; have hS : (⟨#[89]⟩ : ByteArray).size = 1 := rfl; omega
        have x2 : (T ++ ⟨#[49]⟩ : ByteArray).size ≤ 21 := by rw [ByteArray.size_append]; have hS : (⟨#[49]⟩ : ByteArray).size = 1 := rfl; omega
        have x3 : (T ++ ⟨#[10]⟩ : ByteArray).size ≤ 21 := by rw [ByteArray.size_append]; have hS : (⟨#[10]⟩ : ByteArray).size = 1 := rfl; omega
        have x4 : (⟨#[100, 97, 121, 58, 32]⟩ ++ T : ByteArray).size ≤ 25 := by rw [ByteArray.size_append]; have hS : (⟨#[100, 97, 121, 58, 32]⟩ : ByteArray).size = 5 := rfl; omega
        have x5 : (T ++ ⟨#[46, 46, 46, 46, 46, 46, 46, 46, 46, 46, 46, 46, 46, 46, 46, 46, 46, 46, 46, 46, 46, 46, 46, 46, 46, 46, 46, 46, 46, 46, 46, 46, 46, 46, 46, 46]⟩ : ByteArray).size ≤ 56 := by rw [ByteArray.size_append]; have hS : (⟨#[46, 46, 46, 46, 46, 46, 46, 46, 46, 46, 46, 46, 46, 46, 46, 46, 46, 46, 46, 46, 46, 46, 46, 46, 46, 46, 46, 46, 46, 46, 46, 46, 46, 46, 46, 46]⟩ : ByteArray).size = 36 := rfl; omega
        rcases (show r9 = 0 ∨ r9 = 1 ∨ r9 = 2 ∨ r9 = 3 ∨ r9 = 4 ∨ r9 = 5 ∨ r9 = 6 ∨ r9 = 7 ∨ r9 = 8 by omega) with rfl | rfl | rfl | rfl | rfl | rfl | rfl | rfl | rfl
        · go_wp2; go_ret; exact ⟨_, rfl, by omega, (fun h => by cases h), G⟩
        · go_wp2; go_ret; exact ⟨_, rfl, by omega, (fun h => by cases h), G⟩
        · go_wp2; go_ret; exact ⟨_, rfl, by omega, (fun h => by cases h), G⟩
        · go_wp2_with fail
          go_quiet (fail)
          have G := gr_then G (gr_drewN _ nq none)
          go_wp2
          go_ret
          exact ⟨_, rfl, by omega, (fun h => by cases h), G⟩
        · go_wp2; go_ret; exact ⟨_, rfl, by omega, (fun h => by cases h), G⟩
        · go_wp2; go_ret; exact ⟨_, rfl, by omega, (fun h => by cases h), G⟩
        · go_wp2; go_ret; exact ⟨_, rfl, by omega, (fun h => by cases h), G⟩
        · go_wp2; go_ret; exact ⟨_, rfl, by omega, (fun h => by cases h), G⟩
        · go_wp2; go_ret; exact ⟨_, rfl, by omega, (fun h => by cases h), G⟩
    · have hemp : (sepD 7).toList = [] := by decide +kernel
      have hs2 : (sepD 7).size ≤ 4 := by decide
      generalize sepD 7 = s at ha8 hg8 hemp hs2
      cases wild
      · have y1 : (t1 ++ ⟨#[95]⟩ : ByteArray).size ≤ 8 := by rw [ByteArray.size_append]; have hS : (⟨#[95]⟩ : ByteArray).size = 1 := rfl; omega
        have y2 : (t1 ++ ⟨#[95]⟩ ++ t2 : ByteArray).size ≤ 12 := by rw [ByteArray.size_append]; have hS : (⟨#[95]⟩ : ByteArray).size = 1 := rfl; omega
        have y3 : (t1 ++ ⟨#[95]⟩ ++ t2 ++ ⟨#[95]⟩ : ByteArray).size ≤ 16 := by rw [ByteArray.size_append]; have hS : (⟨#[95]⟩ : ByteArray).size = 1 := rfl; omega
        have y4 : (t1 ++ ⟨#[95]⟩ ++ t2 ++ ⟨#[95]⟩ ++ t3 : ByteArray).size ≤ 20 := by rw [ByteArray.size_append]; have hS : (⟨#[95]⟩ : ByteArray).size = 1 := rfl; omega
        go_wp2_with fail
        go_quiet (fail)
        have G := gr_then G (gr_drewN _ nq none)
        go_wp2
        go_ret
        exact ⟨_, rfl, by omega, fun _ => ⟨a, b, k, 7, ha, hb, hk, by omega, by rw [show sepW 7 = ⟨#[95]⟩ from rfl, HT.out]⟩, G⟩
      · have y1 : (t1 ++ s : ByteArray).size ≤ 8 := by rw [ByteArray.size_append]; omega
        have y2 : (t1 ++ s ++ t2 : ByteArray).size ≤ 12 := by rw [ByteArray.size_append]; omega
        have y3 : (t1 ++ s ++ t2 ++ s : ByteArray).size ≤ 16 := by rw [ByteArray.size_append]; omega
        have y4 : (t1 ++ s ++ t2 ++ s ++ t3 : ByteArray).size ≤ 20 := by rw [ByteArray.size_append]; omega
        go_wp2_with fail
        go_quiet (fail)
        have G := gr_then G (gr_drewN _ nq none)
        have RQ := RQ.kept (gr_drewN _ nq none)
        have R5 := R5.kept (gr_drewN _ nq none)
        have RI := RI.kept (gr_drewN _ nq none)
        have c2 := RQ.cell 2 _ rfl
        have i1 := RI.cell 0 _ rfl
        have i2 := RI.cell 1 _ rfl
        have p1 := cell_kp p1 (gr_drewN _ nq none)
        have p2 := cell_kp p2 (gr_drewN _ nq none)
        go_wp2_with fail
        refine (HMR.out _).mono ?_
        rintro e w2 ⟨rfl, rfl⟩
        generalize hTT : (t1 ++ s ++ t2 ++ s ++ t3 : ByteArray) = T at y4 ⊢
        clear hTT
        have x0 : (T ++ ⟨#[68]⟩ : ByteArray).size ≤ 21 := by rw [ByteArray.size_append]; have hS : (⟨#[68]⟩ : ByteArray).size = 1 := rfl; omega
        have x1 : (⟨#[89]⟩ ++ T : ByteArray).size ≤ 21 := by rw [ByteArray.size_append]; have hS : (⟨#[89]⟩ : ByteArray).size = 1 := rfl; omega
        have x2 : (T ++ ⟨#[49]⟩ : ByteArray).size ≤ 21 := by rw [ByteArray.size_append]; have hS : (⟨#[49]⟩ : ByteArray).size = 1 := rfl; omega
        have x3 : (T ++ ⟨#[10]⟩ : ByteArray).size ≤ 21 := by rw [ByteArray.size_append]; have hS : (⟨#[10]⟩ : ByteArray).size = 1 := rfl; omega
        have x4 : (⟨#[100, 97, 121, 58, 32]⟩ ++ T : ByteArray).size ≤ 25 := by rw [ByteArray.size_append]; have hS : (⟨#[100, 97, 121, 58, 32]⟩ : ByteArray).size = 5 := rfl; omega
        have x5 : (T ++ ⟨#[46, 46, 46, 46, 46, 46, 46, 46, 46, 46, 46, 46, 46, 46, 46, 46, 46, 46, 46, 46, 46, 46, 46, 46, 46, 46, 46, 46, 46, 46, 46, 46, 46, 46, 46, 46]⟩ : ByteArray).size ≤ 56 := by rw [ByteArray.size_append]; have hS : (⟨#[46, 46, 46, 46, 46, 46, 46, 46, 46, 46, 46, 46, 46, 46, 46, 46, 46, 46, 46, 46, 46, 46, 46, 46, 46, 46, 46, 46, 46, 46, 46, 46, 46, 46, 46, 46]⟩ : ByteArray).size = 36 := rfl; omega
        rcases (show r9 = 0 ∨ r9 = 1 ∨ r9 = 2 ∨ r9 = 3 ∨ r9 = 4 ∨ r9 = 5 ∨ r9 = 6 ∨ r9 = 7 ∨ r9 = 8 by omega) with rfl | rfl | rfl | rfl | rfl | rfl | rfl | rfl | rfl
        · go_wp2; go_ret; exact ⟨_, rfl, by omega, (fun h => by cases h), G⟩
        · go_wp2; go_ret; exact ⟨_, rfl, by omega, (fun h => by cases h), G⟩
        · go_wp2; go_ret; exact ⟨_, rfl, by omega, (fun h => by cases h), G⟩
        · go_wp2_with fail
          go_quiet (fail)
          have G := gr_then G (gr_drewN _ nq none)
          go_wp2
          go_ret
          exact ⟨_, rfl, by omega, (fun h => by cases h), G⟩
        · go_wp2; go_ret; exact ⟨_, rfl, by omega, (fun h => by cases h), G⟩
        · go_wp2; go_ret; exact ⟨_, rfl, by omega, (fun h => by cases h), G⟩
        · go_wp2; go_ret; exact ⟨_, rfl, by omega, (fun h => by cases h), G⟩
        · go_wp2; go_ret; exact ⟨_, rfl, by omega, (fun h => by cases h), G⟩
        · go_wp2; go_ret; exact ⟨_, rfl, by omega, (fun h => by cases h), G⟩
end Go.Proofs.YtchbefaflhimcaaDoor
