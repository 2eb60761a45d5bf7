/- Contracts of the program and of the reference, part 13: Sr, Sp, Sq, Ssa, Si. -/
import Derived.Test.YtaejnklgnegkhaaGreatDoorBBase12
import Derived.Lib.ItoaLen
namespace Go.Proofs.YtaejnklgnegkhaaGreatDoor
open Go.RowKit Pt Sh

theorem gr_grow (w : World) (k : Nat) (os : Array Obj) : w.grownBy (Sort.grow (w.drewN k) os) none :=
  ⟨rfl, rfl, rfl, by show w.heap.size ≤ (w.heap ++ os).size; rw [Array.size_append]; omega, fun j hj _ => by
    show (w.heap ++ os)[j]? = w.heap[j]?
    rw [Array.getElem?_append_left hj]⟩
theorem itoa_any (n : Int) (w : World) (hn : I64 n) (ht : TabP w) : Calls Tryz.prog 51 #[.int .i64 n] w fun e w' => e = .returned (.string (BA (Lib.itoa n))) ∧ w.grownBy w' none := by
  refine (Tryz.strconv_Itoa n hn.1 hn.2 w ht).mono ?_
  rintro e w' ⟨rfl, k, os, rfl⟩
  exact ⟨rfl, gr_grow w k os⟩
/-- A string with its length in front. -/
def cntS (s : ByteArray) : List UInt8 := Lib.itoa (s.size : Int) ++ [58] ++ s.data.toList
theorem ba_cat (x y : List UInt8) : BA x ++ BA y = BA (x ++ y) := by
  apply ByteArray.ext
  simp
theorem ba_self (s : ByteArray) : BA s.data.toList = s := rfl
theorem itoa_le {n : Int} (h : I64 n) : (Lib.itoa n).length ≤ 21 := Lib.itoa_length_le n h.1 h.2
set_option maxRecDepth 100000 in
theorem counted_any (s : ByteArray) (w : World) (hs : s.size ≤ 1000000) (ht : TabP w) : Calls Tryz.prog 52 #[.string s] w fun e w' => e = .returned (.string (BA (cntS s))) ∧ w.grownBy w' none := by
  have hI : I64 (s.size : Int) := ⟨by omega, by omega⟩
  have HI := Lib.hid (itoa_any (s.size : Int) w hI ht)
  have HL := Lib.hid (itoa_le hI)
  have HC := Lib.hid (show BA (Lib.itoa (s.size : Int)) ++ BA [58] ++ s = BA (cntS s) from by
    rw [ba_cat]
    show BA (Lib.itoa (s.size : Int) ++ [58]) ++ BA s.data.toList = _
    rw [ba_cat]; rfl)
  obtain ⟨t, ht1⟩ : ∃ t, BA (Lib.itoa (s.size : Int)) = t := ⟨_, rfl⟩
  have htl : t.size ≤ 21 := by rw [← ht1]; exact HL.out
  rw [ht1] at HI HC
  have h1 : ¬ (9223372036854775807 : Int) < (t.size : Int) + 1 := by omega
  have h2 : ¬ 9223372036854775807 < t.size + 1 := by omega
  have h3 : ¬ (9223372036854775807 : Int) < (t.size : Int) + 1 + (s.size : Int) := by omega
  have h4 : ¬ 9223372036854775807 < t.size + 1 + s.size := by omega
  have hsz : (t ++ BA [58]).size = t.size + 1 := by rw [ByteArray.size_append]; rfl
  clear ht ht1 HL
  go_enter Tryz.func52, Tryz.ntmps52
  go_wp2_with fail
  refine HI.out.mono ?_
  rintro e w1 ⟨rfl, g1⟩
  go_wp2
  go_ret
  exact ⟨by rw [← HC.out]; rfl, g1⟩
/-- What Text gives. -/
def textL (a : S5) : List ByteArray := [BA (Lib.itoa a.l), BA (Lib.itoa a.m), BA (Lib.itoa a.c), BA (cntS a.b), BA (cntS a.e)]
def textD (a : S5) : List UInt8 := Lib.join ((textL a).map (·.data.toList)) [32]
theorem text_le {a : S5} (hl : I64 a.l) (hm : I64 a.m) (hc : I64 a.c) (hb : a.b.size ≤ 1000000) (he : a.e.size ≤ 1000000) : (textD a).length ≤ 3000000 := by
  have h1 := itoa_le hl
  have h2 := itoa_le hm
  have h3 := itoa_le hc
  have h4 := itoa_le (show I64 (a.b.size : Int) from ⟨by omega, by omega⟩)
  have h5 := itoa_le (show I64 (a.e.size : Int) from ⟨by omega, by omega⟩)
  have e1 : a.b.data.toList.length = a.b.size := rfl
  have e2 : a.e.data.toList.length = a.e.size := rfl
  unfold textD textL cntS
  simp only [Lib.join, List.map_cons, List.map_nil, List.intercalate, List.intersperse, List.flatten_cons, List.flatten_nil, List.length_append, List.length_cons, List.length_nil]
  omega
set_option maxRecDepth 100000 in
set_option maxHeartbeats 4000000 in
theorem text_any (a : S5) (w : World) (hl : I64 a.l) (hm : I64 a.m) (hc : I64 a.c) (hb : a.b.size ≤ 1000000) (he : a.e.size ≤ 1000000) (ht : TabP w) : Calls Tryz.prog 15 #[vS a] w fun e w' => e = .returned (.string (BA (textD a))) ∧ w.grownBy w' none := by
  have htl := text_le hl hm hc hb he
  have HI := Lib.hid (fun (n : Int) (hn : I64 n) (w0 : World) (g : w.grownBy w0 none) => itoa_any n w0 hn (tabis_grown ht g))
  have HCO := Lib.hid (fun (s : ByteArray) (hn : s.size ≤ 1000000) (w0 : World) (g : w.grownBy w0 none) => counted_any s w0 hn (tabis_grown ht g))
  obtain ⟨l, m, c, b, e⟩ := a
  simp only at hl hm hc hb he
  have HJ := Lib.hid (show ∀ W : World, Calls Tryz.prog 50 #[.slice (some ⟨W.heap.size, 0, none⟩) 5 5, .string ⟨#[32]⟩] (W.alloc (.cells #[.string (BA (Lib.itoa l)), .string (BA (Lib.itoa m)), .string (BA (Lib.itoa c)), .string (BA (cntS b)), .string (BA (cntS e))] 9)) (fun e2 w2 => e2 = .returned (.string (BA (textD ⟨l, m, c, b, e⟩))) ∧ (W.alloc (.cells #[.string (BA (Lib.itoa l)), .string (BA (Lib.itoa m)), .string (BA (Lib.itoa c)), .string (BA (cntS b)), .string (BA (cntS e))] 9)).grownBy w2 none) from fun (W : World) => (Tryz.strings_Join W.heap.size 0 5 (textL ⟨l, m, c, b, e⟩) ⟨#[32]⟩ (W.alloc (.cells #[.string (BA (Lib.itoa l)), .string (BA (Lib.itoa m)), .string (BA (Lib.itoa c)), .string (BA (cntS b)), .string (BA (cntS e))] 9)) (fun j x hx => by
      have r := Row.new W [.string (BA (Lib.itoa l)), .string (BA (Lib.itoa m)), .string (BA (Lib.itoa c)), .string (BA (cntS b)), .string (BA (cntS e))] 9
      have h2 := r.cell j (.string x) (by
        have h3 : ((textL ⟨l, m, c, b, e⟩).map Value.string)[j]? = some (.string x) := by rw [List.getElem?_map, hx]; rfl
        exact h3)
      rw [Nat.zero_add]
      exact h2) (by simp) (by simp [textL]) (by simp [textL]) (by show (textD ⟨l, m, c, b, e⟩).length ≤ _; omega)).mono fun e2 w2 h => And.intro h.1 (show (W.alloc (.cells #[.string (BA (Lib.itoa l)), .string (BA (Lib.itoa m)), .string (BA (Lib.itoa c)), .string (BA (cntS b)), .string (BA (cntS e))] 9)).grownBy w2 none from below_gr (gr_rfl _) h.2))
  have RB := Row.new w [.int .i64 l, .int .i64 m, .int .i64 c, .string b, .string e] 24
  simp only [List.toArray] at RB
  have HK := Lib.hid (show ∀ w', (w.alloc (.cells #[.int .i64 l, .int .i64 m, .int .i64 c, .string b, .string e] 24)).grownBy w' none → (w'.cell? ⟨w.heap.size, 0, none⟩ = some (.int .i64 l) ∧ w'.cell? ⟨w.heap.size, 1, none⟩ = some (.int .i64 m) ∧ w'.cell? ⟨w.heap.size, 2, none⟩ = some (.int .i64 c) ∧ w'.cell? ⟨w.heap.size, 3, none⟩ = some (.string b) ∧ w'.cell? ⟨w.heap.size, 4, none⟩ = some (.string e)) from fun w' h => ⟨(RB.kept h).cell 0 _ rfl, (RB.kept h).cell 1 _ rfl, (RB.kept h).cell 2 _ rfl, (RB.kept h).cell 3 _ rfl, (RB.kept h).cell 4 _ rfl⟩)
  have G0 := gr_alloc w (.cells #[.int .i64 l, .int .i64 m, .int .i64 c, .string b, .string e] 24) none
  go_enter Tryz.func15, Tryz.ntmps15
  go_wp2_with fail
  refine wp_region_held_drew (S := (fun w' => w'.cell? ⟨w.heap.size, 0, none⟩ = some (.int .i64 l) ∧ w'.cell? ⟨w.heap.size, 1, none⟩ = some (.int .i64 m) ∧ w'.cell? ⟨w.heap.size, 2, none⟩ = some (.int .i64 c) ∧ w'.cell? ⟨w.heap.size, 3, none⟩ = some (.string b) ∧ w'.cell? ⟨w.heap.size, 4, none⟩ = some (.string e))) (by kernel_rfl) ?_ (fun hHeld => ?_)
  · refine HK.out _ ?_; (repeat (first | (with_reducible exact gr_rfl _) | (with_reducible refine gr_dr ?_) | (with_reducible refine gr_al ?_) | (with_reducible refine gr_then ?_ h6) | (with_reducible refine gr_then ?_ h5) | (with_reducible refine gr_then ?_ h4) | (with_reducible refine gr_then ?_ h3) | (with_reducible refine gr_then ?_ h2) | (with_reducible refine gr_then ?_ h1)))
  refine wpAnyH_take (i := 0) (oi := _) (v := ?v1) rfl (by kernel_rfl) (by kernel_rfl) (by kernel_rfl) (fun _ _ _ h => h) (Or.inl ⟨by rfl, ?hy1⟩) (by assumption) ?rest1
  case hy1 => ((intro w hSw; (try dsimp only at hSw); go_simp); try (with_reducible rfl))
  ((try dsimp only [List.getElem_toArray, List.getElem_cons_succ, List.getElem_cons_zero]); try simp only [Act.put, List.setIfInBounds_toArray, List.set_cons_zero, List.set_cons_succ])
  refine wpAnyH_take (i := 1) (oi := _) (v := ?v2) rfl (by kernel_rfl) (by kernel_rfl) (by kernel_rfl) (fun _ _ _ h => h) (Or.inl ⟨by rfl, ?hy2⟩) (by assumption) ?rest2
  case hy2 => ((intro w hSw; (try dsimp only at hSw); go_simp); try (with_reducible rfl))
  ((try dsimp only [List.getElem_toArray, List.getElem_cons_succ, List.getElem_cons_zero]); try simp only [Act.put, List.setIfInBounds_toArray, List.set_cons_zero, List.set_cons_succ])
  refine wpAnyH_take (i := 3) (oi := _) (v := ?v3) rfl (by kernel_rfl) (by kernel_rfl) (by kernel_rfl) (fun _ _ _ h => h) (Or.inl ⟨by rfl, ?hy3⟩) (by assumption) ?rest3
  case hy3 => ((intro w hSw; (try dsimp only at hSw); go_simp); try (with_reducible rfl))
  ((try dsimp only [List.getElem_toArray, List.getElem_cons_succ, List.getElem_cons_zero]); try simp only [Act.put, List.setIfInBounds_toArray, List.set_cons_zero, List.set_cons_succ])
  refine wpAnyH_take (i := 4) (oi := _) (v := ?v4) rfl (by kernel_rfl) (by kernel_rfl) (by kernel_rfl) (fun _ _ _ h => h) (Or.inl ⟨by rfl, ?hy4⟩) (by assumption) ?rest4
  case hy4 => ((intro w hSw; (try dsimp only at hSw); go_simp); try (with_reducible rfl))
  ((try dsimp only [List.getElem_toArray, List.getElem_cons_succ, List.getElem_cons_zero]); try simp only [Act.put, List.setIfInBounds_toArray, List.set_cons_zero, List.set_cons_succ])
  refine wpAnyH_take (i := 6) (oi := _) (v := ?v5) rfl (by kernel_rfl) (by kernel_rfl) (by kernel_rfl) (fun _ _ _ h => h) (Or.inl ⟨by rfl, ?hy5⟩) (by assumption) ?rest5
  case hy5 => ((intro w hSw; (try dsimp only at hSw); go_simp); try (with_reducible rfl))
  ((try dsimp only [List.getElem_toArray, List.getElem_cons_succ, List.getElem_cons_zero]); try simp only [Act.put, List.setIfInBounds_toArray, List.set_cons_zero, List.set_cons_succ])
  refine wpAnyH_take (i := 7) (oi := _) (v := ?v6) rfl (by kernel_rfl) (by kernel_rfl) (by kernel_rfl) (fun _ _ _ h => h) (Or.inl ⟨by rfl, ?hy6⟩) (by assumption) ?rest6
  case hy6 => ((intro w hSw; (try dsimp only at hSw); go_simp); try (with_reducible rfl))
  ((try dsimp only [List.getElem_toArray, List.getElem_cons_succ, List.getElem_cons_zero]); try simp only [Act.put, List.setIfInBounds_toArray, List.set_cons_zero, List.set_cons_succ])
  refine wpAnyH_take (i := 9) (oi := _) (v := ?v7) rfl (by kernel_rfl) (by kernel_rfl) (by kernel_rfl) (fun _ _ _ h => h) (Or.inl ⟨by rfl, ?hy7⟩) (by assumption) ?rest7
  case hy7 => ((intro w hSw; (try dsimp only at hSw); go_simp); try (with_reducible rfl))
  ((try dsimp only [List.getElem_toArray, List.getElem_cons_succ, List.getElem_cons_zero]); try simp only [Act.put, List.setIfInBounds_toArray, List.set_cons_zero, List.set_cons_succ])
  refine wpAnyH_take (i := 10) (oi := _) (v := ?v8) rfl (by kernel_rfl) (by kernel_rfl) (by kernel_rfl) (fun _ _ _ h => h) (Or.inl ⟨by rfl, ?hy8⟩) (by assumption) ?rest8
  case hy8 => ((intro w hSw; (try dsimp only at hSw); go_simp); try (with_reducible rfl))
  ((try dsimp only [List.getElem_toArray, List.getElem_cons_succ, List.getElem_cons_zero]); try simp only [Act.put, List.setIfInBounds_toArray, List.set_cons_zero, List.set_cons_succ])
  refine wpAnyH_take (i := 12) (oi := _) (v := ?v9) rfl (by kernel_rfl) (by kernel_rfl) (by kernel_rfl) (fun _ _ _ h => h) (Or.inl ⟨by rfl, ?hy9⟩) (by assumption) ?rest9
  case hy9 => ((intro w hSw; (try dsimp only at hSw); go_simp); try (with_reducible rfl))
  ((try dsimp only [List.getElem_toArray, List.getElem_cons_succ, List.getElem_cons_zero]); try simp only [Act.put, List.setIfInBounds_toArray, List.set_cons_zero, List.set_cons_succ])
  refine wpAnyH_take (i := 13) (oi := _) (v := ?v10) rfl (by kernel_rfl) (by kernel_rfl) (by kernel_rfl) (fun _ _ _ h => h) (Or.inl ⟨by rfl, ?hy10⟩) (by assumption) ?rest10
  case hy10 => ((intro w hSw; (try dsimp only at hSw); go_simp); try (with_reducible rfl))
  ((try dsimp only [List.getElem_toArray, List.getElem_cons_succ, List.getElem_cons_zero]); try simp only [Act.put, List.setIfInBounds_toArray, List.set_cons_zero, List.set_cons_succ])
  refine wpAnyH_ready (rs := [2]) (by kernel_rfl) (by simp) ?_
  refine AllReadyH.cons (o := _) rfl (fun K hK => ?_) AllReadyH.nil
  go_simp
  go_at_call 51; (with_reducible refine (HI.out _ hl _ (by (repeat (first | (with_reducible exact gr_rfl _) | (with_reducible refine gr_dr ?_) | (with_reducible refine gr_al ?_))))).mono ?_); rintro e1 w1 ⟨rfl, h1⟩
  refine hK.out _ _ ?_ (fun hHeld => ?_)
  · (try dsimp only); refine HK.out _ ?_; (repeat (first | (with_reducible exact gr_rfl _) | (with_reducible refine gr_dr ?_) | (with_reducible refine gr_al ?_) | (with_reducible refine gr_then ?_ h6) | (with_reducible refine gr_then ?_ h5) | (with_reducible refine gr_then ?_ h4) | (with_reducible refine gr_then ?_ h3) | (with_reducible refine gr_then ?_ h2) | (with_reducible refine gr_then ?_ h1)))
  clear hK K
  ((try dsimp only [List.getElem_toArray, List.getElem_cons_succ, List.getElem_cons_zero]); try simp only [Act.put, List.setIfInBounds_toArray, List.set_cons_zero, List.set_cons_succ])
  refine wpAnyH_ready (rs := [5]) (by kernel_rfl) (by simp) ?_
  refine AllReadyH.cons (o := _) rfl (fun K hK => ?_) AllReadyH.nil
  go_simp
  go_at_call 51; (with_reducible refine (HI.out _ hm _ (by (repeat (first | (with_reducible exact gr_rfl _) | (with_reducible refine gr_dr ?_) | (with_reducible refine gr_al ?_) | (with_reducible refine gr_then ?_ h1))))).mono ?_); rintro e2 w2 ⟨rfl, h2⟩
  refine hK.out _ _ ?_ (fun hHeld => ?_)
  · (try dsimp only); refine HK.out _ ?_; (repeat (first | (with_reducible exact gr_rfl _) | (with_reducible refine gr_dr ?_) | (with_reducible refine gr_al ?_) | (with_reducible refine gr_then ?_ h6) | (with_reducible refine gr_then ?_ h5) | (with_reducible refine gr_then ?_ h4) | (with_reducible refine gr_then ?_ h3) | (with_reducible refine gr_then ?_ h2) | (with_reducible refine gr_then ?_ h1)))
  clear hK K
  ((try dsimp only [List.getElem_toArray, List.getElem_cons_succ, List.getElem_cons_zero]); try simp only [Act.put, List.setIfInBounds_toArray, List.set_cons_zero, List.set_cons_succ])
  refine wpAnyH_ready (rs := [8]) (by kernel_rfl) (by simp) ?_
  refine AllReadyH.cons (o := _) rfl (fun K hK => ?_) AllReadyH.nil
  go_simp
  go_at_call 51; (with_reducible refine (HI.out _ hc _ (by (repeat (first | (with_reducible exact gr_rfl _) | (with_reducible refine gr_dr ?_) | (with_reducible refine gr_al ?_) | (with_reducible refine gr_then ?_ h2) | (with_reducible refine gr_then ?_ h1))))).mono ?_); rintro e3 w3 ⟨rfl, h3⟩
  refine hK.out _ _ ?_ (fun hHeld => ?_)
  · (try dsimp only); refine HK.out _ ?_; (repeat (first | (with_reducible exact gr_rfl _) | (with_reducible refine gr_dr ?_) | (with_reducible refine gr_al ?_) | (with_reducible refine gr_then ?_ h6) | (with_reducible refine gr_then ?_ h5) | (with_reducible refine gr_then ?_ h4) | (with_reducible refine gr_then ?_ h3) | (with_reducible refine gr_then ?_ h2) | (with_reducible refine gr_then ?_ h1)))
  clear hK K
  ((try dsimp only [List.getElem_toArray, List.getElem_cons_succ, List.getElem_cons_zero]); try simp only [Act.put, List.setIfInBounds_toArray, List.set_cons_zero, List.set_cons_succ])
  refine wpAnyH_ready (rs := [11]) (by kernel_rfl) (by simp) ?_
  refine AllReadyH.cons (o := _) rfl (fun K hK => ?_) AllReadyH.nil
  go_simp
  go_at_call 52; (with_reducible refine (HCO.out _ hb _ (by (repeat (first | (with_reducible exact gr_rfl _) | (with_reducible refine gr_dr ?_) | (with_reducible refine gr_al ?_) | (with_reducible refine gr_then ?_ h3) | (with_reducible refine gr_then ?_ h2) | (with_reducible refine gr_then ?_ h1))))).mono ?_); rintro e4 w4 ⟨rfl, h4⟩
  refine hK.out _ _ ?_ (fun hHeld => ?_)
  · (try dsimp only); refine HK.out _ ?_; (repeat (first | (with_reducible exact gr_rfl _) | (with_reducible refine gr_dr ?_) | (with_reducible refine gr_al ?_) | (with_reducible refine gr_then ?_ h6) | (with_reducible refine gr_then ?_ h5) | (with_reducible refine gr_then ?_ h4) | (with_reducible refine gr_then ?_ h3) | (with_reducible refine gr_then ?_ h2) | (with_reducible refine gr_then ?_ h1)))
  clear hK K
  ((try dsimp only [List.getElem_toArray, List.getElem_cons_succ, List.getElem_cons_zero]); try simp only [Act.put, List.setIfInBounds_toArray, List.set_cons_zero, List.set_cons_succ])
  refine wpAnyH_ready (rs := [14]) (by kernel_rfl) (by simp) ?_
  refine AllReadyH.cons (o := _) rfl (fun K hK => ?_) AllReadyH.nil
  go_simp
  go_at_call 52; (with_reducible refine (HCO.out _ he _ (by (repeat (first | (with_reducible exact gr_rfl _) | (with_reducible refine gr_dr ?_) | (with_reducible refine gr_al ?_) | (with_reducible refine gr_then ?_ h4) | (with_reducible refine gr_then ?_ h3) | (with_reducible refine gr_then ?_ h2) | (with_reducible refine gr_then ?_ h1))))).mono ?_); rintro e5 w5 ⟨rfl, h5⟩
  refine hK.out _ _ ?_ (fun hHeld => ?_)
  · (try dsimp only); refine HK.out _ ?_; (repeat (first | (with_reducible exact gr_rfl _) | (with_reducible refine gr_dr ?_) | (with_reducible refine gr_al ?_) | (with_reducible refine gr_then ?_ h6) | (with_reducible refine gr_then ?_ h5) | (with_reducible refine gr_then ?_ h4) | (with_reducible refine gr_then ?_ h3) | (with_reducible refine gr_then ?_ h2) | (with_reducible refine gr_then ?_ h1)))
  clear hK K
  ((try dsimp only [List.getElem_toArray, List.getElem_cons_succ, List.getElem_cons_zero]); try simp only [Act.put, List.setIfInBounds_toArray, List.set_cons_zero, List.set_cons_succ])
  refine wpAnyH_ready (rs := [15]) (by kernel_rfl) (by simp) ?_
  refine AllReadyH.cons (o := _) rfl (fun K hK => ?_) AllReadyH.nil
  go_simp
  refine hK.out _ _ ?_ (fun hHeld => ?_)
  · (try dsimp only); refine HK.out _ ?_; (repeat (first | (with_reducible exact gr_rfl _) | (with_reducible refine gr_dr ?_) | (with_reducible refine gr_al ?_) | (with_reducible refine gr_then ?_ h6) | (with_reducible refine gr_then ?_ h5) | (with_reducible refine gr_then ?_ h4) | (with_reducible refine gr_then ?_ h3) | (with_reducible refine gr_then ?_ h2) | (with_reducible refine gr_then ?_ h1)))
  clear hK K
  ((try dsimp only [List.getElem_toArray, List.getElem_cons_succ, List.getElem_cons_zero]); try simp only [Act.put, List.setIfInBounds_toArray, List.set_cons_zero, List.set_cons_succ])
  refine wpAnyH_ready (rs := [16]) (by kernel_rfl) (by simp) ?_
  refine AllReadyH.cons (o := _) rfl (fun K hK => ?_) AllReadyH.nil
  go_simp
  go_at_call 50; (with_reducible refine (HJ.out _).mono ?_); rintro e6 w6 ⟨rfl, h6⟩
  refine hK.out _ _ ?_ (fun hHeld => ?_)
  · (try dsimp only); refine HK.out _ ?_; (repeat (first | (with_reducible exact gr_rfl _) | (with_reducible refine gr_dr ?_) | (with_reducible refine gr_al ?_) | (with_reducible refine gr_then ?_ h6) | (with_reducible refine gr_then ?_ h5) | (with_reducible refine gr_then ?_ h4) | (with_reducible refine gr_then ?_ h3) | (with_reducible refine gr_then ?_ h2) | (with_reducible refine gr_then ?_ h1)))
  clear hK K
  ((try dsimp only [List.getElem_toArray, List.getElem_cons_succ, List.getElem_cons_zero]); try simp only [Act.put, List.setIfInBounds_toArray, List.set_cons_zero, List.set_cons_succ])
  refine wpAnyH_take (i := 17) (oi := _) (v := ?v11) rfl (by kernel_rfl) (by kernel_rfl) (by kernel_rfl) (fun _ _ _ h => h) (Or.inl ⟨by rfl, ?hy11⟩) (by assumption) ?rest11
  case hy11 => ((intro w hSw; (try dsimp only at hSw); go_simp); try (with_reducible rfl))
  ((try dsimp only [List.getElem_toArray, List.getElem_cons_succ, List.getElem_cons_zero]); try simp only [Act.put, List.setIfInBounds_toArray, List.set_cons_zero, List.set_cons_succ])
  refine wpAnyH_done (by kernel_rfl) ?_ _
  go_wp2
  go_ret
  exact ⟨rfl, by (repeat (first | (with_reducible exact gr_rfl _) | (with_reducible refine gr_dr ?_) | (with_reducible refine gr_al ?_) | (with_reducible refine gr_then ?_ h6) | (with_reducible refine gr_then ?_ h5) | (with_reducible refine gr_then ?_ h4) | (with_reducible refine gr_then ?_ h3) | (with_reducible refine gr_then ?_ h2) | (with_reducible refine gr_then ?_ h1)))⟩
end Go.Proofs.YtaejnklgnegkhaaGreatDoor
namespace Go.Proofs.YtaejnklgnegkhaaGreatDoor
open Go.RowKit Pt

theorem form_byte (w : World) (c : Nat) (hc : c ≤ 255) : Form (w.alloc (.cells #[.int .u8 (c : Int)] 5)) w.heap.size (.slice (some ⟨w.heap.size, 0, none⟩) 1 1) [UInt8.ofNat c] := by
  refine ⟨rfl, .inr ⟨w.heap.size, 1, _, rfl, Nat.le_refl _, heap_alloc_new w _, Nat.le_refl _, by decide, rfl, ?_⟩⟩
  show [Value.int .u8 (c : Int)] = [Value.int .u8 (((UInt8.ofNat c).toNat : Nat) : Int)]
  rw [UInt8.toNat_ofNat_of_lt' (show c < UInt8.size from by show c < 256; omega)]
/-- The pieces of a string that holds runs without braces, and characters that stand alone. -/
def runsG : Nat → Bool → List UInt8 → Option (List Pc)
  | 0, _, l => if l.length = 0 then some [] else none
  | f + 1, pl, l => if l.length = 0 then some [] else if nx l = 92 ∧ letD (nx l.tail) ≠ 0 ∧ nx l.tail.tail ≠ 123 then (runsG f false (l.drop (2 + (sufR (nx l.tail.tail)).2.2))).map (⟨letD (nx l.tail), (sufR (nx l.tail.tail)).1, (sufR (nx l.tail.tail)).2.1, ⟨#[]⟩⟩ :: ·)
    else if pl = false ∧ nx l ≠ 92 ∧ specD (nx l) = false ∧ clsD (nx l) ≠ 0 then (runsG f true l.tail).map (⟨0, 0, 0, ⟨#[UInt8.ofNat (nx l)]⟩⟩ :: ·) else none
theorem runG_step {m j : Nat} {pl : Bool} {s : ByteArray} {rs : List Pc} (h0 : j < s.size) (h : runsG m pl (rest s j) = some rs) :
    (∃ (m' L : Nat) (q : Int × Int × Nat) (rs' : List Pc), m = m' + 1 ∧ nx (rest s j) = 92 ∧ (letD (nx (rest s (j + 1))) = L ∧ letD (nx (rest s (j + 1))) ≠ 0) ∧ q = sufR (nx (rest s (j + 2))) ∧ nx (rest s (j + 2)) ≠ 123 ∧ rs = ⟨L, q.1, q.2.1, ⟨#[]⟩⟩ :: rs' ∧ runsG m' false (rest s (j + 2 + q.2.2)) = some rs')
    ∨ ∃ (m' : Nat) (rs' : List Pc), m = m' + 1 ∧ pl = false ∧ (nx (rest s j) ≠ 92 ∧ specD (nx (rest s j)) = false ∧ clsD (nx (rest s j)) ≠ 0) ∧ rs = ⟨0, 0, 0, ⟨#[UInt8.ofNat (nx (rest s j))]⟩⟩ :: rs' ∧ runsG m' true (rest s (j + 1)) = some rs' := by
  have hl : (rest s j).length ≠ 0 := by rw [rest_len]; omega
  cases m with
  | zero => rw [show runsG 0 pl (rest s j) = none from if_neg hl] at h; cases h
  | succ m' =>
    have e1 : (rest s j).tail = rest s (j + 1) := rest_tail s j
    have e2 : (rest s j).tail.tail = rest s (j + 2) := by rw [e1]; exact rest_tail s (j + 1)
    have h' : runsG (m' + 1) pl (rest s j) = _ := if_neg hl
    rw [h', e2, e1] at h
    by_cases hc : nx (rest s j) = 92 ∧ letD (nx (rest s (j + 1))) ≠ 0 ∧ nx (rest s (j + 2)) ≠ 123
    · have hd : (rest s j).drop (2 + (sufR (nx (rest s (j + 2)))).2.2) = rest s (j + 2 + (sufR (nx (rest s (j + 2)))).2.2) := by unfold rest; rw [List.drop_drop, Nat.add_assoc]
      rw [if_pos hc, hd] at h
      cases hr : runsG m' false (rest s (j + 2 + (sufR (nx (rest s (j + 2)))).2.2)) with
      | none => rw [hr] at h; cases h
      | some rs' =>
        rw [hr] at h
        cases h
        exact .inl ⟨m', _, _, rs', rfl, hc.1, ⟨rfl, hc.2.1⟩, rfl, hc.2.2, rfl, hr⟩
    · rw [if_neg hc] at h
      by_cases hp : pl = false ∧ nx (rest s j) ≠ 92 ∧ specD (nx (rest s j)) = false ∧ clsD (nx (rest s j)) ≠ 0
      · rw [if_pos hp] at h
        cases hr : runsG m' true (rest s (j + 1)) with
        | none => rw [hr] at h; cases h
        | some rs' =>
          rw [hr] at h
          cases h
          exact .inr ⟨m', rs', rfl, hp.1, hp.2, rfl, hr⟩
      · rw [if_neg hp] at h; cases h
set_option maxRecDepth 100000 in
set_option maxHeartbeats 4000000 in
theorem rparseG_any (s : ByteArray) (n : Nat) (ps : List Pc) (w : World) (hs : s.size ≤ 60) (hps : runsG n false s.data.toList = some ps) : Calls Tryz.prog 34 #[.string s] w (RParsed w ps) := by
  obtain ⟨R, hR⟩ : ∃ R, w.heap.size = R := ⟨_, rfl⟩
  obtain ⟨wa, hwa⟩ : ∃ wa, w.alloc (.cells #[.string s, .int .i64 0, .int .i64 0, .int .i64 0] 77) = wa := ⟨_, rfl⟩
  have hrow := Row.new w [.string s, .int .i64 0, .int .i64 0, .int .i64 0] 77
  simp only [List.toArray] at hrow
  rw [hwa, hR] at hrow
  have HRA := Lib.hid (show Rr wa R s 0 from ⟨hrow, Nat.zero_le _⟩)
  have HGA := Lib.hid (show w.grownBy wa none from by rw [← hwa]; exact gr_alloc _ _ _)
  have HRR := Lib.hid hR
  have HSA := Lib.hid (show wa.heap.size = R + 1 from by rw [← hwa, World.size_alloc, hR])
  have hs2 : ¬ (60 : Int) < (s.size : Int) := by omega
  have HPS := Lib.hid hps
  clear hps hrow
  go_enter Tryz.func34, Tryz.ntmps34
  go_wp2_with fail
  clear hwa hR
  go_loopw [6] (fun v wr => ∃ (j m : Nat) (pl : Bool) (acc rs : List Pc), j ≤ s.size ∧ acc.length ≤ j ∧ Hid (runsG m pl (rest s j) = some rs) ∧ Hid (pl = false → acc = [] ∨ ∃ l p, acc = l ++ [p] ∧ p.k ≠ 0) ∧ Hid (acc ++ rs = ps) ∧ Hid (PF wr wa.heap.size v acc) ∧ Hid (Rr wr R s j) ∧ Hid (wa.grownBy wr (some R))) (fun _ wr => s.size - atOf wr R)
  case atStart => exact ⟨0, n, false, [], ps, Nat.zero_le _, Nat.zero_le _, HPS, Lib.hid (fun _ => .inl rfl), Lib.hid rfl, Lib.hid (World.ownsRow_nil _ _ _ _), HRA, Lib.hid (gr_b (gr_rfl wa) R)⟩
  case round =>
    obtain ⟨j, m, pl, acc, rs, hj, hacc, HRN, HPL, HAC, HF, HRj, Gj⟩ := hrel
    have c0 := HRj.out.c0
    have c1 := HRj.out.c1
    have c3 := HRj.out.c3
    have f1 := HRj.out.f1
    by_cases hlt : j < s.size
    · have hlti : (j : Int) < (s.size : Int) := by omega
      rcases runG_step (m := m) (pl := pl) (rs := rs) (by omega) HRN.out with hrun | ⟨m', rs', hm, hpl, hch, hrs, hrn⟩
      · obtain ⟨m', L, q, rs', hm, h92, hL, hq, h123, hrs, hrn⟩ := hrun
        obtain ⟨i1, hi1⟩ : ∃ i1, j + 1 = i1 := ⟨_, rfl⟩
        obtain ⟨i2, hi2⟩ : ∃ i2, i1 + 1 = i2 := ⟨_, rfl⟩
        have e1 : (j : Int) + 1 = (i1 : Int) := by omega
        have e2 : (i1 : Int) + 1 = (i2 : Int) := by omega
        rw [hi1] at hL
        rw [show j + 2 = i2 from by omega] at hq h123 hrn
        have h1s : i1 < s.size := by
          have := nx_pos (l := rest s i1) (by
            rcases Nat.eq_zero_or_pos (nx (rest s i1)) with h | h
            · exact absurd (by rw [h]; decide) hL.2
            · exact h)
          rw [rest_len] at this; omega
        have h1i : (i1 : Int) < (s.size : Int) := by omega
        have h1e : ((i1 : Int) == (s.size : Int)) = false := by rw [beq_eq_false_iff_ne]; omega
        have hx0 : s[j].toNat = 92 := by rw [← nx_rest hlt]; exact h92
        obtain ⟨y, hy⟩ : ∃ y, s[i1].toNat = y := ⟨_, rfl⟩
        have hy255 : y ≤ 255 := by have := s[i1].toNat_lt; omega
        have hLy : letD y = L := by rw [← hy, ← nx_rest h1s]; exact hL.1
        have HR1 := Lib.hid (HRj.out.step (by omega) (z := (i1 : Int)) (by omega))
        rw [hi1] at HR1
        have HR2 := Lib.hid (HR1.out.step (by omega) (z := (i2 : Int)) (by omega))
        rw [hi2] at HR2
        have HCL := Lib.hid (fun w => rlet_any y w hy255)
        rw [hLy] at HCL
        have HCN := Lib.hid (rcnt_any _ R i2 s HR2.out h123 (by omega))
        rw [← hq] at HCN
        have G2 := Lib.hid (gr_bb (gr_bb Gj.out (gr_set wr R 1 (.int .i64 (i1 : Int)))) (gr_set _ R 1 (.int .i64 (i2 : Int))))
        have HF2 := Lib.hid ((HF.out.keptb (gr_set wr R 1 (.int .i64 (i1 : Int))) (by have := HSA.out; omega)).keptb (gr_set _ R 1 (.int .i64 (i2 : Int))) (by have := HSA.out; omega))
        obtain ⟨a1, b1, n1⟩ := q
        have d0 := HR1.out.c0
        have d1 := HR1.out.c1
        have d3 := HR1.out.f1
        have k0 := HR2.out.c0
        have k1 := HR2.out.c1
        have k3 := HR2.out.f1
        have hLb : ((L : Int) == 0) = false := by rw [beq_eq_false_iff_ne]; have := hL.2; have := hL.1; omega
        have hLp : (0 : Int) < (L : Int) := by have := hL.2; have := hL.1; omega
        have HJ := Lib.hid (And.intro hi1 (And.intro hi2 (And.intro hrs hrn)))
        have HL0 := Lib.hid (show (L : Int) ≠ 0 from by have := hL.2; have := hL.1; omega)
        clear hL hq h123 hrs hrn hi1 hi2 h92 hLy
        simp only at HCN
        go_wp2_with fail
        refine (HCL.out _).mono ?_
        rintro e w3 ⟨rfl, rfl⟩
        go_wp2_with fail
        refine (HCL.out _).mono ?_
        rintro e w3 ⟨rfl, rfl⟩
        go_wp2_with fail
        refine HCN.out.mono ?_
        rintro e w4 ⟨rfl, hr4, g4⟩
        have HR4 := Lib.hid hr4
        have F4 := HF2.out.keptb g4 (by have := HSA.out; omega)
        have G4 := gr_bb G2.out g4
        obtain ⟨v5, w5, r5, f5, g5, k5⟩ := app_p wa w4 R u6 acc ⟨(L : Int), a1, b1, ⟨#[]⟩⟩ F4 (by omega) G4
        have F5 := Lib.hid f5
        have G5 := Lib.hid g5
        have R5 := Lib.hid (show Rr w5 R s (i2 + n1) from ⟨hr4.row.okP (by decide) k5, hr4.le⟩)
        clear f5 g5 k5 F4 G4 g4 hr4 c0 c1 c3 d0 d1 d3 k0 k1 k3
        simp only at r5
        go_wp2_with (at_builtin; refine wpList_call_append rfl (.tmp 100) (.tmp 105) 47 rfl _ _ rfl rfl _ _ r5 ?_)
        obtain ⟨hj1, hj2, rfl, hrn⟩ := HJ.out
        refine ⟨⟨i2 + n1, m', false, acc ++ [⟨(L : Int), a1, b1, ⟨#[]⟩⟩], rs', R5.out.le, by rw [List.length_append, List.length_singleton]; omega, Lib.hid hrn, Lib.hid (fun _ => .inr ⟨acc, _, rfl, by have := HL0.out; simp only; omega⟩), Lib.hid (by rw [← HAC.out, List.append_assoc]; rfl), F5, R5, G5⟩, ?_⟩
        rw [R5.out.at_, HRj.out.at_]
        have := R5.out.le
        omega
      · have HPL0 := Lib.hid (HPL.out hpl)
        obtain ⟨x, hxx⟩ : ∃ x, s[j].toNat = x := ⟨_, rfl⟩
        have hx255 : x ≤ 255 := by have := s[j].toNat_lt; omega
        rw [nx_rest hlt, hxx] at hch hrs
        obtain ⟨hc1, hc2, hc3⟩ := hch
        have hx92 : ((x : Int) == 92) = false := by rw [beq_eq_false_iff_ne]; omega
        have HSP := Lib.hid (fun w => hc2 ▸ rspec_any x w hx255)
        have HCC := Lib.hid (fun w => rclass_any x w hx255)
        obtain ⟨cl, hcl⟩ : ∃ cl, clsD x = cl := ⟨_, rfl⟩
        rw [hcl] at HCC hc3
        have hclb : ((cl : Int) == 0) = false := by rw [beq_eq_false_iff_ne]; omega
        obtain ⟨i1, hi1⟩ : ∃ i1, j + 1 = i1 := ⟨_, rfl⟩
        have e1 : (j : Int) + 1 = (i1 : Int) := by omega
        have HR1 := Lib.hid (HRj.out.step (by omega) (z := (i1 : Int)) (by omega))
        rw [hi1] at HR1 hrn
        have G1 := Lib.hid (gr_bb Gj.out (gr_set wr R 1 (.int .i64 (i1 : Int))))
        have HF1 := Lib.hid (HF.out.keptb (gr_set wr R 1 (.int .i64 (i1 : Int))) (by have := HSA.out; omega))
        have HRS := Lib.hid (And.intro hrs hrn)
        have hi1s : i1 ≤ s.size := by omega
        have HI1 := Lib.hid hi1
        clear hc2 hcl hi1 hrs hrn hpl
        rcases HPL0.out with hacc0 | ⟨al, ap, hal, hapk⟩
        · subst hacc0
          obtain ⟨w1, hw1⟩ : ∃ w1, wr.setCell ⟨R, 1, none⟩ (.int .i64 (i1 : Int)) = w1 := ⟨_, rfl⟩
          rw [hw1] at HR1 G1 HF1
          have hcv := (form_byte w1 x hx255).str
          have hszw : (wr.setCell ⟨R, 1, none⟩ (.int .i64 (i1 : Int))).heap.size = wr.heap.size := by simp [World.setCell]
          rw [← hw1, hszw] at hcv
          obtain ⟨v5, w5, r5, f5, g5, k5⟩ := app_p wa (w1.alloc (.cells #[.int .u8 (x : Int)] 5)) R u6 [] ⟨0, 0, 0, ⟨#[UInt8.ofNat x]⟩⟩ (HF1.out.kept (gr_alloc w1 _ none)) (by simp) (gr_trans G1.out (gr_alloc w1 _ none) (.inr rfl) (.inl rfl))
          have F5 := Lib.hid f5
          have G5 := Lib.hid g5
          have R5 := Lib.hid (show Rr w5 R s i1 from ⟨(HR1.out.row.al).okP (by decide) k5, hi1s⟩)
          have hu6 : u6 = .slice none 0 0 ∨ True := .inr trivial
          obtain ⟨u0, u1, rfl⟩ : ∃ a c, u6 = .slice a 0 c := by
            rcases HF.out.2 with ⟨h, _⟩ | ⟨_, _, _, h, _⟩
            · exact ⟨_, _, h⟩
            · exact ⟨_, _, h⟩
          rw [← hw1] at r5
          simp only [World.size_alloc, hszw] at r5
          clear f5 g5 k5 hw1 hu6 hszw
          go_wp2_with fail
          refine (HSP.out _).mono ?_
          rintro e w3 ⟨rfl, rfl⟩
          go_wp2_with fail
          refine (HCC.out _).mono ?_
          rintro e w3 ⟨rfl, rfl⟩
          go_wp2_with (at_builtin; refine wpList_call_append rfl (.tmp 163) (.tmp 168) 47 rfl _ _ rfl rfl _ _ r5 ?_)
          refine ⟨⟨i1, m', true, [] ++ [⟨0, 0, 0, ⟨#[UInt8.ofNat x]⟩⟩], rs', R5.out.le, by have := HI1.out; simp; omega, Lib.hid HRS.out.2, Lib.hid (fun h => by cases h), Lib.hid (by rw [← HAC.out, HRS.out.1]; rfl), F5, R5, G5⟩, ?_⟩
          rw [R5.out.at_, HRj.out.at_]
          have := R5.out.le
          have := HI1.out
          omega
        · subst hal
          obtain ⟨w1, hw1⟩ : ∃ w1, wr.setCell ⟨R, 1, none⟩ (.int .i64 (i1 : Int)) = w1 := ⟨_, rfl⟩
          rw [hw1] at HR1 G1 HF1
          have hcv := (form_byte w1 x hx255).str
          have hszw : (wr.setCell ⟨R, 1, none⟩ (.int .i64 (i1 : Int))).heap.size = wr.heap.size := by simp [World.setCell]
          rw [← hw1, hszw] at hcv
          obtain ⟨v5, w5, r5, f5, g5, k5⟩ := app_p wa (w1.alloc (.cells #[.int .u8 (x : Int)] 5)) R u6 (al ++ [ap]) ⟨0, 0, 0, ⟨#[UInt8.ofNat x]⟩⟩ (HF1.out.kept (gr_alloc w1 _ none)) (by omega) (gr_trans G1.out (gr_alloc w1 _ none) (.inr rfl) (.inl rfl))
          have F5 := Lib.hid f5
          have G5 := Lib.hid g5
          have R5 := Lib.hid (show Rr w5 R s i1 from ⟨(HR1.out.row.al).okP (by decide) k5, hi1s⟩)
          obtain ⟨g, cap, rfl, _, _, hk0, _⟩ := PF.last HF1.out
          rw [← hw1] at r5 hk0
          simp only [World.size_alloc, hszw] at r5
          obtain ⟨y, hy⟩ : ∃ y, al.length = y := ⟨_, rfl⟩
          have HY := Lib.hid hy
          rw [hy] at hk0 r5 ⊢
          have hapb : (ap.k == 0) = false := by rw [beq_eq_false_iff_ne]; exact hapk
          have hyb : (0 : Int) < (y : Int) + 1 := by omega
          have hyl : y ≤ 100 := by have := hacc; rw [List.length_append] at this; simp at this; omega
          generalize ap.k = apk at hk0 hapb
          clear f5 g5 k5 hw1 hapk hy hszw
          go_wp2_with fail
          refine (HSP.out _).mono ?_
          rintro e w3 ⟨rfl, rfl⟩
          go_wp2_with fail
          refine (HCC.out _).mono ?_
          rintro e w3 ⟨rfl, rfl⟩
          go_wp2_with (at_builtin; refine wpList_call_append rfl (.tmp 163) (.tmp 168) 47 rfl _ _ rfl rfl _ _ r5 ?_)
          refine ⟨⟨i1, m', true, (al ++ [ap]) ++ [⟨0, 0, 0, ⟨#[UInt8.ofNat x]⟩⟩], rs', R5.out.le, by have := HI1.out; rw [List.length_append]; simp at hacc ⊢; omega, Lib.hid HRS.out.2, Lib.hid (fun h => by cases h), Lib.hid (by rw [← HAC.out, HRS.out.1, List.append_assoc]; rfl), F5, R5, G5⟩, ?_⟩
          rw [R5.out.at_, HRj.out.at_]
          have := R5.out.le
          have := HI1.out
          omega
    · have hlti : decide ((j : Int) < (s.size : Int)) = false := decide_eq_false (by omega)
      have hltn : decide (j < s.size) = false := decide_eq_false hlt
      have HE := Lib.hid (show acc = ps from by
        have h1 := HRN.out
        have h0 : (rest s j).length = 0 := by rw [rest_len]; omega
        have : runsG m pl (rest s j) = some [] := by cases m <;> exact if_pos h0
        rw [this] at h1
        cases h1
        rw [← HAC.out, List.append_nil])
      obtain ⟨a0, n0, k0, hv⟩ : ∃ a0 n0 k0, u6 = .slice a0 n0 k0 := by
        rcases HF.out.2 with ⟨h, _⟩ | ⟨_, _, _, h, _⟩
        · exact ⟨_, _, _, h⟩
        · exact ⟨_, _, _, h⟩
      clear hlt
      go_wp2
      go_ret3
      exact ⟨u6, rfl, by have := HF.out.pcs; rwa [HE.out] at this, gr_new HGA.out Gj.out (by rw [HRR.out]; exact Nat.le_refl _)⟩
end Go.Proofs.YtaejnklgnegkhaaGreatDoor
namespace Go.Proofs.YtaejnklgnegkhaaGreatDoor
open Pt

namespace Sh
open Classical
/-- A shape from bytes. -/
abbrev mk5 (l m c : Int) (b e : List UInt8) : S5 := ⟨l, m, c, BA b, BA e⟩
theorem ofD_val {l : List UInt8} {n c : Int} (ht : isTextD l = true) (hn : (l.length : Int) = n) (hc : cbI l = c) : ofD (BA l) = mk5 n n c l l := by
  have h : isTextD (BA l).data.toList = true := ht
  unfold ofD
  rw [if_pos h, ← hn, ← hc]
  rfl
theorem of_a1 : ofD (BA [97, 49]) = mk5 2 2 10 [97, 49] [97, 49] := ofD_val (by decide) (by decide) (by decide)
theorem of_ab : ofD (BA [97, 98]) = mk5 2 2 8 [97, 98] [97, 98] := ofD_val (by decide) (by decide) (by decide)
theorem of_a1b : ofD (BA [97, 49, 98]) = mk5 3 3 10 [97, 49, 98] [97, 49, 98] := ofD_val (by decide) (by decide) (by decide)
theorem of_a : ofD (BA [97]) = mk5 1 1 8 [97] [97] := ofD_val (by decide) (by decide) (by decide)
theorem inD_of {a : S5} {s : List UInt8} (h1 : isTextD s = true) (h2 : a.l ≤ (s.length : Int)) (h3 : (s.length : Int) ≤ a.m) (h4 : ∀ c ∈ s, bit a.c (clsD c.toNat) = true) (h5 : a.b.data.toList.isPrefixOf s = true) (h6 : a.e.data.toList.isSuffixOf s = true) : inD a s :=
  ⟨h1, h2, h3, cb_sub.2 h4, List.isPrefixOf_iff_prefix.1 h5, List.isSuffixOf_iff_suffix.1 h6⟩
theorem in_mk {l m c : Int} {b e : List UInt8} (s : List UInt8) (h : (isTextD s && decide (l ≤ (s.length : Int)) && decide ((s.length : Int) ≤ m) && s.all (fun x => bit c (clsD x.toNat)) && b.isPrefixOf s && e.isSuffixOf s) = true) : inD (mk5 l m c b e) s := by
  simp only [Bool.and_eq_true, decide_eq_true_eq, List.all_eq_true] at h
  obtain ⟨⟨⟨⟨⟨h1, h2⟩, h3⟩, h4⟩, h5⟩, h6⟩ := h
  exact inD_of h1 h2 h3 h4 h5 h6
theorem canon_mk {l m c : Int} {b e : List UInt8} {l' m' c' : Int} (s : List UInt8) (h : (isTextD s && decide (l ≤ (s.length : Int)) && decide ((s.length : Int) ≤ m) && s.all (fun x => bit c (clsD x.toNat)) && b.isPrefixOf s && e.isSuffixOf s) = true)
    (hl : max (max l (b.length : Int)) (e.length : Int) = l') (hm : min m 200 = m') (hc : bits .and .i64 c 110 = c') : canonD (mk5 l m c b e) = mk5 l' m' c' b e := by
  rw [(in_canon (in_mk s h)).1, ← hl, ← hm, ← hc]
  rfl
theorem mk_ne {l m c : Int} {b e : List UInt8} (h : l ≠ 1 ∨ m ≠ 0) : mk5 l m c b e ≠ none5 := by
  intro h0
  have h1 := congrArg S5.l h0
  have h2 := congrArg S5.m h0
  simp only [none5] at h1 h2
  rcases h with h | h
  · exact h h1
  · exact h h2
theorem c_ab : canonD (mk5 2 2 8 [97, 98] [97, 98]) = mk5 2 2 8 [97, 98] [97, 98] := canon_mk [97, 98] (by decide) (by decide) (by decide) (by decide)
theorem c_a1b : canonD (mk5 3 3 10 [97, 49, 98] [97, 49, 98]) = mk5 3 3 10 [97, 49, 98] [97, 49, 98] := canon_mk [97, 49, 98] (by decide) (by decide) (by decide) (by decide)
theorem ex_join : joinD (mk5 2 2 8 [97, 98] [97, 98]) (mk5 3 3 10 [97, 49, 98] [97, 49, 98]) = mk5 2 3 10 [97] [98] := by
  unfold joinD
  rw [c_ab, c_a1b, if_neg (mk_ne (.inl (by decide))), if_neg (mk_ne (.inl (by decide)))]
  have e1 : bits .or .i64 8 10 = 10 := by decide
  show S5.mk (min 2 3) (max 2 3) (bits .or .i64 8 10) (BA (cpre [97, 98] [97, 49, 98])) (BA (csuf [97, 98] [97, 49, 98])) = _
  rw [e1]
  rfl
theorem ex_e2 : ¬ emptyD (mk5 0 3 110 [97, 98] [98, 97]) := in_not_none (in_mk [97, 98, 97] (by decide))
theorem ex_e1 : emptyD (mk5 0 1 110 [97, 98] []) := by
  rw [empty_iff]
  rintro ⟨_, n, h1, h2, _⟩
  have h1' : max (max (0 : Int) 2) 0 ≤ n := h1
  have h2' : n ≤ min 1 200 := h2
  omega
theorem ex_e3 : emptyD (mk5 0 2 110 [97, 98] [98, 97]) := by
  rw [empty_iff]
  rintro ⟨_, n, h1, h2, h3⟩
  have h1' : max (max (0 : Int) 2) 2 ≤ n := h1
  have h2' : n ≤ min 2 200 := h2
  have hn : n = 2 := by omega
  subst hn
  unfold canD at h3
  have e : ¬ ((ownD (mk5 0 2 110 [97, 98] [98, 97])).b.size : Int) + ((ownD (mk5 0 2 110 [97, 98] [98, 97])).e.size : Int) < 2 := by decide
  rw [if_neg e] at h3
  have h4 : ([97, 98] : List UInt8) <+: [98, 97] := h3
  rw [← List.isPrefixOf_iff_prefix] at h4
  revert h4
  decide
theorem ex_meet : meetD (mk5 0 9 110 [97] []) (mk5 0 9 110 [98] []) = none5 := by
  unfold meetD
  rw [if_neg]
  rintro ⟨h, _⟩
  have h4 : ([98] : List UInt8) <+: [97] := h
  rw [← List.isPrefixOf_iff_prefix] at h4
  revert h4
  decide
theorem c_a : canonD (mk5 1 1 8 [97] [97]) = mk5 1 1 8 [97] [97] := canon_mk [97] (by decide) (by decide) (by decide) (by decide)
theorem c_d5 : canonD (mk5 0 5 2 [] []) = mk5 0 5 2 [] [] := canon_mk [] (by decide) (by decide) (by decide) (by decide)
theorem ex_conc : concD (mk5 1 1 8 [97] [97]) (mk5 0 5 2 [] []) = mk5 1 6 10 [97] [] := by
  unfold concD
  rw [c_a, c_d5, if_neg (by
    rintro (h | h | h)
    · exact mk_ne (.inr (by decide)) h
    · exact mk_ne (.inl (by decide)) h
    · revert h; decide)]
  have f1 : fixD (mk5 1 1 8 [97] [97]) := ⟨rfl, rfl⟩
  have f2 : ¬ fixD (mk5 0 5 2 [] []) := by rintro ⟨h, _⟩; revert h; decide
  rw [if_pos f1, if_neg f2]
  have e1 : bits .or .i64 8 2 = 10 := by decide
  show S5.mk (1 + 0) (min (1 + 5) 200) (bits .or .i64 8 2) (BA [97] ++ BA []) (BA []) = _
  rw [e1]
  rfl
/-- The bits that a class of pieces allows. -/
def bitsOf (k : Int) : Int := if k = 4 then 12 else if k = 7 then 110 else ((2 ^ k.toNat : Nat) : Int)
noncomputable def pieceS (p : Pc) : S5 := if p.k = 0 then ofD p.t else ⟨p.a, p.b, bitsOf p.k, BA [], BA []⟩
/-- What Pattern gives. -/
noncomputable def patD (ps : List Pc) : S5 := if rightL ps = true then ps.foldl (fun a p => concD a (pieceS p)) (ofD (BA [])) else none5
theorem of_nil : ofD (BA []) = mk5 0 0 0 [] [] := ofD_val (by decide) (by decide) (by decide)
theorem of_m : ofD (BA [45]) = mk5 1 1 64 [45] [45] := ofD_val (by decide) (by decide) (by decide)
theorem conc_mk {l m c l2 m2 c2 l3 m3 c3 : Int} {b e b2 e2 b3 e3 : List UInt8} (h1 : canonD (mk5 l m c b e) = mk5 l m c b e) (h2 : canonD (mk5 l2 m2 c2 b2 e2) = mk5 l2 m2 c2 b2 e2) (n1 : l ≠ 1 ∨ m ≠ 0) (n2 : l2 ≠ 1 ∨ m2 ≠ 0) (hl : l + l2 = l3) (h200 : l3 ≤ 200) (hm : min (m + m2) 200 = m3) (hc : bits .or .i64 c c2 = c3)
    (hb : (if l = m ∧ l = (b.length : Int) then b ++ b2 else b) = b3) (he : (if l2 = m2 ∧ l2 = (b2.length : Int) then e ++ b2 else e2) = e3) : concD (mk5 l m c b e) (mk5 l2 m2 c2 b2 e2) = mk5 l3 m3 c3 b3 e3 := by
  unfold concD
  rw [h1, h2, if_neg (by
    rintro (h | h | h)
    · exact mk_ne n1 h
    · exact mk_ne n2 h
    · have h' : (200 : Int) < l + l2 := h
      omega)]
  rw [← hl, ← hm, ← hc, ← hb, ← he]
  have f1 : fixD (mk5 l m c b e) ↔ (l = m ∧ l = (b.length : Int)) := Iff.rfl
  have f2 : fixD (mk5 l2 m2 c2 b2 e2) ↔ (l2 = m2 ∧ l2 = (b2.length : Int)) := Iff.rfl
  have cat : ∀ x y : List UInt8, BA x ++ BA y = BA (x ++ y) := fun x y => by
    apply ByteArray.ext
    simp
  by_cases g1 : l = m ∧ l = (b.length : Int) <;> by_cases g2 : l2 = m2 ∧ l2 = (b2.length : Int)
  · rw [if_pos (f1.2 g1), if_pos (f2.2 g2), if_pos g1, if_pos g2]
    show S5.mk _ _ _ (BA b ++ BA b2) (BA e ++ BA b2) = _
    rw [cat, cat]
  · rw [if_pos (f1.2 g1), if_neg (fun h => g2 (f2.1 h)), if_pos g1, if_neg g2]
    show S5.mk _ _ _ (BA b ++ BA b2) _ = _
    rw [cat]
  · rw [if_neg (fun h => g1 (f1.1 h)), if_pos (f2.2 g2), if_neg g1, if_pos g2]
    show S5.mk _ _ _ _ (BA e ++ BA b2) = _
    rw [cat]
  · rw [if_neg (fun h => g1 (f1.1 h)), if_neg (fun h => g2 (f2.1 h)), if_neg g1, if_neg g2]
def exP : List Pc := [⟨2, 1, 1, ⟨#[]⟩⟩, ⟨3, 0, 200, ⟨#[]⟩⟩, ⟨0, 0, 0, ⟨#[45]⟩⟩]
theorem ex_pat (hr : rightL exP = true) : patD exP = mk5 2 200 76 [] [45] := by
  have s1 : concD (mk5 0 0 0 [] []) (mk5 1 1 4 [] []) = mk5 1 1 4 [] [] :=
    conc_mk (canon_mk [] (by decide) (by decide) (by decide) (by decide)) (canon_mk [65] (by decide) (by decide) (by decide) (by decide)) (.inl (by decide)) (.inr (by decide)) (by decide) (by decide) (by decide) (by decide) (by decide) (by decide)
  have s2 : concD (mk5 1 1 4 [] []) (mk5 0 200 8 [] []) = mk5 1 200 12 [] [] :=
    conc_mk (canon_mk [65] (by decide) (by decide) (by decide) (by decide)) (canon_mk [] (by decide) (by decide) (by decide) (by decide)) (.inr (by decide)) (.inl (by decide)) (by decide) (by decide) (by decide) (by decide) (by decide) (by decide)
  have s3 : concD (mk5 1 200 12 [] []) (mk5 1 1 64 [45] [45]) = mk5 2 200 76 [] [45] :=
    conc_mk (canon_mk [65] (by decide) (by decide) (by decide) (by decide)) (canon_mk [45] (by decide) (by decide) (by decide) (by decide)) (.inr (by decide)) (.inr (by decide)) (by decide) (by decide) (by decide) (by decide) (by decide) (by decide)
  have p1 : pieceS ⟨2, 1, 1, ⟨#[]⟩⟩ = mk5 1 1 4 [] [] := rfl
  have p2 : pieceS ⟨3, 0, 200, ⟨#[]⟩⟩ = mk5 0 200 8 [] [] := rfl
  have p3 : pieceS ⟨0, 0, 0, ⟨#[45]⟩⟩ = mk5 1 1 64 [45] [45] := of_m
  unfold patD
  rw [if_pos hr]
  show concD (concD (concD (ofD (BA [])) _) _) _ = _
  rw [of_nil, p1, s1, p2, s2, p3, s3]
end Sh
end Go.Proofs.YtaejnklgnegkhaaGreatDoor
namespace Go.Proofs.YtaejnklgnegkhaaGreatDoor
open Go.RowKit Pt Sh

theorem dig1 (n : Nat) (h : n < 10) : Lib.itoa (n : Int) = [UInt8.ofNat (48 + n)] := by rw [Lib.itoa_nonneg, Lib.decDigits_one h]
theorem dig2 (n : Nat) (h1 : ¬ n < 10) (h2 : n < 100) : Lib.itoa (n : Int) = [UInt8.ofNat (48 + n / 10), UInt8.ofNat (48 + n % 10)] := by rw [Lib.itoa_nonneg, Lib.decDigits_two h1 h2]
theorem ex_text : textD (mk5 2 2 10 [97, 49] [97, 49]) = [50, 32, 50, 32, 49, 48, 32, 50, 58, 97, 49, 32, 50, 58, 97, 49] := by
  have e2 : Lib.itoa 2 = [50] := dig1 2 (by decide)
  have e10 : Lib.itoa 10 = [49, 48] := dig2 10 (by decide) (by decide)
  have ec : cntS (BA [97, 49]) = [50, 58, 97, 49] := by
    unfold cntS
    show Lib.itoa 2 ++ [58] ++ [97, 49] = _
    rw [e2]; rfl
  unfold textD textL
  show Lib.join ([BA (Lib.itoa 2), BA (Lib.itoa 2), BA (Lib.itoa 10), BA (cntS (BA [97, 49])), BA (cntS (BA [97, 49]))].map (·.data.toList)) [32] = _
  rw [e2, e10, ec]
  rfl
theorem ex_right : rightL exP = true := by decide
theorem ex_runs : runsG 6 false (⟨#[92, 117, 92, 108, 42, 45]⟩ : ByteArray).data.toList = some exP := by rfl
end Go.Proofs.YtaejnklgnegkhaaGreatDoor
namespace Go.Proofs.YtaejnklgnegkhaaGreatDoor
open Go.RowKit Pt Sh

set_option maxRecDepth 100000 in
theorem bitsof_any (k : Int) (w : World) (h1 : 1 ≤ k) (h7 : k ≤ 7) : Calls Tryz.prog 93 #[.int .i64 k] w fun e w' => e = .returned (.int .i64 (bitsOf k)) ∧ w = w' := by
  rcases (show k = 1 ∨ k = 2 ∨ k = 3 ∨ k = 4 ∨ k = 5 ∨ k = 6 ∨ k = 7 by omega) with rfl | rfl | rfl | rfl | rfl | rfl | rfl
  all_goals
    clear h1 h7
    go_enter Tryz.func93, Tryz.ntmps93
    go_wp2
    go_ret
    exact ⟨rfl, rfl⟩
set_option maxRecDepth 100000 in
set_option maxHeartbeats 4000000 in
theorem opiece_any (p : Pc) (w : World) (hp : p.k = 0 ∨ (1 ≤ p.k ∧ p.k ≤ 7)) (ht : p.t.size ≤ 1000) : Calls Tryz.prog 63 #[.agg #[.int .i64 p.k, .int .i64 p.a, .int .i64 p.b, .string p.t]] w fun e w' => e = .returned (vS (pieceS p)) ∧ w.grownBy w' none := by
  obtain ⟨k, a, b, t⟩ := p
  simp only at hp ht
  have RZ := Row.new (w.alloc (.cells #[.int .i64 k, .int .i64 a, .int .i64 b, .string t] 52)) [.int .i64 0, .int .i64 0, .int .i64 0, .string ⟨#[]⟩, .string ⟨#[]⟩] 24
  rw [World.size_alloc] at RZ
  simp only [List.toArray] at RZ
  by_cases hk : k = 0
  · subst hk
    have HO := Lib.hid (fun w0 => of_any t w0 (by omega))
    rw [show pieceS ⟨0, a, b, t⟩ = ofD t from if_pos rfl]
    generalize ofD t = K at *
    obtain ⟨kl, km, kc, kb, ke⟩ := K
    clear hp ht
    go_enter Tryz.func63, Tryz.ntmps63
    go_wp2_with fail
    refine (HO.out _).mono ?_
    rintro e w1 ⟨rfl, g1⟩
    have R2 := RZ.kept g1
    have f0 := R2.fr 0
    have f1 := R2.fr 1
    have f2 := R2.fr 2
    have f3 := R2.fr 3
    have f4 := R2.fr 4
    have c0 := R2.cell 0 _ rfl
    have c1 := R2.cell 1 _ rfl
    have c2 := R2.cell 2 _ rfl
    have c3 := R2.cell 3 _ rfl
    have c4 := R2.cell 4 _ rfl
    have HR2 := Lib.hid R2
    have G2 := Lib.hid (gr_two g1)
    clear R2 RZ g1
    go_wp2
    exact bodyPost_ret (v := vS ⟨kl, km, kc, kb, ke⟩) (results_shape (a := ⟨kl, km, kc, kb, ke⟩) rfl rfl HR2.out.five) rfl ⟨rfl, gr_five G2.out (by omega)⟩
  · have hkb : (k == 0) = false := by rw [beq_eq_false_iff_ne]; exact hk
    have HB := Lib.hid (fun w0 => (bitsof_any k w0 (by omega) (by omega)).mono fun _ w' h => And.intro h.1 (show w' = w0 from h.2.symm))
    rw [show pieceS ⟨k, a, b, t⟩ = ⟨a, b, bitsOf k, BA [], BA []⟩ from if_neg hk]
    generalize bitsOf k = z at *
    obtain ⟨wz, hwz⟩ : ∃ wz, (w.alloc (.cells #[.int .i64 k, .int .i64 a, .int .i64 b, .string t] 52)).alloc (.cells #[.int .i64 0, .int .i64 0, .int .i64 0, .string ⟨#[]⟩, .string ⟨#[]⟩] 24) = wz := ⟨_, rfl⟩
    have RP := (Row.new w [.int .i64 k, .int .i64 a, .int .i64 b, .string t] 52).al (o := .cells #[.int .i64 0, .int .i64 0, .int .i64 0, .string ⟨#[]⟩, .string ⟨#[]⟩] 24)
    simp only [List.toArray] at RP
    rw [hwz] at RZ RP
    have GZ := Lib.hid (show w.grownBy wz none from by rw [← hwz]; exact gr_then (gr_alloc _ _ _) (gr_alloc _ _ _))
    have HWZ := Lib.hid hwz
    have HRZ := Lib.hid RZ
    have c0 := RP.cell 0 _ rfl
    have c1 := RP.cell 1 _ rfl
    have c2 := RP.cell 2 _ rfl
    have z0 := RZ.cell 0 _ rfl
    have z1 := RZ.cell 1 _ rfl
    have z2 := RZ.cell 2 _ rfl
    have z3 := RZ.cell 3 _ rfl
    have z4 := RZ.cell 4 _ rfl
    have f0 := RZ.fr 0
    have f1 := RZ.fr 1
    have f2 := RZ.fr 2
    have f3 := RZ.fr 3
    have f4 := RZ.fr 4
    clear hp ht hk hwz RZ RP
    go_enter Tryz.func63, Tryz.ntmps63
    go_wp2_with fail
    rw [HWZ.out]
    go_region_with (go_at_call 93; with_reducible refine (HB.out _).mono ?_; rintro e1 w1 ⟨rfl, rfl⟩)
    all_goals
      go_wp2_with fail
      exact bodyPost_ret (v := vS ⟨a, b, z, BA [], BA []⟩) (results_shape (a := ⟨a, b, z, BA [], BA []⟩) rfl rfl (HRZ.out.five (v0 := .int .i64 a) (v1 := .int .i64 b) (v2 := .int .i64 z) (v3 := .string ⟨#[]⟩) (v4 := .string ⟨#[]⟩)).dr) rfl ⟨rfl, gr_dr (gr_five GZ.out (by omega))⟩
end Go.Proofs.YtaejnklgnegkhaaGreatDoor
