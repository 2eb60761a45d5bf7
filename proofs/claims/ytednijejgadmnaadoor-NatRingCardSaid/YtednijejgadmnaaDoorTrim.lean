/- The contract of nat.trimmed: the slice without the numbers 0 at its end; memory stays as it was. -/
import Derived.Test.YtednijejgadmnaaDoorStr
namespace Go.Proofs.YtednijejgadmnaaDoor
open Go.RowKit Mth

theorem trimmed_any (b off n c : Nat) (xs : List Nat) (w : World) (hb : Blk .u64 57 w b xs) (hn : off + n ≤ xs.length) (hc : n ≤ c) (hm : c ≤ maxLen) :
    Calls Tryd.prog 54 #[.slice (some ⟨b, off, none⟩) n c] w fun e w' => (∃ m, e = .returned (.slice (some ⟨b, off, none⟩) m c) ∧ m ≤ n ∧ (∀ i, m ≤ i → i < n → gt xs (off + i) = 0) ∧ (m = 0 ∨ gt xs (off + (m - 1)) ≠ 0)) ∧ w = w' := by
  unfold maxLen at hm
  go_enter Tryd.func54, Tryd.ntmps54
  go_wp2
  go_loop [0] (fun v => ∃ m : Nat, m ≤ n ∧ v = .slice (some ⟨b, off, none⟩) m c ∧ Hid (∀ i, m ≤ i → i < n → gt xs (off + i) = 0)) (fun v => lenOf v)
  case atStart => exact ⟨n, Nat.le_refl _, rfl, fun i h1 h2 => by omega⟩
  case round =>
    obtain ⟨m, hmn, rfl, hz⟩ := hrel
    have hcell : 0 < m → w.cell? ⟨b, off + (m - 1), none⟩ = some (.int .u64 ((gt xs (off + (m - 1)) : Nat) : Int)) := fun h => hb.cell (by omega)
    go_wp2
    · have h1 : 0 < m := by assumption
      have h2 : ((gt xs (off + (m - 1)) : Int) == 0) = true := by assumption
      have h0 : gt xs (off + (m - 1)) = 0 := by have := beq_iff_eq.1 h2; omega
      refine ⟨⟨m - 1, by omega, rfl, fun i h3 h4 => ?_⟩, by simp only [lenOf]; omega⟩
      by_cases e : i = m - 1
      · rw [e]; exact h0
      · exact hz.out i (by omega) h4
    · have h1 : 0 < m := by assumption
      have h2 : ((gt xs (off + (m - 1)) : Int) == 0) = false := by assumption
      have h0 : gt xs (off + (m - 1)) ≠ 0 := by intro e; rw [e] at h2; simp at h2
      go_ret
      exact ⟨⟨m, rfl, hmn, hz.out, .inr h0⟩, rfl⟩
    · have h1 : ¬ 0 < m := by assumption
      go_ret
      exact ⟨⟨m, rfl, hmn, hz.out, .inl (by omega)⟩, rfl⟩
end Go.Proofs.YtednijejgadmnaaDoor
