/- The law DecimalSums holds: for all arguments, concord/concordlaw04.DecimalSums returns true (sums, differences and comparisons are those of the reference implementation). -/
import Derived.Test.YtmlmjhlakpgagaaDoorBSums0
import Derived.Test.YtmlmjhlakpgagaaDoorTie
import Derived.Test.YtmlmjhlakpgagaaDoorCards
import Derived.SevenTiedAt
namespace Go.Proofs.YtmlmjhlakpgagaaDoor
open Go

theorem sums_card : Rows.DecimalSumsCardSaid :=
  Claim7.holds_tied_plain_at .later [] [.data, .data, .data, .sentinel, .sentinel, .data] true (true, "be465bcafa16da32ea83eb7386d25f850520ede3029860c5fb28474dd8babd7c") true
    sums_row (fun _ h => by cases h) (by kernel_rfl) (fun _ h => by cases h) decimalSums_row_tie rfl ⟨rfl, rfl⟩ (by kernel_rfl) rfl
    (fun f fn hf hfn => by
      obtain rfl : f = 4 := Option.some.inj ((show Tryd.prog.funcNamed "concord/concordlaw04.DecimalSums" = some 4 by kernel_rfl).symm.trans hf) |>.symm
      obtain rfl : fn = Tryd.f4 := (Option.some.inj (Tryd.func4.symm.trans hfn)).symm
      exact ⟨by kernel_rfl, fun j t ht => by
        rw [Tryd.params4] at ht
        have h3 : t = 32 ∨ t = 23 := by
          rcases j with _ | _ | _ | j
          · exact .inr (by simpa using ht.symm)
          · exact .inr (by simpa using ht.symm)
          · exact .inl (by simpa using ht.symm)
          · simp at ht
        rcases h3 with rfl | rfl
        · exact (show Tryd.prog.wantsStandIn 32 = false by kernel_rfl)
        · exact (show Tryd.prog.wantsStandIn 23 = false by kernel_rfl)⟩)
    (by kernel_rfl)
#print axioms sums_card
end Go.Proofs.YtmlmjhlakpgagaaDoor
