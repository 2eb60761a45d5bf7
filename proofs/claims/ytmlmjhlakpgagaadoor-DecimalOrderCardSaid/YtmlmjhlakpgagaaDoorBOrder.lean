/- The law DecimalOrder holds: for all arguments, concord/concordlaw04.DecimalOrder returns true (Cmp is a total order, kept by sums and by rounding). -/
import Derived.Test.YtmlmjhlakpgagaaDoorBOrder0
import Derived.Test.YtmlmjhlakpgagaaDoorTie
import Derived.Test.YtmlmjhlakpgagaaDoorCards
import Derived.SevenTiedAt
namespace Go.Proofs.YtmlmjhlakpgagaaDoor
open Go

theorem order_card : Rows.DecimalOrderCardSaid :=
  Claim7.holds_tied_plain_at .later [] [.data, .data, .data, .sentinel, .sentinel, .data] true (true, "be465bcafa16da32ea83eb7386d25f850520ede3029860c5fb28474dd8babd7c") true
    order_row (fun _ h => by cases h) (by kernel_rfl) (fun _ h => by cases h) decimalOrder_row_tie rfl ⟨rfl, rfl⟩ (by kernel_rfl) rfl
    (fun f fn hf hfn => by
      obtain rfl : f = 9 := Option.some.inj ((show Tryd.prog.funcNamed "concord/concordlaw04.DecimalOrder" = some 9 by kernel_rfl).symm.trans hf) |>.symm
      obtain rfl : fn = Tryd.f9 := (Option.some.inj (Tryd.func9.symm.trans hfn)).symm
      exact ⟨by kernel_rfl, fun j t ht => by
        rw [Tryd.params9] at ht
        have h3 : t = 47 ∨ t = 5 := by
          rcases j with _ | _ | j
          · exact .inl (by simpa using ht.symm)
          · exact .inr (by simpa using ht.symm)
          · simp at ht
        rcases h3 with rfl | rfl
        · exact (show Tryd.prog.wantsStandIn 47 = false by kernel_rfl)
        · exact (show Tryd.prog.wantsStandIn 5 = false by kernel_rfl)⟩)
    (by kernel_rfl)
#print axioms order_card
end Go.Proofs.YtmlmjhlakpgagaaDoor
