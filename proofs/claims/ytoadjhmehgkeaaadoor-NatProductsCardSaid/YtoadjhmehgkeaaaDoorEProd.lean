/- The law NatProducts holds: for all arguments, concord/concordlaw01.NatProducts returns true (products are those of the reference implementation). -/
import Derived.Test.YtoadjhmehgkeaaaDoorEProd10
import Derived.Test.YtoadjhmehgkeaaaDoorTie
import Derived.Test.YtoadjhmehgkeaaaDoorCards
import Derived.SevenTiedAt
namespace Go.Proofs.YtoadjhmehgkeaaaDoor
open Go

theorem products_card : Rows.NatProductsCardSaid :=
  Claim7.holds_tied_plain_at .later [] [.data, .data, .data] true (true, "61a94bea9c71183a7f6f18f7941aba6d17aac626679ba3f33a57be3a0335b1e8") false
    products_row (fun _ h => by cases h) (by kernel_rfl) (fun _ h => by cases h) natProducts_row_tie rfl ⟨rfl, rfl⟩ (by kernel_rfl) rfl
    (fun f fn hf hfn => by
      obtain rfl : f = 3 := Option.some.inj ((show Tryd.prog.funcNamed "concord/concordlaw01.NatProducts" = some 3 by kernel_rfl).symm.trans hf) |>.symm
      obtain rfl : fn = Tryd.f3 := (Option.some.inj (Tryd.func3.symm.trans hfn)).symm
      exact ⟨by kernel_rfl, fun j t ht => by
        rw [Tryd.params3] at ht
        have h3 : t = 22 := by
          rcases j with _ | _ | j
          · simpa using ht.symm
          · simpa using ht.symm
          · simp at ht
        subst h3
        exact (show Tryd.prog.wantsStandIn 22 = false by kernel_rfl)⟩)
    (by kernel_rfl)
#print axioms products_card
end Go.Proofs.YtoadjhmehgkeaaaDoor
