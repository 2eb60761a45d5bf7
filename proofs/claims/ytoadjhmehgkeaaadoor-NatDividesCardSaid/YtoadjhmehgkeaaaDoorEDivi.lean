/- The law NatDivides holds: for all arguments, concord/concordlaw01.NatDivides returns true (a number is the divisor times the quotient, plus the rest, which is less; the bits of a product are those of the factors, or one less). -/
import Derived.Test.YtoadjhmehgkeaaaDoorEDivi8
import Derived.Test.YtoadjhmehgkeaaaDoorTie
import Derived.Test.YtoadjhmehgkeaaaDoorCards
import Derived.SevenTiedAt
namespace Go.Proofs.YtoadjhmehgkeaaaDoor
open Go

theorem divides_card : Rows.NatDividesCardSaid :=
  Claim7.holds_tied_plain_at .later [] [.data, .data, .data] true (true, "61a94bea9c71183a7f6f18f7941aba6d17aac626679ba3f33a57be3a0335b1e8") false
    divides_row (fun _ h => by cases h) (by kernel_rfl) (fun _ h => by cases h) natDivides_row_tie rfl ⟨rfl, rfl⟩ (by kernel_rfl) rfl
    (fun f fn hf hfn => by
      obtain rfl : f = 6 := Option.some.inj ((show Tryd.prog.funcNamed "concord/concordlaw01.NatDivides" = some 6 by kernel_rfl).symm.trans hf) |>.symm
      obtain rfl : fn = Tryd.f6 := (Option.some.inj (Tryd.func6.symm.trans hfn)).symm
      exact ⟨by kernel_rfl, fun j t ht => by
        rw [Tryd.params6] at ht
        have h3 : t = 22 := by
          rcases j with _ | _ | j
          · simpa using ht.symm
          · simpa using ht.symm
          · simp at ht
        subst h3
        exact (show Tryd.prog.wantsStandIn 22 = false by kernel_rfl)⟩)
    (by kernel_rfl)
#print axioms divides_card
end Go.Proofs.YtoadjhmehgkeaaaDoor
