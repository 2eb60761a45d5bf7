/- The law DateInverse holds: for all arguments, concord/concordlaw03.DateInverse returns true (Number undoes Civil, and the next number is the next day). -/
import Derived.Test.YtaenalhglmkfdaaDoorBInverse3
import Derived.Test.YtaenalhglmkfdaaDoorTie
import Derived.Test.YtaenalhglmkfdaaDoorCards
import Derived.SevenTiedAt
namespace Go.Proofs.YtaenalhglmkfdaaDoor
open Go

theorem inverse_card : Rows.DateInverseCardSaid :=
  Claim7.holds_tied_plain_at .later [] [.data, .data, .data, .data, .data] true (true, "45cbf1f08921aa8bfa059748b878f432489a2c300126748027ac71d99fe2ad82") false
    inverse_row (fun _ h => by cases h) (by kernel_rfl) (fun _ h => by cases h) dateInverse_row_tie rfl ⟨rfl, rfl⟩ (by kernel_rfl) rfl
    (fun f fn hf hfn => by
      obtain rfl : f = 4 := Option.some.inj ((show Tryd.prog.funcNamed "concord/concordlaw03.DateInverse" = some 4 by kernel_rfl).symm.trans hf) |>.symm
      obtain rfl : fn = Tryd.f4 := (Option.some.inj (Tryd.func4.symm.trans hfn)).symm
      exact ⟨by kernel_rfl, fun j t ht => by
        rw [Tryd.params4] at ht
        have h3 : t = 33 := by
          rcases j with _ | j
          · simpa using ht.symm
          · simp at ht
        subst h3
        exact (show Tryd.prog.wantsStandIn 33 = false by kernel_rfl)⟩)
    (by kernel_rfl)
#print axioms inverse_card
end Go.Proofs.YtaenalhglmkfdaaDoor
