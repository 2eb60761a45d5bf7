/- The law DateNumbers holds: for all arguments, concord/concordlaw03.DateNumbers returns true (numbers and dates are those of the reference). -/
import Derived.Test.YtaenalhglmkfdaaDoorBNumbers4
import Derived.Test.YtaenalhglmkfdaaDoorTie
import Derived.Test.YtaenalhglmkfdaaDoorCards
import Derived.SevenTiedAt
namespace Go.Proofs.YtaenalhglmkfdaaDoor
open Go

theorem numbers_card : Rows.DateNumbersCardSaid :=
  Claim7.holds_tied_plain_at .later [] [.data, .data, .data, .data, .data] true (true, "45cbf1f08921aa8bfa059748b878f432489a2c300126748027ac71d99fe2ad82") false
    numbers_row (fun _ h => by cases h) (by kernel_rfl) (fun _ h => by cases h) dateNumbers_row_tie rfl ⟨rfl, rfl⟩ (by kernel_rfl) rfl
    (fun f fn hf hfn => by
      obtain rfl : f = 3 := Option.some.inj ((show Tryd.prog.funcNamed "concord/concordlaw03.DateNumbers" = some 3 by kernel_rfl).symm.trans hf) |>.symm
      obtain rfl : fn = Tryd.f3 := (Option.some.inj (Tryd.func3.symm.trans hfn)).symm
      exact ⟨by kernel_rfl, fun j t ht => by
        rw [Tryd.params3] at ht
        have h3 : t = 22 ∨ t = 23 ∨ t = 3 := by
          rcases j with _ | _ | _ | j
          · exact .inl (by simpa using ht.symm)
          · exact .inr (.inl (by simpa using ht.symm))
          · exact .inr (.inr (by simpa using ht.symm))
          · simp at ht
        rcases h3 with rfl | rfl | rfl
        · exact (show Tryd.prog.wantsStandIn 22 = false by kernel_rfl)
        · exact (show Tryd.prog.wantsStandIn 23 = false by kernel_rfl)
        · exact (show Tryd.prog.wantsStandIn 3 = false by kernel_rfl)⟩)
    (by kernel_rfl)
#print axioms numbers_card
end Go.Proofs.YtaenalhglmkfdaaDoor
