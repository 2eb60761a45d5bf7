/- The law DateMonths holds: for all arguments, concord/concordlaw03.DateMonths returns true (what is months later is what the reference says). -/
import Derived.Test.YtaenalhglmkfdaaDoorBMonthsL4
import Derived.Test.YtaenalhglmkfdaaDoorTie
import Derived.Test.YtaenalhglmkfdaaDoorCards
import Derived.SevenTiedAt
namespace Go.Proofs.YtaenalhglmkfdaaDoor
open Go

theorem monthsL_card : Rows.DateMonthsCardSaid :=
  Claim7.holds_tied_plain_at .later [] [.data, .data, .data, .data, .data] true (true, "45cbf1f08921aa8bfa059748b878f432489a2c300126748027ac71d99fe2ad82") false
    monthsL_row (fun _ h => by cases h) (by kernel_rfl) (fun _ h => by cases h) dateMonths_row_tie rfl ⟨rfl, rfl⟩ (by kernel_rfl) rfl
    (fun f fn hf hfn => by
      obtain rfl : f = 7 := Option.some.inj ((show Tryd.prog.funcNamed "concord/concordlaw03.DateMonths" = some 7 by kernel_rfl).symm.trans hf) |>.symm
      obtain rfl : fn = Tryd.f7 := (Option.some.inj (Tryd.func7.symm.trans hfn)).symm
      exact ⟨by kernel_rfl, fun j t ht => by
        rw [Tryd.params7] at ht
        have h3 : t = 3 := by
          rcases j with _ | _ | j
          · simpa using ht.symm
          · simpa using ht.symm
          · simp at ht
        subst h3
        exact (show Tryd.prog.wantsStandIn 3 = false by kernel_rfl)⟩)
    (by kernel_rfl)
#print axioms monthsL_card
end Go.Proofs.YtaenalhglmkfdaaDoor
