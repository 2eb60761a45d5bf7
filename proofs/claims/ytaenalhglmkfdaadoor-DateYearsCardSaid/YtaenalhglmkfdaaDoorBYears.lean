/- The law DateYears holds: for all arguments, concord/concordlaw03.DateYears returns true (a year has 365 days, or 366 exactly if it has a 29 February; after 400 years the calendar is the same). -/
import Derived.Test.YtaenalhglmkfdaaDoorBYears3
import Derived.Test.YtaenalhglmkfdaaDoorTie
import Derived.Test.YtaenalhglmkfdaaDoorCards
import Derived.SevenTiedAt
namespace Go.Proofs.YtaenalhglmkfdaaDoor
open Go

theorem years_card : Rows.DateYearsCardSaid :=
  Claim7.holds_tied_plain_at .later [] [.data, .data, .data, .data, .data] true (true, "45cbf1f08921aa8bfa059748b878f432489a2c300126748027ac71d99fe2ad82") false
    years_row (fun _ h => by cases h) (by kernel_rfl) (fun _ h => by cases h) dateYears_row_tie rfl ⟨rfl, rfl⟩ (by kernel_rfl) rfl
    (fun f fn hf hfn => by
      obtain rfl : f = 5 := Option.some.inj ((show Tryd.prog.funcNamed "concord/concordlaw03.DateYears" = some 5 by kernel_rfl).symm.trans hf) |>.symm
      obtain rfl : fn = Tryd.f5 := (Option.some.inj (Tryd.func5.symm.trans hfn)).symm
      exact ⟨by kernel_rfl, fun j t ht => by
        rw [Tryd.params5] at ht
        have h3 : t = 35 ∨ t = 5 := by
          rcases j with _ | _ | _ | j
          · exact .inl (by simpa using ht.symm)
          · exact .inr (by simpa using ht.symm)
          · exact .inr (by simpa using ht.symm)
          · simp at ht
        rcases h3 with rfl | rfl
        · exact (show Tryd.prog.wantsStandIn 35 = false by kernel_rfl)
        · exact (show Tryd.prog.wantsStandIn 5 = false by kernel_rfl)⟩)
    (by kernel_rfl)
#print axioms years_card
end Go.Proofs.YtaenalhglmkfdaaDoor
