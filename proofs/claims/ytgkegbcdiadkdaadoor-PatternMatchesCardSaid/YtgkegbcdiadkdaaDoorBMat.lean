/- The law PatternMatches holds: for all arguments, concord/concordlaw05.PatternMatches returns true (texts are matched as by the reference model). -/
import Derived.Test.YtgkegbcdiadkdaaDoorBMat0
import Derived.Test.YtgkegbcdiadkdaaDoorTie
import Derived.Test.YtgkegbcdiadkdaaDoorCards
import Derived.SevenTiedAt
namespace Go.Proofs.YtgkegbcdiadkdaaDoor
open Go

theorem matches_card : Rows.PatternMatchesCardSaid :=
  Claim7.holds_tied_plain_at .later [] [.data, .data, .data] true (true, "7c7c20fd3f7c2cae002aff88f4cc8b2c9ced91d0669d2d4c95484b7bb544b865") true
    matches_row (fun _ h => by cases h) (by kernel_rfl) (fun _ h => by cases h) patternMatches_row_tie rfl ⟨rfl, rfl⟩ (by kernel_rfl) rfl
    (fun f fn hf hfn => by
      obtain rfl : f = 4 := Option.some.inj ((show Tryd.prog.funcNamed "concord/concordlaw05.PatternMatches" = some 4 by kernel_rfl).symm.trans hf) |>.symm
      obtain rfl : fn = Tryd.f4 := (Option.some.inj (Tryd.func4.symm.trans hfn)).symm
      exact ⟨by kernel_rfl, fun j t ht => by
        rw [Tryd.params4] at ht
        have h3 : t = 38 ∨ t = 22 ∨ t = 36 := by
          rcases j with _ | _ | _ | j
          · exact .inr (.inr (by simpa using ht.symm))
          · exact .inr (.inl (by simpa using ht.symm))
          · exact .inl (by simpa using ht.symm)
          · simp at ht
        rcases h3 with rfl | rfl | rfl
        · exact (show Tryd.prog.wantsStandIn 38 = false by kernel_rfl)
        · exact (show Tryd.prog.wantsStandIn 22 = false by kernel_rfl)
        · exact (show Tryd.prog.wantsStandIn 36 = false by kernel_rfl)⟩)
    (by kernel_rfl)
#print axioms matches_card
end Go.Proofs.YtgkegbcdiadkdaaDoor
