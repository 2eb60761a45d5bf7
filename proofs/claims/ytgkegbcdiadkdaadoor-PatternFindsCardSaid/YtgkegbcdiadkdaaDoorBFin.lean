/- The law PatternFinds holds: for all arguments, concord/concordlaw05.PatternFinds returns true (finds and their number are those of the reference model). -/
import Derived.Test.YtgkegbcdiadkdaaDoorBFin0
import Derived.Test.YtgkegbcdiadkdaaDoorTie
import Derived.Test.YtgkegbcdiadkdaaDoorCards
import Derived.SevenTiedAt
namespace Go.Proofs.YtgkegbcdiadkdaaDoor
open Go

theorem finds_card : Rows.PatternFindsCardSaid :=
  Claim7.holds_tied_plain_at .later [] [.data, .data, .data] true (true, "7c7c20fd3f7c2cae002aff88f4cc8b2c9ced91d0669d2d4c95484b7bb544b865") true
    finds_row (fun _ h => by cases h) (by kernel_rfl) (fun _ h => by cases h) patternFinds_row_tie rfl ⟨rfl, rfl⟩ (by kernel_rfl) rfl
    (fun f fn hf hfn => by
      obtain rfl : f = 6 := Option.some.inj ((show Tryd.prog.funcNamed "concord/concordlaw05.PatternFinds" = some 6 by kernel_rfl).symm.trans hf) |>.symm
      obtain rfl : fn = Tryd.f6 := (Option.some.inj (Tryd.func6.symm.trans hfn)).symm
      exact ⟨by kernel_rfl, fun j t ht => by
        rw [Tryd.params6] at ht
        have h3 : t = 38 ∨ t = 22 := by
          rcases j with _ | _ | _ | j
          · exact .inr (by simpa using ht.symm)
          · exact .inr (by simpa using ht.symm)
          · exact .inl (by simpa using ht.symm)
          · simp at ht
        rcases h3 with rfl | rfl
        · exact (show Tryd.prog.wantsStandIn 38 = false by kernel_rfl)
        · exact (show Tryd.prog.wantsStandIn 22 = false by kernel_rfl)⟩)
    (by kernel_rfl)
#print axioms finds_card
end Go.Proofs.YtgkegbcdiadkdaaDoor
