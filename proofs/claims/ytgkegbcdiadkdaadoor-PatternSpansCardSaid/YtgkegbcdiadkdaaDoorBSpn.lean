/- The law PatternSpans holds: for all arguments, concord/concordlaw05.PatternSpans returns true (finds are in order, do not overlap, and are matched). -/
import Derived.Test.YtgkegbcdiadkdaaDoorBSpn0
import Derived.Test.YtgkegbcdiadkdaaDoorTie
import Derived.Test.YtgkegbcdiadkdaaDoorCards
import Derived.SevenTiedAt
namespace Go.Proofs.YtgkegbcdiadkdaaDoor
open Go

theorem spans_card : Rows.PatternSpansCardSaid :=
  Claim7.holds_tied_plain_at .later [] [.data, .data, .data] true (true, "7c7c20fd3f7c2cae002aff88f4cc8b2c9ced91d0669d2d4c95484b7bb544b865") true
    spans_row (fun _ h => by cases h) (by kernel_rfl) (fun _ h => by cases h) patternSpans_row_tie rfl ⟨rfl, rfl⟩ (by kernel_rfl) rfl
    (fun f fn hf hfn => by
      obtain rfl : f = 7 := Option.some.inj ((show Tryd.prog.funcNamed "concord/concordlaw05.PatternSpans" = some 7 by kernel_rfl).symm.trans hf) |>.symm
      obtain rfl : fn = Tryd.f7 := (Option.some.inj (Tryd.func7.symm.trans hfn)).symm
      exact ⟨by kernel_rfl, fun j t ht => by
        rw [Tryd.params7] at ht
        have h3 : t = 22 ∨ t = 9 := by
          rcases j with _ | _ | j
          · exact .inl (by simpa using ht.symm)
          · exact .inr (by simpa using ht.symm)
          · simp at ht
        rcases h3 with rfl | rfl
        · exact (show Tryd.prog.wantsStandIn 22 = false by kernel_rfl)
        · exact (show Tryd.prog.wantsStandIn 9 = false by kernel_rfl)⟩)
    (by kernel_rfl)
#print axioms spans_card
end Go.Proofs.YtgkegbcdiadkdaaDoor
