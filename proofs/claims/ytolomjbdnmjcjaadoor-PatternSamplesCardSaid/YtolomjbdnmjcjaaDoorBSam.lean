/- The law PatternSamples holds: for all arguments, concord/concordlaw05.PatternSamples returns true (a text that is made of parts for each piece is matched). -/
import Derived.Test.YtolomjbdnmjcjaaDoorBSam0
import Derived.Test.YtolomjbdnmjcjaaDoorTie
import Derived.Test.YtolomjbdnmjcjaaDoorCards
import Derived.SevenTiedAt
namespace Go.Proofs.YtolomjbdnmjcjaaDoor
open Go

theorem samples_card : Rows.PatternSamplesCardSaid :=
  Claim7.holds_tied_plain_at .later [] [.data, .data, .data] true (true, "7c7c20fd3f7c2cae002aff88f4cc8b2c9ced91d0669d2d4c95484b7bb544b865") true
    samples_row (fun _ h => by cases h) (by kernel_rfl) (fun _ h => by cases h) patternSamples_row_tie rfl ⟨rfl, rfl⟩ (by kernel_rfl) rfl
    (fun f fn hf hfn => by
      obtain rfl : f = 5 := Option.some.inj ((show Tryd.prog.funcNamed "concord/concordlaw05.PatternSamples" = some 5 by kernel_rfl).symm.trans hf) |>.symm
      obtain rfl : fn = Tryd.f5 := (Option.some.inj (Tryd.func5.symm.trans hfn)).symm
      exact ⟨by kernel_rfl, fun j t ht => by
        rw [Tryd.params5] at ht
        have h3 : t = 22 := by
          rcases j with _ | _ | j
          · simpa using ht.symm
          · simpa using ht.symm
          · simp at ht
        subst h3
        exact (show Tryd.prog.wantsStandIn 22 = false by kernel_rfl)⟩)
    (by kernel_rfl)
#print axioms samples_card
end Go.Proofs.YtolomjbdnmjcjaaDoor
