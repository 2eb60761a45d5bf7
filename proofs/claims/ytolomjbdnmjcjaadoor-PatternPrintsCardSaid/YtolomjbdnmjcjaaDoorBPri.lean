/- The law PatternPrints holds: for all arguments, concord/concordlaw05.PatternPrints returns true (written forms are those of the reference model, and are read again). -/
import Derived.Test.YtolomjbdnmjcjaaDoorBPri0
import Derived.Test.YtolomjbdnmjcjaaDoorTie
import Derived.Test.YtolomjbdnmjcjaaDoorCards
import Derived.SevenTiedAt
namespace Go.Proofs.YtolomjbdnmjcjaaDoor
open Go

theorem prints_card : Rows.PatternPrintsCardSaid :=
  Claim7.holds_tied_plain_at .later [] [.data, .data, .data] true (true, "7c7c20fd3f7c2cae002aff88f4cc8b2c9ced91d0669d2d4c95484b7bb544b865") true
    prints_row (fun _ h => by cases h) (by kernel_rfl) (fun _ h => by cases h) patternPrints_row_tie rfl ⟨rfl, rfl⟩ (by kernel_rfl) rfl
    (fun f fn hf hfn => by
      obtain rfl : f = 3 := Option.some.inj ((show Tryd.prog.funcNamed "concord/concordlaw05.PatternPrints" = some 3 by kernel_rfl).symm.trans hf) |>.symm
      obtain rfl : fn = Tryd.f3 := (Option.some.inj (Tryd.func3.symm.trans hfn)).symm
      exact ⟨by kernel_rfl, fun j t ht => by
        rw [Tryd.params3] at ht
        have h3 : t = 22 ∨ t = 23 := by
          rcases j with _ | _ | j
          · exact .inl (by simpa using ht.symm)
          · exact .inr (by simpa using ht.symm)
          · simp at ht
        rcases h3 with rfl | rfl
        · exact (show Tryd.prog.wantsStandIn 22 = false by kernel_rfl)
        · exact (show Tryd.prog.wantsStandIn 23 = false by kernel_rfl)⟩)
    (by kernel_rfl)
#print axioms prints_card
end Go.Proofs.YtolomjbdnmjcjaaDoor
