/- The law PatternCovers holds: for all arguments, concord/concordlaw05.PatternCovers returns true (Covers is that of the reference model; a pattern covers itself). -/
import Derived.Test.YtolomjbdnmjcjaaDoorBCov0
import Derived.Test.YtolomjbdnmjcjaaDoorTie
import Derived.Test.YtolomjbdnmjcjaaDoorCards
import Derived.SevenTiedAt
namespace Go.Proofs.YtolomjbdnmjcjaaDoor
open Go

theorem covers_card : Rows.PatternCoversCardSaid :=
  Claim7.holds_tied_plain_at .later [] [.data, .data, .data] true (true, "7c7c20fd3f7c2cae002aff88f4cc8b2c9ced91d0669d2d4c95484b7bb544b865") true
    covers_row (fun _ h => by cases h) (by kernel_rfl) (fun _ h => by cases h) patternCovers_row_tie rfl ⟨rfl, rfl⟩ (by kernel_rfl) rfl
    (fun f fn hf hfn => by
      obtain rfl : f = 8 := Option.some.inj ((show Tryd.prog.funcNamed "concord/concordlaw05.PatternCovers" = some 8 by kernel_rfl).symm.trans hf) |>.symm
      obtain rfl : fn = Tryd.f8 := (Option.some.inj (Tryd.func8.symm.trans hfn)).symm
      exact ⟨by kernel_rfl, fun j t ht => by
        rw [Tryd.params8] at ht
        have h3 : t = 36 ∨ t = 23 := by
          rcases j with _ | _ | j
          · exact .inl (by simpa using ht.symm)
          · exact .inr (by simpa using ht.symm)
          · simp at ht
        rcases h3 with rfl | rfl
        · exact (show Tryd.prog.wantsStandIn 36 = false by kernel_rfl)
        · exact (show Tryd.prog.wantsStandIn 23 = false by kernel_rfl)⟩)
    (by kernel_rfl)
#print axioms covers_card
end Go.Proofs.YtolomjbdnmjcjaaDoor
