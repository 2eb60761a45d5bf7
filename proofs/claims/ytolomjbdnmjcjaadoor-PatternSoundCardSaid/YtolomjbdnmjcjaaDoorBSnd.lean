/- The law PatternSound holds: for all arguments, concord/concordlaw05.PatternSound returns true (a pattern that covers another one matches what that one matches). -/
import Derived.Test.YtolomjbdnmjcjaaDoorBSnd0
import Derived.Test.YtolomjbdnmjcjaaDoorTie
import Derived.Test.YtolomjbdnmjcjaaDoorCards
import Derived.SevenTiedAt
namespace Go.Proofs.YtolomjbdnmjcjaaDoor
open Go

theorem sound_card : Rows.PatternSoundCardSaid :=
  Claim7.holds_tied_plain_at .later [] [.data, .data, .data] true (true, "7c7c20fd3f7c2cae002aff88f4cc8b2c9ced91d0669d2d4c95484b7bb544b865") true
    sound_row (fun _ h => by cases h) (by kernel_rfl) (fun _ h => by cases h) patternSound_row_tie rfl ⟨rfl, rfl⟩ (by kernel_rfl) rfl
    (fun f fn hf hfn => by
      obtain rfl : f = 9 := Option.some.inj ((show Tryd.prog.funcNamed "concord/concordlaw05.PatternSound" = some 9 by kernel_rfl).symm.trans hf) |>.symm
      obtain rfl : fn = Tryd.f9 := (Option.some.inj (Tryd.func9.symm.trans hfn)).symm
      exact ⟨by kernel_rfl, fun j t ht => by
        rw [Tryd.params9] at ht
        have h3 : t = 22 ∨ t = 36 ∨ t = 41 := by
          rcases j with _ | _ | _ | j
          · exact .inr (.inl (by simpa using ht.symm))
          · exact .inl (by simpa using ht.symm)
          · exact .inr (.inr (by simpa using ht.symm))
          · simp at ht
        rcases h3 with rfl | rfl | rfl
        · exact (show Tryd.prog.wantsStandIn 22 = false by kernel_rfl)
        · exact (show Tryd.prog.wantsStandIn 36 = false by kernel_rfl)
        · exact (show Tryd.prog.wantsStandIn 41 = false by kernel_rfl)⟩)
    (by kernel_rfl)
#print axioms sound_card
end Go.Proofs.YtolomjbdnmjcjaaDoor
