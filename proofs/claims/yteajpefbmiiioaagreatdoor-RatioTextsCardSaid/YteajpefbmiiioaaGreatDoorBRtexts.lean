/- The law RatioTexts holds: for all arguments, concord/concordlaw02.RatioTexts returns true (texts of rational numbers are those of the reference implementation, are read again, and other texts are read as the reference implementation reads them). -/
import Derived.Test.YteajpefbmiiioaaGreatDoorBRtexts0
import Derived.Test.YteajpefbmiiioaaGreatDoorTie
import Derived.Test.YteajpefbmiiioaaGreatDoorCards
import Derived.SevenTiedAt
namespace Go.Proofs.YteajpefbmiiioaaGreatDoor
open Go

theorem textsq_card : Rows.RatioTextsCardSaid :=
  Claim7.holds_tied_plain_at .later [] [.data, .data, .data] true (true, "e1e78efcd2605ba5d28ca4d9f7a01c6e09a9e4a3f94dd5d0c35c3ea4d3e39c97") false
    textsq_row (fun _ h => by cases h) (by kernel_rfl) (fun _ h => by cases h) ratioTexts_row_tie rfl ⟨rfl, rfl⟩ (by kernel_rfl) rfl
    (fun f fn hf hfn => by
      obtain rfl : f = 13 := Option.some.inj ((show Tryz.prog.funcNamed "concord/concordlaw02.RatioTexts" = some 13 by kernel_rfl).symm.trans hf) |>.symm
      obtain rfl : fn = Tryz.f13 := (Option.some.inj (Tryz.func13.symm.trans hfn)).symm
      exact ⟨by kernel_rfl, fun j t ht => by
        rw [Tryz.params13] at ht
        have h3 : t = 73 ∨ t = 47 ∨ t = 9 := by
          rcases j with _ | _ | _ | j
          · exact .inr (.inl (by simpa using ht.symm))
          · exact .inr (.inr (by simpa using ht.symm))
          · exact .inl (by simpa using ht.symm)
          · simp at ht
        rcases h3 with rfl | rfl | rfl
        · exact (show Tryz.prog.wantsStandIn 73 = false by kernel_rfl)
        · exact (show Tryz.prog.wantsStandIn 47 = false by kernel_rfl)
        · exact (show Tryz.prog.wantsStandIn 9 = false by kernel_rfl)⟩)
    (by kernel_rfl)
#print axioms textsq_card
end Go.Proofs.YteajpefbmiiioaaGreatDoor
