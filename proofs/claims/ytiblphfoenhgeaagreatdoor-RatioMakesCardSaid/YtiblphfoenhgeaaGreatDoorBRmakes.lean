/- The law RatioMakes holds: for all arguments, concord/concordlaw02.RatioMakes returns true (Make and Of are those of the reference implementation). -/
import Derived.Test.YtiblphfoenhgeaaGreatDoorBRmakes0
import Derived.Test.YtiblphfoenhgeaaGreatDoorTie
import Derived.Test.YtiblphfoenhgeaaGreatDoorCards
import Derived.SevenTiedAt
namespace Go.Proofs.YtiblphfoenhgeaaGreatDoor
open Go

theorem makesq_card : Rows.RatioMakesCardSaid :=
  Claim7.holds_tied_plain_at .later [] [.data, .data, .data] true (true, "e1e78efcd2605ba5d28ca4d9f7a01c6e09a9e4a3f94dd5d0c35c3ea4d3e39c97") false
    makesq_row (fun _ h => by cases h) (by kernel_rfl) (fun _ h => by cases h) ratioMakes_row_tie rfl ⟨rfl, rfl⟩ (by kernel_rfl) rfl
    (fun f fn hf hfn => by
      obtain rfl : f = 9 := Option.some.inj ((show Tryz.prog.funcNamed "concord/concordlaw02.RatioMakes" = some 9 by kernel_rfl).symm.trans hf) |>.symm
      obtain rfl : fn = Tryz.f9 := (Option.some.inj (Tryz.func9.symm.trans hfn)).symm
      exact ⟨by kernel_rfl, fun j t ht => by
        rw [Tryz.params9] at ht
        have h3 : t = 4 ∨ t = 3 ∨ t = 26 := by
          rcases j with _ | _ | _ | j
          · exact .inl (by simpa using ht.symm)
          · exact .inr (.inr (by simpa using ht.symm))
          · exact .inr (.inl (by simpa using ht.symm))
          · simp at ht
        rcases h3 with rfl | rfl | rfl
        · exact (show Tryz.prog.wantsStandIn 4 = false by kernel_rfl)
        · exact (show Tryz.prog.wantsStandIn 3 = false by kernel_rfl)
        · exact (show Tryz.prog.wantsStandIn 26 = false by kernel_rfl)⟩)
    (by kernel_rfl)
#print axioms makesq_card
end Go.Proofs.YtiblphfoenhgeaaGreatDoor
