/- The law RatioField holds: for all arguments, concord/concordlaw02.RatioField returns true (the rules of a field hold for package ratio). -/
import Derived.Test.YtiblphfoenhgeaaGreatDoorBRfield0
import Derived.Test.YtiblphfoenhgeaaGreatDoorTie
import Derived.Test.YtiblphfoenhgeaaGreatDoorCards
import Derived.SevenTiedAt
namespace Go.Proofs.YtiblphfoenhgeaaGreatDoor
open Go

theorem fieldq_card : Rows.RatioFieldCardSaid :=
  Claim7.holds_tied_plain_at .later [] [.data, .data, .data] true (true, "e1e78efcd2605ba5d28ca4d9f7a01c6e09a9e4a3f94dd5d0c35c3ea4d3e39c97") false
    fieldq_row (fun _ h => by cases h) (by kernel_rfl) (fun _ h => by cases h) ratioField_row_tie rfl ⟨rfl, rfl⟩ (by kernel_rfl) rfl
    (fun f fn hf hfn => by
      obtain rfl : f = 10 := Option.some.inj ((show Tryz.prog.funcNamed "concord/concordlaw02.RatioField" = some 10 by kernel_rfl).symm.trans hf) |>.symm
      obtain rfl : fn = Tryz.f10 := (Option.some.inj (Tryz.func10.symm.trans hfn)).symm
      exact ⟨by kernel_rfl, fun j t ht => by
        rw [Tryz.params10] at ht
        have h3 : t = 47 := by
          rcases j with _ | _ | _ | j
          · simpa using ht.symm
          · simpa using ht.symm
          · simpa using ht.symm
          · simp at ht
        subst h3
        exact (show Tryz.prog.wantsStandIn 47 = false by kernel_rfl)⟩)
    (by kernel_rfl)
#print axioms fieldq_card
end Go.Proofs.YtiblphfoenhgeaaGreatDoor
