/- The law RatioOrder holds: for all arguments, concord/concordlaw02.RatioOrder returns true (the order of rational numbers is total, and fits sums and products). -/
import Derived.Test.YteajpefbmiiioaaGreatDoorBRorder0
import Derived.Test.YteajpefbmiiioaaGreatDoorTie
import Derived.Test.YteajpefbmiiioaaGreatDoorCards
import Derived.SevenTiedAt
namespace Go.Proofs.YteajpefbmiiioaaGreatDoor
open Go

theorem orderq_card : Rows.RatioOrderCardSaid :=
  Claim7.holds_tied_plain_at .later [] [.data, .data, .data] true (true, "e1e78efcd2605ba5d28ca4d9f7a01c6e09a9e4a3f94dd5d0c35c3ea4d3e39c97") false
    orderq_row (fun _ h => by cases h) (by kernel_rfl) (fun _ h => by cases h) ratioOrder_row_tie rfl ⟨rfl, rfl⟩ (by kernel_rfl) rfl
    (fun f fn hf hfn => by
      obtain rfl : f = 11 := Option.some.inj ((show Tryz.prog.funcNamed "concord/concordlaw02.RatioOrder" = some 11 by kernel_rfl).symm.trans hf) |>.symm
      obtain rfl : fn = Tryz.f11 := (Option.some.inj (Tryz.func11.symm.trans hfn)).symm
      exact ⟨by kernel_rfl, fun j t ht => by
        rw [Tryz.params11] at ht
        have h3 : t = 47 := by
          rcases j with _ | _ | _ | j
          · simpa using ht.symm
          · simpa using ht.symm
          · simpa using ht.symm
          · simp at ht
        subst h3
        exact (show Tryz.prog.wantsStandIn 47 = false by kernel_rfl)⟩)
    (by kernel_rfl)
#print axioms orderq_card
end Go.Proofs.YteajpefbmiiioaaGreatDoor
