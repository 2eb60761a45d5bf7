/- The law RatioCommon holds: for all arguments, concord/concordlaw02.RatioCommon returns true (the common denominator and the numerators are those of the reference implementation; they are whole, and the least ones). -/
import Derived.Test.YteajpefbmiiioaaGreatDoorBRcob0
import Derived.Test.YteajpefbmiiioaaGreatDoorTie
import Derived.Test.YteajpefbmiiioaaGreatDoorCards
import Derived.SevenTiedAt
namespace Go.Proofs.YteajpefbmiiioaaGreatDoor
open Go

theorem commonl_card : Rows.RatioCommonCardSaid :=
  Claim7.holds_tied_plain_at .later [] [.data, .data, .data] true (true, "e1e78efcd2605ba5d28ca4d9f7a01c6e09a9e4a3f94dd5d0c35c3ea4d3e39c97") false
    commonl_row (fun _ h => by cases h) (by kernel_rfl) (fun _ h => by cases h) ratioCommon_row_tie rfl ⟨rfl, rfl⟩ (by kernel_rfl) rfl
    (fun f fn hf hfn => by
      obtain rfl : f = 12 := Option.some.inj ((show Tryz.prog.funcNamed "concord/concordlaw02.RatioCommon" = some 12 by kernel_rfl).symm.trans hf) |>.symm
      obtain rfl : fn = Tryz.f12 := (Option.some.inj (Tryz.func12.symm.trans hfn)).symm
      exact ⟨by kernel_rfl, fun j t ht => by
        rw [Tryz.params12] at ht
        have h3 : t = 66 ∨ t = 49 := by
          rcases j with _ | _ | j
          · exact .inl (by simpa using ht.symm)
          · exact .inr (by simpa using ht.symm)
          · simp at ht
        rcases h3 with rfl | rfl
        · exact (show Tryz.prog.wantsStandIn 66 = false by kernel_rfl)
        · exact (show Tryz.prog.wantsStandIn 49 = false by kernel_rfl)⟩)
    (by kernel_rfl)
#print axioms commonl_card
end Go.Proofs.YteajpefbmiiioaaGreatDoor
