/- The law DateBack holds: for all arguments, concord/concordlaw03.DateBack returns true (months can be undone, and add up). -/
import Derived.Test.YtaenalhglmkfdaaDoorBBack4
import Derived.Test.YtaenalhglmkfdaaDoorTie
import Derived.Test.YtaenalhglmkfdaaDoorCards
import Derived.SevenTiedAt
namespace Go.Proofs.YtaenalhglmkfdaaDoor
open Go

theorem back_card : Rows.DateBackCardSaid :=
  Claim7.holds_tied_plain_at .later [] [.data, .data, .data, .data, .data] true (true, "45cbf1f08921aa8bfa059748b878f432489a2c300126748027ac71d99fe2ad82") false
    back_row (fun _ h => by cases h) (by kernel_rfl) (fun _ h => by cases h) dateBack_row_tie rfl ⟨rfl, rfl⟩ (by kernel_rfl) rfl
    (fun f fn hf hfn => by
      obtain rfl : f = 8 := Option.some.inj ((show Tryd.prog.funcNamed "concord/concordlaw03.DateBack" = some 8 by kernel_rfl).symm.trans hf) |>.symm
      obtain rfl : fn = Tryd.f8 := (Option.some.inj (Tryd.func8.symm.trans hfn)).symm
      exact ⟨by kernel_rfl, fun j t ht => by
        rw [Tryd.params8] at ht
        have h3 : t = 35 ∨ t = 33 := by
          rcases j with _ | _ | _ | j
          · exact .inr (by simpa using ht.symm)
          · exact .inl (by simpa using ht.symm)
          · exact .inl (by simpa using ht.symm)
          · simp at ht
        rcases h3 with rfl | rfl
        · exact (show Tryd.prog.wantsStandIn 35 = false by kernel_rfl)
        · exact (show Tryd.prog.wantsStandIn 33 = false by kernel_rfl)⟩)
    (by kernel_rfl)
#print axioms back_card
end Go.Proofs.YtaenalhglmkfdaaDoor
