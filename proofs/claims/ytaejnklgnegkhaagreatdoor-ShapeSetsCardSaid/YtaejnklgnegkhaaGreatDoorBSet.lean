/- The law ShapeSets holds: for all arguments, concord/concordlaw08.ShapeSets returns true (a text is in Meet exactly if it is in both, and in Join if it is in one; Within says nothing that a text contradicts). -/
import Derived.Test.YtaejnklgnegkhaaGreatDoorBSet0
import Derived.Test.YtaejnklgnegkhaaGreatDoorTie
import Derived.Test.YtaejnklgnegkhaaGreatDoorCards
import Derived.SevenTiedAt
namespace Go.Proofs.YtaejnklgnegkhaaGreatDoor
open Go

theorem sets_card : Rows.ShapeSetsCardSaid :=
  Claim7.holds_tied_plain_at .later [] [.data, .data, .data] true (true, "06e3139843ab3f4c87e3a9f690a20c854dc9162a13f4bf56e5e154adf18cd03d") false
    sets_row (fun _ h => by cases h) (by kernel_rfl) (fun _ h => by cases h) shapeSets_row_tie rfl ⟨rfl, rfl⟩ (by kernel_rfl) rfl
    (fun f fn hf hfn => by
      obtain rfl : f = 4 := Option.some.inj ((show Tryz.prog.funcNamed "concord/concordlaw08.ShapeSets" = some 4 by kernel_rfl).symm.trans hf) |>.symm
      obtain rfl : fn = Tryz.f4 := (Option.some.inj (Tryz.func4.symm.trans hfn)).symm
      exact ⟨by kernel_rfl, fun j t ht => by
        rw [Tryz.params4] at ht
        have h3 : t = 37 ∨ t = 26 := by
          rcases j with _ | _ | j
          · exact .inr (by simpa using ht.symm)
          · exact .inl (by simpa using ht.symm)
          · simp at ht
        rcases h3 with rfl | rfl
        · exact (show Tryz.prog.wantsStandIn 37 = false by kernel_rfl)
        · exact (show Tryz.prog.wantsStandIn 26 = false by kernel_rfl)⟩)
    (by kernel_rfl)
#print axioms sets_card
end Go.Proofs.YtaejnklgnegkhaaGreatDoor
