/- The law ShapeConcats holds: for all arguments, concord/concordlaw08.ShapeConcats returns true (a text of one shape followed by one of another is in Concat, if it is a text). -/
import Derived.Test.YtaejnklgnegkhaaGreatDoorBCon0
import Derived.Test.YtaejnklgnegkhaaGreatDoorTie
import Derived.Test.YtaejnklgnegkhaaGreatDoorCards
import Derived.SevenTiedAt
namespace Go.Proofs.YtaejnklgnegkhaaGreatDoor
open Go

theorem concats_card : Rows.ShapeConcatsCardSaid :=
  Claim7.holds_tied_plain_at .later [] [.data, .data, .data] true (true, "06e3139843ab3f4c87e3a9f690a20c854dc9162a13f4bf56e5e154adf18cd03d") false
    concats_row (fun _ h => by cases h) (by kernel_rfl) (fun _ h => by cases h) shapeConcats_row_tie rfl ⟨rfl, rfl⟩ (by kernel_rfl) rfl
    (fun f fn hf hfn => by
      obtain rfl : f = 5 := Option.some.inj ((show Tryz.prog.funcNamed "concord/concordlaw08.ShapeConcats" = some 5 by kernel_rfl).symm.trans hf) |>.symm
      obtain rfl : fn = Tryz.f5 := (Option.some.inj (Tryz.func5.symm.trans hfn)).symm
      exact ⟨by kernel_rfl, fun j t ht => by
        rw [Tryz.params5] at ht
        have h3 : t = 37 ∨ t = 26 := by
          rcases j with _ | _ | j
          · exact .inr (by simpa using ht.symm)
          · exact .inl (by simpa using ht.symm)
          · simp at ht
        rcases h3 with rfl | rfl
        · exact (show Tryz.prog.wantsStandIn 37 = false by kernel_rfl)
        · exact (show Tryz.prog.wantsStandIn 26 = false by kernel_rfl)⟩)
    (by kernel_rfl)
#print axioms concats_card
end Go.Proofs.YtaejnklgnegkhaaGreatDoor
