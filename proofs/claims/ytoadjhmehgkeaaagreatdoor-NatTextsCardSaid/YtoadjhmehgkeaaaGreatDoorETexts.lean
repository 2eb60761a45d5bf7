/- The law NatTexts holds: for all arguments, concord/concordlaw01.NatTexts returns true (texts are those of the reference implementation). -/
import Derived.Test.YtoadjhmehgkeaaaGreatDoorETexts11
import Derived.Test.YtoadjhmehgkeaaaGreatDoorTie
import Derived.Test.YtoadjhmehgkeaaaGreatDoorCards
import Derived.SevenTiedAt
namespace Go.Proofs.YtoadjhmehgkeaaaGreatDoor
open Go

theorem texts_card : Rows.NatTextsCardSaid :=
  Claim7.holds_tied_plain_at .later [] [.data, .data, .data] true (true, "e1e78efcd2605ba5d28ca4d9f7a01c6e09a9e4a3f94dd5d0c35c3ea4d3e39c97") false
    texts_row (fun _ h => by cases h) (by kernel_rfl) (fun _ h => by cases h) natTexts_row_tie rfl ⟨rfl, rfl⟩ (by kernel_rfl) rfl
    (fun f fn hf hfn => by
      obtain rfl : f = 7 := Option.some.inj ((show Tryz.prog.funcNamed "concord/concordlaw01.NatTexts" = some 7 by kernel_rfl).symm.trans hf) |>.symm
      obtain rfl : fn = Tryz.f7 := (Option.some.inj (Tryz.func7.symm.trans hfn)).symm
      exact ⟨by kernel_rfl, fun j t ht => by
        rw [Tryz.params7] at ht
        have h3 : t = 41 ∨ t = 9 ∨ t = 22 := by
          rcases j with _ | _ | _ | j
          · exact .inr (.inr (by simpa using ht.symm))
          · exact .inr (.inl (by simpa using ht.symm))
          · exact .inl (by simpa using ht.symm)
          · simp at ht
        rcases h3 with rfl | rfl | rfl
        · exact (show Tryz.prog.wantsStandIn 41 = false by kernel_rfl)
        · exact (show Tryz.prog.wantsStandIn 9 = false by kernel_rfl)
        · exact (show Tryz.prog.wantsStandIn 22 = false by kernel_rfl)⟩)
    (by kernel_rfl)
#print axioms texts_card
end Go.Proofs.YtoadjhmehgkeaaaGreatDoor
