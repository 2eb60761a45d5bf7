/- The law NatGcds holds: for all arguments, concord/concordlaw01.NatGcds returns true (greatest common divisors are those of the reference implementation). -/
import Derived.Test.YtoadjhmehgkeaaaGreatDoorEGcds11
import Derived.Test.YtoadjhmehgkeaaaGreatDoorTie
import Derived.Test.YtoadjhmehgkeaaaGreatDoorCards
import Derived.SevenTiedAt
namespace Go.Proofs.YtoadjhmehgkeaaaGreatDoor
open Go

theorem gcds_card : Rows.NatGcdsCardSaid :=
  Claim7.holds_tied_plain_at .later [] [.data, .data, .data] true (true, "e1e78efcd2605ba5d28ca4d9f7a01c6e09a9e4a3f94dd5d0c35c3ea4d3e39c97") false
    gcds_row (fun _ h => by cases h) (by kernel_rfl) (fun _ h => by cases h) natGcds_row_tie rfl ⟨rfl, rfl⟩ (by kernel_rfl) rfl
    (fun f fn hf hfn => by
      obtain rfl : f = 5 := Option.some.inj ((show Tryz.prog.funcNamed "concord/concordlaw01.NatGcds" = some 5 by kernel_rfl).symm.trans hf) |>.symm
      obtain rfl : fn = Tryz.f5 := (Option.some.inj (Tryz.func5.symm.trans hfn)).symm
      exact ⟨by kernel_rfl, fun j t ht => by
        rw [Tryz.params5] at ht
        have h3 : t = 22 := by
          rcases j with _ | _ | _ | j
          · simpa using ht.symm
          · simpa using ht.symm
          · simpa using ht.symm
          · simp at ht
        subst h3
        exact (show Tryz.prog.wantsStandIn 22 = false by kernel_rfl)⟩)
    (by kernel_rfl)
#print axioms gcds_card
end Go.Proofs.YtoadjhmehgkeaaaGreatDoor
