/- The law NatInts holds: for all arguments, concord/concordlaw01.NatInts returns true (Of, Int, Right and Bits are those of the reference implementation). -/
import Derived.Test.YtoadjhmehgkeaaaDoorEInts9
import Derived.Test.YtoadjhmehgkeaaaDoorTie
import Derived.Test.YtoadjhmehgkeaaaDoorCards
import Derived.SevenTiedAt
namespace Go.Proofs.YtoadjhmehgkeaaaDoor
open Go

theorem ints_card : Rows.NatIntsCardSaid :=
  Claim7.holds_tied_plain_at .later [] [.data, .data, .data] true (true, "61a94bea9c71183a7f6f18f7941aba6d17aac626679ba3f33a57be3a0335b1e8") false
    ints_row (fun _ h => by cases h) (by kernel_rfl) (fun _ h => by cases h) natInts_row_tie rfl ⟨rfl, rfl⟩ (by kernel_rfl) rfl
    (fun f fn hf hfn => by
      obtain rfl : f = 4 := Option.some.inj ((show Tryd.prog.funcNamed "concord/concordlaw01.NatInts" = some 4 by kernel_rfl).symm.trans hf) |>.symm
      obtain rfl : fn = Tryd.f4 := (Option.some.inj (Tryd.func4.symm.trans hfn)).symm
      exact ⟨by kernel_rfl, fun j t ht => by
        rw [Tryd.params4] at ht
        have h3 : t = 3 ∨ t = 22 := by
          rcases j with _ | _ | j
          · exact .inl (by simpa using ht.symm)
          · exact .inr (by simpa using ht.symm)
          · simp at ht
        rcases h3 with rfl | rfl
        · exact (show Tryd.prog.wantsStandIn 3 = false by kernel_rfl)
        · exact (show Tryd.prog.wantsStandIn 22 = false by kernel_rfl)⟩)
    (by kernel_rfl)
#print axioms ints_card
end Go.Proofs.YtoadjhmehgkeaaaDoor
