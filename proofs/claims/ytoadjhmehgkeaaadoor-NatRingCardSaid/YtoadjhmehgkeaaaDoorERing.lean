/- The law NatRing holds: for every three slices of bytes, concordlaw01.NatRing returns true (sums and products of package nat are commutative and associative, products distribute over sums, and a difference undoes a sum). -/
import Derived.Test.YtoadjhmehgkeaaaDoorERing8
import Derived.Test.YtoadjhmehgkeaaaDoorTie
import Derived.Test.YtoadjhmehgkeaaaDoorCards
import Derived.SevenTiedAt
namespace Go.Proofs.YtoadjhmehgkeaaaDoor
open Go

theorem ring_card : Rows.NatRingCardSaid :=
  Claim7.holds_tied_plain_at .later [] [.data, .data, .data] true (true, "61a94bea9c71183a7f6f18f7941aba6d17aac626679ba3f33a57be3a0335b1e8") false
    ring_row (fun _ h => by cases h) (by kernel_rfl) (fun _ h => by cases h) natRing_row_tie rfl ⟨rfl, rfl⟩ (by kernel_rfl) rfl
    (fun f fn hf hfn => by
      obtain rfl : f = 5 := Option.some.inj ((show Tryd.prog.funcNamed "concord/concordlaw01.NatRing" = some 5 by kernel_rfl).symm.trans hf) |>.symm
      obtain rfl : fn = Tryd.f5 := (Option.some.inj (Tryd.func5.symm.trans hfn)).symm
      exact ⟨by kernel_rfl, fun j t ht => by
        rw [Tryd.params5] at ht
        have h3 : t = 22 := by
          rcases j with _ | _ | _ | j
          · simpa using ht.symm
          · simpa using ht.symm
          · simpa using ht.symm
          · simp at ht
        subst h3
        exact (show Tryd.prog.wantsStandIn 22 = false by kernel_rfl)⟩)
    (by kernel_rfl)
#print axioms ring_card
end Go.Proofs.YtoadjhmehgkeaaaDoor
