/- The law DecimalRing holds: for all arguments, concord/concordlaw04.DecimalRing returns true (sums and products are commutative, associative and distributive where all results fit). -/
import Derived.Test.YtmlmjhlakpgagaaDoorBRing9
import Derived.Test.YtmlmjhlakpgagaaDoorTie
import Derived.Test.YtmlmjhlakpgagaaDoorCards
import Derived.SevenTiedAt
namespace Go.Proofs.YtmlmjhlakpgagaaDoor
open Go

theorem ring_card : Rows.DecimalRingCardSaid :=
  Claim7.holds_tied_plain_at .later [] [.data, .data, .data, .sentinel, .sentinel, .data] true (true, "be465bcafa16da32ea83eb7386d25f850520ede3029860c5fb28474dd8babd7c") true
    ring_row (fun _ h => by cases h) (by kernel_rfl) (fun _ h => by cases h) decimalRing_row_tie rfl ⟨rfl, rfl⟩ (by kernel_rfl) rfl
    (fun f fn hf hfn => by
      obtain rfl : f = 8 := Option.some.inj ((show Tryd.prog.funcNamed "concord/concordlaw04.DecimalRing" = some 8 by kernel_rfl).symm.trans hf) |>.symm
      obtain rfl : fn = Tryd.f8 := (Option.some.inj (Tryd.func8.symm.trans hfn)).symm
      exact ⟨by kernel_rfl, fun j t ht => by
        rw [Tryd.params8] at ht
        have h3 : t = 47 := by
          rcases j with _ | j
          · simpa using ht.symm
          · simp at ht
        subst h3
        exact (show Tryd.prog.wantsStandIn 47 = false by kernel_rfl)⟩)
    (by kernel_rfl)
#print axioms ring_card
end Go.Proofs.YtmlmjhlakpgagaaDoor
