/- The law DecimalMakes holds: for all arguments, concord/concordlaw04.DecimalMakes returns true (decimals of ints and scales are those of the reference implementation). -/
import Derived.Test.YthmfemhepinhlaaDoorBMakes7
import Derived.Test.YthmfemhepinhlaaDoorTie
import Derived.Test.YthmfemhepinhlaaDoorCards
import Derived.SevenTiedAt
namespace Go.Proofs.YthmfemhepinhlaaDoor
open Go

theorem makes_card : Rows.DecimalMakesCardSaid :=
  Claim7.holds_tied_plain_at .later [] [.data, .data, .data, .sentinel, .sentinel, .data] true (true, "be465bcafa16da32ea83eb7386d25f850520ede3029860c5fb28474dd8babd7c") true
    makes_row (fun _ h => by cases h) (by kernel_rfl) (fun _ h => by cases h) decimalMakes_row_tie rfl ⟨rfl, rfl⟩ (by kernel_rfl) rfl
    (fun f fn hf hfn => by
      obtain rfl : f = 3 := Option.some.inj ((show Tryd.prog.funcNamed "concord/concordlaw04.DecimalMakes" = some 3 by kernel_rfl).symm.trans hf) |>.symm
      obtain rfl : fn = Tryd.f3 := (Option.some.inj (Tryd.func3.symm.trans hfn)).symm
      exact ⟨by kernel_rfl, fun j t ht => by
        rw [Tryd.params3] at ht
        have h3 : t = 23 ∨ t = 3 := by
          rcases j with _ | _ | _ | j
          · exact .inr (by simpa using ht.symm)
          · exact .inr (by simpa using ht.symm)
          · exact .inl (by simpa using ht.symm)
          · simp at ht
        rcases h3 with rfl | rfl
        · exact (show Tryd.prog.wantsStandIn 23 = false by kernel_rfl)
        · exact (show Tryd.prog.wantsStandIn 3 = false by kernel_rfl)⟩)
    (by kernel_rfl)
#print axioms makes_card
end Go.Proofs.YthmfemhepinhlaaDoor
