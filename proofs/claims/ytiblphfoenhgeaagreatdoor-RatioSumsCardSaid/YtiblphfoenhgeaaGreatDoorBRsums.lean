/- The law RatioSums holds: for all arguments, concord/concordlaw02.RatioSums returns true (sums, differences, products, quotients, signs and comparisons of rational numbers are those of the reference implementation). -/
import Derived.Test.YtiblphfoenhgeaaGreatDoorBRsums0
import Derived.Test.YtiblphfoenhgeaaGreatDoorTie
import Derived.Test.YtiblphfoenhgeaaGreatDoorCards
import Derived.SevenTiedAt
namespace Go.Proofs.YtiblphfoenhgeaaGreatDoor
open Go

theorem sumsq_card : Rows.RatioSumsCardSaid :=
  Claim7.holds_tied_plain_at .later [] [.data, .data, .data] true (true, "e1e78efcd2605ba5d28ca4d9f7a01c6e09a9e4a3f94dd5d0c35c3ea4d3e39c97") false
    sumsq_row (fun _ h => by cases h) (by kernel_rfl) (fun _ h => by cases h) ratioSums_row_tie rfl ⟨rfl, rfl⟩ (by kernel_rfl) rfl
    (fun f fn hf hfn => by
      obtain rfl : f = 8 := Option.some.inj ((show Tryz.prog.funcNamed "concord/concordlaw02.RatioSums" = some 8 by kernel_rfl).symm.trans hf) |>.symm
      obtain rfl : fn = Tryz.f8 := (Option.some.inj (Tryz.func8.symm.trans hfn)).symm
      exact ⟨by kernel_rfl, fun j t ht => by
        rw [Tryz.params8] at ht
        have h3 : t = 47 := by
          rcases j with _ | _ | j
          · simpa using ht.symm
          · simpa using ht.symm
          · simp at ht
        subst h3
        exact (show Tryz.prog.wantsStandIn 47 = false by kernel_rfl)⟩)
    (by kernel_rfl)
#print axioms sumsq_card
end Go.Proofs.YtiblphfoenhgeaaGreatDoor
