/- The law DecimalInts holds: for all arguments, concord/concordlaw04.DecimalInts returns true (sums and products of decimals that denote ints are those of ints). -/
import Derived.Test.YthmfemhepinhlaaDoorBInts0
import Derived.Test.YthmfemhepinhlaaDoorTie
import Derived.Test.YthmfemhepinhlaaDoorCards
import Derived.SevenTiedAt
namespace Go.Proofs.YthmfemhepinhlaaDoor
open Go

theorem ints_card : Rows.DecimalIntsCardSaid :=
  Claim7.holds_tied_plain_at .later [] [.data, .data, .data, .sentinel, .sentinel, .data] true (true, "be465bcafa16da32ea83eb7386d25f850520ede3029860c5fb28474dd8babd7c") true
    ints_row (fun _ h => by cases h) (by kernel_rfl) (fun _ h => by cases h) decimalInts_row_tie rfl ⟨rfl, rfl⟩ (by kernel_rfl) rfl
    (fun f fn hf hfn => by
      obtain rfl : f = 10 := Option.some.inj ((show Tryd.prog.funcNamed "concord/concordlaw04.DecimalInts" = some 10 by kernel_rfl).symm.trans hf) |>.symm
      obtain rfl : fn = Tryd.f10 := (Option.some.inj (Tryd.func10.symm.trans hfn)).symm
      exact ⟨by kernel_rfl, fun j t ht => by
        rw [Tryd.params10] at ht
        have h3 : t = 3 := by
          rcases j with _ | _ | j
          · simpa using ht.symm
          · simpa using ht.symm
          · simp at ht
        subst h3
        exact (show Tryd.prog.wantsStandIn 3 = false by kernel_rfl)⟩)
    (by kernel_rfl)
#print axioms ints_card
end Go.Proofs.YthmfemhepinhlaaDoor
