/- The law DecimalRounds holds: for all arguments, concord/concordlaw04.DecimalRounds returns true (rounding is that of the reference implementation, and rounding again changes nothing). -/
import Derived.Test.YthmfemhepinhlaaDoorBRounds8
import Derived.Test.YthmfemhepinhlaaDoorTie
import Derived.Test.YthmfemhepinhlaaDoorCards
import Derived.SevenTiedAt
namespace Go.Proofs.YthmfemhepinhlaaDoor
open Go

theorem rounds_card : Rows.DecimalRoundsCardSaid :=
  Claim7.holds_tied_plain_at .later [] [.data, .data, .data, .sentinel, .sentinel, .data] true (true, "be465bcafa16da32ea83eb7386d25f850520ede3029860c5fb28474dd8babd7c") true
    rounds_row (fun _ h => by cases h) (by kernel_rfl) (fun _ h => by cases h) decimalRounds_row_tie rfl ⟨rfl, rfl⟩ (by kernel_rfl) rfl
    (fun f fn hf hfn => by
      obtain rfl : f = 6 := Option.some.inj ((show Tryd.prog.funcNamed "concord/concordlaw04.DecimalRounds" = some 6 by kernel_rfl).symm.trans hf) |>.symm
      obtain rfl : fn = Tryd.f6 := (Option.some.inj (Tryd.func6.symm.trans hfn)).symm
      exact ⟨by kernel_rfl, fun j t ht => by
        rw [Tryd.params6] at ht
        have h3 : t = 39 ∨ t = 23 ∨ t = 3 := by
          rcases j with _ | _ | _ | j
          · exact .inr (.inl (by simpa using ht.symm))
          · exact .inl (by simpa using ht.symm)
          · exact .inr (.inr (by simpa using ht.symm))
          · simp at ht
        rcases h3 with rfl | rfl | rfl
        · exact (show Tryd.prog.wantsStandIn 39 = false by kernel_rfl)
        · exact (show Tryd.prog.wantsStandIn 23 = false by kernel_rfl)
        · exact (show Tryd.prog.wantsStandIn 3 = false by kernel_rfl)⟩)
    (by kernel_rfl)
#print axioms rounds_card
end Go.Proofs.YthmfemhepinhlaaDoor
