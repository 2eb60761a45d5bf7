/- The law ShapeSingle holds: for all arguments, concord/concordlaw08.ShapeSingle returns true (Of contains its text, and no other one; a shape that contains a text is not empty). -/
import Derived.Test.YtaejnklgnegkhaaDoorBSin0
import Derived.Test.YtaejnklgnegkhaaDoorTie
import Derived.Test.YtaejnklgnegkhaaDoorCards
import Derived.SevenTiedAt
namespace Go.Proofs.YtaejnklgnegkhaaDoor
open Go

theorem single_card : Rows.ShapeSingleCardSaid :=
  Claim7.holds_tied_plain_at .later [] [.data, .data, .data] true (true, "02a89bdf5f6bf20c455cf9b9eb19d145c0d84b06b4cdd51a7e6043bc66a42359") true
    single_row (fun _ h => by cases h) (by kernel_rfl) (fun _ h => by cases h) shapeSingle_row_tie rfl ⟨rfl, rfl⟩ (by kernel_rfl) rfl
    (fun f fn hf hfn => by
      obtain rfl : f = 11 := Option.some.inj ((show Tryd.prog.funcNamed "concord/concordlaw08.ShapeSingle" = some 11 by kernel_rfl).symm.trans hf) |>.symm
      obtain rfl : fn = Tryd.f11 := (Option.some.inj (Tryd.func11.symm.trans hfn)).symm
      exact ⟨by kernel_rfl, fun j t ht => by
        rw [Tryd.params11] at ht
        have h3 : t = 60 ∨ t = 9 := by
          rcases j with _ | _ | j
          · exact .inl (by simpa using ht.symm)
          · exact .inr (by simpa using ht.symm)
          · simp at ht
        rcases h3 with rfl | rfl
        · exact (show Tryd.prog.wantsStandIn 60 = false by kernel_rfl)
        · exact (show Tryd.prog.wantsStandIn 9 = false by kernel_rfl)⟩)
    (by kernel_rfl)
#print axioms single_card
end Go.Proofs.YtaejnklgnegkhaaDoor
