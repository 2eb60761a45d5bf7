/- The law DateFormats holds: for all arguments, concord/concordlaw03.DateFormats returns true (dates are written as by the reference). -/
import Derived.Test.YtchbefaflhimcaaDoorBForm8
import Derived.Test.YtchbefaflhimcaaDoorTie
import Derived.Test.YtchbefaflhimcaaDoorCards
import Derived.SevenTiedAt
namespace Go.Proofs.YtchbefaflhimcaaDoor
open Go

theorem formats_card : Rows.DateFormatsCardSaid :=
  Claim7.holds_tied_plain_at .later [] [.data, .data, .data, .data, .data] true (true, "45cbf1f08921aa8bfa059748b878f432489a2c300126748027ac71d99fe2ad82") false
    formats_row (fun _ h => by cases h) (by kernel_rfl) (fun _ h => by cases h) dateFormats_row_tie rfl ⟨rfl, rfl⟩ (by kernel_rfl) rfl
    (fun f fn hf hfn => by
      obtain rfl : f = 10 := Option.some.inj ((show Tryd.prog.funcNamed "concord/concordlaw03.DateFormats" = some 10 by kernel_rfl).symm.trans hf) |>.symm
      obtain rfl : fn = Tryd.f10 := (Option.some.inj (Tryd.func10.symm.trans hfn)).symm
      exact ⟨by kernel_rfl, fun j t ht => by
        rw [Tryd.params10] at ht
        have h3 : t = 22 ∨ t = 3 ∨ t = 9 := by
          rcases j with _ | _ | _ | j
          · exact .inr (.inl (by simpa using ht.symm))
          · exact .inr (.inr (by simpa using ht.symm))
          · exact .inl (by simpa using ht.symm)
          · simp at ht
        rcases h3 with rfl | rfl | rfl
        · exact (show Tryd.prog.wantsStandIn 22 = false by kernel_rfl)
        · exact (show Tryd.prog.wantsStandIn 3 = false by kernel_rfl)
        · exact (show Tryd.prog.wantsStandIn 9 = false by kernel_rfl)⟩)
    (by kernel_rfl)
#print axioms formats_card
end Go.Proofs.YtchbefaflhimcaaDoor
