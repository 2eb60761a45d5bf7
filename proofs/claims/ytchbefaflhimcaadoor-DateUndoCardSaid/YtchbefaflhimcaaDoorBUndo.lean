/- The law DateUndo holds: for all arguments, concord/concordlaw03.DateUndo returns true (Read undoes Format). -/
import Derived.Test.YtchbefaflhimcaaDoorBUndo0
import Derived.Test.YtchbefaflhimcaaDoorTie
import Derived.Test.YtchbefaflhimcaaDoorCards
import Derived.SevenTiedAt
namespace Go.Proofs.YtchbefaflhimcaaDoor
open Go

theorem undo_card : Rows.DateUndoCardSaid :=
  Claim7.holds_tied_plain_at .later [] [.data, .data, .data, .data, .data] true (true, "45cbf1f08921aa8bfa059748b878f432489a2c300126748027ac71d99fe2ad82") false
    undo_row (fun _ h => by cases h) (by kernel_rfl) (fun _ h => by cases h) dateUndo_row_tie rfl ⟨rfl, rfl⟩ (by kernel_rfl) rfl
    (fun f fn hf hfn => by
      obtain rfl : f = 12 := Option.some.inj ((show Tryd.prog.funcNamed "concord/concordlaw03.DateUndo" = some 12 by kernel_rfl).symm.trans hf) |>.symm
      obtain rfl : fn = Tryd.f12 := (Option.some.inj (Tryd.func12.symm.trans hfn)).symm
      exact ⟨by kernel_rfl, fun j t ht => by
        rw [Tryd.params12] at ht
        have h3 : t = 22 ∨ t = 33 := by
          rcases j with _ | _ | _ | j
          · exact .inr (by simpa using ht.symm)
          · exact .inr (by simpa using ht.symm)
          · exact .inl (by simpa using ht.symm)
          · simp at ht
        rcases h3 with rfl | rfl
        · exact (show Tryd.prog.wantsStandIn 22 = false by kernel_rfl)
        · exact (show Tryd.prog.wantsStandIn 33 = false by kernel_rfl)⟩)
    (by kernel_rfl)
#print axioms undo_card
end Go.Proofs.YtchbefaflhimcaaDoor
