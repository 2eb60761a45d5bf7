/- The law ShapeLattice holds: for all arguments, concord/concordlaw08.ShapeLattice returns true (Join and Meet do not depend on the order, a shape is within its Join with another one, and Meet within both, and in itself). -/
import Derived.Test.YtaejnklgnegkhaaDoorBLat0
import Derived.Test.YtaejnklgnegkhaaDoorTie
import Derived.Test.YtaejnklgnegkhaaDoorCards
import Derived.SevenTiedAt
namespace Go.Proofs.YtaejnklgnegkhaaDoor
open Go

theorem lattice_card : Rows.ShapeLatticeCardSaid :=
  Claim7.holds_tied_plain_at .later [] [.data, .data, .data] true (true, "02a89bdf5f6bf20c455cf9b9eb19d145c0d84b06b4cdd51a7e6043bc66a42359") true
    lattice_row (fun _ h => by cases h) (by kernel_rfl) (fun _ h => by cases h) shapeLattice_row_tie rfl ⟨rfl, rfl⟩ (by kernel_rfl) rfl
    (fun f fn hf hfn => by
      obtain rfl : f = 12 := Option.some.inj ((show Tryd.prog.funcNamed "concord/concordlaw08.ShapeLattice" = some 12 by kernel_rfl).symm.trans hf) |>.symm
      obtain rfl : fn = Tryd.f12 := (Option.some.inj (Tryd.func12.symm.trans hfn)).symm
      exact ⟨by kernel_rfl, fun j t ht => by
        rw [Tryd.params12] at ht
        have h3 : t = 60 := by
          rcases j with _ | j
          · simpa using ht.symm
          · simp at ht
        subst h3
        exact (show Tryd.prog.wantsStandIn 60 = false by kernel_rfl)⟩)
    (by kernel_rfl)
#print axioms lattice_card
end Go.Proofs.YtaejnklgnegkhaaDoor
