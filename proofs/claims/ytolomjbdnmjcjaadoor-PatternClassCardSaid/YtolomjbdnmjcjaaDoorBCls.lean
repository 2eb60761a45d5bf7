/- The law PatternClass holds: for all arguments, concord/concordlaw05.PatternClass returns true (each byte has at most one class, which its own pattern matches; all characters have one). -/
import Derived.Test.YtolomjbdnmjcjaaDoorBCls0
import Derived.Test.YtolomjbdnmjcjaaDoorTie
import Derived.Test.YtolomjbdnmjcjaaDoorCards
import Derived.SevenTiedAt
namespace Go.Proofs.YtolomjbdnmjcjaaDoor
open Go

theorem class_card : Rows.PatternClassCardSaid :=
  Claim7.holds_tied_plain_at .later [] [.data, .data, .data] true (true, "7c7c20fd3f7c2cae002aff88f4cc8b2c9ced91d0669d2d4c95484b7bb544b865") true
    class_row (fun _ h => by cases h) (by kernel_rfl) (fun _ h => by cases h) patternClass_row_tie rfl ⟨rfl, rfl⟩ (by kernel_rfl) rfl
    (fun f fn hf hfn => by
      obtain rfl : f = 10 := Option.some.inj ((show Tryd.prog.funcNamed "concord/concordlaw05.PatternClass" = some 10 by kernel_rfl).symm.trans hf) |>.symm
      obtain rfl : fn = Tryd.f10 := (Option.some.inj (Tryd.func10.symm.trans hfn)).symm
      exact ⟨by kernel_rfl, fun j t ht => by
        rw [Tryd.params10] at ht
        have h3 : t = 5 := by
          rcases j with _ | j
          · simpa using ht.symm
          · simp at ht
        subst h3
        exact (show Tryd.prog.wantsStandIn 5 = false by kernel_rfl)⟩)
    (by kernel_rfl)
#print axioms class_card
end Go.Proofs.YtolomjbdnmjcjaaDoor
