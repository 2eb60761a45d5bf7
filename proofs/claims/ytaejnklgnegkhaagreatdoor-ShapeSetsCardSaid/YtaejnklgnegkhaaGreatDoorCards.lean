/-
  DERIVED. GIVEN WITH THE SEED: THE CARDS: each row of YtaejnklgnegkhaaGreatDoorRows.lean that lists a variable, with what it lists TIED to the program's text (the seventh form; the later family's looks); each row that meets fmt, with fmt's text TOLD by the authors' own Lean function (tested against real Go, not proved from fmt's source: count such statements apart). THE CARD IS WHAT COUNTS. Prove the row's statement (the work); the ties are given (YtaejnklgnegkhaaGreatDoorTie.lean); close each card by the builder's one call (the guide's Derived/Test/ToyasCard.lean, 'card_holds'). Laid BY PROGRAM, IN A SANDBOX (cutbox-door.mjs). By AI agents, Wed Nov 11 2026. No macro, syntax, notation, axiom, sorry.
-/
import Derived.Test.YtaejnklgnegkhaaGreatDoorRows
import GoSem.ClaimSeven
namespace Go.Proofs.YtaejnklgnegkhaaGreatDoor
namespace Rows

/-- THE TIED CARD OF 'concordlaw08.ShapeContains'. -/
def shapeContainsCard : Claim7 := { stood := { row := shapeContainsRow, standIns := [], harness := (true, "06e3139843ab3f4c87e3a9f690a20c854dc9162a13f4bf56e5e154adf18cd03d"), looks := false }, kinds := [], alts := [], laidByText := true, laidKinds := [.data, .data, .data], laidTests := true, laidLooks := .later }
def ShapeContainsCardSaid : Prop := Claim7.holds Tryz.pinned (.plain (OpenSpec.ofChange shapeContainsSpec)) shapeContainsCard

/-- THE TIED CARD OF 'concordlaw08.ShapeSets'. -/
def shapeSetsCard : Claim7 := { stood := { row := shapeSetsRow, standIns := [], harness := (true, "06e3139843ab3f4c87e3a9f690a20c854dc9162a13f4bf56e5e154adf18cd03d"), looks := false }, kinds := [], alts := [], laidByText := true, laidKinds := [.data, .data, .data], laidTests := true, laidLooks := .later }
def ShapeSetsCardSaid : Prop := Claim7.holds Tryz.pinned (.plain (OpenSpec.ofChange shapeSetsSpec)) shapeSetsCard

/-- THE TIED CARD OF 'concordlaw08.ShapeConcats'. -/
def shapeConcatsCard : Claim7 := { stood := { row := shapeConcatsRow, standIns := [], harness := (true, "06e3139843ab3f4c87e3a9f690a20c854dc9162a13f4bf56e5e154adf18cd03d"), looks := false }, kinds := [], alts := [], laidByText := true, laidKinds := [.data, .data, .data], laidTests := true, laidLooks := .later }
def ShapeConcatsCardSaid : Prop := Claim7.holds Tryz.pinned (.plain (OpenSpec.ofChange shapeConcatsSpec)) shapeConcatsCard

/-- THE TIED CARD OF 'concordlaw08.ShapeParts'. -/
def shapePartsCard : Claim7 := { stood := { row := shapePartsRow, standIns := [], harness := (true, "06e3139843ab3f4c87e3a9f690a20c854dc9162a13f4bf56e5e154adf18cd03d"), looks := false }, kinds := [], alts := [], laidByText := true, laidKinds := [.data, .data, .data, .data, .pinned, .pinned], laidTests := true, laidLooks := .later }
def ShapePartsCardSaid : Prop := Claim7.holds Tryz.pinned (.plain (OpenSpec.ofChange shapePartsSpec)) shapePartsCard

/-- THE TIED CARD OF 'concordlaw08.ShapePatterns'. -/
def shapePatternsCard : Claim7 := { stood := { row := shapePatternsRow, standIns := [], harness := (true, "06e3139843ab3f4c87e3a9f690a20c854dc9162a13f4bf56e5e154adf18cd03d"), looks := false }, kinds := [], alts := [], laidByText := true, laidKinds := [.data, .data, .data], laidTests := true, laidLooks := .later }
def ShapePatternsCardSaid : Prop := Claim7.holds Tryz.pinned (.plain (OpenSpec.ofChange shapePatternsSpec)) shapePatternsCard

/-- THE SECOND FORM's CARD OF 'concordlaw08.ShapeContains'. -/
def shapeContainsUptoCard : Claim7 := { stood := { row := shapeContainsUptoRow, standIns := [], harness := (true, "06e3139843ab3f4c87e3a9f690a20c854dc9162a13f4bf56e5e154adf18cd03d"), looks := false }, kinds := [], alts := [], laidByText := true, laidKinds := [.data, .data, .data], laidTests := true, laidLooks := .later }
def ShapeContainsUptoCardSaid : Prop := Claim7.holds Tryz.pinned (.plain (OpenSpec.upto shapeContainsSpec)) shapeContainsUptoCard

/-- THE SECOND FORM's CARD OF 'concordlaw08.ShapeSets'. -/
def shapeSetsUptoCard : Claim7 := { stood := { row := shapeSetsUptoRow, standIns := [], harness := (true, "06e3139843ab3f4c87e3a9f690a20c854dc9162a13f4bf56e5e154adf18cd03d"), looks := false }, kinds := [], alts := [], laidByText := true, laidKinds := [.data, .data, .data], laidTests := true, laidLooks := .later }
def ShapeSetsUptoCardSaid : Prop := Claim7.holds Tryz.pinned (.plain (OpenSpec.upto shapeSetsSpec)) shapeSetsUptoCard

/-- THE SECOND FORM's CARD OF 'concordlaw08.ShapeConcats'. -/
def shapeConcatsUptoCard : Claim7 := { stood := { row := shapeConcatsUptoRow, standIns := [], harness := (true, "06e3139843ab3f4c87e3a9f690a20c854dc9162a13f4bf56e5e154adf18cd03d"), looks := false }, kinds := [], alts := [], laidByText := true, laidKinds := [.data, .data, .data], laidTests := true, laidLooks := .later }
def ShapeConcatsUptoCardSaid : Prop := Claim7.holds Tryz.pinned (.plain (OpenSpec.upto shapeConcatsSpec)) shapeConcatsUptoCard

/-- THE SECOND FORM's CARD OF 'concordlaw08.ShapeParts'. -/
def shapePartsUptoCard : Claim7 := { stood := { row := shapePartsUptoRow, standIns := [], harness := (true, "06e3139843ab3f4c87e3a9f690a20c854dc9162a13f4bf56e5e154adf18cd03d"), looks := false }, kinds := [], alts := [], laidByText := true, laidKinds := [.data, .data, .data, .data, .pinned, .pinned], laidTests := true, laidLooks := .later }
def ShapePartsUptoCardSaid : Prop := Claim7.holds Tryz.pinned (.plain (OpenSpec.upto shapePartsSpec)) shapePartsUptoCard

/-- THE SECOND FORM's CARD OF 'concordlaw08.ShapePatterns'. -/
def shapePatternsUptoCard : Claim7 := { stood := { row := shapePatternsUptoRow, standIns := [], harness := (true, "06e3139843ab3f4c87e3a9f690a20c854dc9162a13f4bf56e5e154adf18cd03d"), looks := false }, kinds := [], alts := [], laidByText := true, laidKinds := [.data, .data, .data], laidTests := true, laidLooks := .later }
def ShapePatternsUptoCardSaid : Prop := Claim7.holds Tryz.pinned (.plain (OpenSpec.upto shapePatternsSpec)) shapePatternsUptoCard
end Rows
end Go.Proofs.YtaejnklgnegkhaaGreatDoor
