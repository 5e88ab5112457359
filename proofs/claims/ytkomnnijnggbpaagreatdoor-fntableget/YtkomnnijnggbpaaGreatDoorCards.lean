/-
  DERIVED. GIVEN WITH THE SEED: THE CARDS: each row of YtkomnnijnggbpaaGreatDoorRows.lean that lists a variable, with what it lists TIED to the program's text (the seventh form; the later family's looks); each row that meets fmt, with fmt's text TOLD by the authors' own Lean function (tested against real Go, not proved from fmt's source: count such statements apart). THE CARD IS WHAT COUNTS. Prove the row's statement (the work); the ties are given (YtkomnnijnggbpaaGreatDoorTie.lean); close each card by the builder's one call (the guide's Derived/Test/ToyasCard.lean, 'card_holds'). Laid BY PROGRAM, IN A SANDBOX (cutbox-door.mjs). By AI agents, Wed Nov 11 2026. No macro, syntax, notation, axiom, sorry.
-/
import Derived.Test.YtkomnnijnggbpaaGreatDoorRows
import GoSem.ClaimSeven
namespace Go.Proofs.YtkomnnijnggbpaaGreatDoor
namespace Rows

/-- THE TIED CARD OF 'laws.FnTable'. -/
def fnTableCard : Claim7 := { stood := { row := fnTableRow, standIns := [], harness := (true, "7f52673337d8b3ce311037da11f68a06c7465bb17adf2e01bc0211ecf89c0da3"), looks := true }, kinds := [], alts := [], laidByText := true, laidKinds := [.handle], laidTests := true, laidLooks := .later }
def FnTableCardSaid : Prop := Claim7.holds Tryz.pinned (.plain (OpenSpec.ofChange fnTableSpec)) fnTableCard

/-- THE TIED CARD OF 'laws.FnGetTable'. -/
def fnGetTableCard : Claim7 := { stood := { row := fnGetTableRow, standIns := [], harness := (true, "7f52673337d8b3ce311037da11f68a06c7465bb17adf2e01bc0211ecf89c0da3"), looks := true }, kinds := [], alts := [], laidByText := true, laidKinds := [.handle], laidTests := true, laidLooks := .later }
def FnGetTableCardSaid : Prop := Claim7.holds Tryz.pinned (.plain (OpenSpec.ofChange fnGetTableSpec)) fnGetTableCard

/-- THE TIED CARD OF 'laws.FnSpoilt'. -/
def fnSpoiltCard : Claim7 := { stood := { row := fnSpoiltRow, standIns := [], harness := (true, "7f52673337d8b3ce311037da11f68a06c7465bb17adf2e01bc0211ecf89c0da3"), looks := true }, kinds := [], alts := [], laidByText := true, laidKinds := [.handle], laidTests := true, laidLooks := .later }
def FnSpoiltCardSaid : Prop := Claim7.holds Tryz.pinned (.plain (OpenSpec.ofChange fnSpoiltSpec)) fnSpoiltCard

/-- THE TIED CARD OF 'laws.FnTableGet'. -/
def fnTableGetCard : Claim7 := { stood := { row := fnTableGetRow, standIns := [], harness := (true, "7f52673337d8b3ce311037da11f68a06c7465bb17adf2e01bc0211ecf89c0da3"), looks := true }, kinds := [], alts := [], laidByText := true, laidKinds := [.handle], laidTests := true, laidLooks := .later }
def FnTableGetCardSaid : Prop := Claim7.holds Tryz.pinned (.plain (OpenSpec.ofChange fnTableGetSpec)) fnTableGetCard

/-- THE TIED CARD OF 'laws.FnTableScan'. -/
def fnTableScanCard : Claim7 := { stood := { row := fnTableScanRow, standIns := [], harness := (true, "7f52673337d8b3ce311037da11f68a06c7465bb17adf2e01bc0211ecf89c0da3"), looks := true }, kinds := [], alts := [], laidByText := true, laidKinds := [.handle], laidTests := true, laidLooks := .later }
def FnTableScanCardSaid : Prop := Claim7.holds Tryz.pinned (.plain (OpenSpec.ofChange fnTableScanSpec)) fnTableScanCard

/-- THE TIED CARD OF 'laws.FnConfigs'. -/
def fnConfigsCard : Claim7 := { stood := { row := fnConfigsRow, standIns := [], harness := (true, "7f52673337d8b3ce311037da11f68a06c7465bb17adf2e01bc0211ecf89c0da3"), looks := true }, kinds := [], alts := [], laidByText := true, laidKinds := [.handle], laidTests := true, laidLooks := .later }
def FnConfigsCardSaid : Prop := Claim7.holds Tryz.pinned (.plain (OpenSpec.ofChange fnConfigsSpec)) fnConfigsCard

/-- THE TIED CARD OF 'laws.FnExactGetTable'. -/
def fnExactGetTableCard : Claim7 := { stood := { row := fnExactGetTableRow, standIns := [], harness := (true, "7f52673337d8b3ce311037da11f68a06c7465bb17adf2e01bc0211ecf89c0da3"), looks := true }, kinds := [], alts := [], laidByText := true, laidKinds := [.handle], laidTests := true, laidLooks := .later }
def FnExactGetTableCardSaid : Prop := Claim7.holds Tryz.pinned (.plain (OpenSpec.ofChange fnExactGetTableSpec)) fnExactGetTableCard

/-- THE TIED CARD OF 'laws.FnExactTableGet'. -/
def fnExactTableGetCard : Claim7 := { stood := { row := fnExactTableGetRow, standIns := [], harness := (true, "7f52673337d8b3ce311037da11f68a06c7465bb17adf2e01bc0211ecf89c0da3"), looks := true }, kinds := [], alts := [], laidByText := true, laidKinds := [.handle], laidTests := true, laidLooks := .later }
def FnExactTableGetCardSaid : Prop := Claim7.holds Tryz.pinned (.plain (OpenSpec.ofChange fnExactTableGetSpec)) fnExactTableGetCard

/-- THE TIED CARD OF 'laws.FnExactTableMay'. -/
def fnExactTableMayCard : Claim7 := { stood := { row := fnExactTableMayRow, standIns := [], harness := (true, "7f52673337d8b3ce311037da11f68a06c7465bb17adf2e01bc0211ecf89c0da3"), looks := true }, kinds := [], alts := [], laidByText := true, laidKinds := [.handle], laidTests := true, laidLooks := .later }
def FnExactTableMayCardSaid : Prop := Claim7.holds Tryz.pinned (.plain (OpenSpec.ofChange fnExactTableMaySpec)) fnExactTableMayCard

/-- THE TIED CARD OF 'laws.FnExactTableScan'. -/
def fnExactTableScanCard : Claim7 := { stood := { row := fnExactTableScanRow, standIns := [], harness := (true, "7f52673337d8b3ce311037da11f68a06c7465bb17adf2e01bc0211ecf89c0da3"), looks := true }, kinds := [], alts := [], laidByText := true, laidKinds := [.handle], laidTests := true, laidLooks := .later }
def FnExactTableScanCardSaid : Prop := Claim7.holds Tryz.pinned (.plain (OpenSpec.ofChange fnExactTableScanSpec)) fnExactTableScanCard

/-- THE SECOND FORM's CARD OF 'laws.FnTable'. -/
def fnTableUptoCard : Claim7 := { stood := { row := fnTableUptoRow, standIns := [], harness := (true, "7f52673337d8b3ce311037da11f68a06c7465bb17adf2e01bc0211ecf89c0da3"), looks := true }, kinds := [], alts := [], laidByText := true, laidKinds := [.handle], laidTests := true, laidLooks := .later }
def FnTableUptoCardSaid : Prop := Claim7.holds Tryz.pinned (.plain (OpenSpec.upto fnTableSpec)) fnTableUptoCard

/-- THE SECOND FORM's CARD OF 'laws.FnGetTable'. -/
def fnGetTableUptoCard : Claim7 := { stood := { row := fnGetTableUptoRow, standIns := [], harness := (true, "7f52673337d8b3ce311037da11f68a06c7465bb17adf2e01bc0211ecf89c0da3"), looks := true }, kinds := [], alts := [], laidByText := true, laidKinds := [.handle], laidTests := true, laidLooks := .later }
def FnGetTableUptoCardSaid : Prop := Claim7.holds Tryz.pinned (.plain (OpenSpec.upto fnGetTableSpec)) fnGetTableUptoCard

/-- THE SECOND FORM's CARD OF 'laws.FnSpoilt'. -/
def fnSpoiltUptoCard : Claim7 := { stood := { row := fnSpoiltUptoRow, standIns := [], harness := (true, "7f52673337d8b3ce311037da11f68a06c7465bb17adf2e01bc0211ecf89c0da3"), looks := true }, kinds := [], alts := [], laidByText := true, laidKinds := [.handle], laidTests := true, laidLooks := .later }
def FnSpoiltUptoCardSaid : Prop := Claim7.holds Tryz.pinned (.plain (OpenSpec.upto fnSpoiltSpec)) fnSpoiltUptoCard

/-- THE SECOND FORM's CARD OF 'laws.FnTableGet'. -/
def fnTableGetUptoCard : Claim7 := { stood := { row := fnTableGetUptoRow, standIns := [], harness := (true, "7f52673337d8b3ce311037da11f68a06c7465bb17adf2e01bc0211ecf89c0da3"), looks := true }, kinds := [], alts := [], laidByText := true, laidKinds := [.handle], laidTests := true, laidLooks := .later }
def FnTableGetUptoCardSaid : Prop := Claim7.holds Tryz.pinned (.plain (OpenSpec.upto fnTableGetSpec)) fnTableGetUptoCard

/-- THE SECOND FORM's CARD OF 'laws.FnTableScan'. -/
def fnTableScanUptoCard : Claim7 := { stood := { row := fnTableScanUptoRow, standIns := [], harness := (true, "7f52673337d8b3ce311037da11f68a06c7465bb17adf2e01bc0211ecf89c0da3"), looks := true }, kinds := [], alts := [], laidByText := true, laidKinds := [.handle], laidTests := true, laidLooks := .later }
def FnTableScanUptoCardSaid : Prop := Claim7.holds Tryz.pinned (.plain (OpenSpec.upto fnTableScanSpec)) fnTableScanUptoCard

/-- THE SECOND FORM's CARD OF 'laws.FnConfigs'. -/
def fnConfigsUptoCard : Claim7 := { stood := { row := fnConfigsUptoRow, standIns := [], harness := (true, "7f52673337d8b3ce311037da11f68a06c7465bb17adf2e01bc0211ecf89c0da3"), looks := true }, kinds := [], alts := [], laidByText := true, laidKinds := [.handle], laidTests := true, laidLooks := .later }
def FnConfigsUptoCardSaid : Prop := Claim7.holds Tryz.pinned (.plain (OpenSpec.upto fnConfigsSpec)) fnConfigsUptoCard

/-- THE SECOND FORM's CARD OF 'laws.FnExactGetTable'. -/
def fnExactGetTableUptoCard : Claim7 := { stood := { row := fnExactGetTableUptoRow, standIns := [], harness := (true, "7f52673337d8b3ce311037da11f68a06c7465bb17adf2e01bc0211ecf89c0da3"), looks := true }, kinds := [], alts := [], laidByText := true, laidKinds := [.handle], laidTests := true, laidLooks := .later }
def FnExactGetTableUptoCardSaid : Prop := Claim7.holds Tryz.pinned (.plain (OpenSpec.upto fnExactGetTableSpec)) fnExactGetTableUptoCard

/-- THE SECOND FORM's CARD OF 'laws.FnExactTableGet'. -/
def fnExactTableGetUptoCard : Claim7 := { stood := { row := fnExactTableGetUptoRow, standIns := [], harness := (true, "7f52673337d8b3ce311037da11f68a06c7465bb17adf2e01bc0211ecf89c0da3"), looks := true }, kinds := [], alts := [], laidByText := true, laidKinds := [.handle], laidTests := true, laidLooks := .later }
def FnExactTableGetUptoCardSaid : Prop := Claim7.holds Tryz.pinned (.plain (OpenSpec.upto fnExactTableGetSpec)) fnExactTableGetUptoCard

/-- THE SECOND FORM's CARD OF 'laws.FnExactTableMay'. -/
def fnExactTableMayUptoCard : Claim7 := { stood := { row := fnExactTableMayUptoRow, standIns := [], harness := (true, "7f52673337d8b3ce311037da11f68a06c7465bb17adf2e01bc0211ecf89c0da3"), looks := true }, kinds := [], alts := [], laidByText := true, laidKinds := [.handle], laidTests := true, laidLooks := .later }
def FnExactTableMayUptoCardSaid : Prop := Claim7.holds Tryz.pinned (.plain (OpenSpec.upto fnExactTableMaySpec)) fnExactTableMayUptoCard

/-- THE SECOND FORM's CARD OF 'laws.FnExactTableScan'. -/
def fnExactTableScanUptoCard : Claim7 := { stood := { row := fnExactTableScanUptoRow, standIns := [], harness := (true, "7f52673337d8b3ce311037da11f68a06c7465bb17adf2e01bc0211ecf89c0da3"), looks := true }, kinds := [], alts := [], laidByText := true, laidKinds := [.handle], laidTests := true, laidLooks := .later }
def FnExactTableScanUptoCardSaid : Prop := Claim7.holds Tryz.pinned (.plain (OpenSpec.upto fnExactTableScanSpec)) fnExactTableScanUptoCard
end Rows
end Go.Proofs.YtkomnnijnggbpaaGreatDoor
