/-
  DERIVED. GIVEN WITH THE SEED: THE CARDS: each row of YtflnjlbafchnaaaGreatDoorRows.lean that lists a variable, with what it lists TIED to the program's text (the seventh form; the later family's looks); each row that meets fmt, with fmt's text TOLD by the authors' own Lean function (tested against real Go, not proved from fmt's source: count such statements apart). THE CARD IS WHAT COUNTS. Prove the row's statement (the work); the ties are given (YtflnjlbafchnaaaGreatDoorTie.lean); close each card by the builder's one call (the guide's Derived/Test/ToyasCard.lean, 'card_holds'). Laid BY PROGRAM, IN A SANDBOX (cutbox-door.mjs). By AI agents, Wed Nov 11 2026. No macro, syntax, notation, axiom, sorry.
-/
import Derived.Test.YtflnjlbafchnaaaGreatDoorRows
import GoSem.ClaimSeven
namespace Go.Proofs.YtflnjlbafchnaaaGreatDoor
namespace Rows

/-- THE TIED CARD OF 'quoratelaw.TxnExact'. -/
def txnExactCard : Claim7 := { stood := { row := txnExactRow, standIns := [], harness := (true, "a9a5b06a985e3d2e65293f05bdece9993c28b22f0dd2d1f93a92e2a21aca0c92"), looks := true }, kinds := [], alts := [], laidByText := true, laidKinds := [.data, .data, .data, .data, .sentinel, .sentinel, .pinned], laidTests := true, laidLooks := .later }
def TxnExactCardSaid : Prop := Claim7.holds Tryz.pinned (.plain (OpenSpec.ofChange txnExactSpec)) txnExactCard

/-- THE TIED CARD OF 'quoratekeep.TxnSerial'. -/
def txnSerialCard : Claim7 := { stood := { row := txnSerialRow, standIns := [], harness := (true, "a9a5b06a985e3d2e65293f05bdece9993c28b22f0dd2d1f93a92e2a21aca0c92"), looks := true }, kinds := [], alts := [], laidByText := true, laidKinds := [.data, .data, .data, .data, .sentinel, .sentinel, .pinned], laidTests := true, laidLooks := .later }
def TxnSerialCardSaid : Prop := Claim7.holds Tryz.pinned (.plain (OpenSpec.ofChange txnSerialSpec)) txnSerialCard

/-- THE TIED CARD OF 'quoratekeep.TxnFree'. -/
def txnFreeCard : Claim7 := { stood := { row := txnFreeRow, standIns := [], harness := (true, "a9a5b06a985e3d2e65293f05bdece9993c28b22f0dd2d1f93a92e2a21aca0c92"), looks := true }, kinds := [], alts := [], laidByText := true, laidKinds := [.data, .data, .data, .data, .sentinel, .sentinel, .pinned], laidTests := true, laidLooks := .later }
def TxnFreeCardSaid : Prop := Claim7.holds Tryz.pinned (.plain (OpenSpec.ofChange txnFreeSpec)) txnFreeCard

/-- THE TIED CARD OF 'quoratelaw.CellExact'. -/
def cellExactCard : Claim7 := { stood := { row := cellExactRow, standIns := [], harness := (true, "a9a5b06a985e3d2e65293f05bdece9993c28b22f0dd2d1f93a92e2a21aca0c92"), looks := true }, kinds := [], alts := [], laidByText := true, laidKinds := [.data, .data, .data, .data, .sentinel, .sentinel, .data, .pinned], laidTests := true, laidLooks := .later }
def CellExactCardSaid : Prop := Claim7.holds Tryz.pinned (.plain (OpenSpec.ofChange cellExactSpec)) cellExactCard

/-- THE TIED CARD OF 'quoratelaw.CellFinds'. -/
def cellFindsCard : Claim7 := { stood := { row := cellFindsRow, standIns := [], harness := (true, "a9a5b06a985e3d2e65293f05bdece9993c28b22f0dd2d1f93a92e2a21aca0c92"), looks := true }, kinds := [], alts := [], laidByText := true, laidKinds := [.data, .data, .data, .data, .sentinel, .sentinel, .data, .pinned], laidTests := true, laidLooks := .later }
def CellFindsCardSaid : Prop := Claim7.holds Tryz.pinned (.plain (OpenSpec.ofChange cellFindsSpec)) cellFindsCard

/-- THE TIED CARD OF 'quoratekeep.CellOne'. -/
def cellOneCard : Claim7 := { stood := { row := cellOneRow, standIns := [], harness := (true, "a9a5b06a985e3d2e65293f05bdece9993c28b22f0dd2d1f93a92e2a21aca0c92"), looks := true }, kinds := [], alts := [], laidByText := true, laidKinds := [.data, .data, .data, .data, .sentinel, .sentinel, .data, .pinned], laidTests := true, laidLooks := .later }
def CellOneCardSaid : Prop := Claim7.holds Tryz.pinned (.plain (OpenSpec.ofChange cellOneSpec)) cellOneCard

/-- THE TIED CARD OF 'quoratekeep.CellFree'. -/
def cellFreeCard : Claim7 := { stood := { row := cellFreeRow, standIns := [], harness := (true, "a9a5b06a985e3d2e65293f05bdece9993c28b22f0dd2d1f93a92e2a21aca0c92"), looks := true }, kinds := [], alts := [], laidByText := true, laidKinds := [.data, .data, .data, .data, .sentinel, .sentinel, .data, .pinned], laidTests := true, laidLooks := .later }
def CellFreeCardSaid : Prop := Claim7.holds Tryz.pinned (.plain (OpenSpec.ofChange cellFreeSpec)) cellFreeCard

/-- THE SECOND FORM's CARD OF 'quoratelaw.TxnExact'. -/
def txnExactUptoCard : Claim7 := { stood := { row := txnExactUptoRow, standIns := [], harness := (true, "a9a5b06a985e3d2e65293f05bdece9993c28b22f0dd2d1f93a92e2a21aca0c92"), looks := true }, kinds := [], alts := [], laidByText := true, laidKinds := [.data, .data, .data, .data, .sentinel, .sentinel, .pinned], laidTests := true, laidLooks := .later }
def TxnExactUptoCardSaid : Prop := Claim7.holds Tryz.pinned (.plain (OpenSpec.upto txnExactSpec)) txnExactUptoCard

/-- THE SECOND FORM's CARD OF 'quoratekeep.TxnSerial'. -/
def txnSerialUptoCard : Claim7 := { stood := { row := txnSerialUptoRow, standIns := [], harness := (true, "a9a5b06a985e3d2e65293f05bdece9993c28b22f0dd2d1f93a92e2a21aca0c92"), looks := true }, kinds := [], alts := [], laidByText := true, laidKinds := [.data, .data, .data, .data, .sentinel, .sentinel, .pinned], laidTests := true, laidLooks := .later }
def TxnSerialUptoCardSaid : Prop := Claim7.holds Tryz.pinned (.plain (OpenSpec.upto txnSerialSpec)) txnSerialUptoCard

/-- THE SECOND FORM's CARD OF 'quoratekeep.TxnFree'. -/
def txnFreeUptoCard : Claim7 := { stood := { row := txnFreeUptoRow, standIns := [], harness := (true, "a9a5b06a985e3d2e65293f05bdece9993c28b22f0dd2d1f93a92e2a21aca0c92"), looks := true }, kinds := [], alts := [], laidByText := true, laidKinds := [.data, .data, .data, .data, .sentinel, .sentinel, .pinned], laidTests := true, laidLooks := .later }
def TxnFreeUptoCardSaid : Prop := Claim7.holds Tryz.pinned (.plain (OpenSpec.upto txnFreeSpec)) txnFreeUptoCard

/-- THE SECOND FORM's CARD OF 'quoratelaw.CellExact'. -/
def cellExactUptoCard : Claim7 := { stood := { row := cellExactUptoRow, standIns := [], harness := (true, "a9a5b06a985e3d2e65293f05bdece9993c28b22f0dd2d1f93a92e2a21aca0c92"), looks := true }, kinds := [], alts := [], laidByText := true, laidKinds := [.data, .data, .data, .data, .sentinel, .sentinel, .data, .pinned], laidTests := true, laidLooks := .later }
def CellExactUptoCardSaid : Prop := Claim7.holds Tryz.pinned (.plain (OpenSpec.upto cellExactSpec)) cellExactUptoCard

/-- THE SECOND FORM's CARD OF 'quoratelaw.CellFinds'. -/
def cellFindsUptoCard : Claim7 := { stood := { row := cellFindsUptoRow, standIns := [], harness := (true, "a9a5b06a985e3d2e65293f05bdece9993c28b22f0dd2d1f93a92e2a21aca0c92"), looks := true }, kinds := [], alts := [], laidByText := true, laidKinds := [.data, .data, .data, .data, .sentinel, .sentinel, .data, .pinned], laidTests := true, laidLooks := .later }
def CellFindsUptoCardSaid : Prop := Claim7.holds Tryz.pinned (.plain (OpenSpec.upto cellFindsSpec)) cellFindsUptoCard

/-- THE SECOND FORM's CARD OF 'quoratekeep.CellOne'. -/
def cellOneUptoCard : Claim7 := { stood := { row := cellOneUptoRow, standIns := [], harness := (true, "a9a5b06a985e3d2e65293f05bdece9993c28b22f0dd2d1f93a92e2a21aca0c92"), looks := true }, kinds := [], alts := [], laidByText := true, laidKinds := [.data, .data, .data, .data, .sentinel, .sentinel, .data, .pinned], laidTests := true, laidLooks := .later }
def CellOneUptoCardSaid : Prop := Claim7.holds Tryz.pinned (.plain (OpenSpec.upto cellOneSpec)) cellOneUptoCard

/-- THE SECOND FORM's CARD OF 'quoratekeep.CellFree'. -/
def cellFreeUptoCard : Claim7 := { stood := { row := cellFreeUptoRow, standIns := [], harness := (true, "a9a5b06a985e3d2e65293f05bdece9993c28b22f0dd2d1f93a92e2a21aca0c92"), looks := true }, kinds := [], alts := [], laidByText := true, laidKinds := [.data, .data, .data, .data, .sentinel, .sentinel, .data, .pinned], laidTests := true, laidLooks := .later }
def CellFreeUptoCardSaid : Prop := Claim7.holds Tryz.pinned (.plain (OpenSpec.upto cellFreeSpec)) cellFreeUptoCard
end Rows
end Go.Proofs.YtflnjlbafchnaaaGreatDoor
