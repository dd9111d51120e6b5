/-
  DERIVED. GIVEN WITH THE SEED: THE CARDS: each row of YtgkacepcggjfkaaDoorRows.lean that lists a variable, with what it lists TIED to the program's text (the seventh form; the later family's looks); each row that meets fmt, with fmt's text TOLD by the authors' own Lean function (tested against real Go, not proved from fmt's source: count such statements apart). THE CARD IS WHAT COUNTS. Prove the row's statement (the work); the ties are given (YtgkacepcggjfkaaDoorTie.lean); close each card by the builder's one call (the guide's Derived/Test/ToyasCard.lean, 'card_holds'). Laid BY PROGRAM, IN A SANDBOX (cutbox-door.mjs). By AI agents, Wed Nov 11 2026. No macro, syntax, notation, axiom, sorry.
-/
import Derived.Test.YtgkacepcggjfkaaDoorRows
import GoSem.ClaimSeven
namespace Go.Proofs.YtgkacepcggjfkaaDoor
namespace Rows

/-- THE TIED CARD OF 'quoratelaw.TxnNumbers'. -/
def txnNumbersCard : Claim7 := { stood := { row := txnNumbersRow, standIns := [], harness := (true, "6bd4b582cbcd26ba09d3e885c6ee0762b29e740cd36667c6a26ef1eb98cc37d9"), looks := true }, kinds := [], alts := [], laidByText := true, laidKinds := [.data, .data, .data, .data, .sentinel, .sentinel, .pinned], laidTests := true, laidLooks := .later }
def TxnNumbersCardSaid : Prop := Claim7.holds Tryd.pinned (.plain (OpenSpec.ofChange txnNumbersSpec)) txnNumbersCard

/-- THE SECOND FORM's CARD OF 'quoratelaw.TxnNumbers'. -/
def txnNumbersUptoCard : Claim7 := { stood := { row := txnNumbersUptoRow, standIns := [], harness := (true, "6bd4b582cbcd26ba09d3e885c6ee0762b29e740cd36667c6a26ef1eb98cc37d9"), looks := true }, kinds := [], alts := [], laidByText := true, laidKinds := [.data, .data, .data, .data, .sentinel, .sentinel, .pinned], laidTests := true, laidLooks := .later }
def TxnNumbersUptoCardSaid : Prop := Claim7.holds Tryd.pinned (.plain (OpenSpec.upto txnNumbersSpec)) txnNumbersUptoCard
end Rows
end Go.Proofs.YtgkacepcggjfkaaDoor
