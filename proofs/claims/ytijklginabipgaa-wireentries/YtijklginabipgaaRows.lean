/-
  No cell of these rows narrows 'for every input' (looked for: loops, veiled, ifaces, maps, wideKeys, modest, calm, conditions, laid).
  DERIVED. THE GIVEN ROWS OF THIS SEAT. 5 by the template 'for every input the law returns true; each argument reads behind the call as it read before'; 0 by the template 'total and deterministic' (their statements: YtijklginabipgaaTotals.lean).
  GIVEN WITH THE SEED: the statements are not yours to turn. If you find one false, say at which input.
  Laid BY PROGRAM, IN A SANDBOX (cutbox-rows.mjs): the forced cells as the released guide's own fill.sh prints them over the translation ef5a2adc4bd7a824… (all of the seat's roots in one cut). By AI agents, Wed Nov 11 2026. No macro, syntax, notation, axiom, sorry.
-/
import Derived.Test.YtijklginabipgaaChecked
import GoSem.Claim
import GoSem.ClaimJoined
import GoSem.ClaimMapViews
import Derived.JoinedTies
import Derived.KernelRfl
namespace Go.Proofs.Ytijklginabipgaa
/- THE CELL 'sum', in the pinned program and in every row, IS THE sha256 OF THE DUMP (.gsa) THAT YtijklginabipgaaProg.lean LOADS. Nothing in Lean hashes anything: it is a label: what it is worth is what the hold of that sum in a sandbox is worth. -/
noncomputable def Try.pinned : Pinned := { name := "ytijklginabipgaa", sum := "ef5a2adc4bd7a824dbecb9a7db66a76acf2e81eb8e05119102a4efa54d13bd78", checked := Try.checked }
namespace Rows
def none {H : Type} : Left H := { results := [], args := [] }

/-- 'quoratelaw.ConfigExact': WHATEVER THE INPUT: true; the input reads as it did. -/
def configExactSpec : ChangeSpec := { name := "configExact", fn := fun _ => fun
  | [d1, d2, d3] => { results := [.lit (.bool true)], args := [d1, d2, d3] }
  | _ => none }
def configExactRow : OpenClaim := { program := "ytijklginabipgaa", sum := "ef5a2adc4bd7a824dbecb9a7db66a76acf2e81eb8e05119102a4efa54d13bd78", func := "quorate/quoratelaw.ConfigExact", spec := "configExact", inPlace := ["slices.overlaps[int]"], unfollowed := true, recurses := true, apart := false }
def ConfigExactSaid : Prop := configExactRow.holds Try.pinned (OpenSpec.ofChange configExactSpec)

/-- ITS FALSE NEIGHBOUR: 'it returns false'. Refute it at one input. -/
def configExactWrong : ChangeSpec := { name := "configExact", fn := fun _ => fun
  | [d1, d2, d3] => { results := [.lit (.bool false)], args := [d1, d2, d3] }
  | _ => none }
def ConfigExactWrongFalsely : Prop := configExactRow.holds Try.pinned (OpenSpec.ofChange configExactWrong)

/-- 'quoratekeep.ConfigMeets': WHATEVER THE INPUT: true; the input reads as it did. -/
def configMeetsSpec : ChangeSpec := { name := "configMeets", fn := fun _ => fun
  | [d1, d2, d3, d4, d5] => { results := [.lit (.bool true)], args := [d1, d2, d3, d4, d5] }
  | _ => none }
def configMeetsRow : OpenClaim := { program := "ytijklginabipgaa", sum := "ef5a2adc4bd7a824dbecb9a7db66a76acf2e81eb8e05119102a4efa54d13bd78", func := "quorate/quoratekeep.ConfigMeets", spec := "configMeets", inPlace := ["slices.overlaps[int]"], unfollowed := true, recurses := true, apart := false }
def ConfigMeetsSaid : Prop := configMeetsRow.holds Try.pinned (OpenSpec.ofChange configMeetsSpec)

/-- ITS FALSE NEIGHBOUR: 'it returns false'. Refute it at one input. -/
def configMeetsWrong : ChangeSpec := { name := "configMeets", fn := fun _ => fun
  | [d1, d2, d3, d4, d5] => { results := [.lit (.bool false)], args := [d1, d2, d3, d4, d5] }
  | _ => none }
def ConfigMeetsWrongFalsely : Prop := configMeetsRow.holds Try.pinned (OpenSpec.ofChange configMeetsWrong)

/-- 'quoratelaw.WireEntries': WHATEVER THE INPUT: true; the input reads as it did. -/
def wireEntriesSpec : ChangeSpec := { name := "wireEntries", fn := fun _ => fun
  | [d1, d2, d3] => { results := [.lit (.bool true)], args := [d1, d2, d3] }
  | _ => none }
def wireEntriesRow : OpenClaim := { program := "ytijklginabipgaa", sum := "ef5a2adc4bd7a824dbecb9a7db66a76acf2e81eb8e05119102a4efa54d13bd78", func := "quorate/quoratelaw.WireEntries", spec := "wireEntries", unfollowed := true, recurses := true, apart := false }
def WireEntriesSaid : Prop := wireEntriesRow.holds Try.pinned (OpenSpec.ofChange wireEntriesSpec)

/-- ITS FALSE NEIGHBOUR: 'it returns false'. Refute it at one input. -/
def wireEntriesWrong : ChangeSpec := { name := "wireEntries", fn := fun _ => fun
  | [d1, d2, d3] => { results := [.lit (.bool false)], args := [d1, d2, d3] }
  | _ => none }
def WireEntriesWrongFalsely : Prop := wireEntriesRow.holds Try.pinned (OpenSpec.ofChange wireEntriesWrong)

/-- 'quoratelaw.WireSnapshots': WHATEVER THE INPUT: true; the input reads as it did. -/
def wireSnapshotsSpec : ChangeSpec := { name := "wireSnapshots", fn := fun _ => fun
  | [d1, d2, d3] => { results := [.lit (.bool true)], args := [d1, d2, d3] }
  | _ => none }
def wireSnapshotsRow : OpenClaim := { program := "ytijklginabipgaa", sum := "ef5a2adc4bd7a824dbecb9a7db66a76acf2e81eb8e05119102a4efa54d13bd78", func := "quorate/quoratelaw.WireSnapshots", spec := "wireSnapshots", unfollowed := true, recurses := true, apart := false }
def WireSnapshotsSaid : Prop := wireSnapshotsRow.holds Try.pinned (OpenSpec.ofChange wireSnapshotsSpec)

/-- ITS FALSE NEIGHBOUR: 'it returns false'. Refute it at one input. -/
def wireSnapshotsWrong : ChangeSpec := { name := "wireSnapshots", fn := fun _ => fun
  | [d1, d2, d3] => { results := [.lit (.bool false)], args := [d1, d2, d3] }
  | _ => none }
def WireSnapshotsWrongFalsely : Prop := wireSnapshotsRow.holds Try.pinned (OpenSpec.ofChange wireSnapshotsWrong)

/-- 'quoratekeep.WireBack': WHATEVER THE INPUT: true; the input reads as it did. -/
def wireBackSpec : ChangeSpec := { name := "wireBack", fn := fun _ => fun
  | [d1, d2, d3, d4] => { results := [.lit (.bool true)], args := [d1, d2, d3, d4] }
  | _ => none }
def wireBackRow : OpenClaim := { program := "ytijklginabipgaa", sum := "ef5a2adc4bd7a824dbecb9a7db66a76acf2e81eb8e05119102a4efa54d13bd78", func := "quorate/quoratekeep.WireBack", spec := "wireBack", unfollowed := true, recurses := true, apart := false }
def WireBackSaid : Prop := wireBackRow.holds Try.pinned (OpenSpec.ofChange wireBackSpec)

/-- ITS FALSE NEIGHBOUR: 'it returns false'. Refute it at one input. -/
def wireBackWrong : ChangeSpec := { name := "wireBack", fn := fun _ => fun
  | [d1, d2, d3, d4] => { results := [.lit (.bool false)], args := [d1, d2, d3, d4] }
  | _ => none }
def WireBackWrongFalsely : Prop := wireBackRow.holds Try.pinned (OpenSpec.ofChange wireBackWrong)

/- THE SECOND FORM. 'bulk': how many values and letters a reading holds, each counted each time it is reached (what is shared counts as often as it is met; a slice's spare places count too). A statement '..UptoSaid' is the law's where the arguments, and the package variables that the reading takes, are together of bulk at most 1048576: NARROWER than '..Said'. Prove '..Said' where nothing that the law and all that it calls make is longer than what came in: it says more and counts as full. Else prove '..UptoSaid'. A law counts once. -/
mutual
def uptoBulk {H : Type} : DataW H → Nat
  | .lit (.string bytes) => bytes.length + 1
  | .lit _ => 1
  | .nil => 1
  | .ptr d => uptoBulk d + 1
  | .slice elems spare => uptoBulkAll elems + uptoBulkAll spare + 1
  | .agg parts => uptoBulkAll parts + 1
  | .iface _ d => uptoBulk d + 1
  | .map entries => uptoBulkEntries entries + 1
  | .held _ => 1
def uptoBulkAll {H : Type} : List (DataW H) → Nat
  | [] => 0
  | d :: r => uptoBulk d + uptoBulkAll r
def uptoBulkEntries {H : Type} : List (Lit × DataW H) → Nat
  | [] => 0
  | x :: r => uptoBulkEntry x + uptoBulkEntries r
def uptoBulkEntry {H : Type} : Lit × DataW H → Nat
  | (.string bytes, d) => bytes.length + uptoBulk d + 1
  | (_, d) => uptoBulk d + 1
 end
def uptoSmall : (H : Type) → List (DataW H) → Bool := fun _ ds => decide (uptoBulkAll ds ≤ 1048576)
def OpenSpec.upto (s : _root_.Go.ChangeSpec) : _root_.Go.OpenSpec := { _root_.Go.OpenSpec.ofChange s with cond := some uptoSmall }

/-- 'quoratelaw.ConfigExact', WHERE WHAT IT READS IS OF BULK AT MOST 1048576: true; the input reads as it did. -/
def configExactUptoRow : OpenClaim := { program := "ytijklginabipgaa", sum := "ef5a2adc4bd7a824dbecb9a7db66a76acf2e81eb8e05119102a4efa54d13bd78", func := "quorate/quoratelaw.ConfigExact", spec := "configExact", inPlace := ["slices.overlaps[int]"], unfollowed := true, recurses := true, apart := false, narrowed := true }
def ConfigExactUptoSaid : Prop := configExactUptoRow.holds Try.pinned (OpenSpec.upto configExactSpec)

/-- 'quoratekeep.ConfigMeets', WHERE WHAT IT READS IS OF BULK AT MOST 1048576: true; the input reads as it did. -/
def configMeetsUptoRow : OpenClaim := { program := "ytijklginabipgaa", sum := "ef5a2adc4bd7a824dbecb9a7db66a76acf2e81eb8e05119102a4efa54d13bd78", func := "quorate/quoratekeep.ConfigMeets", spec := "configMeets", inPlace := ["slices.overlaps[int]"], unfollowed := true, recurses := true, apart := false, narrowed := true }
def ConfigMeetsUptoSaid : Prop := configMeetsUptoRow.holds Try.pinned (OpenSpec.upto configMeetsSpec)

/-- 'quoratelaw.WireEntries', WHERE WHAT IT READS IS OF BULK AT MOST 1048576: true; the input reads as it did. -/
def wireEntriesUptoRow : OpenClaim := { program := "ytijklginabipgaa", sum := "ef5a2adc4bd7a824dbecb9a7db66a76acf2e81eb8e05119102a4efa54d13bd78", func := "quorate/quoratelaw.WireEntries", spec := "wireEntries", unfollowed := true, recurses := true, apart := false, narrowed := true }
def WireEntriesUptoSaid : Prop := wireEntriesUptoRow.holds Try.pinned (OpenSpec.upto wireEntriesSpec)

/-- 'quoratelaw.WireSnapshots', WHERE WHAT IT READS IS OF BULK AT MOST 1048576: true; the input reads as it did. -/
def wireSnapshotsUptoRow : OpenClaim := { program := "ytijklginabipgaa", sum := "ef5a2adc4bd7a824dbecb9a7db66a76acf2e81eb8e05119102a4efa54d13bd78", func := "quorate/quoratelaw.WireSnapshots", spec := "wireSnapshots", unfollowed := true, recurses := true, apart := false, narrowed := true }
def WireSnapshotsUptoSaid : Prop := wireSnapshotsUptoRow.holds Try.pinned (OpenSpec.upto wireSnapshotsSpec)

/-- 'quoratekeep.WireBack', WHERE WHAT IT READS IS OF BULK AT MOST 1048576: true; the input reads as it did. -/
def wireBackUptoRow : OpenClaim := { program := "ytijklginabipgaa", sum := "ef5a2adc4bd7a824dbecb9a7db66a76acf2e81eb8e05119102a4efa54d13bd78", func := "quorate/quoratekeep.WireBack", spec := "wireBack", unfollowed := true, recurses := true, apart := false, narrowed := true }
def WireBackUptoSaid : Prop := wireBackUptoRow.holds Try.pinned (OpenSpec.upto wireBackSpec)

end Rows
end Go.Proofs.Ytijklginabipgaa
