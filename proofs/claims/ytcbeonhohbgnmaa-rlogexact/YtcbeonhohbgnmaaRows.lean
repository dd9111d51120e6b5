/-
  No cell of these rows narrows 'for every input' (looked for: loops, veiled, ifaces, maps, wideKeys, modest, calm, conditions, laid).
  DERIVED. THE GIVEN ROWS OF THIS SEAT. 12 by the template 'for every input the law returns true; each argument reads behind the call as it read before'; 0 by the template 'total and deterministic' (their statements: YtcbeonhohbgnmaaTotals.lean).
  GIVEN WITH THE SEED: the statements are not yours to turn. If you find one false, say at which input.
  Laid BY PROGRAM, IN A SANDBOX (cutbox-rows.mjs): the forced cells as the released guide's own fill.sh prints them over the translation 62778117d5828361… (all of the seat's roots in one cut). By AI agents, Wed Nov 11 2026. No macro, syntax, notation, axiom, sorry.
-/
import Derived.Test.YtcbeonhohbgnmaaChecked
import GoSem.Claim
import GoSem.ClaimJoined
import GoSem.ClaimMapViews
import Derived.JoinedTies
import Derived.KernelRfl
namespace Go.Proofs.Ytcbeonhohbgnmaa
/- THE CELL 'sum', in the pinned program and in every row, IS THE sha256 OF THE DUMP (.gsa) THAT YtcbeonhohbgnmaaProg.lean LOADS. Nothing in Lean hashes anything: it is a label: what it is worth is what the hold of that sum in a sandbox is worth. -/
noncomputable def Try.pinned : Pinned := { name := "ytcbeonhohbgnmaa", sum := "62778117d58283618c101a3d996ec92ef9dd9c3af2a2bc8ec0e1d84ea0f0938e", checked := Try.checked }
namespace Rows
def none {H : Type} : Left H := { results := [], args := [] }

/-- 'quoratelaw.WireFrames': WHATEVER THE INPUT: true; the input reads as it did. -/
def wireFramesSpec : ChangeSpec := { name := "wireFrames", fn := fun _ => fun
  | [d1, d2] => { results := [.lit (.bool true)], args := [d1, d2] }
  | _ => none }
def wireFramesRow : OpenClaim := { program := "ytcbeonhohbgnmaa", sum := "62778117d58283618c101a3d996ec92ef9dd9c3af2a2bc8ec0e1d84ea0f0938e", func := "quorate/quoratelaw.WireFrames", spec := "wireFrames", unfollowed := true, recurses := true, apart := false }
def WireFramesSaid : Prop := wireFramesRow.holds Try.pinned (OpenSpec.ofChange wireFramesSpec)

/-- ITS FALSE NEIGHBOUR: 'it returns false'. Refute it at one input. -/
def wireFramesWrong : ChangeSpec := { name := "wireFrames", fn := fun _ => fun
  | [d1, d2] => { results := [.lit (.bool false)], args := [d1, d2] }
  | _ => none }
def WireFramesWrongFalsely : Prop := wireFramesRow.holds Try.pinned (OpenSpec.ofChange wireFramesWrong)

/-- 'quoratelaw.WireNumbers': WHATEVER THE INPUT: true; the input reads as it did. -/
def wireNumbersSpec : ChangeSpec := { name := "wireNumbers", fn := fun _ => fun
  | [d1, d2, d3] => { results := [.lit (.bool true)], args := [d1, d2, d3] }
  | _ => none }
def wireNumbersRow : OpenClaim := { program := "ytcbeonhohbgnmaa", sum := "62778117d58283618c101a3d996ec92ef9dd9c3af2a2bc8ec0e1d84ea0f0938e", func := "quorate/quoratelaw.WireNumbers", spec := "wireNumbers", unfollowed := true, recurses := true, apart := false }
def WireNumbersSaid : Prop := wireNumbersRow.holds Try.pinned (OpenSpec.ofChange wireNumbersSpec)

/-- ITS FALSE NEIGHBOUR: 'it returns false'. Refute it at one input. -/
def wireNumbersWrong : ChangeSpec := { name := "wireNumbers", fn := fun _ => fun
  | [d1, d2, d3] => { results := [.lit (.bool false)], args := [d1, d2, d3] }
  | _ => none }
def WireNumbersWrongFalsely : Prop := wireNumbersRow.holds Try.pinned (OpenSpec.ofChange wireNumbersWrong)

/-- 'quoratelaw.WireRequests': WHATEVER THE INPUT: true; the input reads as it did. -/
def wireRequestsSpec : ChangeSpec := { name := "wireRequests", fn := fun _ => fun
  | [d1, d2] => { results := [.lit (.bool true)], args := [d1, d2] }
  | _ => none }
def wireRequestsRow : OpenClaim := { program := "ytcbeonhohbgnmaa", sum := "62778117d58283618c101a3d996ec92ef9dd9c3af2a2bc8ec0e1d84ea0f0938e", func := "quorate/quoratelaw.WireRequests", spec := "wireRequests", unfollowed := true, recurses := true, apart := false }
def WireRequestsSaid : Prop := wireRequestsRow.holds Try.pinned (OpenSpec.ofChange wireRequestsSpec)

/-- ITS FALSE NEIGHBOUR: 'it returns false'. Refute it at one input. -/
def wireRequestsWrong : ChangeSpec := { name := "wireRequests", fn := fun _ => fun
  | [d1, d2] => { results := [.lit (.bool false)], args := [d1, d2] }
  | _ => none }
def WireRequestsWrongFalsely : Prop := wireRequestsRow.holds Try.pinned (OpenSpec.ofChange wireRequestsWrong)

/-- 'quoratelaw.WireEntries': WHATEVER THE INPUT: true; the input reads as it did. -/
def wireEntriesSpec : ChangeSpec := { name := "wireEntries", fn := fun _ => fun
  | [d1, d2, d3] => { results := [.lit (.bool true)], args := [d1, d2, d3] }
  | _ => none }
def wireEntriesRow : OpenClaim := { program := "ytcbeonhohbgnmaa", sum := "62778117d58283618c101a3d996ec92ef9dd9c3af2a2bc8ec0e1d84ea0f0938e", func := "quorate/quoratelaw.WireEntries", spec := "wireEntries", unfollowed := true, recurses := true, apart := false }
def WireEntriesSaid : Prop := wireEntriesRow.holds Try.pinned (OpenSpec.ofChange wireEntriesSpec)

/-- ITS FALSE NEIGHBOUR: 'it returns false'. Refute it at one input. -/
def wireEntriesWrong : ChangeSpec := { name := "wireEntries", fn := fun _ => fun
  | [d1, d2, d3] => { results := [.lit (.bool false)], args := [d1, d2, d3] }
  | _ => none }
def WireEntriesWrongFalsely : Prop := wireEntriesRow.holds Try.pinned (OpenSpec.ofChange wireEntriesWrong)

/-- 'quoratelaw.WireSnapshots': WHATEVER THE INPUT: true; the input reads as it did. -/
def wireSnapshotsSpec : ChangeSpec := { name := "wireSnapshots", fn := fun _ => fun
  | [d1, d2, d3] => { results := [.lit (.bool true)], args := [d1, d2, d3] }
  | _ => none }
def wireSnapshotsRow : OpenClaim := { program := "ytcbeonhohbgnmaa", sum := "62778117d58283618c101a3d996ec92ef9dd9c3af2a2bc8ec0e1d84ea0f0938e", func := "quorate/quoratelaw.WireSnapshots", spec := "wireSnapshots", unfollowed := true, recurses := true, apart := false }
def WireSnapshotsSaid : Prop := wireSnapshotsRow.holds Try.pinned (OpenSpec.ofChange wireSnapshotsSpec)

/-- ITS FALSE NEIGHBOUR: 'it returns false'. Refute it at one input. -/
def wireSnapshotsWrong : ChangeSpec := { name := "wireSnapshots", fn := fun _ => fun
  | [d1, d2, d3] => { results := [.lit (.bool false)], args := [d1, d2, d3] }
  | _ => none }
def WireSnapshotsWrongFalsely : Prop := wireSnapshotsRow.holds Try.pinned (OpenSpec.ofChange wireSnapshotsWrong)

/-- 'quoratekeep.WireBack': WHATEVER THE INPUT: true; the input reads as it did. -/
def wireBackSpec : ChangeSpec := { name := "wireBack", fn := fun _ => fun
  | [d1, d2, d3, d4] => { results := [.lit (.bool true)], args := [d1, d2, d3, d4] }
  | _ => none }
def wireBackRow : OpenClaim := { program := "ytcbeonhohbgnmaa", sum := "62778117d58283618c101a3d996ec92ef9dd9c3af2a2bc8ec0e1d84ea0f0938e", func := "quorate/quoratekeep.WireBack", spec := "wireBack", unfollowed := true, recurses := true, apart := false }
def WireBackSaid : Prop := wireBackRow.holds Try.pinned (OpenSpec.ofChange wireBackSpec)

/-- ITS FALSE NEIGHBOUR: 'it returns false'. Refute it at one input. -/
def wireBackWrong : ChangeSpec := { name := "wireBack", fn := fun _ => fun
  | [d1, d2, d3, d4] => { results := [.lit (.bool false)], args := [d1, d2, d3, d4] }
  | _ => none }
def WireBackWrongFalsely : Prop := wireBackRow.holds Try.pinned (OpenSpec.ofChange wireBackWrong)

/-- 'quoratekeep.WireTorn': WHATEVER THE INPUT: true; the input reads as it did. -/
def wireTornSpec : ChangeSpec := { name := "wireTorn", fn := fun _ => fun
  | [d1, d2, d3] => { results := [.lit (.bool true)], args := [d1, d2, d3] }
  | _ => none }
def wireTornRow : OpenClaim := { program := "ytcbeonhohbgnmaa", sum := "62778117d58283618c101a3d996ec92ef9dd9c3af2a2bc8ec0e1d84ea0f0938e", func := "quorate/quoratekeep.WireTorn", spec := "wireTorn", unfollowed := true, recurses := true, apart := false }
def WireTornSaid : Prop := wireTornRow.holds Try.pinned (OpenSpec.ofChange wireTornSpec)

/-- ITS FALSE NEIGHBOUR: 'it returns false'. Refute it at one input. -/
def wireTornWrong : ChangeSpec := { name := "wireTorn", fn := fun _ => fun
  | [d1, d2, d3] => { results := [.lit (.bool false)], args := [d1, d2, d3] }
  | _ => none }
def WireTornWrongFalsely : Prop := wireTornRow.holds Try.pinned (OpenSpec.ofChange wireTornWrong)

/-- 'quoratelaw.KvExact': WHATEVER THE INPUT: true; the input reads as it did. -/
def kvExactSpec : ChangeSpec := { name := "kvExact", fn := fun _ => fun
  | [d1, d2] => { results := [.lit (.bool true)], args := [d1, d2] }
  | _ => none }
def kvExactRow : OpenClaim := { program := "ytcbeonhohbgnmaa", sum := "62778117d58283618c101a3d996ec92ef9dd9c3af2a2bc8ec0e1d84ea0f0938e", func := "quorate/quoratelaw.KvExact", spec := "kvExact", inPlace := ["internal/bytealg.abigen_runtime_cmpstring", "slices.overlaps[quorate/api.Pair]"], unfollowed := true, recurses := true, apart := false }
def KvExactSaid : Prop := kvExactRow.holds Try.pinned (OpenSpec.ofChange kvExactSpec)

/-- ITS FALSE NEIGHBOUR: 'it returns false'. Refute it at one input. -/
def kvExactWrong : ChangeSpec := { name := "kvExact", fn := fun _ => fun
  | [d1, d2] => { results := [.lit (.bool false)], args := [d1, d2] }
  | _ => none }
def KvExactWrongFalsely : Prop := kvExactRow.holds Try.pinned (OpenSpec.ofChange kvExactWrong)

/-- 'quoratekeep.KvMap': WHATEVER THE INPUT: true; the input reads as it did. -/
def kvMapSpec : ChangeSpec := { name := "kvMap", fn := fun _ => fun
  | [d] => { results := [.lit (.bool true)], args := [d] }
  | _ => none }
def kvMapRow : OpenClaim := { program := "ytcbeonhohbgnmaa", sum := "62778117d58283618c101a3d996ec92ef9dd9c3af2a2bc8ec0e1d84ea0f0938e", func := "quorate/quoratekeep.KvMap", spec := "kvMap", inPlace := ["internal/bytealg.abigen_runtime_cmpstring", "slices.overlaps[quorate/api.Pair]"], unfollowed := true, recurses := true, apart := false }
def KvMapSaid : Prop := kvMapRow.holds Try.pinned (OpenSpec.ofChange kvMapSpec)

/-- ITS FALSE NEIGHBOUR: 'it returns false'. Refute it at one input. -/
def kvMapWrong : ChangeSpec := { name := "kvMap", fn := fun _ => fun
  | [d] => { results := [.lit (.bool false)], args := [d] }
  | _ => none }
def KvMapWrongFalsely : Prop := kvMapRow.holds Try.pinned (OpenSpec.ofChange kvMapWrong)

/-- 'quoratelaw.SessionExact': WHATEVER THE INPUT: true; the input reads as it did. -/
def sessionExactSpec : ChangeSpec := { name := "sessionExact", fn := fun _ => fun
  | [d1, d2, d3] => { results := [.lit (.bool true)], args := [d1, d2, d3] }
  | _ => none }
def sessionExactRow : OpenClaim := { program := "ytcbeonhohbgnmaa", sum := "62778117d58283618c101a3d996ec92ef9dd9c3af2a2bc8ec0e1d84ea0f0938e", func := "quorate/quoratelaw.SessionExact", spec := "sessionExact", inPlace := ["slices.overlaps[quorate/api.Session]", "internal/bytealg.abigen_runtime_cmpstring", "slices.overlaps[quorate/api.Pair]"], unfollowed := true, recurses := true, apart := false }
def SessionExactSaid : Prop := sessionExactRow.holds Try.pinned (OpenSpec.ofChange sessionExactSpec)

/-- ITS FALSE NEIGHBOUR: 'it returns false'. Refute it at one input. -/
def sessionExactWrong : ChangeSpec := { name := "sessionExact", fn := fun _ => fun
  | [d1, d2, d3] => { results := [.lit (.bool false)], args := [d1, d2, d3] }
  | _ => none }
def SessionExactWrongFalsely : Prop := sessionExactRow.holds Try.pinned (OpenSpec.ofChange sessionExactWrong)

/-- 'quoratekeep.SessionOnce': WHATEVER THE INPUT: true; the input reads as it did. -/
def sessionOnceSpec : ChangeSpec := { name := "sessionOnce", fn := fun _ => fun
  | [d1, d2] => { results := [.lit (.bool true)], args := [d1, d2] }
  | _ => none }
def sessionOnceRow : OpenClaim := { program := "ytcbeonhohbgnmaa", sum := "62778117d58283618c101a3d996ec92ef9dd9c3af2a2bc8ec0e1d84ea0f0938e", func := "quorate/quoratekeep.SessionOnce", spec := "sessionOnce", inPlace := ["slices.overlaps[quorate/api.Session]", "internal/bytealg.abigen_runtime_cmpstring", "slices.overlaps[quorate/api.Pair]"], unfollowed := true, recurses := true, apart := false }
def SessionOnceSaid : Prop := sessionOnceRow.holds Try.pinned (OpenSpec.ofChange sessionOnceSpec)

/-- ITS FALSE NEIGHBOUR: 'it returns false'. Refute it at one input. -/
def sessionOnceWrong : ChangeSpec := { name := "sessionOnce", fn := fun _ => fun
  | [d1, d2] => { results := [.lit (.bool false)], args := [d1, d2] }
  | _ => none }
def SessionOnceWrongFalsely : Prop := sessionOnceRow.holds Try.pinned (OpenSpec.ofChange sessionOnceWrong)

/-- 'quoratelaw.RlogExact': WHATEVER THE INPUT: true; the input reads as it did. -/
def rlogExactSpec : ChangeSpec := { name := "rlogExact", fn := fun _ => fun
  | [d1, d2, d3, d4, d5] => { results := [.lit (.bool true)], args := [d1, d2, d3, d4, d5] }
  | _ => none }
def rlogExactRow : OpenClaim := { program := "ytcbeonhohbgnmaa", sum := "62778117d58283618c101a3d996ec92ef9dd9c3af2a2bc8ec0e1d84ea0f0938e", func := "quorate/quoratelaw.RlogExact", spec := "rlogExact", apart := false }
def RlogExactSaid : Prop := rlogExactRow.holds Try.pinned (OpenSpec.ofChange rlogExactSpec)

/-- ITS FALSE NEIGHBOUR: 'it returns false'. Refute it at one input. -/
def rlogExactWrong : ChangeSpec := { name := "rlogExact", fn := fun _ => fun
  | [d1, d2, d3, d4, d5] => { results := [.lit (.bool false)], args := [d1, d2, d3, d4, d5] }
  | _ => none }
def RlogExactWrongFalsely : Prop := rlogExactRow.holds Try.pinned (OpenSpec.ofChange rlogExactWrong)

/- THE SECOND FORM. 'bulk': how many values and letters a reading holds, each counted each time it is reached (what is shared counts as often as it is met; a slice's spare places count too). A statement '..UptoSaid' is the law's where the arguments, and the package variables that the reading takes, are together of bulk at most 1048576: NARROWER than '..Said'. Prove '..Said' where nothing that the law and all that it calls make is longer than what came in: it says more and counts as full. Else prove '..UptoSaid'. A law counts once. -/
mutual
def uptoBulk {H : Type} : DataW H → Nat
  | .lit (.string bytes) => bytes.length + 1
  | .lit _ => 1
  | .nil => 1
  | .ptr d => uptoBulk d + 1
  | .slice elems spare => uptoBulkAll elems + uptoBulkAll spare + 1
  | .agg parts => uptoBulkAll parts + 1
  | .iface _ d => uptoBulk d + 1
  | .map entries => uptoBulkEntries entries + 1
  | .held _ => 1
def uptoBulkAll {H : Type} : List (DataW H) → Nat
  | [] => 0
  | d :: r => uptoBulk d + uptoBulkAll r
def uptoBulkEntries {H : Type} : List (Lit × DataW H) → Nat
  | [] => 0
  | x :: r => uptoBulkEntry x + uptoBulkEntries r
def uptoBulkEntry {H : Type} : Lit × DataW H → Nat
  | (.string bytes, d) => bytes.length + uptoBulk d + 1
  | (_, d) => uptoBulk d + 1
 end
def uptoSmall : (H : Type) → List (DataW H) → Bool := fun _ ds => decide (uptoBulkAll ds ≤ 1048576)
def OpenSpec.upto (s : _root_.Go.ChangeSpec) : _root_.Go.OpenSpec := { _root_.Go.OpenSpec.ofChange s with cond := some uptoSmall }

/-- 'quoratelaw.WireFrames', WHERE WHAT IT READS IS OF BULK AT MOST 1048576: true; the input reads as it did. -/
def wireFramesUptoRow : OpenClaim := { program := "ytcbeonhohbgnmaa", sum := "62778117d58283618c101a3d996ec92ef9dd9c3af2a2bc8ec0e1d84ea0f0938e", func := "quorate/quoratelaw.WireFrames", spec := "wireFrames", unfollowed := true, recurses := true, apart := false, narrowed := true }
def WireFramesUptoSaid : Prop := wireFramesUptoRow.holds Try.pinned (OpenSpec.upto wireFramesSpec)

/-- 'quoratelaw.WireNumbers', WHERE WHAT IT READS IS OF BULK AT MOST 1048576: true; the input reads as it did. -/
def wireNumbersUptoRow : OpenClaim := { program := "ytcbeonhohbgnmaa", sum := "62778117d58283618c101a3d996ec92ef9dd9c3af2a2bc8ec0e1d84ea0f0938e", func := "quorate/quoratelaw.WireNumbers", spec := "wireNumbers", unfollowed := true, recurses := true, apart := false, narrowed := true }
def WireNumbersUptoSaid : Prop := wireNumbersUptoRow.holds Try.pinned (OpenSpec.upto wireNumbersSpec)

/-- 'quoratelaw.WireRequests', WHERE WHAT IT READS IS OF BULK AT MOST 1048576: true; the input reads as it did. -/
def wireRequestsUptoRow : OpenClaim := { program := "ytcbeonhohbgnmaa", sum := "62778117d58283618c101a3d996ec92ef9dd9c3af2a2bc8ec0e1d84ea0f0938e", func := "quorate/quoratelaw.WireRequests", spec := "wireRequests", unfollowed := true, recurses := true, apart := false, narrowed := true }
def WireRequestsUptoSaid : Prop := wireRequestsUptoRow.holds Try.pinned (OpenSpec.upto wireRequestsSpec)

/-- 'quoratelaw.WireEntries', WHERE WHAT IT READS IS OF BULK AT MOST 1048576: true; the input reads as it did. -/
def wireEntriesUptoRow : OpenClaim := { program := "ytcbeonhohbgnmaa", sum := "62778117d58283618c101a3d996ec92ef9dd9c3af2a2bc8ec0e1d84ea0f0938e", func := "quorate/quoratelaw.WireEntries", spec := "wireEntries", unfollowed := true, recurses := true, apart := false, narrowed := true }
def WireEntriesUptoSaid : Prop := wireEntriesUptoRow.holds Try.pinned (OpenSpec.upto wireEntriesSpec)

/-- 'quoratelaw.WireSnapshots', WHERE WHAT IT READS IS OF BULK AT MOST 1048576: true; the input reads as it did. -/
def wireSnapshotsUptoRow : OpenClaim := { program := "ytcbeonhohbgnmaa", sum := "62778117d58283618c101a3d996ec92ef9dd9c3af2a2bc8ec0e1d84ea0f0938e", func := "quorate/quoratelaw.WireSnapshots", spec := "wireSnapshots", unfollowed := true, recurses := true, apart := false, narrowed := true }
def WireSnapshotsUptoSaid : Prop := wireSnapshotsUptoRow.holds Try.pinned (OpenSpec.upto wireSnapshotsSpec)

/-- 'quoratekeep.WireBack', WHERE WHAT IT READS IS OF BULK AT MOST 1048576: true; the input reads as it did. -/
def wireBackUptoRow : OpenClaim := { program := "ytcbeonhohbgnmaa", sum := "62778117d58283618c101a3d996ec92ef9dd9c3af2a2bc8ec0e1d84ea0f0938e", func := "quorate/quoratekeep.WireBack", spec := "wireBack", unfollowed := true, recurses := true, apart := false, narrowed := true }
def WireBackUptoSaid : Prop := wireBackUptoRow.holds Try.pinned (OpenSpec.upto wireBackSpec)

/-- 'quoratekeep.WireTorn', WHERE WHAT IT READS IS OF BULK AT MOST 1048576: true; the input reads as it did. -/
def wireTornUptoRow : OpenClaim := { program := "ytcbeonhohbgnmaa", sum := "62778117d58283618c101a3d996ec92ef9dd9c3af2a2bc8ec0e1d84ea0f0938e", func := "quorate/quoratekeep.WireTorn", spec := "wireTorn", unfollowed := true, recurses := true, apart := false, narrowed := true }
def WireTornUptoSaid : Prop := wireTornUptoRow.holds Try.pinned (OpenSpec.upto wireTornSpec)

/-- 'quoratelaw.KvExact', WHERE WHAT IT READS IS OF BULK AT MOST 1048576: true; the input reads as it did. -/
def kvExactUptoRow : OpenClaim := { program := "ytcbeonhohbgnmaa", sum := "62778117d58283618c101a3d996ec92ef9dd9c3af2a2bc8ec0e1d84ea0f0938e", func := "quorate/quoratelaw.KvExact", spec := "kvExact", inPlace := ["internal/bytealg.abigen_runtime_cmpstring", "slices.overlaps[quorate/api.Pair]"], unfollowed := true, recurses := true, apart := false, narrowed := true }
def KvExactUptoSaid : Prop := kvExactUptoRow.holds Try.pinned (OpenSpec.upto kvExactSpec)

/-- 'quoratekeep.KvMap', WHERE WHAT IT READS IS OF BULK AT MOST 1048576: true; the input reads as it did. -/
def kvMapUptoRow : OpenClaim := { program := "ytcbeonhohbgnmaa", sum := "62778117d58283618c101a3d996ec92ef9dd9c3af2a2bc8ec0e1d84ea0f0938e", func := "quorate/quoratekeep.KvMap", spec := "kvMap", inPlace := ["internal/bytealg.abigen_runtime_cmpstring", "slices.overlaps[quorate/api.Pair]"], unfollowed := true, recurses := true, apart := false, narrowed := true }
def KvMapUptoSaid : Prop := kvMapUptoRow.holds Try.pinned (OpenSpec.upto kvMapSpec)

/-- 'quoratelaw.SessionExact', WHERE WHAT IT READS IS OF BULK AT MOST 1048576: true; the input reads as it did. -/
def sessionExactUptoRow : OpenClaim := { program := "ytcbeonhohbgnmaa", sum := "62778117d58283618c101a3d996ec92ef9dd9c3af2a2bc8ec0e1d84ea0f0938e", func := "quorate/quoratelaw.SessionExact", spec := "sessionExact", inPlace := ["slices.overlaps[quorate/api.Session]", "internal/bytealg.abigen_runtime_cmpstring", "slices.overlaps[quorate/api.Pair]"], unfollowed := true, recurses := true, apart := false, narrowed := true }
def SessionExactUptoSaid : Prop := sessionExactUptoRow.holds Try.pinned (OpenSpec.upto sessionExactSpec)

/-- 'quoratekeep.SessionOnce', WHERE WHAT IT READS IS OF BULK AT MOST 1048576: true; the input reads as it did. -/
def sessionOnceUptoRow : OpenClaim := { program := "ytcbeonhohbgnmaa", sum := "62778117d58283618c101a3d996ec92ef9dd9c3af2a2bc8ec0e1d84ea0f0938e", func := "quorate/quoratekeep.SessionOnce", spec := "sessionOnce", inPlace := ["slices.overlaps[quorate/api.Session]", "internal/bytealg.abigen_runtime_cmpstring", "slices.overlaps[quorate/api.Pair]"], unfollowed := true, recurses := true, apart := false, narrowed := true }
def SessionOnceUptoSaid : Prop := sessionOnceUptoRow.holds Try.pinned (OpenSpec.upto sessionOnceSpec)

/-- 'quoratelaw.RlogExact', WHERE WHAT IT READS IS OF BULK AT MOST 1048576: true; the input reads as it did. -/
def rlogExactUptoRow : OpenClaim := { program := "ytcbeonhohbgnmaa", sum := "62778117d58283618c101a3d996ec92ef9dd9c3af2a2bc8ec0e1d84ea0f0938e", func := "quorate/quoratelaw.RlogExact", spec := "rlogExact", apart := false, narrowed := true }
def RlogExactUptoSaid : Prop := rlogExactUptoRow.holds Try.pinned (OpenSpec.upto rlogExactSpec)

end Rows
end Go.Proofs.Ytcbeonhohbgnmaa
