/-
  No cell of these rows narrows 'for every input' (looked for: loops, veiled, ifaces, maps, wideKeys, modest, calm, conditions, laid).
  DERIVED. THE GIVEN ROWS OF THIS SEAT. 7 by the template 'for every input the law returns true; each argument reads behind the call as it read before'; 0 by the template 'total and deterministic' (their statements: YtblmmbghnkplkaaTotals.lean).
  GIVEN WITH THE SEED: the statements are not yours to turn. If you find one false, say at which input.
  Laid BY PROGRAM, IN A SANDBOX (cutbox-rows.mjs): the forced cells as the released guide's own fill.sh prints them over the translation e61e78e1833a6386… (all of the seat's roots in one cut). By AI agents, Wed Nov 11 2026. No macro, syntax, notation, axiom, sorry.
-/
import Derived.Test.YtblmmbghnkplkaaChecked
import GoSem.Claim
import GoSem.ClaimJoined
import GoSem.ClaimMapViews
import Derived.JoinedTies
import Derived.KernelRfl
namespace Go.Proofs.Ytblmmbghnkplkaa
/- THE CELL 'sum', in the pinned program and in every row, IS THE sha256 OF THE DUMP (.gsa) THAT YtblmmbghnkplkaaProg.lean LOADS. Nothing in Lean hashes anything: it is a label: what it is worth is what the hold of that sum in a sandbox is worth. -/
noncomputable def Try.pinned : Pinned := { name := "ytblmmbghnkplkaa", sum := "e61e78e1833a63865f72cb7b212ff6c5869bee5499701d718c766131c75f9ef2", checked := Try.checked }
namespace Rows
def none {H : Type} : Left H := { results := [], args := [] }

/-- 'quoratelaw.ConfigExact': WHATEVER THE INPUT: true; the input reads as it did. -/
def configExactSpec : ChangeSpec := { name := "configExact", fn := fun _ => fun
  | [d1, d2, d3] => { results := [.lit (.bool true)], args := [d1, d2, d3] }
  | _ => none }
def configExactRow : OpenClaim := { program := "ytblmmbghnkplkaa", sum := "e61e78e1833a63865f72cb7b212ff6c5869bee5499701d718c766131c75f9ef2", func := "quorate/quoratelaw.ConfigExact", spec := "configExact", inPlace := ["slices.overlaps[int]"], unfollowed := true, recurses := true, apart := false }
def ConfigExactSaid : Prop := configExactRow.holds Try.pinned (OpenSpec.ofChange configExactSpec)

/-- ITS FALSE NEIGHBOUR: 'it returns false'. Refute it at one input. -/
def configExactWrong : ChangeSpec := { name := "configExact", fn := fun _ => fun
  | [d1, d2, d3] => { results := [.lit (.bool false)], args := [d1, d2, d3] }
  | _ => none }
def ConfigExactWrongFalsely : Prop := configExactRow.holds Try.pinned (OpenSpec.ofChange configExactWrong)

/-- 'quoratekeep.ConfigMeets': WHATEVER THE INPUT: true; the input reads as it did. -/
def configMeetsSpec : ChangeSpec := { name := "configMeets", fn := fun _ => fun
  | [d1, d2, d3, d4, d5] => { results := [.lit (.bool true)], args := [d1, d2, d3, d4, d5] }
  | _ => none }
def configMeetsRow : OpenClaim := { program := "ytblmmbghnkplkaa", sum := "e61e78e1833a63865f72cb7b212ff6c5869bee5499701d718c766131c75f9ef2", func := "quorate/quoratekeep.ConfigMeets", spec := "configMeets", inPlace := ["slices.overlaps[int]"], unfollowed := true, recurses := true, apart := false }
def ConfigMeetsSaid : Prop := configMeetsRow.holds Try.pinned (OpenSpec.ofChange configMeetsSpec)

/-- ITS FALSE NEIGHBOUR: 'it returns false'. Refute it at one input. -/
def configMeetsWrong : ChangeSpec := { name := "configMeets", fn := fun _ => fun
  | [d1, d2, d3, d4, d5] => { results := [.lit (.bool false)], args := [d1, d2, d3, d4, d5] }
  | _ => none }
def ConfigMeetsWrongFalsely : Prop := configMeetsRow.holds Try.pinned (OpenSpec.ofChange configMeetsWrong)

/-- 'quoratelaw.KvExact': WHATEVER THE INPUT: true; the input reads as it did. -/
def kvExactSpec : ChangeSpec := { name := "kvExact", fn := fun _ => fun
  | [d1, d2] => { results := [.lit (.bool true)], args := [d1, d2] }
  | _ => none }
def kvExactRow : OpenClaim := { program := "ytblmmbghnkplkaa", sum := "e61e78e1833a63865f72cb7b212ff6c5869bee5499701d718c766131c75f9ef2", func := "quorate/quoratelaw.KvExact", spec := "kvExact", inPlace := ["internal/bytealg.abigen_runtime_cmpstring", "slices.overlaps[quorate/api.Pair]"], unfollowed := true, recurses := true, apart := false }
def KvExactSaid : Prop := kvExactRow.holds Try.pinned (OpenSpec.ofChange kvExactSpec)

/-- ITS FALSE NEIGHBOUR: 'it returns false'. Refute it at one input. -/
def kvExactWrong : ChangeSpec := { name := "kvExact", fn := fun _ => fun
  | [d1, d2] => { results := [.lit (.bool false)], args := [d1, d2] }
  | _ => none }
def KvExactWrongFalsely : Prop := kvExactRow.holds Try.pinned (OpenSpec.ofChange kvExactWrong)

/-- 'quoratekeep.KvMap': WHATEVER THE INPUT: true; the input reads as it did. -/
def kvMapSpec : ChangeSpec := { name := "kvMap", fn := fun _ => fun
  | [d] => { results := [.lit (.bool true)], args := [d] }
  | _ => none }
def kvMapRow : OpenClaim := { program := "ytblmmbghnkplkaa", sum := "e61e78e1833a63865f72cb7b212ff6c5869bee5499701d718c766131c75f9ef2", func := "quorate/quoratekeep.KvMap", spec := "kvMap", inPlace := ["internal/bytealg.abigen_runtime_cmpstring", "slices.overlaps[quorate/api.Pair]"], unfollowed := true, recurses := true, apart := false }
def KvMapSaid : Prop := kvMapRow.holds Try.pinned (OpenSpec.ofChange kvMapSpec)

/-- ITS FALSE NEIGHBOUR: 'it returns false'. Refute it at one input. -/
def kvMapWrong : ChangeSpec := { name := "kvMap", fn := fun _ => fun
  | [d] => { results := [.lit (.bool false)], args := [d] }
  | _ => none }
def KvMapWrongFalsely : Prop := kvMapRow.holds Try.pinned (OpenSpec.ofChange kvMapWrong)

/-- 'quoratelaw.SessionExact': WHATEVER THE INPUT: true; the input reads as it did. -/
def sessionExactSpec : ChangeSpec := { name := "sessionExact", fn := fun _ => fun
  | [d1, d2, d3] => { results := [.lit (.bool true)], args := [d1, d2, d3] }
  | _ => none }
def sessionExactRow : OpenClaim := { program := "ytblmmbghnkplkaa", sum := "e61e78e1833a63865f72cb7b212ff6c5869bee5499701d718c766131c75f9ef2", func := "quorate/quoratelaw.SessionExact", spec := "sessionExact", inPlace := ["slices.overlaps[quorate/api.Session]", "internal/bytealg.abigen_runtime_cmpstring", "slices.overlaps[quorate/api.Pair]"], unfollowed := true, recurses := true, apart := false }
def SessionExactSaid : Prop := sessionExactRow.holds Try.pinned (OpenSpec.ofChange sessionExactSpec)

/-- ITS FALSE NEIGHBOUR: 'it returns false'. Refute it at one input. -/
def sessionExactWrong : ChangeSpec := { name := "sessionExact", fn := fun _ => fun
  | [d1, d2, d3] => { results := [.lit (.bool false)], args := [d1, d2, d3] }
  | _ => none }
def SessionExactWrongFalsely : Prop := sessionExactRow.holds Try.pinned (OpenSpec.ofChange sessionExactWrong)

/-- 'quoratekeep.SessionOnce': WHATEVER THE INPUT: true; the input reads as it did. -/
def sessionOnceSpec : ChangeSpec := { name := "sessionOnce", fn := fun _ => fun
  | [d1, d2] => { results := [.lit (.bool true)], args := [d1, d2] }
  | _ => none }
def sessionOnceRow : OpenClaim := { program := "ytblmmbghnkplkaa", sum := "e61e78e1833a63865f72cb7b212ff6c5869bee5499701d718c766131c75f9ef2", func := "quorate/quoratekeep.SessionOnce", spec := "sessionOnce", inPlace := ["slices.overlaps[quorate/api.Session]", "internal/bytealg.abigen_runtime_cmpstring", "slices.overlaps[quorate/api.Pair]"], unfollowed := true, recurses := true, apart := false }
def SessionOnceSaid : Prop := sessionOnceRow.holds Try.pinned (OpenSpec.ofChange sessionOnceSpec)

/-- ITS FALSE NEIGHBOUR: 'it returns false'. Refute it at one input. -/
def sessionOnceWrong : ChangeSpec := { name := "sessionOnce", fn := fun _ => fun
  | [d1, d2] => { results := [.lit (.bool false)], args := [d1, d2] }
  | _ => none }
def SessionOnceWrongFalsely : Prop := sessionOnceRow.holds Try.pinned (OpenSpec.ofChange sessionOnceWrong)

/-- 'quoratelaw.WorldActs': WHATEVER THE INPUT: true; the input reads as it did. -/
def worldActsSpec : ChangeSpec := { name := "worldActs", fn := fun _ => fun
  | [d] => { results := [.lit (.bool true)], args := [d] }
  | _ => none }
def worldActsRow : OpenClaim := { program := "ytblmmbghnkplkaa", sum := "e61e78e1833a63865f72cb7b212ff6c5869bee5499701d718c766131c75f9ef2", func := "quorate/quoratelaw.WorldActs", spec := "worldActs", unfollowed := true, recurses := true, apart := false }
def WorldActsSaid : Prop := worldActsRow.holds Try.pinned (OpenSpec.ofChange worldActsSpec)

/-- ITS FALSE NEIGHBOUR: 'it returns false'. Refute it at one input. -/
def worldActsWrong : ChangeSpec := { name := "worldActs", fn := fun _ => fun
  | [d] => { results := [.lit (.bool false)], args := [d] }
  | _ => none }
def WorldActsWrongFalsely : Prop := worldActsRow.holds Try.pinned (OpenSpec.ofChange worldActsWrong)

/- THE SECOND FORM. 'bulk': how many values and letters a reading holds, each counted each time it is reached (what is shared counts as often as it is met; a slice's spare places count too). A statement '..UptoSaid' is the law's where the arguments, and the package variables that the reading takes, are together of bulk at most 1048576: NARROWER than '..Said'. Prove '..Said' where nothing that the law and all that it calls make is longer than what came in: it says more and counts as full. Else prove '..UptoSaid'. A law counts once. -/
mutual
def uptoBulk {H : Type} : DataW H → Nat
  | .lit (.string bytes) => bytes.length + 1
  | .lit _ => 1
  | .nil => 1
  | .ptr d => uptoBulk d + 1
  | .slice elems spare => uptoBulkAll elems + uptoBulkAll spare + 1
  | .agg parts => uptoBulkAll parts + 1
  | .iface _ d => uptoBulk d + 1
  | .map entries => uptoBulkEntries entries + 1
  | .held _ => 1
def uptoBulkAll {H : Type} : List (DataW H) → Nat
  | [] => 0
  | d :: r => uptoBulk d + uptoBulkAll r
def uptoBulkEntries {H : Type} : List (Lit × DataW H) → Nat
  | [] => 0
  | x :: r => uptoBulkEntry x + uptoBulkEntries r
def uptoBulkEntry {H : Type} : Lit × DataW H → Nat
  | (.string bytes, d) => bytes.length + uptoBulk d + 1
  | (_, d) => uptoBulk d + 1
 end
def uptoSmall : (H : Type) → List (DataW H) → Bool := fun _ ds => decide (uptoBulkAll ds ≤ 1048576)
def OpenSpec.upto (s : _root_.Go.ChangeSpec) : _root_.Go.OpenSpec := { _root_.Go.OpenSpec.ofChange s with cond := some uptoSmall }

/-- 'quoratelaw.ConfigExact', WHERE WHAT IT READS IS OF BULK AT MOST 1048576: true; the input reads as it did. -/
def configExactUptoRow : OpenClaim := { program := "ytblmmbghnkplkaa", sum := "e61e78e1833a63865f72cb7b212ff6c5869bee5499701d718c766131c75f9ef2", func := "quorate/quoratelaw.ConfigExact", spec := "configExact", inPlace := ["slices.overlaps[int]"], unfollowed := true, recurses := true, apart := false, narrowed := true }
def ConfigExactUptoSaid : Prop := configExactUptoRow.holds Try.pinned (OpenSpec.upto configExactSpec)

/-- 'quoratekeep.ConfigMeets', WHERE WHAT IT READS IS OF BULK AT MOST 1048576: true; the input reads as it did. -/
def configMeetsUptoRow : OpenClaim := { program := "ytblmmbghnkplkaa", sum := "e61e78e1833a63865f72cb7b212ff6c5869bee5499701d718c766131c75f9ef2", func := "quorate/quoratekeep.ConfigMeets", spec := "configMeets", inPlace := ["slices.overlaps[int]"], unfollowed := true, recurses := true, apart := false, narrowed := true }
def ConfigMeetsUptoSaid : Prop := configMeetsUptoRow.holds Try.pinned (OpenSpec.upto configMeetsSpec)

/-- 'quoratelaw.KvExact', WHERE WHAT IT READS IS OF BULK AT MOST 1048576: true; the input reads as it did. -/
def kvExactUptoRow : OpenClaim := { program := "ytblmmbghnkplkaa", sum := "e61e78e1833a63865f72cb7b212ff6c5869bee5499701d718c766131c75f9ef2", func := "quorate/quoratelaw.KvExact", spec := "kvExact", inPlace := ["internal/bytealg.abigen_runtime_cmpstring", "slices.overlaps[quorate/api.Pair]"], unfollowed := true, recurses := true, apart := false, narrowed := true }
def KvExactUptoSaid : Prop := kvExactUptoRow.holds Try.pinned (OpenSpec.upto kvExactSpec)

/-- 'quoratekeep.KvMap', WHERE WHAT IT READS IS OF BULK AT MOST 1048576: true; the input reads as it did. -/
def kvMapUptoRow : OpenClaim := { program := "ytblmmbghnkplkaa", sum := "e61e78e1833a63865f72cb7b212ff6c5869bee5499701d718c766131c75f9ef2", func := "quorate/quoratekeep.KvMap", spec := "kvMap", inPlace := ["internal/bytealg.abigen_runtime_cmpstring", "slices.overlaps[quorate/api.Pair]"], unfollowed := true, recurses := true, apart := false, narrowed := true }
def KvMapUptoSaid : Prop := kvMapUptoRow.holds Try.pinned (OpenSpec.upto kvMapSpec)

/-- 'quoratelaw.SessionExact', WHERE WHAT IT READS IS OF BULK AT MOST 1048576: true; the input reads as it did. -/
def sessionExactUptoRow : OpenClaim := { program := "ytblmmbghnkplkaa", sum := "e61e78e1833a63865f72cb7b212ff6c5869bee5499701d718c766131c75f9ef2", func := "quorate/quoratelaw.SessionExact", spec := "sessionExact", inPlace := ["slices.overlaps[quorate/api.Session]", "internal/bytealg.abigen_runtime_cmpstring", "slices.overlaps[quorate/api.Pair]"], unfollowed := true, recurses := true, apart := false, narrowed := true }
def SessionExactUptoSaid : Prop := sessionExactUptoRow.holds Try.pinned (OpenSpec.upto sessionExactSpec)

/-- 'quoratekeep.SessionOnce', WHERE WHAT IT READS IS OF BULK AT MOST 1048576: true; the input reads as it did. -/
def sessionOnceUptoRow : OpenClaim := { program := "ytblmmbghnkplkaa", sum := "e61e78e1833a63865f72cb7b212ff6c5869bee5499701d718c766131c75f9ef2", func := "quorate/quoratekeep.SessionOnce", spec := "sessionOnce", inPlace := ["slices.overlaps[quorate/api.Session]", "internal/bytealg.abigen_runtime_cmpstring", "slices.overlaps[quorate/api.Pair]"], unfollowed := true, recurses := true, apart := false, narrowed := true }
def SessionOnceUptoSaid : Prop := sessionOnceUptoRow.holds Try.pinned (OpenSpec.upto sessionOnceSpec)

/-- 'quoratelaw.WorldActs', WHERE WHAT IT READS IS OF BULK AT MOST 1048576: true; the input reads as it did. -/
def worldActsUptoRow : OpenClaim := { program := "ytblmmbghnkplkaa", sum := "e61e78e1833a63865f72cb7b212ff6c5869bee5499701d718c766131c75f9ef2", func := "quorate/quoratelaw.WorldActs", spec := "worldActs", unfollowed := true, recurses := true, apart := false, narrowed := true }
def WorldActsUptoSaid : Prop := worldActsUptoRow.holds Try.pinned (OpenSpec.upto worldActsSpec)

end Rows
end Go.Proofs.Ytblmmbghnkplkaa
