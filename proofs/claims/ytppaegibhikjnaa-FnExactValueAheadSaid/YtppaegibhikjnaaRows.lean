/-
  No cell of these rows narrows 'for every input' (looked for: loops, veiled, ifaces, maps, wideKeys, modest, calm, conditions, laid).
  DERIVED. THE GIVEN ROWS OF THIS SEAT. 12 by the template 'for every input the law returns true; each argument reads behind the call as it read before'; 0 by the template 'total and deterministic' (their statements: YtppaegibhikjnaaTotals.lean).
  GIVEN WITH THE SEED: the statements are not yours to turn. If you find one false, say at which input.
  Laid BY PROGRAM, IN A SANDBOX (cutbox-rows.mjs): the forced cells as the released guide's own fill.sh prints them over the translation cbc4dfff928be470… (all of the seat's roots in one cut). By AI agents, Wed Nov 11 2026. No macro, syntax, notation, axiom, sorry.
-/
import Derived.Test.YtppaegibhikjnaaChecked
import GoSem.Claim
import GoSem.ClaimJoined
import GoSem.ClaimMapViews
import Derived.JoinedTies
import Derived.KernelRfl
namespace Go.Proofs.Ytppaegibhikjnaa
/- THE CELL 'sum', in the pinned program and in every row, IS THE sha256 OF THE DUMP (.gsa) THAT YtppaegibhikjnaaProg.lean LOADS. Nothing in Lean hashes anything: it is a label: what it is worth is what the hold of that sum in a sandbox is worth. -/
noncomputable def Try.pinned : Pinned := { name := "ytppaegibhikjnaa", sum := "cbc4dfff928be470f76360684a3f7d06ca3bfc9fa03f773b10a4f6c1b7ce95d3", checked := Try.checked }
namespace Rows
def none {H : Type} : Left H := { results := [], args := [] }

/-- 'laws.FnExactIsGoal': WHATEVER THE INPUT: true; the input reads as it did. -/
def fnExactIsGoalSpec : ChangeSpec := { name := "fnExactIsGoal", fn := fun _ => fun
  | [d] => { results := [.lit (.bool true)], args := [d] }
  | _ => none }
def fnExactIsGoalRow : OpenClaim := { program := "ytppaegibhikjnaa", sum := "cbc4dfff928be470f76360684a3f7d06ca3bfc9fa03f773b10a4f6c1b7ce95d3", func := "loop.example/g01210/laws.FnExactIsGoal", spec := "fnExactIsGoal", apart := false }
def FnExactIsGoalSaid : Prop := fnExactIsGoalRow.holds Try.pinned (OpenSpec.ofChange fnExactIsGoalSpec)

/-- ITS FALSE NEIGHBOUR: 'it returns false'. Refute it at one input. -/
def fnExactIsGoalWrong : ChangeSpec := { name := "fnExactIsGoal", fn := fun _ => fun
  | [d] => { results := [.lit (.bool false)], args := [d] }
  | _ => none }
def FnExactIsGoalWrongFalsely : Prop := fnExactIsGoalRow.holds Try.pinned (OpenSpec.ofChange fnExactIsGoalWrong)

/-- 'laws.FnExactScoreOf': WHATEVER THE INPUT: true; the input reads as it did. -/
def fnExactScoreOfSpec : ChangeSpec := { name := "fnExactScoreOf", fn := fun _ => fun
  | [d1, d2] => { results := [.lit (.bool true)], args := [d1, d2] }
  | _ => none }
def fnExactScoreOfRow : OpenClaim := { program := "ytppaegibhikjnaa", sum := "cbc4dfff928be470f76360684a3f7d06ca3bfc9fa03f773b10a4f6c1b7ce95d3", func := "loop.example/g01210/laws.FnExactScoreOf", spec := "fnExactScoreOf", apart := false }
def FnExactScoreOfSaid : Prop := fnExactScoreOfRow.holds Try.pinned (OpenSpec.ofChange fnExactScoreOfSpec)

/-- ITS FALSE NEIGHBOUR: 'it returns false'. Refute it at one input. -/
def fnExactScoreOfWrong : ChangeSpec := { name := "fnExactScoreOf", fn := fun _ => fun
  | [d1, d2] => { results := [.lit (.bool false)], args := [d1, d2] }
  | _ => none }
def FnExactScoreOfWrongFalsely : Prop := fnExactScoreOfRow.holds Try.pinned (OpenSpec.ofChange fnExactScoreOfWrong)

/-- 'laws.FnExactValueOf': WHATEVER THE INPUT: true; the input reads as it did. -/
def fnExactValueOfSpec : ChangeSpec := { name := "fnExactValueOf", fn := fun _ => fun
  | [d1, d2, d3, d4] => { results := [.lit (.bool true)], args := [d1, d2, d3, d4] }
  | _ => none }
def fnExactValueOfRow : OpenClaim := { program := "ytppaegibhikjnaa", sum := "cbc4dfff928be470f76360684a3f7d06ca3bfc9fa03f773b10a4f6c1b7ce95d3", func := "loop.example/g01210/laws.FnExactValueOf", spec := "fnExactValueOf", unfollowed := true, recurses := true, apart := false }
def FnExactValueOfSaid : Prop := fnExactValueOfRow.holds Try.pinned (OpenSpec.ofChange fnExactValueOfSpec)

/-- ITS FALSE NEIGHBOUR: 'it returns false'. Refute it at one input. -/
def fnExactValueOfWrong : ChangeSpec := { name := "fnExactValueOf", fn := fun _ => fun
  | [d1, d2, d3, d4] => { results := [.lit (.bool false)], args := [d1, d2, d3, d4] }
  | _ => none }
def FnExactValueOfWrongFalsely : Prop := fnExactValueOfRow.holds Try.pinned (OpenSpec.ofChange fnExactValueOfWrong)

/-- 'laws.FnExactBestSet': WHATEVER THE INPUT: true; the input reads as it did. -/
def fnExactBestSetSpec : ChangeSpec := { name := "fnExactBestSet", fn := fun _ => fun
  | [d1, d2, d3, d4] => { results := [.lit (.bool true)], args := [d1, d2, d3, d4] }
  | _ => none }
def fnExactBestSetRow : OpenClaim := { program := "ytppaegibhikjnaa", sum := "cbc4dfff928be470f76360684a3f7d06ca3bfc9fa03f773b10a4f6c1b7ce95d3", func := "loop.example/g01210/laws.FnExactBestSet", spec := "fnExactBestSet", unfollowed := true, recurses := true, apart := false }
def FnExactBestSetSaid : Prop := fnExactBestSetRow.holds Try.pinned (OpenSpec.ofChange fnExactBestSetSpec)

/-- ITS FALSE NEIGHBOUR: 'it returns false'. Refute it at one input. -/
def fnExactBestSetWrong : ChangeSpec := { name := "fnExactBestSet", fn := fun _ => fun
  | [d1, d2, d3, d4] => { results := [.lit (.bool false)], args := [d1, d2, d3, d4] }
  | _ => none }
def FnExactBestSetWrongFalsely : Prop := fnExactBestSetRow.holds Try.pinned (OpenSpec.ofChange fnExactBestSetWrong)

/-- 'laws.FnExactBestSets': WHATEVER THE INPUT: true; the input reads as it did. -/
def fnExactBestSetsSpec : ChangeSpec := { name := "fnExactBestSets", fn := fun _ => fun
  | [d1, d2, d3, d4] => { results := [.lit (.bool true)], args := [d1, d2, d3, d4] }
  | _ => none }
def fnExactBestSetsRow : OpenClaim := { program := "ytppaegibhikjnaa", sum := "cbc4dfff928be470f76360684a3f7d06ca3bfc9fa03f773b10a4f6c1b7ce95d3", func := "loop.example/g01210/laws.FnExactBestSets", spec := "fnExactBestSets", unfollowed := true, recurses := true, apart := false }
def FnExactBestSetsSaid : Prop := fnExactBestSetsRow.holds Try.pinned (OpenSpec.ofChange fnExactBestSetsSpec)

/-- ITS FALSE NEIGHBOUR: 'it returns false'. Refute it at one input. -/
def fnExactBestSetsWrong : ChangeSpec := { name := "fnExactBestSets", fn := fun _ => fun
  | [d1, d2, d3, d4] => { results := [.lit (.bool false)], args := [d1, d2, d3, d4] }
  | _ => none }
def FnExactBestSetsWrongFalsely : Prop := fnExactBestSetsRow.holds Try.pinned (OpenSpec.ofChange fnExactBestSetsWrong)

/-- 'laws.FnExactValueAhead': WHATEVER THE INPUT: true; the input reads as it did. -/
def fnExactValueAheadSpec : ChangeSpec := { name := "fnExactValueAhead", fn := fun _ => fun
  | [d1, d2, d3] => { results := [.lit (.bool true)], args := [d1, d2, d3] }
  | _ => none }
def fnExactValueAheadRow : OpenClaim := { program := "ytppaegibhikjnaa", sum := "cbc4dfff928be470f76360684a3f7d06ca3bfc9fa03f773b10a4f6c1b7ce95d3", func := "loop.example/g01210/laws.FnExactValueAhead", spec := "fnExactValueAhead", unfollowed := true, recurses := true, apart := false }
def FnExactValueAheadSaid : Prop := fnExactValueAheadRow.holds Try.pinned (OpenSpec.ofChange fnExactValueAheadSpec)

/-- ITS FALSE NEIGHBOUR: 'it returns false'. Refute it at one input. -/
def fnExactValueAheadWrong : ChangeSpec := { name := "fnExactValueAhead", fn := fun _ => fun
  | [d1, d2, d3] => { results := [.lit (.bool false)], args := [d1, d2, d3] }
  | _ => none }
def FnExactValueAheadWrongFalsely : Prop := fnExactValueAheadRow.holds Try.pinned (OpenSpec.ofChange fnExactValueAheadWrong)

/-- 'laws.FnExactMeanRolled': WHATEVER THE INPUT: true; the input reads as it did. -/
def fnExactMeanRolledSpec : ChangeSpec := { name := "fnExactMeanRolled", fn := fun _ => fun
  | [d1, d2, d3] => { results := [.lit (.bool true)], args := [d1, d2, d3] }
  | _ => none }
def fnExactMeanRolledRow : OpenClaim := { program := "ytppaegibhikjnaa", sum := "cbc4dfff928be470f76360684a3f7d06ca3bfc9fa03f773b10a4f6c1b7ce95d3", func := "loop.example/g01210/laws.FnExactMeanRolled", spec := "fnExactMeanRolled", unfollowed := true, recurses := true, apart := false }
def FnExactMeanRolledSaid : Prop := fnExactMeanRolledRow.holds Try.pinned (OpenSpec.ofChange fnExactMeanRolledSpec)

/-- ITS FALSE NEIGHBOUR: 'it returns false'. Refute it at one input. -/
def fnExactMeanRolledWrong : ChangeSpec := { name := "fnExactMeanRolled", fn := fun _ => fun
  | [d1, d2, d3] => { results := [.lit (.bool false)], args := [d1, d2, d3] }
  | _ => none }
def FnExactMeanRolledWrongFalsely : Prop := fnExactMeanRolledRow.holds Try.pinned (OpenSpec.ofChange fnExactMeanRolledWrong)

/-- 'laws.FnExactCountKept': WHATEVER THE INPUT: true; the input reads as it did. -/
def fnExactCountKeptSpec : ChangeSpec := { name := "fnExactCountKept", fn := fun _ => fun
  | [d1, d2, d3] => { results := [.lit (.bool true)], args := [d1, d2, d3] }
  | _ => none }
def fnExactCountKeptRow : OpenClaim := { program := "ytppaegibhikjnaa", sum := "cbc4dfff928be470f76360684a3f7d06ca3bfc9fa03f773b10a4f6c1b7ce95d3", func := "loop.example/g01210/laws.FnExactCountKept", spec := "fnExactCountKept", unfollowed := true, recurses := true, apart := false }
def FnExactCountKeptSaid : Prop := fnExactCountKeptRow.holds Try.pinned (OpenSpec.ofChange fnExactCountKeptSpec)

/-- ITS FALSE NEIGHBOUR: 'it returns false'. Refute it at one input. -/
def fnExactCountKeptWrong : ChangeSpec := { name := "fnExactCountKept", fn := fun _ => fun
  | [d1, d2, d3] => { results := [.lit (.bool false)], args := [d1, d2, d3] }
  | _ => none }
def FnExactCountKeptWrongFalsely : Prop := fnExactCountKeptRow.holds Try.pinned (OpenSpec.ofChange fnExactCountKeptWrong)

/-- 'laws.FnExactSetValue': WHATEVER THE INPUT: true; the input reads as it did. -/
def fnExactSetValueSpec : ChangeSpec := { name := "fnExactSetValue", fn := fun _ => fun
  | [d1, d2, d3, d4, d5] => { results := [.lit (.bool true)], args := [d1, d2, d3, d4, d5] }
  | _ => none }
def fnExactSetValueRow : OpenClaim := { program := "ytppaegibhikjnaa", sum := "cbc4dfff928be470f76360684a3f7d06ca3bfc9fa03f773b10a4f6c1b7ce95d3", func := "loop.example/g01210/laws.FnExactSetValue", spec := "fnExactSetValue", unfollowed := true, recurses := true, apart := false }
def FnExactSetValueSaid : Prop := fnExactSetValueRow.holds Try.pinned (OpenSpec.ofChange fnExactSetValueSpec)

/-- ITS FALSE NEIGHBOUR: 'it returns false'. Refute it at one input. -/
def fnExactSetValueWrong : ChangeSpec := { name := "fnExactSetValue", fn := fun _ => fun
  | [d1, d2, d3, d4, d5] => { results := [.lit (.bool false)], args := [d1, d2, d3, d4, d5] }
  | _ => none }
def FnExactSetValueWrongFalsely : Prop := fnExactSetValueRow.holds Try.pinned (OpenSpec.ofChange fnExactSetValueWrong)

/-- 'laws.FnExactStopMeans': WHATEVER THE INPUT: true; the input reads as it did. -/
def fnExactStopMeansSpec : ChangeSpec := { name := "fnExactStopMeans", fn := fun _ => fun
  | [d1, d2] => { results := [.lit (.bool true)], args := [d1, d2] }
  | _ => none }
def fnExactStopMeansRow : OpenClaim := { program := "ytppaegibhikjnaa", sum := "cbc4dfff928be470f76360684a3f7d06ca3bfc9fa03f773b10a4f6c1b7ce95d3", func := "loop.example/g01210/laws.FnExactStopMeans", spec := "fnExactStopMeans", recurses := true, apart := false }
def FnExactStopMeansSaid : Prop := fnExactStopMeansRow.holds Try.pinned (OpenSpec.ofChange fnExactStopMeansSpec)

/-- ITS FALSE NEIGHBOUR: 'it returns false'. Refute it at one input. -/
def fnExactStopMeansWrong : ChangeSpec := { name := "fnExactStopMeans", fn := fun _ => fun
  | [d1, d2] => { results := [.lit (.bool false)], args := [d1, d2] }
  | _ => none }
def FnExactStopMeansWrongFalsely : Prop := fnExactStopMeansRow.holds Try.pinned (OpenSpec.ofChange fnExactStopMeansWrong)

/-- 'laws.FnExactStopBound': WHATEVER THE INPUT: true; the input reads as it did. -/
def fnExactStopBoundSpec : ChangeSpec := { name := "fnExactStopBound", fn := fun _ => fun
  | [d1, d2] => { results := [.lit (.bool true)], args := [d1, d2] }
  | _ => none }
def fnExactStopBoundRow : OpenClaim := { program := "ytppaegibhikjnaa", sum := "cbc4dfff928be470f76360684a3f7d06ca3bfc9fa03f773b10a4f6c1b7ce95d3", func := "loop.example/g01210/laws.FnExactStopBound", spec := "fnExactStopBound", unfollowed := true, recurses := true, apart := false }
def FnExactStopBoundSaid : Prop := fnExactStopBoundRow.holds Try.pinned (OpenSpec.ofChange fnExactStopBoundSpec)

/-- ITS FALSE NEIGHBOUR: 'it returns false'. Refute it at one input. -/
def fnExactStopBoundWrong : ChangeSpec := { name := "fnExactStopBound", fn := fun _ => fun
  | [d1, d2] => { results := [.lit (.bool false)], args := [d1, d2] }
  | _ => none }
def FnExactStopBoundWrongFalsely : Prop := fnExactStopBoundRow.holds Try.pinned (OpenSpec.ofChange fnExactStopBoundWrong)

/-- 'laws.FnExactPlaySets': WHATEVER THE INPUT: true; the input reads as it did. -/
def fnExactPlaySetsSpec : ChangeSpec := { name := "fnExactPlaySets", fn := fun _ => fun
  | [d1, d2, d3, d4] => { results := [.lit (.bool true)], args := [d1, d2, d3, d4] }
  | _ => none }
def fnExactPlaySetsRow : OpenClaim := { program := "ytppaegibhikjnaa", sum := "cbc4dfff928be470f76360684a3f7d06ca3bfc9fa03f773b10a4f6c1b7ce95d3", func := "loop.example/g01210/laws.FnExactPlaySets", spec := "fnExactPlaySets", recurses := true, apart := false }
def FnExactPlaySetsSaid : Prop := fnExactPlaySetsRow.holds Try.pinned (OpenSpec.ofChange fnExactPlaySetsSpec)

/-- ITS FALSE NEIGHBOUR: 'it returns false'. Refute it at one input. -/
def fnExactPlaySetsWrong : ChangeSpec := { name := "fnExactPlaySets", fn := fun _ => fun
  | [d1, d2, d3, d4] => { results := [.lit (.bool false)], args := [d1, d2, d3, d4] }
  | _ => none }
def FnExactPlaySetsWrongFalsely : Prop := fnExactPlaySetsRow.holds Try.pinned (OpenSpec.ofChange fnExactPlaySetsWrong)

/- THE SECOND FORM. 'bulk': how many values and letters a reading holds, each counted each time it is reached (what is shared counts as often as it is met; a slice's spare places count too). A statement '..UptoSaid' is the law's where the arguments, and the package variables that the reading takes, are together of bulk at most 1048576: NARROWER than '..Said'. Prove '..Said' where nothing that the law and all that it calls make is longer than what came in: it says more and counts as full. Else prove '..UptoSaid'. A law counts once. -/
mutual
def uptoBulk {H : Type} : DataW H → Nat
  | .lit (.string bytes) => bytes.length + 1
  | .lit _ => 1
  | .nil => 1
  | .ptr d => uptoBulk d + 1
  | .slice elems spare => uptoBulkAll elems + uptoBulkAll spare + 1
  | .agg parts => uptoBulkAll parts + 1
  | .iface _ d => uptoBulk d + 1
  | .map entries => uptoBulkEntries entries + 1
  | .held _ => 1
def uptoBulkAll {H : Type} : List (DataW H) → Nat
  | [] => 0
  | d :: r => uptoBulk d + uptoBulkAll r
def uptoBulkEntries {H : Type} : List (Lit × DataW H) → Nat
  | [] => 0
  | x :: r => uptoBulkEntry x + uptoBulkEntries r
def uptoBulkEntry {H : Type} : Lit × DataW H → Nat
  | (.string bytes, d) => bytes.length + uptoBulk d + 1
  | (_, d) => uptoBulk d + 1
 end
def uptoSmall : (H : Type) → List (DataW H) → Bool := fun _ ds => decide (uptoBulkAll ds ≤ 1048576)
def OpenSpec.upto (s : _root_.Go.ChangeSpec) : _root_.Go.OpenSpec := { _root_.Go.OpenSpec.ofChange s with cond := some uptoSmall }

/-- 'laws.FnExactIsGoal', WHERE WHAT IT READS IS OF BULK AT MOST 1048576: true; the input reads as it did. -/
def fnExactIsGoalUptoRow : OpenClaim := { program := "ytppaegibhikjnaa", sum := "cbc4dfff928be470f76360684a3f7d06ca3bfc9fa03f773b10a4f6c1b7ce95d3", func := "loop.example/g01210/laws.FnExactIsGoal", spec := "fnExactIsGoal", apart := false, narrowed := true }
def FnExactIsGoalUptoSaid : Prop := fnExactIsGoalUptoRow.holds Try.pinned (OpenSpec.upto fnExactIsGoalSpec)

/-- 'laws.FnExactScoreOf', WHERE WHAT IT READS IS OF BULK AT MOST 1048576: true; the input reads as it did. -/
def fnExactScoreOfUptoRow : OpenClaim := { program := "ytppaegibhikjnaa", sum := "cbc4dfff928be470f76360684a3f7d06ca3bfc9fa03f773b10a4f6c1b7ce95d3", func := "loop.example/g01210/laws.FnExactScoreOf", spec := "fnExactScoreOf", apart := false, narrowed := true }
def FnExactScoreOfUptoSaid : Prop := fnExactScoreOfUptoRow.holds Try.pinned (OpenSpec.upto fnExactScoreOfSpec)

/-- 'laws.FnExactValueOf', WHERE WHAT IT READS IS OF BULK AT MOST 1048576: true; the input reads as it did. -/
def fnExactValueOfUptoRow : OpenClaim := { program := "ytppaegibhikjnaa", sum := "cbc4dfff928be470f76360684a3f7d06ca3bfc9fa03f773b10a4f6c1b7ce95d3", func := "loop.example/g01210/laws.FnExactValueOf", spec := "fnExactValueOf", unfollowed := true, recurses := true, apart := false, narrowed := true }
def FnExactValueOfUptoSaid : Prop := fnExactValueOfUptoRow.holds Try.pinned (OpenSpec.upto fnExactValueOfSpec)

/-- 'laws.FnExactBestSet', WHERE WHAT IT READS IS OF BULK AT MOST 1048576: true; the input reads as it did. -/
def fnExactBestSetUptoRow : OpenClaim := { program := "ytppaegibhikjnaa", sum := "cbc4dfff928be470f76360684a3f7d06ca3bfc9fa03f773b10a4f6c1b7ce95d3", func := "loop.example/g01210/laws.FnExactBestSet", spec := "fnExactBestSet", unfollowed := true, recurses := true, apart := false, narrowed := true }
def FnExactBestSetUptoSaid : Prop := fnExactBestSetUptoRow.holds Try.pinned (OpenSpec.upto fnExactBestSetSpec)

/-- 'laws.FnExactBestSets', WHERE WHAT IT READS IS OF BULK AT MOST 1048576: true; the input reads as it did. -/
def fnExactBestSetsUptoRow : OpenClaim := { program := "ytppaegibhikjnaa", sum := "cbc4dfff928be470f76360684a3f7d06ca3bfc9fa03f773b10a4f6c1b7ce95d3", func := "loop.example/g01210/laws.FnExactBestSets", spec := "fnExactBestSets", unfollowed := true, recurses := true, apart := false, narrowed := true }
def FnExactBestSetsUptoSaid : Prop := fnExactBestSetsUptoRow.holds Try.pinned (OpenSpec.upto fnExactBestSetsSpec)

/-- 'laws.FnExactValueAhead', WHERE WHAT IT READS IS OF BULK AT MOST 1048576: true; the input reads as it did. -/
def fnExactValueAheadUptoRow : OpenClaim := { program := "ytppaegibhikjnaa", sum := "cbc4dfff928be470f76360684a3f7d06ca3bfc9fa03f773b10a4f6c1b7ce95d3", func := "loop.example/g01210/laws.FnExactValueAhead", spec := "fnExactValueAhead", unfollowed := true, recurses := true, apart := false, narrowed := true }
def FnExactValueAheadUptoSaid : Prop := fnExactValueAheadUptoRow.holds Try.pinned (OpenSpec.upto fnExactValueAheadSpec)

/-- 'laws.FnExactMeanRolled', WHERE WHAT IT READS IS OF BULK AT MOST 1048576: true; the input reads as it did. -/
def fnExactMeanRolledUptoRow : OpenClaim := { program := "ytppaegibhikjnaa", sum := "cbc4dfff928be470f76360684a3f7d06ca3bfc9fa03f773b10a4f6c1b7ce95d3", func := "loop.example/g01210/laws.FnExactMeanRolled", spec := "fnExactMeanRolled", unfollowed := true, recurses := true, apart := false, narrowed := true }
def FnExactMeanRolledUptoSaid : Prop := fnExactMeanRolledUptoRow.holds Try.pinned (OpenSpec.upto fnExactMeanRolledSpec)

/-- 'laws.FnExactCountKept', WHERE WHAT IT READS IS OF BULK AT MOST 1048576: true; the input reads as it did. -/
def fnExactCountKeptUptoRow : OpenClaim := { program := "ytppaegibhikjnaa", sum := "cbc4dfff928be470f76360684a3f7d06ca3bfc9fa03f773b10a4f6c1b7ce95d3", func := "loop.example/g01210/laws.FnExactCountKept", spec := "fnExactCountKept", unfollowed := true, recurses := true, apart := false, narrowed := true }
def FnExactCountKeptUptoSaid : Prop := fnExactCountKeptUptoRow.holds Try.pinned (OpenSpec.upto fnExactCountKeptSpec)

/-- 'laws.FnExactSetValue', WHERE WHAT IT READS IS OF BULK AT MOST 1048576: true; the input reads as it did. -/
def fnExactSetValueUptoRow : OpenClaim := { program := "ytppaegibhikjnaa", sum := "cbc4dfff928be470f76360684a3f7d06ca3bfc9fa03f773b10a4f6c1b7ce95d3", func := "loop.example/g01210/laws.FnExactSetValue", spec := "fnExactSetValue", unfollowed := true, recurses := true, apart := false, narrowed := true }
def FnExactSetValueUptoSaid : Prop := fnExactSetValueUptoRow.holds Try.pinned (OpenSpec.upto fnExactSetValueSpec)

/-- 'laws.FnExactStopMeans', WHERE WHAT IT READS IS OF BULK AT MOST 1048576: true; the input reads as it did. -/
def fnExactStopMeansUptoRow : OpenClaim := { program := "ytppaegibhikjnaa", sum := "cbc4dfff928be470f76360684a3f7d06ca3bfc9fa03f773b10a4f6c1b7ce95d3", func := "loop.example/g01210/laws.FnExactStopMeans", spec := "fnExactStopMeans", recurses := true, apart := false, narrowed := true }
def FnExactStopMeansUptoSaid : Prop := fnExactStopMeansUptoRow.holds Try.pinned (OpenSpec.upto fnExactStopMeansSpec)

/-- 'laws.FnExactStopBound', WHERE WHAT IT READS IS OF BULK AT MOST 1048576: true; the input reads as it did. -/
def fnExactStopBoundUptoRow : OpenClaim := { program := "ytppaegibhikjnaa", sum := "cbc4dfff928be470f76360684a3f7d06ca3bfc9fa03f773b10a4f6c1b7ce95d3", func := "loop.example/g01210/laws.FnExactStopBound", spec := "fnExactStopBound", unfollowed := true, recurses := true, apart := false, narrowed := true }
def FnExactStopBoundUptoSaid : Prop := fnExactStopBoundUptoRow.holds Try.pinned (OpenSpec.upto fnExactStopBoundSpec)

/-- 'laws.FnExactPlaySets', WHERE WHAT IT READS IS OF BULK AT MOST 1048576: true; the input reads as it did. -/
def fnExactPlaySetsUptoRow : OpenClaim := { program := "ytppaegibhikjnaa", sum := "cbc4dfff928be470f76360684a3f7d06ca3bfc9fa03f773b10a4f6c1b7ce95d3", func := "loop.example/g01210/laws.FnExactPlaySets", spec := "fnExactPlaySets", recurses := true, apart := false, narrowed := true }
def FnExactPlaySetsUptoSaid : Prop := fnExactPlaySetsUptoRow.holds Try.pinned (OpenSpec.upto fnExactPlaySetsSpec)

end Rows
end Go.Proofs.Ytppaegibhikjnaa
