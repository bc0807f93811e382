/-
  No cell of these rows narrows 'for every input' (looked for: loops, veiled, ifaces, maps, wideKeys, modest, calm, conditions, laid).
  DERIVED. THE GIVEN ROWS OF THIS SEAT. 12 by the template 'for every input the law returns true; each argument reads behind the call as it read before'; 0 by the template 'total and deterministic' (their statements: YtcffglnfdnanhaaTotals.lean).
  GIVEN WITH THE SEED: the statements are not yours to turn. If you find one false, say at which input.
  Laid BY PROGRAM, IN A SANDBOX (cutbox-rows.mjs): the forced cells as the released guide's own fill.sh prints them over the translation 42c08be8a501e5a5… (all of the seat's roots in one cut). By AI agents, Wed Nov 11 2026. No macro, syntax, notation, axiom, sorry.
-/
import Derived.Test.YtcffglnfdnanhaaChecked
import GoSem.Claim
import GoSem.ClaimJoined
import GoSem.ClaimMapViews
import Derived.JoinedTies
import Derived.KernelRfl
namespace Go.Proofs.Ytcffglnfdnanhaa
/- THE CELL 'sum', in the pinned program and in every row, IS THE sha256 OF THE DUMP (.gsa) THAT YtcffglnfdnanhaaProg.lean LOADS. Nothing in Lean hashes anything: it is a label: what it is worth is what the hold of that sum in a sandbox is worth. -/
noncomputable def Try.pinned : Pinned := { name := "ytcffglnfdnanhaa", sum := "42c08be8a501e5a585e98362f3a991620c8fca22f21e5d3d4ffdcb0c1e395b46", checked := Try.checked }
namespace Rows
def none {H : Type} : Left H := { results := [], args := [] }

/-- 'laws.FnExactRunTable': WHATEVER THE INPUT: true; the input reads as it did. -/
def fnExactRunTableSpec : ChangeSpec := { name := "fnExactRunTable", fn := fun _ => fun
  | [d1, d2] => { results := [.lit (.bool true)], args := [d1, d2] }
  | _ => none }
def fnExactRunTableRow : OpenClaim := { program := "ytcffglnfdnanhaa", sum := "42c08be8a501e5a585e98362f3a991620c8fca22f21e5d3d4ffdcb0c1e395b46", func := "loop.example/g01210/laws.FnExactRunTable", spec := "fnExactRunTable", recurses := true, apart := false }
def FnExactRunTableSaid : Prop := fnExactRunTableRow.holds Try.pinned (OpenSpec.ofChange fnExactRunTableSpec)

/-- ITS FALSE NEIGHBOUR: 'it returns false'. Refute it at one input. -/
def fnExactRunTableWrong : ChangeSpec := { name := "fnExactRunTable", fn := fun _ => fun
  | [d1, d2] => { results := [.lit (.bool false)], args := [d1, d2] }
  | _ => none }
def FnExactRunTableWrongFalsely : Prop := fnExactRunTableRow.holds Try.pinned (OpenSpec.ofChange fnExactRunTableWrong)

/-- 'laws.FnExactMeanRun': WHATEVER THE INPUT: true; the input reads as it did. -/
def fnExactMeanRunSpec : ChangeSpec := { name := "fnExactMeanRun", fn := fun _ => fun
  | [d1, d2] => { results := [.lit (.bool true)], args := [d1, d2] }
  | _ => none }
def fnExactMeanRunRow : OpenClaim := { program := "ytcffglnfdnanhaa", sum := "42c08be8a501e5a585e98362f3a991620c8fca22f21e5d3d4ffdcb0c1e395b46", func := "loop.example/g01210/laws.FnExactMeanRun", spec := "fnExactMeanRun", recurses := true, apart := false }
def FnExactMeanRunSaid : Prop := fnExactMeanRunRow.holds Try.pinned (OpenSpec.ofChange fnExactMeanRunSpec)

/-- ITS FALSE NEIGHBOUR: 'it returns false'. Refute it at one input. -/
def fnExactMeanRunWrong : ChangeSpec := { name := "fnExactMeanRun", fn := fun _ => fun
  | [d1, d2] => { results := [.lit (.bool false)], args := [d1, d2] }
  | _ => none }
def FnExactMeanRunWrongFalsely : Prop := fnExactMeanRunRow.holds Try.pinned (OpenSpec.ofChange fnExactMeanRunWrong)

/-- 'laws.FnExactLandChance': WHATEVER THE INPUT: true; the input reads as it did. -/
def fnExactLandChanceSpec : ChangeSpec := { name := "fnExactLandChance", fn := fun _ => fun
  | [d1, d2] => { results := [.lit (.bool true)], args := [d1, d2] }
  | _ => none }
def fnExactLandChanceRow : OpenClaim := { program := "ytcffglnfdnanhaa", sum := "42c08be8a501e5a585e98362f3a991620c8fca22f21e5d3d4ffdcb0c1e395b46", func := "loop.example/g01210/laws.FnExactLandChance", spec := "fnExactLandChance", recurses := true, apart := false }
def FnExactLandChanceSaid : Prop := fnExactLandChanceRow.holds Try.pinned (OpenSpec.ofChange fnExactLandChanceSpec)

/-- ITS FALSE NEIGHBOUR: 'it returns false'. Refute it at one input. -/
def fnExactLandChanceWrong : ChangeSpec := { name := "fnExactLandChance", fn := fun _ => fun
  | [d1, d2] => { results := [.lit (.bool false)], args := [d1, d2] }
  | _ => none }
def FnExactLandChanceWrongFalsely : Prop := fnExactLandChanceRow.holds Try.pinned (OpenSpec.ofChange fnExactLandChanceWrong)

/-- 'laws.FnExactFirstWins': WHATEVER THE INPUT: true; the input reads as it did. -/
def fnExactFirstWinsSpec : ChangeSpec := { name := "fnExactFirstWins", fn := fun _ => fun
  | [d1, d2, d3] => { results := [.lit (.bool true)], args := [d1, d2, d3] }
  | _ => none }
def fnExactFirstWinsRow : OpenClaim := { program := "ytcffglnfdnanhaa", sum := "42c08be8a501e5a585e98362f3a991620c8fca22f21e5d3d4ffdcb0c1e395b46", func := "loop.example/g01210/laws.FnExactFirstWins", spec := "fnExactFirstWins", recurses := true, apart := false }
def FnExactFirstWinsSaid : Prop := fnExactFirstWinsRow.holds Try.pinned (OpenSpec.ofChange fnExactFirstWinsSpec)

/-- ITS FALSE NEIGHBOUR: 'it returns false'. Refute it at one input. -/
def fnExactFirstWinsWrong : ChangeSpec := { name := "fnExactFirstWins", fn := fun _ => fun
  | [d1, d2, d3] => { results := [.lit (.bool false)], args := [d1, d2, d3] }
  | _ => none }
def FnExactFirstWinsWrongFalsely : Prop := fnExactFirstWinsRow.holds Try.pinned (OpenSpec.ofChange fnExactFirstWinsWrong)

/-- 'laws.FnExactSameRound': WHATEVER THE INPUT: true; the input reads as it did. -/
def fnExactSameRoundSpec : ChangeSpec := { name := "fnExactSameRound", fn := fun _ => fun
  | [d1, d2, d3] => { results := [.lit (.bool true)], args := [d1, d2, d3] }
  | _ => none }
def fnExactSameRoundRow : OpenClaim := { program := "ytcffglnfdnanhaa", sum := "42c08be8a501e5a585e98362f3a991620c8fca22f21e5d3d4ffdcb0c1e395b46", func := "loop.example/g01210/laws.FnExactSameRound", spec := "fnExactSameRound", recurses := true, apart := false }
def FnExactSameRoundSaid : Prop := fnExactSameRoundRow.holds Try.pinned (OpenSpec.ofChange fnExactSameRoundSpec)

/-- ITS FALSE NEIGHBOUR: 'it returns false'. Refute it at one input. -/
def fnExactSameRoundWrong : ChangeSpec := { name := "fnExactSameRound", fn := fun _ => fun
  | [d1, d2, d3] => { results := [.lit (.bool false)], args := [d1, d2, d3] }
  | _ => none }
def FnExactSameRoundWrongFalsely : Prop := fnExactSameRoundRow.holds Try.pinned (OpenSpec.ofChange fnExactSameRoundWrong)

/-- 'laws.FnExactBestRunner': WHATEVER THE INPUT: true; the input reads as it did. -/
def fnExactBestRunnerSpec : ChangeSpec := { name := "fnExactBestRunner", fn := fun _ => fun
  | [d1, d2] => { results := [.lit (.bool true)], args := [d1, d2] }
  | _ => none }
def fnExactBestRunnerRow : OpenClaim := { program := "ytcffglnfdnanhaa", sum := "42c08be8a501e5a585e98362f3a991620c8fca22f21e5d3d4ffdcb0c1e395b46", func := "loop.example/g01210/laws.FnExactBestRunner", spec := "fnExactBestRunner", recurses := true, apart := false }
def FnExactBestRunnerSaid : Prop := fnExactBestRunnerRow.holds Try.pinned (OpenSpec.ofChange fnExactBestRunnerSpec)

/-- ITS FALSE NEIGHBOUR: 'it returns false'. Refute it at one input. -/
def fnExactBestRunnerWrong : ChangeSpec := { name := "fnExactBestRunner", fn := fun _ => fun
  | [d1, d2] => { results := [.lit (.bool false)], args := [d1, d2] }
  | _ => none }
def FnExactBestRunnerWrongFalsely : Prop := fnExactBestRunnerRow.holds Try.pinned (OpenSpec.ofChange fnExactBestRunnerWrong)

/-- 'laws.FnExactHoldEnds': WHATEVER THE INPUT: true; the input reads as it did. -/
def fnExactHoldEndsSpec : ChangeSpec := { name := "fnExactHoldEnds", fn := fun _ => fun
  | [d1, d2, d3] => { results := [.lit (.bool true)], args := [d1, d2, d3] }
  | _ => none }
def fnExactHoldEndsRow : OpenClaim := { program := "ytcffglnfdnanhaa", sum := "42c08be8a501e5a585e98362f3a991620c8fca22f21e5d3d4ffdcb0c1e395b46", func := "loop.example/g01210/laws.FnExactHoldEnds", spec := "fnExactHoldEnds", recurses := true, apart := false }
def FnExactHoldEndsSaid : Prop := fnExactHoldEndsRow.holds Try.pinned (OpenSpec.ofChange fnExactHoldEndsSpec)

/-- ITS FALSE NEIGHBOUR: 'it returns false'. Refute it at one input. -/
def fnExactHoldEndsWrong : ChangeSpec := { name := "fnExactHoldEnds", fn := fun _ => fun
  | [d1, d2, d3] => { results := [.lit (.bool false)], args := [d1, d2, d3] }
  | _ => none }
def FnExactHoldEndsWrongFalsely : Prop := fnExactHoldEndsRow.holds Try.pinned (OpenSpec.ofChange fnExactHoldEndsWrong)

/-- 'laws.FnExactHoldMean': WHATEVER THE INPUT: true; the input reads as it did. -/
def fnExactHoldMeanSpec : ChangeSpec := { name := "fnExactHoldMean", fn := fun _ => fun
  | [d1, d2, d3] => { results := [.lit (.bool true)], args := [d1, d2, d3] }
  | _ => none }
def fnExactHoldMeanRow : OpenClaim := { program := "ytcffglnfdnanhaa", sum := "42c08be8a501e5a585e98362f3a991620c8fca22f21e5d3d4ffdcb0c1e395b46", func := "loop.example/g01210/laws.FnExactHoldMean", spec := "fnExactHoldMean", recurses := true, apart := false }
def FnExactHoldMeanSaid : Prop := fnExactHoldMeanRow.holds Try.pinned (OpenSpec.ofChange fnExactHoldMeanSpec)

/-- ITS FALSE NEIGHBOUR: 'it returns false'. Refute it at one input. -/
def fnExactHoldMeanWrong : ChangeSpec := { name := "fnExactHoldMean", fn := fun _ => fun
  | [d1, d2, d3] => { results := [.lit (.bool false)], args := [d1, d2, d3] }
  | _ => none }
def FnExactHoldMeanWrongFalsely : Prop := fnExactHoldMeanRow.holds Try.pinned (OpenSpec.ofChange fnExactHoldMeanWrong)

/-- 'laws.FnExactBustChance': WHATEVER THE INPUT: true; the input reads as it did. -/
def fnExactBustChanceSpec : ChangeSpec := { name := "fnExactBustChance", fn := fun _ => fun
  | [d1, d2, d3] => { results := [.lit (.bool true)], args := [d1, d2, d3] }
  | _ => none }
def fnExactBustChanceRow : OpenClaim := { program := "ytcffglnfdnanhaa", sum := "42c08be8a501e5a585e98362f3a991620c8fca22f21e5d3d4ffdcb0c1e395b46", func := "loop.example/g01210/laws.FnExactBustChance", spec := "fnExactBustChance", recurses := true, apart := false }
def FnExactBustChanceSaid : Prop := fnExactBustChanceRow.holds Try.pinned (OpenSpec.ofChange fnExactBustChanceSpec)

/-- ITS FALSE NEIGHBOUR: 'it returns false'. Refute it at one input. -/
def fnExactBustChanceWrong : ChangeSpec := { name := "fnExactBustChance", fn := fun _ => fun
  | [d1, d2, d3] => { results := [.lit (.bool false)], args := [d1, d2, d3] }
  | _ => none }
def FnExactBustChanceWrongFalsely : Prop := fnExactBustChanceRow.holds Try.pinned (OpenSpec.ofChange fnExactBustChanceWrong)

/-- 'laws.FnExactBestHold': WHATEVER THE INPUT: true; the input reads as it did. -/
def fnExactBestHoldSpec : ChangeSpec := { name := "fnExactBestHold", fn := fun _ => fun
  | [d1, d2] => { results := [.lit (.bool true)], args := [d1, d2] }
  | _ => none }
def fnExactBestHoldRow : OpenClaim := { program := "ytcffglnfdnanhaa", sum := "42c08be8a501e5a585e98362f3a991620c8fca22f21e5d3d4ffdcb0c1e395b46", func := "loop.example/g01210/laws.FnExactBestHold", spec := "fnExactBestHold", recurses := true, apart := false }
def FnExactBestHoldSaid : Prop := fnExactBestHoldRow.holds Try.pinned (OpenSpec.ofChange fnExactBestHoldSpec)

/-- ITS FALSE NEIGHBOUR: 'it returns false'. Refute it at one input. -/
def fnExactBestHoldWrong : ChangeSpec := { name := "fnExactBestHold", fn := fun _ => fun
  | [d1, d2] => { results := [.lit (.bool false)], args := [d1, d2] }
  | _ => none }
def FnExactBestHoldWrongFalsely : Prop := fnExactBestHoldRow.holds Try.pinned (OpenSpec.ofChange fnExactBestHoldWrong)

/-- 'laws.FnExactPlayTurn': WHATEVER THE INPUT: true; the input reads as it did. -/
def fnExactPlayTurnSpec : ChangeSpec := { name := "fnExactPlayTurn", fn := fun _ => fun
  | [d1, d2, d3, d4] => { results := [.lit (.bool true)], args := [d1, d2, d3, d4] }
  | _ => none }
def fnExactPlayTurnRow : OpenClaim := { program := "ytcffglnfdnanhaa", sum := "42c08be8a501e5a585e98362f3a991620c8fca22f21e5d3d4ffdcb0c1e395b46", func := "loop.example/g01210/laws.FnExactPlayTurn", spec := "fnExactPlayTurn", recurses := true, apart := false }
def FnExactPlayTurnSaid : Prop := fnExactPlayTurnRow.holds Try.pinned (OpenSpec.ofChange fnExactPlayTurnSpec)

/-- ITS FALSE NEIGHBOUR: 'it returns false'. Refute it at one input. -/
def fnExactPlayTurnWrong : ChangeSpec := { name := "fnExactPlayTurn", fn := fun _ => fun
  | [d1, d2, d3, d4] => { results := [.lit (.bool false)], args := [d1, d2, d3, d4] }
  | _ => none }
def FnExactPlayTurnWrongFalsely : Prop := fnExactPlayTurnRow.holds Try.pinned (OpenSpec.ofChange fnExactPlayTurnWrong)

/-- 'laws.FnExactPlayRace': WHATEVER THE INPUT: true; the input reads as it did. -/
def fnExactPlayRaceSpec : ChangeSpec := { name := "fnExactPlayRace", fn := fun _ => fun
  | [d1, d2, d3, d4] => { results := [.lit (.bool true)], args := [d1, d2, d3, d4] }
  | _ => none }
def fnExactPlayRaceRow : OpenClaim := { program := "ytcffglnfdnanhaa", sum := "42c08be8a501e5a585e98362f3a991620c8fca22f21e5d3d4ffdcb0c1e395b46", func := "loop.example/g01210/laws.FnExactPlayRace", spec := "fnExactPlayRace", recurses := true, apart := false }
def FnExactPlayRaceSaid : Prop := fnExactPlayRaceRow.holds Try.pinned (OpenSpec.ofChange fnExactPlayRaceSpec)

/-- ITS FALSE NEIGHBOUR: 'it returns false'. Refute it at one input. -/
def fnExactPlayRaceWrong : ChangeSpec := { name := "fnExactPlayRace", fn := fun _ => fun
  | [d1, d2, d3, d4] => { results := [.lit (.bool false)], args := [d1, d2, d3, d4] }
  | _ => none }
def FnExactPlayRaceWrongFalsely : Prop := fnExactPlayRaceRow.holds Try.pinned (OpenSpec.ofChange fnExactPlayRaceWrong)

/- THE SECOND FORM. 'bulk': how many values and letters a reading holds, each counted each time it is reached (what is shared counts as often as it is met; a slice's spare places count too). A statement '..UptoSaid' is the law's where the arguments, and the package variables that the reading takes, are together of bulk at most 1048576: NARROWER than '..Said'. Prove '..Said' where nothing that the law and all that it calls make is longer than what came in: it says more and counts as full. Else prove '..UptoSaid'. A law counts once. -/
mutual
def uptoBulk {H : Type} : DataW H → Nat
  | .lit (.string bytes) => bytes.length + 1
  | .lit _ => 1
  | .nil => 1
  | .ptr d => uptoBulk d + 1
  | .slice elems spare => uptoBulkAll elems + uptoBulkAll spare + 1
  | .agg parts => uptoBulkAll parts + 1
  | .iface _ d => uptoBulk d + 1
  | .map entries => uptoBulkEntries entries + 1
  | .held _ => 1
def uptoBulkAll {H : Type} : List (DataW H) → Nat
  | [] => 0
  | d :: r => uptoBulk d + uptoBulkAll r
def uptoBulkEntries {H : Type} : List (Lit × DataW H) → Nat
  | [] => 0
  | x :: r => uptoBulkEntry x + uptoBulkEntries r
def uptoBulkEntry {H : Type} : Lit × DataW H → Nat
  | (.string bytes, d) => bytes.length + uptoBulk d + 1
  | (_, d) => uptoBulk d + 1
 end
def uptoSmall : (H : Type) → List (DataW H) → Bool := fun _ ds => decide (uptoBulkAll ds ≤ 1048576)
def OpenSpec.upto (s : _root_.Go.ChangeSpec) : _root_.Go.OpenSpec := { _root_.Go.OpenSpec.ofChange s with cond := some uptoSmall }

/-- 'laws.FnExactRunTable', WHERE WHAT IT READS IS OF BULK AT MOST 1048576: true; the input reads as it did. -/
def fnExactRunTableUptoRow : OpenClaim := { program := "ytcffglnfdnanhaa", sum := "42c08be8a501e5a585e98362f3a991620c8fca22f21e5d3d4ffdcb0c1e395b46", func := "loop.example/g01210/laws.FnExactRunTable", spec := "fnExactRunTable", recurses := true, apart := false, narrowed := true }
def FnExactRunTableUptoSaid : Prop := fnExactRunTableUptoRow.holds Try.pinned (OpenSpec.upto fnExactRunTableSpec)

/-- 'laws.FnExactMeanRun', WHERE WHAT IT READS IS OF BULK AT MOST 1048576: true; the input reads as it did. -/
def fnExactMeanRunUptoRow : OpenClaim := { program := "ytcffglnfdnanhaa", sum := "42c08be8a501e5a585e98362f3a991620c8fca22f21e5d3d4ffdcb0c1e395b46", func := "loop.example/g01210/laws.FnExactMeanRun", spec := "fnExactMeanRun", recurses := true, apart := false, narrowed := true }
def FnExactMeanRunUptoSaid : Prop := fnExactMeanRunUptoRow.holds Try.pinned (OpenSpec.upto fnExactMeanRunSpec)

/-- 'laws.FnExactLandChance', WHERE WHAT IT READS IS OF BULK AT MOST 1048576: true; the input reads as it did. -/
def fnExactLandChanceUptoRow : OpenClaim := { program := "ytcffglnfdnanhaa", sum := "42c08be8a501e5a585e98362f3a991620c8fca22f21e5d3d4ffdcb0c1e395b46", func := "loop.example/g01210/laws.FnExactLandChance", spec := "fnExactLandChance", recurses := true, apart := false, narrowed := true }
def FnExactLandChanceUptoSaid : Prop := fnExactLandChanceUptoRow.holds Try.pinned (OpenSpec.upto fnExactLandChanceSpec)

/-- 'laws.FnExactFirstWins', WHERE WHAT IT READS IS OF BULK AT MOST 1048576: true; the input reads as it did. -/
def fnExactFirstWinsUptoRow : OpenClaim := { program := "ytcffglnfdnanhaa", sum := "42c08be8a501e5a585e98362f3a991620c8fca22f21e5d3d4ffdcb0c1e395b46", func := "loop.example/g01210/laws.FnExactFirstWins", spec := "fnExactFirstWins", recurses := true, apart := false, narrowed := true }
def FnExactFirstWinsUptoSaid : Prop := fnExactFirstWinsUptoRow.holds Try.pinned (OpenSpec.upto fnExactFirstWinsSpec)

/-- 'laws.FnExactSameRound', WHERE WHAT IT READS IS OF BULK AT MOST 1048576: true; the input reads as it did. -/
def fnExactSameRoundUptoRow : OpenClaim := { program := "ytcffglnfdnanhaa", sum := "42c08be8a501e5a585e98362f3a991620c8fca22f21e5d3d4ffdcb0c1e395b46", func := "loop.example/g01210/laws.FnExactSameRound", spec := "fnExactSameRound", recurses := true, apart := false, narrowed := true }
def FnExactSameRoundUptoSaid : Prop := fnExactSameRoundUptoRow.holds Try.pinned (OpenSpec.upto fnExactSameRoundSpec)

/-- 'laws.FnExactBestRunner', WHERE WHAT IT READS IS OF BULK AT MOST 1048576: true; the input reads as it did. -/
def fnExactBestRunnerUptoRow : OpenClaim := { program := "ytcffglnfdnanhaa", sum := "42c08be8a501e5a585e98362f3a991620c8fca22f21e5d3d4ffdcb0c1e395b46", func := "loop.example/g01210/laws.FnExactBestRunner", spec := "fnExactBestRunner", recurses := true, apart := false, narrowed := true }
def FnExactBestRunnerUptoSaid : Prop := fnExactBestRunnerUptoRow.holds Try.pinned (OpenSpec.upto fnExactBestRunnerSpec)

/-- 'laws.FnExactHoldEnds', WHERE WHAT IT READS IS OF BULK AT MOST 1048576: true; the input reads as it did. -/
def fnExactHoldEndsUptoRow : OpenClaim := { program := "ytcffglnfdnanhaa", sum := "42c08be8a501e5a585e98362f3a991620c8fca22f21e5d3d4ffdcb0c1e395b46", func := "loop.example/g01210/laws.FnExactHoldEnds", spec := "fnExactHoldEnds", recurses := true, apart := false, narrowed := true }
def FnExactHoldEndsUptoSaid : Prop := fnExactHoldEndsUptoRow.holds Try.pinned (OpenSpec.upto fnExactHoldEndsSpec)

/-- 'laws.FnExactHoldMean', WHERE WHAT IT READS IS OF BULK AT MOST 1048576: true; the input reads as it did. -/
def fnExactHoldMeanUptoRow : OpenClaim := { program := "ytcffglnfdnanhaa", sum := "42c08be8a501e5a585e98362f3a991620c8fca22f21e5d3d4ffdcb0c1e395b46", func := "loop.example/g01210/laws.FnExactHoldMean", spec := "fnExactHoldMean", recurses := true, apart := false, narrowed := true }
def FnExactHoldMeanUptoSaid : Prop := fnExactHoldMeanUptoRow.holds Try.pinned (OpenSpec.upto fnExactHoldMeanSpec)

/-- 'laws.FnExactBustChance', WHERE WHAT IT READS IS OF BULK AT MOST 1048576: true; the input reads as it did. -/
def fnExactBustChanceUptoRow : OpenClaim := { program := "ytcffglnfdnanhaa", sum := "42c08be8a501e5a585e98362f3a991620c8fca22f21e5d3d4ffdcb0c1e395b46", func := "loop.example/g01210/laws.FnExactBustChance", spec := "fnExactBustChance", recurses := true, apart := false, narrowed := true }
def FnExactBustChanceUptoSaid : Prop := fnExactBustChanceUptoRow.holds Try.pinned (OpenSpec.upto fnExactBustChanceSpec)

/-- 'laws.FnExactBestHold', WHERE WHAT IT READS IS OF BULK AT MOST 1048576: true; the input reads as it did. -/
def fnExactBestHoldUptoRow : OpenClaim := { program := "ytcffglnfdnanhaa", sum := "42c08be8a501e5a585e98362f3a991620c8fca22f21e5d3d4ffdcb0c1e395b46", func := "loop.example/g01210/laws.FnExactBestHold", spec := "fnExactBestHold", recurses := true, apart := false, narrowed := true }
def FnExactBestHoldUptoSaid : Prop := fnExactBestHoldUptoRow.holds Try.pinned (OpenSpec.upto fnExactBestHoldSpec)

/-- 'laws.FnExactPlayTurn', WHERE WHAT IT READS IS OF BULK AT MOST 1048576: true; the input reads as it did. -/
def fnExactPlayTurnUptoRow : OpenClaim := { program := "ytcffglnfdnanhaa", sum := "42c08be8a501e5a585e98362f3a991620c8fca22f21e5d3d4ffdcb0c1e395b46", func := "loop.example/g01210/laws.FnExactPlayTurn", spec := "fnExactPlayTurn", recurses := true, apart := false, narrowed := true }
def FnExactPlayTurnUptoSaid : Prop := fnExactPlayTurnUptoRow.holds Try.pinned (OpenSpec.upto fnExactPlayTurnSpec)

/-- 'laws.FnExactPlayRace', WHERE WHAT IT READS IS OF BULK AT MOST 1048576: true; the input reads as it did. -/
def fnExactPlayRaceUptoRow : OpenClaim := { program := "ytcffglnfdnanhaa", sum := "42c08be8a501e5a585e98362f3a991620c8fca22f21e5d3d4ffdcb0c1e395b46", func := "loop.example/g01210/laws.FnExactPlayRace", spec := "fnExactPlayRace", recurses := true, apart := false, narrowed := true }
def FnExactPlayRaceUptoSaid : Prop := fnExactPlayRaceUptoRow.holds Try.pinned (OpenSpec.upto fnExactPlayRaceSpec)

end Rows
end Go.Proofs.Ytcffglnfdnanhaa
