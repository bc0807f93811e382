/-
  No cell of these rows narrows 'for every input' (looked for: loops, veiled, ifaces, maps, wideKeys, modest, calm, conditions, laid).
  DERIVED. THE GIVEN ROWS OF THIS SEAT. 11 by the template 'for every input the law returns true; each argument reads behind the call as it read before'; 0 by the template 'total and deterministic' (their statements: YtagieilahejobaaTotals.lean).
  GIVEN WITH THE SEED: the statements are not yours to turn. If you find one false, say at which input.
  Laid BY PROGRAM, IN A SANDBOX (cutbox-rows.mjs): the forced cells as the released guide's own fill.sh prints them over the translation 163ce862fcb62432… (all of the seat's roots in one cut). By AI agents, Wed Nov 11 2026. No macro, syntax, notation, axiom, sorry.
-/
import Derived.Test.YtagieilahejobaaChecked
import GoSem.Claim
import GoSem.ClaimJoined
import GoSem.ClaimMapViews
import Derived.JoinedTies
import Derived.KernelRfl
namespace Go.Proofs.Ytagieilahejobaa
/- THE CELL 'sum', in the pinned program and in every row, IS THE sha256 OF THE DUMP (.gsa) THAT YtagieilahejobaaProg.lean LOADS. Nothing in Lean hashes anything: it is a label: what it is worth is what the hold of that sum in a sandbox is worth. -/
noncomputable def Try.pinned : Pinned := { name := "ytagieilahejobaa", sum := "163ce862fcb624325fa6530b6f151a93f2264bbfb3eef4554eb09fb1a7da57ed", checked := Try.checked }
namespace Rows
def none {H : Type} : Left H := { results := [], args := [] }

/-- 'laws.FnExactCompareDice': WHATEVER THE INPUT: true; the input reads as it did. -/
def fnExactCompareDiceSpec : ChangeSpec := { name := "fnExactCompareDice", fn := fun _ => fun
  | [d1, d2] => { results := [.lit (.bool true)], args := [d1, d2] }
  | _ => none }
def fnExactCompareDiceRow : OpenClaim := { program := "ytagieilahejobaa", sum := "163ce862fcb624325fa6530b6f151a93f2264bbfb3eef4554eb09fb1a7da57ed", func := "loop.example/g01210/laws.FnExactCompareDice", spec := "fnExactCompareDice", recurses := true, plainKeys := false, apart := false }
def FnExactCompareDiceSaid : Prop := fnExactCompareDiceRow.holds Try.pinned (OpenSpec.ofChange fnExactCompareDiceSpec)

/-- ITS FALSE NEIGHBOUR: 'it returns false'. Refute it at one input. -/
def fnExactCompareDiceWrong : ChangeSpec := { name := "fnExactCompareDice", fn := fun _ => fun
  | [d1, d2] => { results := [.lit (.bool false)], args := [d1, d2] }
  | _ => none }
def FnExactCompareDiceWrongFalsely : Prop := fnExactCompareDiceRow.holds Try.pinned (OpenSpec.ofChange fnExactCompareDiceWrong)

/-- 'laws.FnExactDoesBeat': WHATEVER THE INPUT: true; the input reads as it did. -/
def fnExactDoesBeatSpec : ChangeSpec := { name := "fnExactDoesBeat", fn := fun _ => fun
  | [d1, d2] => { results := [.lit (.bool true)], args := [d1, d2] }
  | _ => none }
def fnExactDoesBeatRow : OpenClaim := { program := "ytagieilahejobaa", sum := "163ce862fcb624325fa6530b6f151a93f2264bbfb3eef4554eb09fb1a7da57ed", func := "loop.example/g01210/laws.FnExactDoesBeat", spec := "fnExactDoesBeat", recurses := true, plainKeys := false, apart := false }
def FnExactDoesBeatSaid : Prop := fnExactDoesBeatRow.holds Try.pinned (OpenSpec.ofChange fnExactDoesBeatSpec)

/-- ITS FALSE NEIGHBOUR: 'it returns false'. Refute it at one input. -/
def fnExactDoesBeatWrong : ChangeSpec := { name := "fnExactDoesBeat", fn := fun _ => fun
  | [d1, d2] => { results := [.lit (.bool false)], args := [d1, d2] }
  | _ => none }
def FnExactDoesBeatWrongFalsely : Prop := fnExactDoesBeatRow.holds Try.pinned (OpenSpec.ofChange fnExactDoesBeatWrong)

/-- 'laws.FnExactBeatTable': WHATEVER THE INPUT: true; the input reads as it did. -/
def fnExactBeatTableSpec : ChangeSpec := { name := "fnExactBeatTable", fn := fun _ => fun
  | [d] => { results := [.lit (.bool true)], args := [d] }
  | _ => none }
def fnExactBeatTableRow : OpenClaim := { program := "ytagieilahejobaa", sum := "163ce862fcb624325fa6530b6f151a93f2264bbfb3eef4554eb09fb1a7da57ed", func := "loop.example/g01210/laws.FnExactBeatTable", spec := "fnExactBeatTable", recurses := true, plainKeys := false, apart := false }
def FnExactBeatTableSaid : Prop := fnExactBeatTableRow.holds Try.pinned (OpenSpec.ofChange fnExactBeatTableSpec)

/-- ITS FALSE NEIGHBOUR: 'it returns false'. Refute it at one input. -/
def fnExactBeatTableWrong : ChangeSpec := { name := "fnExactBeatTable", fn := fun _ => fun
  | [d] => { results := [.lit (.bool false)], args := [d] }
  | _ => none }
def FnExactBeatTableWrongFalsely : Prop := fnExactBeatTableRow.holds Try.pinned (OpenSpec.ofChange fnExactBeatTableWrong)

/-- 'laws.FnExactRingsOf': WHATEVER THE INPUT: true; the input reads as it did. -/
def fnExactRingsOfSpec : ChangeSpec := { name := "fnExactRingsOf", fn := fun _ => fun
  | [d] => { results := [.lit (.bool true)], args := [d] }
  | _ => none }
def fnExactRingsOfRow : OpenClaim := { program := "ytagieilahejobaa", sum := "163ce862fcb624325fa6530b6f151a93f2264bbfb3eef4554eb09fb1a7da57ed", func := "loop.example/g01210/laws.FnExactRingsOf", spec := "fnExactRingsOf", recurses := true, plainKeys := false, apart := false }
def FnExactRingsOfSaid : Prop := fnExactRingsOfRow.holds Try.pinned (OpenSpec.ofChange fnExactRingsOfSpec)

/-- ITS FALSE NEIGHBOUR: 'it returns false'. Refute it at one input. -/
def fnExactRingsOfWrong : ChangeSpec := { name := "fnExactRingsOf", fn := fun _ => fun
  | [d] => { results := [.lit (.bool false)], args := [d] }
  | _ => none }
def FnExactRingsOfWrongFalsely : Prop := fnExactRingsOfRow.holds Try.pinned (OpenSpec.ofChange fnExactRingsOfWrong)

/-- 'laws.FnExactIsRingRow': WHATEVER THE INPUT: true; the input reads as it did. -/
def fnExactIsRingRowSpec : ChangeSpec := { name := "fnExactIsRingRow", fn := fun _ => fun
  | [d] => { results := [.lit (.bool true)], args := [d] }
  | _ => none }
def fnExactIsRingRowRow : OpenClaim := { program := "ytagieilahejobaa", sum := "163ce862fcb624325fa6530b6f151a93f2264bbfb3eef4554eb09fb1a7da57ed", func := "loop.example/g01210/laws.FnExactIsRingRow", spec := "fnExactIsRingRow", recurses := true, plainKeys := false, apart := false }
def FnExactIsRingRowSaid : Prop := fnExactIsRingRowRow.holds Try.pinned (OpenSpec.ofChange fnExactIsRingRowSpec)

/-- ITS FALSE NEIGHBOUR: 'it returns false'. Refute it at one input. -/
def fnExactIsRingRowWrong : ChangeSpec := { name := "fnExactIsRingRow", fn := fun _ => fun
  | [d] => { results := [.lit (.bool false)], args := [d] }
  | _ => none }
def FnExactIsRingRowWrongFalsely : Prop := fnExactIsRingRowRow.holds Try.pinned (OpenSpec.ofChange fnExactIsRingRowWrong)

/-- 'laws.FnExactLevelPairs': WHATEVER THE INPUT: true; the input reads as it did. -/
def fnExactLevelPairsSpec : ChangeSpec := { name := "fnExactLevelPairs", fn := fun _ => fun
  | [d] => { results := [.lit (.bool true)], args := [d] }
  | _ => none }
def fnExactLevelPairsRow : OpenClaim := { program := "ytagieilahejobaa", sum := "163ce862fcb624325fa6530b6f151a93f2264bbfb3eef4554eb09fb1a7da57ed", func := "loop.example/g01210/laws.FnExactLevelPairs", spec := "fnExactLevelPairs", recurses := true, plainKeys := false, apart := false }
def FnExactLevelPairsSaid : Prop := fnExactLevelPairsRow.holds Try.pinned (OpenSpec.ofChange fnExactLevelPairsSpec)

/-- ITS FALSE NEIGHBOUR: 'it returns false'. Refute it at one input. -/
def fnExactLevelPairsWrong : ChangeSpec := { name := "fnExactLevelPairs", fn := fun _ => fun
  | [d] => { results := [.lit (.bool false)], args := [d] }
  | _ => none }
def FnExactLevelPairsWrongFalsely : Prop := fnExactLevelPairsRow.holds Try.pinned (OpenSpec.ofChange fnExactLevelPairsWrong)

/-- 'laws.FnExactBestAgainst': WHATEVER THE INPUT: true; the input reads as it did. -/
def fnExactBestAgainstSpec : ChangeSpec := { name := "fnExactBestAgainst", fn := fun _ => fun
  | [d1, d2] => { results := [.lit (.bool true)], args := [d1, d2] }
  | _ => none }
def fnExactBestAgainstRow : OpenClaim := { program := "ytagieilahejobaa", sum := "163ce862fcb624325fa6530b6f151a93f2264bbfb3eef4554eb09fb1a7da57ed", func := "loop.example/g01210/laws.FnExactBestAgainst", spec := "fnExactBestAgainst", recurses := true, plainKeys := false, apart := false }
def FnExactBestAgainstSaid : Prop := fnExactBestAgainstRow.holds Try.pinned (OpenSpec.ofChange fnExactBestAgainstSpec)

/-- ITS FALSE NEIGHBOUR: 'it returns false'. Refute it at one input. -/
def fnExactBestAgainstWrong : ChangeSpec := { name := "fnExactBestAgainst", fn := fun _ => fun
  | [d1, d2] => { results := [.lit (.bool false)], args := [d1, d2] }
  | _ => none }
def FnExactBestAgainstWrongFalsely : Prop := fnExactBestAgainstRow.holds Try.pinned (OpenSpec.ofChange fnExactBestAgainstWrong)

/-- 'laws.FnExactSafestOf': WHATEVER THE INPUT: true; the input reads as it did. -/
def fnExactSafestOfSpec : ChangeSpec := { name := "fnExactSafestOf", fn := fun _ => fun
  | [d] => { results := [.lit (.bool true)], args := [d] }
  | _ => none }
def fnExactSafestOfRow : OpenClaim := { program := "ytagieilahejobaa", sum := "163ce862fcb624325fa6530b6f151a93f2264bbfb3eef4554eb09fb1a7da57ed", func := "loop.example/g01210/laws.FnExactSafestOf", spec := "fnExactSafestOf", recurses := true, plainKeys := false, apart := false }
def FnExactSafestOfSaid : Prop := fnExactSafestOfRow.holds Try.pinned (OpenSpec.ofChange fnExactSafestOfSpec)

/-- ITS FALSE NEIGHBOUR: 'it returns false'. Refute it at one input. -/
def fnExactSafestOfWrong : ChangeSpec := { name := "fnExactSafestOf", fn := fun _ => fun
  | [d] => { results := [.lit (.bool false)], args := [d] }
  | _ => none }
def FnExactSafestOfWrongFalsely : Prop := fnExactSafestOfRow.holds Try.pinned (OpenSpec.ofChange fnExactSafestOfWrong)

/-- 'laws.FnExactBeatenBy': WHATEVER THE INPUT: true; the input reads as it did. -/
def fnExactBeatenBySpec : ChangeSpec := { name := "fnExactBeatenBy", fn := fun _ => fun
  | [d] => { results := [.lit (.bool true)], args := [d] }
  | _ => none }
def fnExactBeatenByRow : OpenClaim := { program := "ytagieilahejobaa", sum := "163ce862fcb624325fa6530b6f151a93f2264bbfb3eef4554eb09fb1a7da57ed", func := "loop.example/g01210/laws.FnExactBeatenBy", spec := "fnExactBeatenBy", recurses := true, plainKeys := false, apart := false }
def FnExactBeatenBySaid : Prop := fnExactBeatenByRow.holds Try.pinned (OpenSpec.ofChange fnExactBeatenBySpec)

/-- ITS FALSE NEIGHBOUR: 'it returns false'. Refute it at one input. -/
def fnExactBeatenByWrong : ChangeSpec := { name := "fnExactBeatenBy", fn := fun _ => fun
  | [d] => { results := [.lit (.bool false)], args := [d] }
  | _ => none }
def FnExactBeatenByWrongFalsely : Prop := fnExactBeatenByRow.holds Try.pinned (OpenSpec.ofChange fnExactBeatenByWrong)

/-- 'laws.FnExactDoesCover': WHATEVER THE INPUT: true; the input reads as it did. -/
def fnExactDoesCoverSpec : ChangeSpec := { name := "fnExactDoesCover", fn := fun _ => fun
  | [d1, d2] => { results := [.lit (.bool true)], args := [d1, d2] }
  | _ => none }
def fnExactDoesCoverRow : OpenClaim := { program := "ytagieilahejobaa", sum := "163ce862fcb624325fa6530b6f151a93f2264bbfb3eef4554eb09fb1a7da57ed", func := "loop.example/g01210/laws.FnExactDoesCover", spec := "fnExactDoesCover", recurses := true, plainKeys := false, apart := false }
def FnExactDoesCoverSaid : Prop := fnExactDoesCoverRow.holds Try.pinned (OpenSpec.ofChange fnExactDoesCoverSpec)

/-- ITS FALSE NEIGHBOUR: 'it returns false'. Refute it at one input. -/
def fnExactDoesCoverWrong : ChangeSpec := { name := "fnExactDoesCover", fn := fun _ => fun
  | [d1, d2] => { results := [.lit (.bool false)], args := [d1, d2] }
  | _ => none }
def FnExactDoesCoverWrongFalsely : Prop := fnExactDoesCoverRow.holds Try.pinned (OpenSpec.ofChange fnExactDoesCoverWrong)

/-- 'laws.FnExactLeastShift': WHATEVER THE INPUT: true; the input reads as it did. -/
def fnExactLeastShiftSpec : ChangeSpec := { name := "fnExactLeastShift", fn := fun _ => fun
  | [d1, d2] => { results := [.lit (.bool true)], args := [d1, d2] }
  | _ => none }
def fnExactLeastShiftRow : OpenClaim := { program := "ytagieilahejobaa", sum := "163ce862fcb624325fa6530b6f151a93f2264bbfb3eef4554eb09fb1a7da57ed", func := "loop.example/g01210/laws.FnExactLeastShift", spec := "fnExactLeastShift", recurses := true, plainKeys := false, apart := false }
def FnExactLeastShiftSaid : Prop := fnExactLeastShiftRow.holds Try.pinned (OpenSpec.ofChange fnExactLeastShiftSpec)

/-- ITS FALSE NEIGHBOUR: 'it returns false'. Refute it at one input. -/
def fnExactLeastShiftWrong : ChangeSpec := { name := "fnExactLeastShift", fn := fun _ => fun
  | [d1, d2] => { results := [.lit (.bool false)], args := [d1, d2] }
  | _ => none }
def FnExactLeastShiftWrongFalsely : Prop := fnExactLeastShiftRow.holds Try.pinned (OpenSpec.ofChange fnExactLeastShiftWrong)

/- THE SECOND FORM. 'bulk': how many values and letters a reading holds, each counted each time it is reached (what is shared counts as often as it is met; a slice's spare places count too). A statement '..UptoSaid' is the law's where the arguments, and the package variables that the reading takes, are together of bulk at most 1048576: NARROWER than '..Said'. Prove '..Said' where nothing that the law and all that it calls make is longer than what came in: it says more and counts as full. Else prove '..UptoSaid'. A law counts once. -/
mutual
def uptoBulk {H : Type} : DataW H → Nat
  | .lit (.string bytes) => bytes.length + 1
  | .lit _ => 1
  | .nil => 1
  | .ptr d => uptoBulk d + 1
  | .slice elems spare => uptoBulkAll elems + uptoBulkAll spare + 1
  | .agg parts => uptoBulkAll parts + 1
  | .iface _ d => uptoBulk d + 1
  | .map entries => uptoBulkEntries entries + 1
  | .held _ => 1
def uptoBulkAll {H : Type} : List (DataW H) → Nat
  | [] => 0
  | d :: r => uptoBulk d + uptoBulkAll r
def uptoBulkEntries {H : Type} : List (Lit × DataW H) → Nat
  | [] => 0
  | x :: r => uptoBulkEntry x + uptoBulkEntries r
def uptoBulkEntry {H : Type} : Lit × DataW H → Nat
  | (.string bytes, d) => bytes.length + uptoBulk d + 1
  | (_, d) => uptoBulk d + 1
 end
def uptoSmall : (H : Type) → List (DataW H) → Bool := fun _ ds => decide (uptoBulkAll ds ≤ 1048576)
def OpenSpec.upto (s : _root_.Go.ChangeSpec) : _root_.Go.OpenSpec := { _root_.Go.OpenSpec.ofChange s with cond := some uptoSmall }

/-- 'laws.FnExactCompareDice', WHERE WHAT IT READS IS OF BULK AT MOST 1048576: true; the input reads as it did. -/
def fnExactCompareDiceUptoRow : OpenClaim := { program := "ytagieilahejobaa", sum := "163ce862fcb624325fa6530b6f151a93f2264bbfb3eef4554eb09fb1a7da57ed", func := "loop.example/g01210/laws.FnExactCompareDice", spec := "fnExactCompareDice", recurses := true, plainKeys := false, apart := false, narrowed := true }
def FnExactCompareDiceUptoSaid : Prop := fnExactCompareDiceUptoRow.holds Try.pinned (OpenSpec.upto fnExactCompareDiceSpec)

/-- 'laws.FnExactDoesBeat', WHERE WHAT IT READS IS OF BULK AT MOST 1048576: true; the input reads as it did. -/
def fnExactDoesBeatUptoRow : OpenClaim := { program := "ytagieilahejobaa", sum := "163ce862fcb624325fa6530b6f151a93f2264bbfb3eef4554eb09fb1a7da57ed", func := "loop.example/g01210/laws.FnExactDoesBeat", spec := "fnExactDoesBeat", recurses := true, plainKeys := false, apart := false, narrowed := true }
def FnExactDoesBeatUptoSaid : Prop := fnExactDoesBeatUptoRow.holds Try.pinned (OpenSpec.upto fnExactDoesBeatSpec)

/-- 'laws.FnExactBeatTable', WHERE WHAT IT READS IS OF BULK AT MOST 1048576: true; the input reads as it did. -/
def fnExactBeatTableUptoRow : OpenClaim := { program := "ytagieilahejobaa", sum := "163ce862fcb624325fa6530b6f151a93f2264bbfb3eef4554eb09fb1a7da57ed", func := "loop.example/g01210/laws.FnExactBeatTable", spec := "fnExactBeatTable", recurses := true, plainKeys := false, apart := false, narrowed := true }
def FnExactBeatTableUptoSaid : Prop := fnExactBeatTableUptoRow.holds Try.pinned (OpenSpec.upto fnExactBeatTableSpec)

/-- 'laws.FnExactRingsOf', WHERE WHAT IT READS IS OF BULK AT MOST 1048576: true; the input reads as it did. -/
def fnExactRingsOfUptoRow : OpenClaim := { program := "ytagieilahejobaa", sum := "163ce862fcb624325fa6530b6f151a93f2264bbfb3eef4554eb09fb1a7da57ed", func := "loop.example/g01210/laws.FnExactRingsOf", spec := "fnExactRingsOf", recurses := true, plainKeys := false, apart := false, narrowed := true }
def FnExactRingsOfUptoSaid : Prop := fnExactRingsOfUptoRow.holds Try.pinned (OpenSpec.upto fnExactRingsOfSpec)

/-- 'laws.FnExactIsRingRow', WHERE WHAT IT READS IS OF BULK AT MOST 1048576: true; the input reads as it did. -/
def fnExactIsRingRowUptoRow : OpenClaim := { program := "ytagieilahejobaa", sum := "163ce862fcb624325fa6530b6f151a93f2264bbfb3eef4554eb09fb1a7da57ed", func := "loop.example/g01210/laws.FnExactIsRingRow", spec := "fnExactIsRingRow", recurses := true, plainKeys := false, apart := false, narrowed := true }
def FnExactIsRingRowUptoSaid : Prop := fnExactIsRingRowUptoRow.holds Try.pinned (OpenSpec.upto fnExactIsRingRowSpec)

/-- 'laws.FnExactLevelPairs', WHERE WHAT IT READS IS OF BULK AT MOST 1048576: true; the input reads as it did. -/
def fnExactLevelPairsUptoRow : OpenClaim := { program := "ytagieilahejobaa", sum := "163ce862fcb624325fa6530b6f151a93f2264bbfb3eef4554eb09fb1a7da57ed", func := "loop.example/g01210/laws.FnExactLevelPairs", spec := "fnExactLevelPairs", recurses := true, plainKeys := false, apart := false, narrowed := true }
def FnExactLevelPairsUptoSaid : Prop := fnExactLevelPairsUptoRow.holds Try.pinned (OpenSpec.upto fnExactLevelPairsSpec)

/-- 'laws.FnExactBestAgainst', WHERE WHAT IT READS IS OF BULK AT MOST 1048576: true; the input reads as it did. -/
def fnExactBestAgainstUptoRow : OpenClaim := { program := "ytagieilahejobaa", sum := "163ce862fcb624325fa6530b6f151a93f2264bbfb3eef4554eb09fb1a7da57ed", func := "loop.example/g01210/laws.FnExactBestAgainst", spec := "fnExactBestAgainst", recurses := true, plainKeys := false, apart := false, narrowed := true }
def FnExactBestAgainstUptoSaid : Prop := fnExactBestAgainstUptoRow.holds Try.pinned (OpenSpec.upto fnExactBestAgainstSpec)

/-- 'laws.FnExactSafestOf', WHERE WHAT IT READS IS OF BULK AT MOST 1048576: true; the input reads as it did. -/
def fnExactSafestOfUptoRow : OpenClaim := { program := "ytagieilahejobaa", sum := "163ce862fcb624325fa6530b6f151a93f2264bbfb3eef4554eb09fb1a7da57ed", func := "loop.example/g01210/laws.FnExactSafestOf", spec := "fnExactSafestOf", recurses := true, plainKeys := false, apart := false, narrowed := true }
def FnExactSafestOfUptoSaid : Prop := fnExactSafestOfUptoRow.holds Try.pinned (OpenSpec.upto fnExactSafestOfSpec)

/-- 'laws.FnExactBeatenBy', WHERE WHAT IT READS IS OF BULK AT MOST 1048576: true; the input reads as it did. -/
def fnExactBeatenByUptoRow : OpenClaim := { program := "ytagieilahejobaa", sum := "163ce862fcb624325fa6530b6f151a93f2264bbfb3eef4554eb09fb1a7da57ed", func := "loop.example/g01210/laws.FnExactBeatenBy", spec := "fnExactBeatenBy", recurses := true, plainKeys := false, apart := false, narrowed := true }
def FnExactBeatenByUptoSaid : Prop := fnExactBeatenByUptoRow.holds Try.pinned (OpenSpec.upto fnExactBeatenBySpec)

/-- 'laws.FnExactDoesCover', WHERE WHAT IT READS IS OF BULK AT MOST 1048576: true; the input reads as it did. -/
def fnExactDoesCoverUptoRow : OpenClaim := { program := "ytagieilahejobaa", sum := "163ce862fcb624325fa6530b6f151a93f2264bbfb3eef4554eb09fb1a7da57ed", func := "loop.example/g01210/laws.FnExactDoesCover", spec := "fnExactDoesCover", recurses := true, plainKeys := false, apart := false, narrowed := true }
def FnExactDoesCoverUptoSaid : Prop := fnExactDoesCoverUptoRow.holds Try.pinned (OpenSpec.upto fnExactDoesCoverSpec)

/-- 'laws.FnExactLeastShift', WHERE WHAT IT READS IS OF BULK AT MOST 1048576: true; the input reads as it did. -/
def fnExactLeastShiftUptoRow : OpenClaim := { program := "ytagieilahejobaa", sum := "163ce862fcb624325fa6530b6f151a93f2264bbfb3eef4554eb09fb1a7da57ed", func := "loop.example/g01210/laws.FnExactLeastShift", spec := "fnExactLeastShift", recurses := true, plainKeys := false, apart := false, narrowed := true }
def FnExactLeastShiftUptoSaid : Prop := fnExactLeastShiftUptoRow.holds Try.pinned (OpenSpec.upto fnExactLeastShiftSpec)

end Rows
end Go.Proofs.Ytagieilahejobaa
