/-
  No cell of these rows narrows 'for every input' (looked for: loops, veiled, ifaces, maps, wideKeys, modest, calm, conditions, laid).
  DERIVED. THE GIVEN ROWS OF THIS SEAT. 12 by the template 'for every input the law returns true; each argument reads behind the call as it read before'; 0 by the template 'total and deterministic' (their statements: YtlpkonobnipdeaaTotals.lean).
  GIVEN WITH THE SEED: the statements are not yours to turn. If you find one false, say at which input.
  Laid BY PROGRAM, IN A SANDBOX (cutbox-rows.mjs): the forced cells as the released guide's own fill.sh prints them over the translation c544feba1f12c409… (all of the seat's roots in one cut). By AI agents, Wed Nov 11 2026. No macro, syntax, notation, axiom, sorry.
-/
import Derived.Test.YtlpkonobnipdeaaChecked
import GoSem.Claim
import GoSem.ClaimJoined
import GoSem.ClaimMapViews
import Derived.JoinedTies
import Derived.KernelRfl
namespace Go.Proofs.Ytlpkonobnipdeaa
/- THE CELL 'sum', in the pinned program and in every row, IS THE sha256 OF THE DUMP (.gsa) THAT YtlpkonobnipdeaaProg.lean LOADS. Nothing in Lean hashes anything: it is a label: what it is worth is what the hold of that sum in a sandbox is worth. -/
noncomputable def Try.pinned : Pinned := { name := "ytlpkonobnipdeaa", sum := "c544feba1f12c409092dee6c73b328fa0c2105d2936d58264f2005af9a2ca713", checked := Try.checked }
namespace Rows
def none {H : Type} : Left H := { results := [], args := [] }

/-- 'laws.FnHits': WHATEVER THE INPUT: true; the input reads as it did. -/
def fnHitsSpec : ChangeSpec := { name := "fnHits", fn := fun _ => fun
  | [d] => { results := [.lit (.bool true)], args := [d] }
  | _ => none }
def fnHitsRow : OpenClaim := { program := "ytlpkonobnipdeaa", sum := "c544feba1f12c409092dee6c73b328fa0c2105d2936d58264f2005af9a2ca713", func := "loop.example/g01210/laws.FnHits", spec := "fnHits", recurses := true, plainKeys := false, apart := false }
def FnHitsSaid : Prop := fnHitsRow.holds Try.pinned (OpenSpec.ofChange fnHitsSpec)

/-- ITS FALSE NEIGHBOUR: 'it returns false'. Refute it at one input. -/
def fnHitsWrong : ChangeSpec := { name := "fnHits", fn := fun _ => fun
  | [d] => { results := [.lit (.bool false)], args := [d] }
  | _ => none }
def FnHitsWrongFalsely : Prop := fnHitsRow.holds Try.pinned (OpenSpec.ofChange fnHitsWrong)

/-- 'laws.FnPatterns': WHATEVER THE INPUT: true; the input reads as it did. -/
def fnPatternsSpec : ChangeSpec := { name := "fnPatterns", fn := fun _ => fun
  | [d] => { results := [.lit (.bool true)], args := [d] }
  | _ => none }
def fnPatternsRow : OpenClaim := { program := "ytlpkonobnipdeaa", sum := "c544feba1f12c409092dee6c73b328fa0c2105d2936d58264f2005af9a2ca713", func := "loop.example/g01210/laws.FnPatterns", spec := "fnPatterns", unfollowed := true, recurses := true, plainKeys := false, apart := false }
def FnPatternsSaid : Prop := fnPatternsRow.holds Try.pinned (OpenSpec.ofChange fnPatternsSpec)

/-- ITS FALSE NEIGHBOUR: 'it returns false'. Refute it at one input. -/
def fnPatternsWrong : ChangeSpec := { name := "fnPatterns", fn := fun _ => fun
  | [d] => { results := [.lit (.bool false)], args := [d] }
  | _ => none }
def FnPatternsWrongFalsely : Prop := fnPatternsRow.holds Try.pinned (OpenSpec.ofChange fnPatternsWrong)

/-- 'laws.FnRings': WHATEVER THE INPUT: true; the input reads as it did. -/
def fnRingsSpec : ChangeSpec := { name := "fnRings", fn := fun _ => fun
  | [d] => { results := [.lit (.bool true)], args := [d] }
  | _ => none }
def fnRingsRow : OpenClaim := { program := "ytlpkonobnipdeaa", sum := "c544feba1f12c409092dee6c73b328fa0c2105d2936d58264f2005af9a2ca713", func := "loop.example/g01210/laws.FnRings", spec := "fnRings", recurses := true, plainKeys := false, apart := false }
def FnRingsSaid : Prop := fnRingsRow.holds Try.pinned (OpenSpec.ofChange fnRingsSpec)

/-- ITS FALSE NEIGHBOUR: 'it returns false'. Refute it at one input. -/
def fnRingsWrong : ChangeSpec := { name := "fnRings", fn := fun _ => fun
  | [d] => { results := [.lit (.bool false)], args := [d] }
  | _ => none }
def FnRingsWrongFalsely : Prop := fnRingsRow.holds Try.pinned (OpenSpec.ofChange fnRingsWrong)

/-- 'laws.FnExactKeepTable': WHATEVER THE INPUT: true; the input reads as it did. -/
def fnExactKeepTableSpec : ChangeSpec := { name := "fnExactKeepTable", fn := fun _ => fun
  | [d1, d2] => { results := [.lit (.bool true)], args := [d1, d2] }
  | _ => none }
def fnExactKeepTableRow : OpenClaim := { program := "ytlpkonobnipdeaa", sum := "c544feba1f12c409092dee6c73b328fa0c2105d2936d58264f2005af9a2ca713", func := "loop.example/g01210/laws.FnExactKeepTable", spec := "fnExactKeepTable", recurses := true, plainKeys := false, apart := false }
def FnExactKeepTableSaid : Prop := fnExactKeepTableRow.holds Try.pinned (OpenSpec.ofChange fnExactKeepTableSpec)

/-- ITS FALSE NEIGHBOUR: 'it returns false'. Refute it at one input. -/
def fnExactKeepTableWrong : ChangeSpec := { name := "fnExactKeepTable", fn := fun _ => fun
  | [d1, d2] => { results := [.lit (.bool false)], args := [d1, d2] }
  | _ => none }
def FnExactKeepTableWrongFalsely : Prop := fnExactKeepTableRow.holds Try.pinned (OpenSpec.ofChange fnExactKeepTableWrong)

/-- 'laws.FnExactDropTable': WHATEVER THE INPUT: true; the input reads as it did. -/
def fnExactDropTableSpec : ChangeSpec := { name := "fnExactDropTable", fn := fun _ => fun
  | [d1, d2] => { results := [.lit (.bool true)], args := [d1, d2] }
  | _ => none }
def fnExactDropTableRow : OpenClaim := { program := "ytlpkonobnipdeaa", sum := "c544feba1f12c409092dee6c73b328fa0c2105d2936d58264f2005af9a2ca713", func := "loop.example/g01210/laws.FnExactDropTable", spec := "fnExactDropTable", recurses := true, plainKeys := false, apart := false }
def FnExactDropTableSaid : Prop := fnExactDropTableRow.holds Try.pinned (OpenSpec.ofChange fnExactDropTableSpec)

/-- ITS FALSE NEIGHBOUR: 'it returns false'. Refute it at one input. -/
def fnExactDropTableWrong : ChangeSpec := { name := "fnExactDropTable", fn := fun _ => fun
  | [d1, d2] => { results := [.lit (.bool false)], args := [d1, d2] }
  | _ => none }
def FnExactDropTableWrongFalsely : Prop := fnExactDropTableRow.holds Try.pinned (OpenSpec.ofChange fnExactDropTableWrong)

/-- 'laws.FnExactMeanKept': WHATEVER THE INPUT: true; the input reads as it did. -/
def fnExactMeanKeptSpec : ChangeSpec := { name := "fnExactMeanKept", fn := fun _ => fun
  | [d1, d2] => { results := [.lit (.bool true)], args := [d1, d2] }
  | _ => none }
def fnExactMeanKeptRow : OpenClaim := { program := "ytlpkonobnipdeaa", sum := "c544feba1f12c409092dee6c73b328fa0c2105d2936d58264f2005af9a2ca713", func := "loop.example/g01210/laws.FnExactMeanKept", spec := "fnExactMeanKept", recurses := true, plainKeys := false, apart := false }
def FnExactMeanKeptSaid : Prop := fnExactMeanKeptRow.holds Try.pinned (OpenSpec.ofChange fnExactMeanKeptSpec)

/-- ITS FALSE NEIGHBOUR: 'it returns false'. Refute it at one input. -/
def fnExactMeanKeptWrong : ChangeSpec := { name := "fnExactMeanKept", fn := fun _ => fun
  | [d1, d2] => { results := [.lit (.bool false)], args := [d1, d2] }
  | _ => none }
def FnExactMeanKeptWrongFalsely : Prop := fnExactMeanKeptRow.holds Try.pinned (OpenSpec.ofChange fnExactMeanKeptWrong)

/-- 'laws.FnExactPlaceTable': WHATEVER THE INPUT: true; the input reads as it did. -/
def fnExactPlaceTableSpec : ChangeSpec := { name := "fnExactPlaceTable", fn := fun _ => fun
  | [d1, d2] => { results := [.lit (.bool true)], args := [d1, d2] }
  | _ => none }
def fnExactPlaceTableRow : OpenClaim := { program := "ytlpkonobnipdeaa", sum := "c544feba1f12c409092dee6c73b328fa0c2105d2936d58264f2005af9a2ca713", func := "loop.example/g01210/laws.FnExactPlaceTable", spec := "fnExactPlaceTable", recurses := true, plainKeys := false, apart := false }
def FnExactPlaceTableSaid : Prop := fnExactPlaceTableRow.holds Try.pinned (OpenSpec.ofChange fnExactPlaceTableSpec)

/-- ITS FALSE NEIGHBOUR: 'it returns false'. Refute it at one input. -/
def fnExactPlaceTableWrong : ChangeSpec := { name := "fnExactPlaceTable", fn := fun _ => fun
  | [d1, d2] => { results := [.lit (.bool false)], args := [d1, d2] }
  | _ => none }
def FnExactPlaceTableWrongFalsely : Prop := fnExactPlaceTableRow.holds Try.pinned (OpenSpec.ofChange fnExactPlaceTableWrong)

/-- 'laws.FnExactMeanPlace': WHATEVER THE INPUT: true; the input reads as it did. -/
def fnExactMeanPlaceSpec : ChangeSpec := { name := "fnExactMeanPlace", fn := fun _ => fun
  | [d1, d2] => { results := [.lit (.bool true)], args := [d1, d2] }
  | _ => none }
def fnExactMeanPlaceRow : OpenClaim := { program := "ytlpkonobnipdeaa", sum := "c544feba1f12c409092dee6c73b328fa0c2105d2936d58264f2005af9a2ca713", func := "loop.example/g01210/laws.FnExactMeanPlace", spec := "fnExactMeanPlace", recurses := true, plainKeys := false, apart := false }
def FnExactMeanPlaceSaid : Prop := fnExactMeanPlaceRow.holds Try.pinned (OpenSpec.ofChange fnExactMeanPlaceSpec)

/-- ITS FALSE NEIGHBOUR: 'it returns false'. Refute it at one input. -/
def fnExactMeanPlaceWrong : ChangeSpec := { name := "fnExactMeanPlace", fn := fun _ => fun
  | [d1, d2] => { results := [.lit (.bool false)], args := [d1, d2] }
  | _ => none }
def FnExactMeanPlaceWrongFalsely : Prop := fnExactMeanPlaceRow.holds Try.pinned (OpenSpec.ofChange fnExactMeanPlaceWrong)

/-- 'laws.FnExactHitTable': WHATEVER THE INPUT: true; the input reads as it did. -/
def fnExactHitTableSpec : ChangeSpec := { name := "fnExactHitTable", fn := fun _ => fun
  | [d1, d2] => { results := [.lit (.bool true)], args := [d1, d2] }
  | _ => none }
def fnExactHitTableRow : OpenClaim := { program := "ytlpkonobnipdeaa", sum := "c544feba1f12c409092dee6c73b328fa0c2105d2936d58264f2005af9a2ca713", func := "loop.example/g01210/laws.FnExactHitTable", spec := "fnExactHitTable", recurses := true, plainKeys := false, apart := false }
def FnExactHitTableSaid : Prop := fnExactHitTableRow.holds Try.pinned (OpenSpec.ofChange fnExactHitTableSpec)

/-- ITS FALSE NEIGHBOUR: 'it returns false'. Refute it at one input. -/
def fnExactHitTableWrong : ChangeSpec := { name := "fnExactHitTable", fn := fun _ => fun
  | [d1, d2] => { results := [.lit (.bool false)], args := [d1, d2] }
  | _ => none }
def FnExactHitTableWrongFalsely : Prop := fnExactHitTableRow.holds Try.pinned (OpenSpec.ofChange fnExactHitTableWrong)

/-- 'laws.FnExactChanceHits': WHATEVER THE INPUT: true; the input reads as it did. -/
def fnExactChanceHitsSpec : ChangeSpec := { name := "fnExactChanceHits", fn := fun _ => fun
  | [d1, d2, d3] => { results := [.lit (.bool true)], args := [d1, d2, d3] }
  | _ => none }
def fnExactChanceHitsRow : OpenClaim := { program := "ytlpkonobnipdeaa", sum := "c544feba1f12c409092dee6c73b328fa0c2105d2936d58264f2005af9a2ca713", func := "loop.example/g01210/laws.FnExactChanceHits", spec := "fnExactChanceHits", recurses := true, plainKeys := false, apart := false }
def FnExactChanceHitsSaid : Prop := fnExactChanceHitsRow.holds Try.pinned (OpenSpec.ofChange fnExactChanceHitsSpec)

/-- ITS FALSE NEIGHBOUR: 'it returns false'. Refute it at one input. -/
def fnExactChanceHitsWrong : ChangeSpec := { name := "fnExactChanceHits", fn := fun _ => fun
  | [d1, d2, d3] => { results := [.lit (.bool false)], args := [d1, d2, d3] }
  | _ => none }
def FnExactChanceHitsWrongFalsely : Prop := fnExactChanceHitsRow.holds Try.pinned (OpenSpec.ofChange fnExactChanceHitsWrong)

/-- 'laws.FnExactBoundFor': WHATEVER THE INPUT: true; the input reads as it did. -/
def fnExactBoundForSpec : ChangeSpec := { name := "fnExactBoundFor", fn := fun _ => fun
  | [d1, d2, d3, d4] => { results := [.lit (.bool true)], args := [d1, d2, d3, d4] }
  | _ => none }
def fnExactBoundForRow : OpenClaim := { program := "ytlpkonobnipdeaa", sum := "c544feba1f12c409092dee6c73b328fa0c2105d2936d58264f2005af9a2ca713", func := "loop.example/g01210/laws.FnExactBoundFor", spec := "fnExactBoundFor", recurses := true, plainKeys := false, apart := false }
def FnExactBoundForSaid : Prop := fnExactBoundForRow.holds Try.pinned (OpenSpec.ofChange fnExactBoundForSpec)

/-- ITS FALSE NEIGHBOUR: 'it returns false'. Refute it at one input. -/
def fnExactBoundForWrong : ChangeSpec := { name := "fnExactBoundFor", fn := fun _ => fun
  | [d1, d2, d3, d4] => { results := [.lit (.bool false)], args := [d1, d2, d3, d4] }
  | _ => none }
def FnExactBoundForWrongFalsely : Prop := fnExactBoundForRow.holds Try.pinned (OpenSpec.ofChange fnExactBoundForWrong)

/-- 'laws.FnExactPatternOf': WHATEVER THE INPUT: true; the input reads as it did. -/
def fnExactPatternOfSpec : ChangeSpec := { name := "fnExactPatternOf", fn := fun _ => fun
  | [d1, d2] => { results := [.lit (.bool true)], args := [d1, d2] }
  | _ => none }
def fnExactPatternOfRow : OpenClaim := { program := "ytlpkonobnipdeaa", sum := "c544feba1f12c409092dee6c73b328fa0c2105d2936d58264f2005af9a2ca713", func := "loop.example/g01210/laws.FnExactPatternOf", spec := "fnExactPatternOf", recurses := true, plainKeys := false, apart := false }
def FnExactPatternOfSaid : Prop := fnExactPatternOfRow.holds Try.pinned (OpenSpec.ofChange fnExactPatternOfSpec)

/-- ITS FALSE NEIGHBOUR: 'it returns false'. Refute it at one input. -/
def fnExactPatternOfWrong : ChangeSpec := { name := "fnExactPatternOf", fn := fun _ => fun
  | [d1, d2] => { results := [.lit (.bool false)], args := [d1, d2] }
  | _ => none }
def FnExactPatternOfWrongFalsely : Prop := fnExactPatternOfRow.holds Try.pinned (OpenSpec.ofChange fnExactPatternOfWrong)

/- THE SECOND FORM. 'bulk': how many values and letters a reading holds, each counted each time it is reached (what is shared counts as often as it is met; a slice's spare places count too). A statement '..UptoSaid' is the law's where the arguments, and the package variables that the reading takes, are together of bulk at most 1048576: NARROWER than '..Said'. Prove '..Said' where nothing that the law and all that it calls make is longer than what came in: it says more and counts as full. Else prove '..UptoSaid'. A law counts once. -/
mutual
def uptoBulk {H : Type} : DataW H → Nat
  | .lit (.string bytes) => bytes.length + 1
  | .lit _ => 1
  | .nil => 1
  | .ptr d => uptoBulk d + 1
  | .slice elems spare => uptoBulkAll elems + uptoBulkAll spare + 1
  | .agg parts => uptoBulkAll parts + 1
  | .iface _ d => uptoBulk d + 1
  | .map entries => uptoBulkEntries entries + 1
  | .held _ => 1
def uptoBulkAll {H : Type} : List (DataW H) → Nat
  | [] => 0
  | d :: r => uptoBulk d + uptoBulkAll r
def uptoBulkEntries {H : Type} : List (Lit × DataW H) → Nat
  | [] => 0
  | x :: r => uptoBulkEntry x + uptoBulkEntries r
def uptoBulkEntry {H : Type} : Lit × DataW H → Nat
  | (.string bytes, d) => bytes.length + uptoBulk d + 1
  | (_, d) => uptoBulk d + 1
 end
def uptoSmall : (H : Type) → List (DataW H) → Bool := fun _ ds => decide (uptoBulkAll ds ≤ 1048576)
def OpenSpec.upto (s : _root_.Go.ChangeSpec) : _root_.Go.OpenSpec := { _root_.Go.OpenSpec.ofChange s with cond := some uptoSmall }

/-- 'laws.FnHits', WHERE WHAT IT READS IS OF BULK AT MOST 1048576: true; the input reads as it did. -/
def fnHitsUptoRow : OpenClaim := { program := "ytlpkonobnipdeaa", sum := "c544feba1f12c409092dee6c73b328fa0c2105d2936d58264f2005af9a2ca713", func := "loop.example/g01210/laws.FnHits", spec := "fnHits", recurses := true, plainKeys := false, apart := false, narrowed := true }
def FnHitsUptoSaid : Prop := fnHitsUptoRow.holds Try.pinned (OpenSpec.upto fnHitsSpec)

/-- 'laws.FnPatterns', WHERE WHAT IT READS IS OF BULK AT MOST 1048576: true; the input reads as it did. -/
def fnPatternsUptoRow : OpenClaim := { program := "ytlpkonobnipdeaa", sum := "c544feba1f12c409092dee6c73b328fa0c2105d2936d58264f2005af9a2ca713", func := "loop.example/g01210/laws.FnPatterns", spec := "fnPatterns", unfollowed := true, recurses := true, plainKeys := false, apart := false, narrowed := true }
def FnPatternsUptoSaid : Prop := fnPatternsUptoRow.holds Try.pinned (OpenSpec.upto fnPatternsSpec)

/-- 'laws.FnRings', WHERE WHAT IT READS IS OF BULK AT MOST 1048576: true; the input reads as it did. -/
def fnRingsUptoRow : OpenClaim := { program := "ytlpkonobnipdeaa", sum := "c544feba1f12c409092dee6c73b328fa0c2105d2936d58264f2005af9a2ca713", func := "loop.example/g01210/laws.FnRings", spec := "fnRings", recurses := true, plainKeys := false, apart := false, narrowed := true }
def FnRingsUptoSaid : Prop := fnRingsUptoRow.holds Try.pinned (OpenSpec.upto fnRingsSpec)

/-- 'laws.FnExactKeepTable', WHERE WHAT IT READS IS OF BULK AT MOST 1048576: true; the input reads as it did. -/
def fnExactKeepTableUptoRow : OpenClaim := { program := "ytlpkonobnipdeaa", sum := "c544feba1f12c409092dee6c73b328fa0c2105d2936d58264f2005af9a2ca713", func := "loop.example/g01210/laws.FnExactKeepTable", spec := "fnExactKeepTable", recurses := true, plainKeys := false, apart := false, narrowed := true }
def FnExactKeepTableUptoSaid : Prop := fnExactKeepTableUptoRow.holds Try.pinned (OpenSpec.upto fnExactKeepTableSpec)

/-- 'laws.FnExactDropTable', WHERE WHAT IT READS IS OF BULK AT MOST 1048576: true; the input reads as it did. -/
def fnExactDropTableUptoRow : OpenClaim := { program := "ytlpkonobnipdeaa", sum := "c544feba1f12c409092dee6c73b328fa0c2105d2936d58264f2005af9a2ca713", func := "loop.example/g01210/laws.FnExactDropTable", spec := "fnExactDropTable", recurses := true, plainKeys := false, apart := false, narrowed := true }
def FnExactDropTableUptoSaid : Prop := fnExactDropTableUptoRow.holds Try.pinned (OpenSpec.upto fnExactDropTableSpec)

/-- 'laws.FnExactMeanKept', WHERE WHAT IT READS IS OF BULK AT MOST 1048576: true; the input reads as it did. -/
def fnExactMeanKeptUptoRow : OpenClaim := { program := "ytlpkonobnipdeaa", sum := "c544feba1f12c409092dee6c73b328fa0c2105d2936d58264f2005af9a2ca713", func := "loop.example/g01210/laws.FnExactMeanKept", spec := "fnExactMeanKept", recurses := true, plainKeys := false, apart := false, narrowed := true }
def FnExactMeanKeptUptoSaid : Prop := fnExactMeanKeptUptoRow.holds Try.pinned (OpenSpec.upto fnExactMeanKeptSpec)

/-- 'laws.FnExactPlaceTable', WHERE WHAT IT READS IS OF BULK AT MOST 1048576: true; the input reads as it did. -/
def fnExactPlaceTableUptoRow : OpenClaim := { program := "ytlpkonobnipdeaa", sum := "c544feba1f12c409092dee6c73b328fa0c2105d2936d58264f2005af9a2ca713", func := "loop.example/g01210/laws.FnExactPlaceTable", spec := "fnExactPlaceTable", recurses := true, plainKeys := false, apart := false, narrowed := true }
def FnExactPlaceTableUptoSaid : Prop := fnExactPlaceTableUptoRow.holds Try.pinned (OpenSpec.upto fnExactPlaceTableSpec)

/-- 'laws.FnExactMeanPlace', WHERE WHAT IT READS IS OF BULK AT MOST 1048576: true; the input reads as it did. -/
def fnExactMeanPlaceUptoRow : OpenClaim := { program := "ytlpkonobnipdeaa", sum := "c544feba1f12c409092dee6c73b328fa0c2105d2936d58264f2005af9a2ca713", func := "loop.example/g01210/laws.FnExactMeanPlace", spec := "fnExactMeanPlace", recurses := true, plainKeys := false, apart := false, narrowed := true }
def FnExactMeanPlaceUptoSaid : Prop := fnExactMeanPlaceUptoRow.holds Try.pinned (OpenSpec.upto fnExactMeanPlaceSpec)

/-- 'laws.FnExactHitTable', WHERE WHAT IT READS IS OF BULK AT MOST 1048576: true; the input reads as it did. -/
def fnExactHitTableUptoRow : OpenClaim := { program := "ytlpkonobnipdeaa", sum := "c544feba1f12c409092dee6c73b328fa0c2105d2936d58264f2005af9a2ca713", func := "loop.example/g01210/laws.FnExactHitTable", spec := "fnExactHitTable", recurses := true, plainKeys := false, apart := false, narrowed := true }
def FnExactHitTableUptoSaid : Prop := fnExactHitTableUptoRow.holds Try.pinned (OpenSpec.upto fnExactHitTableSpec)

/-- 'laws.FnExactChanceHits', WHERE WHAT IT READS IS OF BULK AT MOST 1048576: true; the input reads as it did. -/
def fnExactChanceHitsUptoRow : OpenClaim := { program := "ytlpkonobnipdeaa", sum := "c544feba1f12c409092dee6c73b328fa0c2105d2936d58264f2005af9a2ca713", func := "loop.example/g01210/laws.FnExactChanceHits", spec := "fnExactChanceHits", recurses := true, plainKeys := false, apart := false, narrowed := true }
def FnExactChanceHitsUptoSaid : Prop := fnExactChanceHitsUptoRow.holds Try.pinned (OpenSpec.upto fnExactChanceHitsSpec)

/-- 'laws.FnExactBoundFor', WHERE WHAT IT READS IS OF BULK AT MOST 1048576: true; the input reads as it did. -/
def fnExactBoundForUptoRow : OpenClaim := { program := "ytlpkonobnipdeaa", sum := "c544feba1f12c409092dee6c73b328fa0c2105d2936d58264f2005af9a2ca713", func := "loop.example/g01210/laws.FnExactBoundFor", spec := "fnExactBoundFor", recurses := true, plainKeys := false, apart := false, narrowed := true }
def FnExactBoundForUptoSaid : Prop := fnExactBoundForUptoRow.holds Try.pinned (OpenSpec.upto fnExactBoundForSpec)

/-- 'laws.FnExactPatternOf', WHERE WHAT IT READS IS OF BULK AT MOST 1048576: true; the input reads as it did. -/
def fnExactPatternOfUptoRow : OpenClaim := { program := "ytlpkonobnipdeaa", sum := "c544feba1f12c409092dee6c73b328fa0c2105d2936d58264f2005af9a2ca713", func := "loop.example/g01210/laws.FnExactPatternOf", spec := "fnExactPatternOf", recurses := true, plainKeys := false, apart := false, narrowed := true }
def FnExactPatternOfUptoSaid : Prop := fnExactPatternOfUptoRow.holds Try.pinned (OpenSpec.upto fnExactPatternOfSpec)

end Rows
end Go.Proofs.Ytlpkonobnipdeaa
