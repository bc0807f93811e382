/-
  No cell of these rows narrows 'for every input' (looked for: loops, veiled, ifaces, maps, wideKeys, modest, calm, conditions, laid).
  DERIVED. THE GIVEN ROWS OF THIS SEAT. 12 by the template 'for every input the law returns true; each argument reads behind the call as it read before'; 0 by the template 'total and deterministic' (their statements: YtllcjgladjcoaabTotals.lean).
  GIVEN WITH THE SEED: the statements are not yours to turn. If you find one false, say at which input.
  Laid BY PROGRAM, IN A SANDBOX (cutbox-rows.mjs): the forced cells as the released guide's own fill.sh prints them over the translation 9579ca17f561c1dd… (all of the seat's roots in one cut). By AI agents, Wed Nov 11 2026. No macro, syntax, notation, axiom, sorry.
-/
import Derived.Test.YtllcjgladjcoaabChecked
import GoSem.Claim
import GoSem.ClaimJoined
import GoSem.ClaimMapViews
import Derived.JoinedTies
import Derived.KernelRfl
namespace Go.Proofs.Ytllcjgladjcoaab
/- THE CELL 'sum', in the pinned program and in every row, IS THE sha256 OF THE DUMP (.gsa) THAT YtllcjgladjcoaabProg.lean LOADS. Nothing in Lean hashes anything: it is a label: what it is worth is what the hold of that sum in a sandbox is worth. -/
noncomputable def Try.pinned : Pinned := { name := "ytllcjgladjcoaab", sum := "9579ca17f561c1dd12555b33b0db149fe84f8d2416b4911a2e065af559e0fa14", checked := Try.checked }
namespace Rows
def none {H : Type} : Left H := { results := [], args := [] }

/-- 'laws.FnExactIsPool': WHATEVER THE INPUT: true; the input reads as it did. -/
def fnExactIsPoolSpec : ChangeSpec := { name := "fnExactIsPool", fn := fun _ => fun
  | [d] => { results := [.lit (.bool true)], args := [d] }
  | _ => none }
def fnExactIsPoolRow : OpenClaim := { program := "ytllcjgladjcoaab", sum := "9579ca17f561c1dd12555b33b0db149fe84f8d2416b4911a2e065af559e0fa14", func := "loop.example/g01210/laws.FnExactIsPool", spec := "fnExactIsPool", recurses := true, apart := false }
def FnExactIsPoolSaid : Prop := fnExactIsPoolRow.holds Try.pinned (OpenSpec.ofChange fnExactIsPoolSpec)

/-- ITS FALSE NEIGHBOUR: 'it returns false'. Refute it at one input. -/
def fnExactIsPoolWrong : ChangeSpec := { name := "fnExactIsPool", fn := fun _ => fun
  | [d] => { results := [.lit (.bool false)], args := [d] }
  | _ => none }
def FnExactIsPoolWrongFalsely : Prop := fnExactIsPoolRow.holds Try.pinned (OpenSpec.ofChange fnExactIsPoolWrong)

/-- 'laws.FnExactSumTable': WHATEVER THE INPUT: true; the input reads as it did. -/
def fnExactSumTableSpec : ChangeSpec := { name := "fnExactSumTable", fn := fun _ => fun
  | [d] => { results := [.lit (.bool true)], args := [d] }
  | _ => none }
def fnExactSumTableRow : OpenClaim := { program := "ytllcjgladjcoaab", sum := "9579ca17f561c1dd12555b33b0db149fe84f8d2416b4911a2e065af559e0fa14", func := "loop.example/g01210/laws.FnExactSumTable", spec := "fnExactSumTable", recurses := true, apart := false }
def FnExactSumTableSaid : Prop := fnExactSumTableRow.holds Try.pinned (OpenSpec.ofChange fnExactSumTableSpec)

/-- ITS FALSE NEIGHBOUR: 'it returns false'. Refute it at one input. -/
def fnExactSumTableWrong : ChangeSpec := { name := "fnExactSumTable", fn := fun _ => fun
  | [d] => { results := [.lit (.bool false)], args := [d] }
  | _ => none }
def FnExactSumTableWrongFalsely : Prop := fnExactSumTableRow.holds Try.pinned (OpenSpec.ofChange fnExactSumTableWrong)

/-- 'laws.FnExactChanceOfSum': WHATEVER THE INPUT: true; the input reads as it did. -/
def fnExactChanceOfSumSpec : ChangeSpec := { name := "fnExactChanceOfSum", fn := fun _ => fun
  | [d1, d2] => { results := [.lit (.bool true)], args := [d1, d2] }
  | _ => none }
def fnExactChanceOfSumRow : OpenClaim := { program := "ytllcjgladjcoaab", sum := "9579ca17f561c1dd12555b33b0db149fe84f8d2416b4911a2e065af559e0fa14", func := "loop.example/g01210/laws.FnExactChanceOfSum", spec := "fnExactChanceOfSum", recurses := true, apart := false }
def FnExactChanceOfSumSaid : Prop := fnExactChanceOfSumRow.holds Try.pinned (OpenSpec.ofChange fnExactChanceOfSumSpec)

/-- ITS FALSE NEIGHBOUR: 'it returns false'. Refute it at one input. -/
def fnExactChanceOfSumWrong : ChangeSpec := { name := "fnExactChanceOfSum", fn := fun _ => fun
  | [d1, d2] => { results := [.lit (.bool false)], args := [d1, d2] }
  | _ => none }
def FnExactChanceOfSumWrongFalsely : Prop := fnExactChanceOfSumRow.holds Try.pinned (OpenSpec.ofChange fnExactChanceOfSumWrong)

/-- 'laws.FnExactChanceAtLeast': WHATEVER THE INPUT: true; the input reads as it did. -/
def fnExactChanceAtLeastSpec : ChangeSpec := { name := "fnExactChanceAtLeast", fn := fun _ => fun
  | [d1, d2] => { results := [.lit (.bool true)], args := [d1, d2] }
  | _ => none }
def fnExactChanceAtLeastRow : OpenClaim := { program := "ytllcjgladjcoaab", sum := "9579ca17f561c1dd12555b33b0db149fe84f8d2416b4911a2e065af559e0fa14", func := "loop.example/g01210/laws.FnExactChanceAtLeast", spec := "fnExactChanceAtLeast", recurses := true, apart := false }
def FnExactChanceAtLeastSaid : Prop := fnExactChanceAtLeastRow.holds Try.pinned (OpenSpec.ofChange fnExactChanceAtLeastSpec)

/-- ITS FALSE NEIGHBOUR: 'it returns false'. Refute it at one input. -/
def fnExactChanceAtLeastWrong : ChangeSpec := { name := "fnExactChanceAtLeast", fn := fun _ => fun
  | [d1, d2] => { results := [.lit (.bool false)], args := [d1, d2] }
  | _ => none }
def FnExactChanceAtLeastWrongFalsely : Prop := fnExactChanceAtLeastRow.holds Try.pinned (OpenSpec.ofChange fnExactChanceAtLeastWrong)

/-- 'laws.FnExactMeanOf': WHATEVER THE INPUT: true; the input reads as it did. -/
def fnExactMeanOfSpec : ChangeSpec := { name := "fnExactMeanOf", fn := fun _ => fun
  | [d] => { results := [.lit (.bool true)], args := [d] }
  | _ => none }
def fnExactMeanOfRow : OpenClaim := { program := "ytllcjgladjcoaab", sum := "9579ca17f561c1dd12555b33b0db149fe84f8d2416b4911a2e065af559e0fa14", func := "loop.example/g01210/laws.FnExactMeanOf", spec := "fnExactMeanOf", unfollowed := true, recurses := true, apart := false }
def FnExactMeanOfSaid : Prop := fnExactMeanOfRow.holds Try.pinned (OpenSpec.ofChange fnExactMeanOfSpec)

/-- ITS FALSE NEIGHBOUR: 'it returns false'. Refute it at one input. -/
def fnExactMeanOfWrong : ChangeSpec := { name := "fnExactMeanOf", fn := fun _ => fun
  | [d] => { results := [.lit (.bool false)], args := [d] }
  | _ => none }
def FnExactMeanOfWrongFalsely : Prop := fnExactMeanOfRow.holds Try.pinned (OpenSpec.ofChange fnExactMeanOfWrong)

/-- 'laws.FnExactSpreadOf': WHATEVER THE INPUT: true; the input reads as it did. -/
def fnExactSpreadOfSpec : ChangeSpec := { name := "fnExactSpreadOf", fn := fun _ => fun
  | [d] => { results := [.lit (.bool true)], args := [d] }
  | _ => none }
def fnExactSpreadOfRow : OpenClaim := { program := "ytllcjgladjcoaab", sum := "9579ca17f561c1dd12555b33b0db149fe84f8d2416b4911a2e065af559e0fa14", func := "loop.example/g01210/laws.FnExactSpreadOf", spec := "fnExactSpreadOf", unfollowed := true, recurses := true, apart := false }
def FnExactSpreadOfSaid : Prop := fnExactSpreadOfRow.holds Try.pinned (OpenSpec.ofChange fnExactSpreadOfSpec)

/-- ITS FALSE NEIGHBOUR: 'it returns false'. Refute it at one input. -/
def fnExactSpreadOfWrong : ChangeSpec := { name := "fnExactSpreadOf", fn := fun _ => fun
  | [d] => { results := [.lit (.bool false)], args := [d] }
  | _ => none }
def FnExactSpreadOfWrongFalsely : Prop := fnExactSpreadOfRow.holds Try.pinned (OpenSpec.ofChange fnExactSpreadOfWrong)

/-- 'laws.FnExactBoundsOf': WHATEVER THE INPUT: true; the input reads as it did. -/
def fnExactBoundsOfSpec : ChangeSpec := { name := "fnExactBoundsOf", fn := fun _ => fun
  | [d] => { results := [.lit (.bool true)], args := [d] }
  | _ => none }
def fnExactBoundsOfRow : OpenClaim := { program := "ytllcjgladjcoaab", sum := "9579ca17f561c1dd12555b33b0db149fe84f8d2416b4911a2e065af559e0fa14", func := "loop.example/g01210/laws.FnExactBoundsOf", spec := "fnExactBoundsOf", unfollowed := true, recurses := true, apart := false }
def FnExactBoundsOfSaid : Prop := fnExactBoundsOfRow.holds Try.pinned (OpenSpec.ofChange fnExactBoundsOfSpec)

/-- ITS FALSE NEIGHBOUR: 'it returns false'. Refute it at one input. -/
def fnExactBoundsOfWrong : ChangeSpec := { name := "fnExactBoundsOf", fn := fun _ => fun
  | [d] => { results := [.lit (.bool false)], args := [d] }
  | _ => none }
def FnExactBoundsOfWrongFalsely : Prop := fnExactBoundsOfRow.holds Try.pinned (OpenSpec.ofChange fnExactBoundsOfWrong)

/-- 'laws.FnExactCountFaces': WHATEVER THE INPUT: true; the input reads as it did. -/
def fnExactCountFacesSpec : ChangeSpec := { name := "fnExactCountFaces", fn := fun _ => fun
  | [d] => { results := [.lit (.bool true)], args := [d] }
  | _ => none }
def fnExactCountFacesRow : OpenClaim := { program := "ytllcjgladjcoaab", sum := "9579ca17f561c1dd12555b33b0db149fe84f8d2416b4911a2e065af559e0fa14", func := "loop.example/g01210/laws.FnExactCountFaces", spec := "fnExactCountFaces", recurses := true, apart := false }
def FnExactCountFacesSaid : Prop := fnExactCountFacesRow.holds Try.pinned (OpenSpec.ofChange fnExactCountFacesSpec)

/-- ITS FALSE NEIGHBOUR: 'it returns false'. Refute it at one input. -/
def fnExactCountFacesWrong : ChangeSpec := { name := "fnExactCountFaces", fn := fun _ => fun
  | [d] => { results := [.lit (.bool false)], args := [d] }
  | _ => none }
def FnExactCountFacesWrongFalsely : Prop := fnExactCountFacesRow.holds Try.pinned (OpenSpec.ofChange fnExactCountFacesWrong)

/-- 'laws.FnExactChanceToBeat': WHATEVER THE INPUT: true; the input reads as it did. -/
def fnExactChanceToBeatSpec : ChangeSpec := { name := "fnExactChanceToBeat", fn := fun _ => fun
  | [d1, d2] => { results := [.lit (.bool true)], args := [d1, d2] }
  | _ => none }
def fnExactChanceToBeatRow : OpenClaim := { program := "ytllcjgladjcoaab", sum := "9579ca17f561c1dd12555b33b0db149fe84f8d2416b4911a2e065af559e0fa14", func := "loop.example/g01210/laws.FnExactChanceToBeat", spec := "fnExactChanceToBeat", recurses := true, apart := false }
def FnExactChanceToBeatSaid : Prop := fnExactChanceToBeatRow.holds Try.pinned (OpenSpec.ofChange fnExactChanceToBeatSpec)

/-- ITS FALSE NEIGHBOUR: 'it returns false'. Refute it at one input. -/
def fnExactChanceToBeatWrong : ChangeSpec := { name := "fnExactChanceToBeat", fn := fun _ => fun
  | [d1, d2] => { results := [.lit (.bool false)], args := [d1, d2] }
  | _ => none }
def FnExactChanceToBeatWrongFalsely : Prop := fnExactChanceToBeatRow.holds Try.pinned (OpenSpec.ofChange fnExactChanceToBeatWrong)

/-- 'laws.FnExactChanceLevel': WHATEVER THE INPUT: true; the input reads as it did. -/
def fnExactChanceLevelSpec : ChangeSpec := { name := "fnExactChanceLevel", fn := fun _ => fun
  | [d1, d2] => { results := [.lit (.bool true)], args := [d1, d2] }
  | _ => none }
def fnExactChanceLevelRow : OpenClaim := { program := "ytllcjgladjcoaab", sum := "9579ca17f561c1dd12555b33b0db149fe84f8d2416b4911a2e065af559e0fa14", func := "loop.example/g01210/laws.FnExactChanceLevel", spec := "fnExactChanceLevel", recurses := true, apart := false }
def FnExactChanceLevelSaid : Prop := fnExactChanceLevelRow.holds Try.pinned (OpenSpec.ofChange fnExactChanceLevelSpec)

/-- ITS FALSE NEIGHBOUR: 'it returns false'. Refute it at one input. -/
def fnExactChanceLevelWrong : ChangeSpec := { name := "fnExactChanceLevel", fn := fun _ => fun
  | [d1, d2] => { results := [.lit (.bool false)], args := [d1, d2] }
  | _ => none }
def FnExactChanceLevelWrongFalsely : Prop := fnExactChanceLevelRow.holds Try.pinned (OpenSpec.ofChange fnExactChanceLevelWrong)

/-- 'laws.FnExactTopSums': WHATEVER THE INPUT: true; the input reads as it did. -/
def fnExactTopSumsSpec : ChangeSpec := { name := "fnExactTopSums", fn := fun _ => fun
  | [d] => { results := [.lit (.bool true)], args := [d] }
  | _ => none }
def fnExactTopSumsRow : OpenClaim := { program := "ytllcjgladjcoaab", sum := "9579ca17f561c1dd12555b33b0db149fe84f8d2416b4911a2e065af559e0fa14", func := "loop.example/g01210/laws.FnExactTopSums", spec := "fnExactTopSums", recurses := true, apart := false }
def FnExactTopSumsSaid : Prop := fnExactTopSumsRow.holds Try.pinned (OpenSpec.ofChange fnExactTopSumsSpec)

/-- ITS FALSE NEIGHBOUR: 'it returns false'. Refute it at one input. -/
def fnExactTopSumsWrong : ChangeSpec := { name := "fnExactTopSums", fn := fun _ => fun
  | [d] => { results := [.lit (.bool false)], args := [d] }
  | _ => none }
def FnExactTopSumsWrongFalsely : Prop := fnExactTopSumsRow.holds Try.pinned (OpenSpec.ofChange fnExactTopSumsWrong)

/-- 'laws.FnExactRollAt': WHATEVER THE INPUT: true; the input reads as it did. -/
def fnExactRollAtSpec : ChangeSpec := { name := "fnExactRollAt", fn := fun _ => fun
  | [d1, d2] => { results := [.lit (.bool true)], args := [d1, d2] }
  | _ => none }
def fnExactRollAtRow : OpenClaim := { program := "ytllcjgladjcoaab", sum := "9579ca17f561c1dd12555b33b0db149fe84f8d2416b4911a2e065af559e0fa14", func := "loop.example/g01210/laws.FnExactRollAt", spec := "fnExactRollAt", recurses := true, apart := false }
def FnExactRollAtSaid : Prop := fnExactRollAtRow.holds Try.pinned (OpenSpec.ofChange fnExactRollAtSpec)

/-- ITS FALSE NEIGHBOUR: 'it returns false'. Refute it at one input. -/
def fnExactRollAtWrong : ChangeSpec := { name := "fnExactRollAt", fn := fun _ => fun
  | [d1, d2] => { results := [.lit (.bool false)], args := [d1, d2] }
  | _ => none }
def FnExactRollAtWrongFalsely : Prop := fnExactRollAtRow.holds Try.pinned (OpenSpec.ofChange fnExactRollAtWrong)

/- THE SECOND FORM. 'bulk': how many values and letters a reading holds, each counted each time it is reached (what is shared counts as often as it is met; a slice's spare places count too). A statement '..UptoSaid' is the law's where the arguments, and the package variables that the reading takes, are together of bulk at most 1048576: NARROWER than '..Said'. Prove '..Said' where nothing that the law and all that it calls make is longer than what came in: it says more and counts as full. Else prove '..UptoSaid'. A law counts once. -/
mutual
def uptoBulk {H : Type} : DataW H → Nat
  | .lit (.string bytes) => bytes.length + 1
  | .lit _ => 1
  | .nil => 1
  | .ptr d => uptoBulk d + 1
  | .slice elems spare => uptoBulkAll elems + uptoBulkAll spare + 1
  | .agg parts => uptoBulkAll parts + 1
  | .iface _ d => uptoBulk d + 1
  | .map entries => uptoBulkEntries entries + 1
  | .held _ => 1
def uptoBulkAll {H : Type} : List (DataW H) → Nat
  | [] => 0
  | d :: r => uptoBulk d + uptoBulkAll r
def uptoBulkEntries {H : Type} : List (Lit × DataW H) → Nat
  | [] => 0
  | x :: r => uptoBulkEntry x + uptoBulkEntries r
def uptoBulkEntry {H : Type} : Lit × DataW H → Nat
  | (.string bytes, d) => bytes.length + uptoBulk d + 1
  | (_, d) => uptoBulk d + 1
 end
def uptoSmall : (H : Type) → List (DataW H) → Bool := fun _ ds => decide (uptoBulkAll ds ≤ 1048576)
def OpenSpec.upto (s : _root_.Go.ChangeSpec) : _root_.Go.OpenSpec := { _root_.Go.OpenSpec.ofChange s with cond := some uptoSmall }

/-- 'laws.FnExactIsPool', WHERE WHAT IT READS IS OF BULK AT MOST 1048576: true; the input reads as it did. -/
def fnExactIsPoolUptoRow : OpenClaim := { program := "ytllcjgladjcoaab", sum := "9579ca17f561c1dd12555b33b0db149fe84f8d2416b4911a2e065af559e0fa14", func := "loop.example/g01210/laws.FnExactIsPool", spec := "fnExactIsPool", recurses := true, apart := false, narrowed := true }
def FnExactIsPoolUptoSaid : Prop := fnExactIsPoolUptoRow.holds Try.pinned (OpenSpec.upto fnExactIsPoolSpec)

/-- 'laws.FnExactSumTable', WHERE WHAT IT READS IS OF BULK AT MOST 1048576: true; the input reads as it did. -/
def fnExactSumTableUptoRow : OpenClaim := { program := "ytllcjgladjcoaab", sum := "9579ca17f561c1dd12555b33b0db149fe84f8d2416b4911a2e065af559e0fa14", func := "loop.example/g01210/laws.FnExactSumTable", spec := "fnExactSumTable", recurses := true, apart := false, narrowed := true }
def FnExactSumTableUptoSaid : Prop := fnExactSumTableUptoRow.holds Try.pinned (OpenSpec.upto fnExactSumTableSpec)

/-- 'laws.FnExactChanceOfSum', WHERE WHAT IT READS IS OF BULK AT MOST 1048576: true; the input reads as it did. -/
def fnExactChanceOfSumUptoRow : OpenClaim := { program := "ytllcjgladjcoaab", sum := "9579ca17f561c1dd12555b33b0db149fe84f8d2416b4911a2e065af559e0fa14", func := "loop.example/g01210/laws.FnExactChanceOfSum", spec := "fnExactChanceOfSum", recurses := true, apart := false, narrowed := true }
def FnExactChanceOfSumUptoSaid : Prop := fnExactChanceOfSumUptoRow.holds Try.pinned (OpenSpec.upto fnExactChanceOfSumSpec)

/-- 'laws.FnExactChanceAtLeast', WHERE WHAT IT READS IS OF BULK AT MOST 1048576: true; the input reads as it did. -/
def fnExactChanceAtLeastUptoRow : OpenClaim := { program := "ytllcjgladjcoaab", sum := "9579ca17f561c1dd12555b33b0db149fe84f8d2416b4911a2e065af559e0fa14", func := "loop.example/g01210/laws.FnExactChanceAtLeast", spec := "fnExactChanceAtLeast", recurses := true, apart := false, narrowed := true }
def FnExactChanceAtLeastUptoSaid : Prop := fnExactChanceAtLeastUptoRow.holds Try.pinned (OpenSpec.upto fnExactChanceAtLeastSpec)

/-- 'laws.FnExactMeanOf', WHERE WHAT IT READS IS OF BULK AT MOST 1048576: true; the input reads as it did. -/
def fnExactMeanOfUptoRow : OpenClaim := { program := "ytllcjgladjcoaab", sum := "9579ca17f561c1dd12555b33b0db149fe84f8d2416b4911a2e065af559e0fa14", func := "loop.example/g01210/laws.FnExactMeanOf", spec := "fnExactMeanOf", unfollowed := true, recurses := true, apart := false, narrowed := true }
def FnExactMeanOfUptoSaid : Prop := fnExactMeanOfUptoRow.holds Try.pinned (OpenSpec.upto fnExactMeanOfSpec)

/-- 'laws.FnExactSpreadOf', WHERE WHAT IT READS IS OF BULK AT MOST 1048576: true; the input reads as it did. -/
def fnExactSpreadOfUptoRow : OpenClaim := { program := "ytllcjgladjcoaab", sum := "9579ca17f561c1dd12555b33b0db149fe84f8d2416b4911a2e065af559e0fa14", func := "loop.example/g01210/laws.FnExactSpreadOf", spec := "fnExactSpreadOf", unfollowed := true, recurses := true, apart := false, narrowed := true }
def FnExactSpreadOfUptoSaid : Prop := fnExactSpreadOfUptoRow.holds Try.pinned (OpenSpec.upto fnExactSpreadOfSpec)

/-- 'laws.FnExactBoundsOf', WHERE WHAT IT READS IS OF BULK AT MOST 1048576: true; the input reads as it did. -/
def fnExactBoundsOfUptoRow : OpenClaim := { program := "ytllcjgladjcoaab", sum := "9579ca17f561c1dd12555b33b0db149fe84f8d2416b4911a2e065af559e0fa14", func := "loop.example/g01210/laws.FnExactBoundsOf", spec := "fnExactBoundsOf", unfollowed := true, recurses := true, apart := false, narrowed := true }
def FnExactBoundsOfUptoSaid : Prop := fnExactBoundsOfUptoRow.holds Try.pinned (OpenSpec.upto fnExactBoundsOfSpec)

/-- 'laws.FnExactCountFaces', WHERE WHAT IT READS IS OF BULK AT MOST 1048576: true; the input reads as it did. -/
def fnExactCountFacesUptoRow : OpenClaim := { program := "ytllcjgladjcoaab", sum := "9579ca17f561c1dd12555b33b0db149fe84f8d2416b4911a2e065af559e0fa14", func := "loop.example/g01210/laws.FnExactCountFaces", spec := "fnExactCountFaces", recurses := true, apart := false, narrowed := true }
def FnExactCountFacesUptoSaid : Prop := fnExactCountFacesUptoRow.holds Try.pinned (OpenSpec.upto fnExactCountFacesSpec)

/-- 'laws.FnExactChanceToBeat', WHERE WHAT IT READS IS OF BULK AT MOST 1048576: true; the input reads as it did. -/
def fnExactChanceToBeatUptoRow : OpenClaim := { program := "ytllcjgladjcoaab", sum := "9579ca17f561c1dd12555b33b0db149fe84f8d2416b4911a2e065af559e0fa14", func := "loop.example/g01210/laws.FnExactChanceToBeat", spec := "fnExactChanceToBeat", recurses := true, apart := false, narrowed := true }
def FnExactChanceToBeatUptoSaid : Prop := fnExactChanceToBeatUptoRow.holds Try.pinned (OpenSpec.upto fnExactChanceToBeatSpec)

/-- 'laws.FnExactChanceLevel', WHERE WHAT IT READS IS OF BULK AT MOST 1048576: true; the input reads as it did. -/
def fnExactChanceLevelUptoRow : OpenClaim := { program := "ytllcjgladjcoaab", sum := "9579ca17f561c1dd12555b33b0db149fe84f8d2416b4911a2e065af559e0fa14", func := "loop.example/g01210/laws.FnExactChanceLevel", spec := "fnExactChanceLevel", recurses := true, apart := false, narrowed := true }
def FnExactChanceLevelUptoSaid : Prop := fnExactChanceLevelUptoRow.holds Try.pinned (OpenSpec.upto fnExactChanceLevelSpec)

/-- 'laws.FnExactTopSums', WHERE WHAT IT READS IS OF BULK AT MOST 1048576: true; the input reads as it did. -/
def fnExactTopSumsUptoRow : OpenClaim := { program := "ytllcjgladjcoaab", sum := "9579ca17f561c1dd12555b33b0db149fe84f8d2416b4911a2e065af559e0fa14", func := "loop.example/g01210/laws.FnExactTopSums", spec := "fnExactTopSums", recurses := true, apart := false, narrowed := true }
def FnExactTopSumsUptoSaid : Prop := fnExactTopSumsUptoRow.holds Try.pinned (OpenSpec.upto fnExactTopSumsSpec)

/-- 'laws.FnExactRollAt', WHERE WHAT IT READS IS OF BULK AT MOST 1048576: true; the input reads as it did. -/
def fnExactRollAtUptoRow : OpenClaim := { program := "ytllcjgladjcoaab", sum := "9579ca17f561c1dd12555b33b0db149fe84f8d2416b4911a2e065af559e0fa14", func := "loop.example/g01210/laws.FnExactRollAt", spec := "fnExactRollAt", recurses := true, apart := false, narrowed := true }
def FnExactRollAtUptoSaid : Prop := fnExactRollAtUptoRow.holds Try.pinned (OpenSpec.upto fnExactRollAtSpec)

end Rows
end Go.Proofs.Ytllcjgladjcoaab
