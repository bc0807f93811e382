/-
  No cell of these rows narrows 'for every input' (looked for: loops, veiled, ifaces, maps, wideKeys, modest, calm, conditions, laid).
  DERIVED. THE GIVEN ROWS OF THIS SEAT. 15 by the template 'for every input the law returns true; each argument reads behind the call as it read before'; 0 by the template 'total and deterministic' (their statements: YtiiknpebphpeiaaTotals.lean).
  GIVEN WITH THE SEED: the statements are not yours to turn. If you find one false, say at which input.
  Laid BY PROGRAM, IN A SANDBOX (cutbox-rows.mjs): the forced cells as the released guide's own fill.sh prints them over the translation a874d18664d9f6e5… (all of the seat's roots in one cut). By AI agents, Wed Nov 11 2026. No macro, syntax, notation, axiom, sorry.
-/
import Derived.Test.YtiiknpebphpeiaaChecked
import GoSem.Claim
import GoSem.ClaimJoined
import GoSem.ClaimMapViews
import Derived.JoinedTies
import Derived.KernelRfl
namespace Go.Proofs.Ytiiknpebphpeiaa
/- THE CELL 'sum', in the pinned program and in every row, IS THE sha256 OF THE DUMP (.gsa) THAT YtiiknpebphpeiaaProg.lean LOADS. Nothing in Lean hashes anything: it is a label: what it is worth is what the hold of that sum in a sandbox is worth. -/
noncomputable def Try.pinned : Pinned := { name := "ytiiknpebphpeiaa", sum := "a874d18664d9f6e514e3e32bcfb87f0e97acf083d5b1f72bb428abddbfd8b843", checked := Try.checked }
namespace Rows
def none {H : Type} : Left H := { results := [], args := [] }

/-- 'laws.FnExactOrderOf': WHATEVER THE INPUT: true; the input reads as it did. -/
def fnExactOrderOfSpec : ChangeSpec := { name := "fnExactOrderOf", fn := fun _ => fun
  | [d1, d2] => { results := [.lit (.bool true)], args := [d1, d2] }
  | _ => none }
def fnExactOrderOfRow : OpenClaim := { program := "ytiiknpebphpeiaa", sum := "a874d18664d9f6e514e3e32bcfb87f0e97acf083d5b1f72bb428abddbfd8b843", func := "loop.example/g01210/laws.FnExactOrderOf", spec := "fnExactOrderOf", recurses := true, plainKeys := false, apart := false }
def FnExactOrderOfSaid : Prop := fnExactOrderOfRow.holds Try.pinned (OpenSpec.ofChange fnExactOrderOfSpec)

/-- ITS FALSE NEIGHBOUR: 'it returns false'. Refute it at one input. -/
def fnExactOrderOfWrong : ChangeSpec := { name := "fnExactOrderOf", fn := fun _ => fun
  | [d1, d2] => { results := [.lit (.bool false)], args := [d1, d2] }
  | _ => none }
def FnExactOrderOfWrongFalsely : Prop := fnExactOrderOfRow.holds Try.pinned (OpenSpec.ofChange fnExactOrderOfWrong)

/-- 'laws.FnExactOrdersOf': WHATEVER THE INPUT: true; the input reads as it did. -/
def fnExactOrdersOfSpec : ChangeSpec := { name := "fnExactOrdersOf", fn := fun _ => fun
  | [d] => { results := [.lit (.bool true)], args := [d] }
  | _ => none }
def fnExactOrdersOfRow : OpenClaim := { program := "ytiiknpebphpeiaa", sum := "a874d18664d9f6e514e3e32bcfb87f0e97acf083d5b1f72bb428abddbfd8b843", func := "loop.example/g01210/laws.FnExactOrdersOf", spec := "fnExactOrdersOf", plainKeys := false, apart := false }
def FnExactOrdersOfSaid : Prop := fnExactOrdersOfRow.holds Try.pinned (OpenSpec.ofChange fnExactOrdersOfSpec)

/-- ITS FALSE NEIGHBOUR: 'it returns false'. Refute it at one input. -/
def fnExactOrdersOfWrong : ChangeSpec := { name := "fnExactOrdersOf", fn := fun _ => fun
  | [d] => { results := [.lit (.bool false)], args := [d] }
  | _ => none }
def FnExactOrdersOfWrongFalsely : Prop := fnExactOrdersOfRow.holds Try.pinned (OpenSpec.ofChange fnExactOrdersOfWrong)

/-- 'laws.FnExactOrderWays': WHATEVER THE INPUT: true; the input reads as it did. -/
def fnExactOrderWaysSpec : ChangeSpec := { name := "fnExactOrderWays", fn := fun _ => fun
  | [d] => { results := [.lit (.bool true)], args := [d] }
  | _ => none }
def fnExactOrderWaysRow : OpenClaim := { program := "ytiiknpebphpeiaa", sum := "a874d18664d9f6e514e3e32bcfb87f0e97acf083d5b1f72bb428abddbfd8b843", func := "loop.example/g01210/laws.FnExactOrderWays", spec := "fnExactOrderWays", recurses := true, plainKeys := false, apart := false }
def FnExactOrderWaysSaid : Prop := fnExactOrderWaysRow.holds Try.pinned (OpenSpec.ofChange fnExactOrderWaysSpec)

/-- ITS FALSE NEIGHBOUR: 'it returns false'. Refute it at one input. -/
def fnExactOrderWaysWrong : ChangeSpec := { name := "fnExactOrderWays", fn := fun _ => fun
  | [d] => { results := [.lit (.bool false)], args := [d] }
  | _ => none }
def FnExactOrderWaysWrongFalsely : Prop := fnExactOrderWaysRow.holds Try.pinned (OpenSpec.ofChange fnExactOrderWaysWrong)

/-- 'laws.FnExactTieWays': WHATEVER THE INPUT: true; the input reads as it did. -/
def fnExactTieWaysSpec : ChangeSpec := { name := "fnExactTieWays", fn := fun _ => fun
  | [d] => { results := [.lit (.bool true)], args := [d] }
  | _ => none }
def fnExactTieWaysRow : OpenClaim := { program := "ytiiknpebphpeiaa", sum := "a874d18664d9f6e514e3e32bcfb87f0e97acf083d5b1f72bb428abddbfd8b843", func := "loop.example/g01210/laws.FnExactTieWays", spec := "fnExactTieWays", recurses := true, plainKeys := false, apart := false }
def FnExactTieWaysSaid : Prop := fnExactTieWaysRow.holds Try.pinned (OpenSpec.ofChange fnExactTieWaysSpec)

/-- ITS FALSE NEIGHBOUR: 'it returns false'. Refute it at one input. -/
def fnExactTieWaysWrong : ChangeSpec := { name := "fnExactTieWays", fn := fun _ => fun
  | [d] => { results := [.lit (.bool false)], args := [d] }
  | _ => none }
def FnExactTieWaysWrongFalsely : Prop := fnExactTieWaysRow.holds Try.pinned (OpenSpec.ofChange fnExactTieWaysWrong)

/-- 'laws.FnExactWaysAt': WHATEVER THE INPUT: true; the input reads as it did. -/
def fnExactWaysAtSpec : ChangeSpec := { name := "fnExactWaysAt", fn := fun _ => fun
  | [d1, d2, d3] => { results := [.lit (.bool true)], args := [d1, d2, d3] }
  | _ => none }
def fnExactWaysAtRow : OpenClaim := { program := "ytiiknpebphpeiaa", sum := "a874d18664d9f6e514e3e32bcfb87f0e97acf083d5b1f72bb428abddbfd8b843", func := "loop.example/g01210/laws.FnExactWaysAt", spec := "fnExactWaysAt", recurses := true, plainKeys := false, apart := false }
def FnExactWaysAtSaid : Prop := fnExactWaysAtRow.holds Try.pinned (OpenSpec.ofChange fnExactWaysAtSpec)

/-- ITS FALSE NEIGHBOUR: 'it returns false'. Refute it at one input. -/
def fnExactWaysAtWrong : ChangeSpec := { name := "fnExactWaysAt", fn := fun _ => fun
  | [d1, d2, d3] => { results := [.lit (.bool false)], args := [d1, d2, d3] }
  | _ => none }
def FnExactWaysAtWrongFalsely : Prop := fnExactWaysAtRow.holds Try.pinned (OpenSpec.ofChange fnExactWaysAtWrong)

/-- 'laws.FnExactIsOrderFair': WHATEVER THE INPUT: true; the input reads as it did. -/
def fnExactIsOrderFairSpec : ChangeSpec := { name := "fnExactIsOrderFair", fn := fun _ => fun
  | [d] => { results := [.lit (.bool true)], args := [d] }
  | _ => none }
def fnExactIsOrderFairRow : OpenClaim := { program := "ytiiknpebphpeiaa", sum := "a874d18664d9f6e514e3e32bcfb87f0e97acf083d5b1f72bb428abddbfd8b843", func := "loop.example/g01210/laws.FnExactIsOrderFair", spec := "fnExactIsOrderFair", recurses := true, plainKeys := false, apart := false }
def FnExactIsOrderFairSaid : Prop := fnExactIsOrderFairRow.holds Try.pinned (OpenSpec.ofChange fnExactIsOrderFairSpec)

/-- ITS FALSE NEIGHBOUR: 'it returns false'. Refute it at one input. -/
def fnExactIsOrderFairWrong : ChangeSpec := { name := "fnExactIsOrderFair", fn := fun _ => fun
  | [d] => { results := [.lit (.bool false)], args := [d] }
  | _ => none }
def FnExactIsOrderFairWrongFalsely : Prop := fnExactIsOrderFairRow.holds Try.pinned (OpenSpec.ofChange fnExactIsOrderFairWrong)

/-- 'laws.FnExactIsPlaceFair': WHATEVER THE INPUT: true; the input reads as it did. -/
def fnExactIsPlaceFairSpec : ChangeSpec := { name := "fnExactIsPlaceFair", fn := fun _ => fun
  | [d] => { results := [.lit (.bool true)], args := [d] }
  | _ => none }
def fnExactIsPlaceFairRow : OpenClaim := { program := "ytiiknpebphpeiaa", sum := "a874d18664d9f6e514e3e32bcfb87f0e97acf083d5b1f72bb428abddbfd8b843", func := "loop.example/g01210/laws.FnExactIsPlaceFair", spec := "fnExactIsPlaceFair", recurses := true, plainKeys := false, apart := false }
def FnExactIsPlaceFairSaid : Prop := fnExactIsPlaceFairRow.holds Try.pinned (OpenSpec.ofChange fnExactIsPlaceFairSpec)

/-- ITS FALSE NEIGHBOUR: 'it returns false'. Refute it at one input. -/
def fnExactIsPlaceFairWrong : ChangeSpec := { name := "fnExactIsPlaceFair", fn := fun _ => fun
  | [d] => { results := [.lit (.bool false)], args := [d] }
  | _ => none }
def FnExactIsPlaceFairWrongFalsely : Prop := fnExactIsPlaceFairRow.holds Try.pinned (OpenSpec.ofChange fnExactIsPlaceFairWrong)

/-- 'laws.FnExactIsFirstFair': WHATEVER THE INPUT: true; the input reads as it did. -/
def fnExactIsFirstFairSpec : ChangeSpec := { name := "fnExactIsFirstFair", fn := fun _ => fun
  | [d] => { results := [.lit (.bool true)], args := [d] }
  | _ => none }
def fnExactIsFirstFairRow : OpenClaim := { program := "ytiiknpebphpeiaa", sum := "a874d18664d9f6e514e3e32bcfb87f0e97acf083d5b1f72bb428abddbfd8b843", func := "loop.example/g01210/laws.FnExactIsFirstFair", spec := "fnExactIsFirstFair", recurses := true, plainKeys := false, apart := false }
def FnExactIsFirstFairSaid : Prop := fnExactIsFirstFairRow.holds Try.pinned (OpenSpec.ofChange fnExactIsFirstFairSpec)

/-- ITS FALSE NEIGHBOUR: 'it returns false'. Refute it at one input. -/
def fnExactIsFirstFairWrong : ChangeSpec := { name := "fnExactIsFirstFair", fn := fun _ => fun
  | [d] => { results := [.lit (.bool false)], args := [d] }
  | _ => none }
def FnExactIsFirstFairWrongFalsely : Prop := fnExactIsFirstFairRow.holds Try.pinned (OpenSpec.ofChange fnExactIsFirstFairWrong)

/-- 'laws.FnExactIsTieless': WHATEVER THE INPUT: true; the input reads as it did. -/
def fnExactIsTielessSpec : ChangeSpec := { name := "fnExactIsTieless", fn := fun _ => fun
  | [d] => { results := [.lit (.bool true)], args := [d] }
  | _ => none }
def fnExactIsTielessRow : OpenClaim := { program := "ytiiknpebphpeiaa", sum := "a874d18664d9f6e514e3e32bcfb87f0e97acf083d5b1f72bb428abddbfd8b843", func := "loop.example/g01210/laws.FnExactIsTieless", spec := "fnExactIsTieless", unfollowed := true, recurses := true, plainKeys := false, apart := false }
def FnExactIsTielessSaid : Prop := fnExactIsTielessRow.holds Try.pinned (OpenSpec.ofChange fnExactIsTielessSpec)

/-- ITS FALSE NEIGHBOUR: 'it returns false'. Refute it at one input. -/
def fnExactIsTielessWrong : ChangeSpec := { name := "fnExactIsTieless", fn := fun _ => fun
  | [d] => { results := [.lit (.bool false)], args := [d] }
  | _ => none }
def FnExactIsTielessWrongFalsely : Prop := fnExactIsTielessRow.holds Try.pinned (OpenSpec.ofChange fnExactIsTielessWrong)

/-- 'laws.FnExactLettersOf': WHATEVER THE INPUT: true; the input reads as it did. -/
def fnExactLettersOfSpec : ChangeSpec := { name := "fnExactLettersOf", fn := fun _ => fun
  | [d] => { results := [.lit (.bool true)], args := [d] }
  | _ => none }
def fnExactLettersOfRow : OpenClaim := { program := "ytiiknpebphpeiaa", sum := "a874d18664d9f6e514e3e32bcfb87f0e97acf083d5b1f72bb428abddbfd8b843", func := "loop.example/g01210/laws.FnExactLettersOf", spec := "fnExactLettersOf", unfollowed := true, recurses := true, plainKeys := false, apart := false }
def FnExactLettersOfSaid : Prop := fnExactLettersOfRow.holds Try.pinned (OpenSpec.ofChange fnExactLettersOfSpec)

/-- ITS FALSE NEIGHBOUR: 'it returns false'. Refute it at one input. -/
def fnExactLettersOfWrong : ChangeSpec := { name := "fnExactLettersOf", fn := fun _ => fun
  | [d] => { results := [.lit (.bool false)], args := [d] }
  | _ => none }
def FnExactLettersOfWrongFalsely : Prop := fnExactLettersOfRow.holds Try.pinned (OpenSpec.ofChange fnExactLettersOfWrong)

/-- 'laws.FnExactFromLetters': WHATEVER THE INPUT: true; the input reads as it did. -/
def fnExactFromLettersSpec : ChangeSpec := { name := "fnExactFromLetters", fn := fun _ => fun
  | [d] => { results := [.lit (.bool true)], args := [d] }
  | _ => none }
def fnExactFromLettersRow : OpenClaim := { program := "ytiiknpebphpeiaa", sum := "a874d18664d9f6e514e3e32bcfb87f0e97acf083d5b1f72bb428abddbfd8b843", func := "loop.example/g01210/laws.FnExactFromLetters", spec := "fnExactFromLetters", plainKeys := false, apart := false }
def FnExactFromLettersSaid : Prop := fnExactFromLettersRow.holds Try.pinned (OpenSpec.ofChange fnExactFromLettersSpec)

/-- ITS FALSE NEIGHBOUR: 'it returns false'. Refute it at one input. -/
def fnExactFromLettersWrong : ChangeSpec := { name := "fnExactFromLetters", fn := fun _ => fun
  | [d] => { results := [.lit (.bool false)], args := [d] }
  | _ => none }
def FnExactFromLettersWrongFalsely : Prop := fnExactFromLettersRow.holds Try.pinned (OpenSpec.ofChange fnExactFromLettersWrong)

/-- 'laws.FnExactTurnLetters': WHATEVER THE INPUT: true; the input reads as it did. -/
def fnExactTurnLettersSpec : ChangeSpec := { name := "fnExactTurnLetters", fn := fun _ => fun
  | [d] => { results := [.lit (.bool true)], args := [d] }
  | _ => none }
def fnExactTurnLettersRow : OpenClaim := { program := "ytiiknpebphpeiaa", sum := "a874d18664d9f6e514e3e32bcfb87f0e97acf083d5b1f72bb428abddbfd8b843", func := "loop.example/g01210/laws.FnExactTurnLetters", spec := "fnExactTurnLetters", plainKeys := false, apart := false }
def FnExactTurnLettersSaid : Prop := fnExactTurnLettersRow.holds Try.pinned (OpenSpec.ofChange fnExactTurnLettersSpec)

/-- ITS FALSE NEIGHBOUR: 'it returns false'. Refute it at one input. -/
def fnExactTurnLettersWrong : ChangeSpec := { name := "fnExactTurnLetters", fn := fun _ => fun
  | [d] => { results := [.lit (.bool false)], args := [d] }
  | _ => none }
def FnExactTurnLettersWrongFalsely : Prop := fnExactTurnLettersRow.holds Try.pinned (OpenSpec.ofChange fnExactTurnLettersWrong)

/-- 'laws.FnExactLettersWays': WHATEVER THE INPUT: true; the input reads as it did. -/
def fnExactLettersWaysSpec : ChangeSpec := { name := "fnExactLettersWays", fn := fun _ => fun
  | [d] => { results := [.lit (.bool true)], args := [d] }
  | _ => none }
def fnExactLettersWaysRow : OpenClaim := { program := "ytiiknpebphpeiaa", sum := "a874d18664d9f6e514e3e32bcfb87f0e97acf083d5b1f72bb428abddbfd8b843", func := "loop.example/g01210/laws.FnExactLettersWays", spec := "fnExactLettersWays", recurses := true, plainKeys := false, apart := false }
def FnExactLettersWaysSaid : Prop := fnExactLettersWaysRow.holds Try.pinned (OpenSpec.ofChange fnExactLettersWaysSpec)

/-- ITS FALSE NEIGHBOUR: 'it returns false'. Refute it at one input. -/
def fnExactLettersWaysWrong : ChangeSpec := { name := "fnExactLettersWays", fn := fun _ => fun
  | [d] => { results := [.lit (.bool false)], args := [d] }
  | _ => none }
def FnExactLettersWaysWrongFalsely : Prop := fnExactLettersWaysRow.holds Try.pinned (OpenSpec.ofChange fnExactLettersWaysWrong)

/-- 'laws.FnExactCountEven': WHATEVER THE INPUT: true; the input reads as it did. -/
def fnExactCountEvenSpec : ChangeSpec := { name := "fnExactCountEven", fn := fun _ => fun
  | [d] => { results := [.lit (.bool true)], args := [d] }
  | _ => none }
def fnExactCountEvenRow : OpenClaim := { program := "ytiiknpebphpeiaa", sum := "a874d18664d9f6e514e3e32bcfb87f0e97acf083d5b1f72bb428abddbfd8b843", func := "loop.example/g01210/laws.FnExactCountEven", spec := "fnExactCountEven", plainKeys := false, apart := false }
def FnExactCountEvenSaid : Prop := fnExactCountEvenRow.holds Try.pinned (OpenSpec.ofChange fnExactCountEvenSpec)

/-- ITS FALSE NEIGHBOUR: 'it returns false'. Refute it at one input. -/
def fnExactCountEvenWrong : ChangeSpec := { name := "fnExactCountEven", fn := fun _ => fun
  | [d] => { results := [.lit (.bool false)], args := [d] }
  | _ => none }
def FnExactCountEvenWrongFalsely : Prop := fnExactCountEvenRow.holds Try.pinned (OpenSpec.ofChange fnExactCountEvenWrong)

/-- 'laws.FnExactMendLetters': WHATEVER THE INPUT: true; the input reads as it did. -/
def fnExactMendLettersSpec : ChangeSpec := { name := "fnExactMendLetters", fn := fun _ => fun
  | [d] => { results := [.lit (.bool true)], args := [d] }
  | _ => none }
def fnExactMendLettersRow : OpenClaim := { program := "ytiiknpebphpeiaa", sum := "a874d18664d9f6e514e3e32bcfb87f0e97acf083d5b1f72bb428abddbfd8b843", func := "loop.example/g01210/laws.FnExactMendLetters", spec := "fnExactMendLetters", recurses := true, plainKeys := false, apart := false }
def FnExactMendLettersSaid : Prop := fnExactMendLettersRow.holds Try.pinned (OpenSpec.ofChange fnExactMendLettersSpec)

/-- ITS FALSE NEIGHBOUR: 'it returns false'. Refute it at one input. -/
def fnExactMendLettersWrong : ChangeSpec := { name := "fnExactMendLetters", fn := fun _ => fun
  | [d] => { results := [.lit (.bool false)], args := [d] }
  | _ => none }
def FnExactMendLettersWrongFalsely : Prop := fnExactMendLettersRow.holds Try.pinned (OpenSpec.ofChange fnExactMendLettersWrong)

/- THE SECOND FORM. 'bulk': how many values and letters a reading holds, each counted each time it is reached (what is shared counts as often as it is met; a slice's spare places count too). A statement '..UptoSaid' is the law's where the arguments, and the package variables that the reading takes, are together of bulk at most 1048576: NARROWER than '..Said'. Prove '..Said' where nothing that the law and all that it calls make is longer than what came in: it says more and counts as full. Else prove '..UptoSaid'. A law counts once. -/
mutual
def uptoBulk {H : Type} : DataW H → Nat
  | .lit (.string bytes) => bytes.length + 1
  | .lit _ => 1
  | .nil => 1
  | .ptr d => uptoBulk d + 1
  | .slice elems spare => uptoBulkAll elems + uptoBulkAll spare + 1
  | .agg parts => uptoBulkAll parts + 1
  | .iface _ d => uptoBulk d + 1
  | .map entries => uptoBulkEntries entries + 1
  | .held _ => 1
def uptoBulkAll {H : Type} : List (DataW H) → Nat
  | [] => 0
  | d :: r => uptoBulk d + uptoBulkAll r
def uptoBulkEntries {H : Type} : List (Lit × DataW H) → Nat
  | [] => 0
  | x :: r => uptoBulkEntry x + uptoBulkEntries r
def uptoBulkEntry {H : Type} : Lit × DataW H → Nat
  | (.string bytes, d) => bytes.length + uptoBulk d + 1
  | (_, d) => uptoBulk d + 1
 end
def uptoSmall : (H : Type) → List (DataW H) → Bool := fun _ ds => decide (uptoBulkAll ds ≤ 1048576)
def OpenSpec.upto (s : _root_.Go.ChangeSpec) : _root_.Go.OpenSpec := { _root_.Go.OpenSpec.ofChange s with cond := some uptoSmall }

/-- 'laws.FnExactOrderOf', WHERE WHAT IT READS IS OF BULK AT MOST 1048576: true; the input reads as it did. -/
def fnExactOrderOfUptoRow : OpenClaim := { program := "ytiiknpebphpeiaa", sum := "a874d18664d9f6e514e3e32bcfb87f0e97acf083d5b1f72bb428abddbfd8b843", func := "loop.example/g01210/laws.FnExactOrderOf", spec := "fnExactOrderOf", recurses := true, plainKeys := false, apart := false, narrowed := true }
def FnExactOrderOfUptoSaid : Prop := fnExactOrderOfUptoRow.holds Try.pinned (OpenSpec.upto fnExactOrderOfSpec)

/-- 'laws.FnExactOrdersOf', WHERE WHAT IT READS IS OF BULK AT MOST 1048576: true; the input reads as it did. -/
def fnExactOrdersOfUptoRow : OpenClaim := { program := "ytiiknpebphpeiaa", sum := "a874d18664d9f6e514e3e32bcfb87f0e97acf083d5b1f72bb428abddbfd8b843", func := "loop.example/g01210/laws.FnExactOrdersOf", spec := "fnExactOrdersOf", plainKeys := false, apart := false, narrowed := true }
def FnExactOrdersOfUptoSaid : Prop := fnExactOrdersOfUptoRow.holds Try.pinned (OpenSpec.upto fnExactOrdersOfSpec)

/-- 'laws.FnExactOrderWays', WHERE WHAT IT READS IS OF BULK AT MOST 1048576: true; the input reads as it did. -/
def fnExactOrderWaysUptoRow : OpenClaim := { program := "ytiiknpebphpeiaa", sum := "a874d18664d9f6e514e3e32bcfb87f0e97acf083d5b1f72bb428abddbfd8b843", func := "loop.example/g01210/laws.FnExactOrderWays", spec := "fnExactOrderWays", recurses := true, plainKeys := false, apart := false, narrowed := true }
def FnExactOrderWaysUptoSaid : Prop := fnExactOrderWaysUptoRow.holds Try.pinned (OpenSpec.upto fnExactOrderWaysSpec)

/-- 'laws.FnExactTieWays', WHERE WHAT IT READS IS OF BULK AT MOST 1048576: true; the input reads as it did. -/
def fnExactTieWaysUptoRow : OpenClaim := { program := "ytiiknpebphpeiaa", sum := "a874d18664d9f6e514e3e32bcfb87f0e97acf083d5b1f72bb428abddbfd8b843", func := "loop.example/g01210/laws.FnExactTieWays", spec := "fnExactTieWays", recurses := true, plainKeys := false, apart := false, narrowed := true }
def FnExactTieWaysUptoSaid : Prop := fnExactTieWaysUptoRow.holds Try.pinned (OpenSpec.upto fnExactTieWaysSpec)

/-- 'laws.FnExactWaysAt', WHERE WHAT IT READS IS OF BULK AT MOST 1048576: true; the input reads as it did. -/
def fnExactWaysAtUptoRow : OpenClaim := { program := "ytiiknpebphpeiaa", sum := "a874d18664d9f6e514e3e32bcfb87f0e97acf083d5b1f72bb428abddbfd8b843", func := "loop.example/g01210/laws.FnExactWaysAt", spec := "fnExactWaysAt", recurses := true, plainKeys := false, apart := false, narrowed := true }
def FnExactWaysAtUptoSaid : Prop := fnExactWaysAtUptoRow.holds Try.pinned (OpenSpec.upto fnExactWaysAtSpec)

/-- 'laws.FnExactIsOrderFair', WHERE WHAT IT READS IS OF BULK AT MOST 1048576: true; the input reads as it did. -/
def fnExactIsOrderFairUptoRow : OpenClaim := { program := "ytiiknpebphpeiaa", sum := "a874d18664d9f6e514e3e32bcfb87f0e97acf083d5b1f72bb428abddbfd8b843", func := "loop.example/g01210/laws.FnExactIsOrderFair", spec := "fnExactIsOrderFair", recurses := true, plainKeys := false, apart := false, narrowed := true }
def FnExactIsOrderFairUptoSaid : Prop := fnExactIsOrderFairUptoRow.holds Try.pinned (OpenSpec.upto fnExactIsOrderFairSpec)

/-- 'laws.FnExactIsPlaceFair', WHERE WHAT IT READS IS OF BULK AT MOST 1048576: true; the input reads as it did. -/
def fnExactIsPlaceFairUptoRow : OpenClaim := { program := "ytiiknpebphpeiaa", sum := "a874d18664d9f6e514e3e32bcfb87f0e97acf083d5b1f72bb428abddbfd8b843", func := "loop.example/g01210/laws.FnExactIsPlaceFair", spec := "fnExactIsPlaceFair", recurses := true, plainKeys := false, apart := false, narrowed := true }
def FnExactIsPlaceFairUptoSaid : Prop := fnExactIsPlaceFairUptoRow.holds Try.pinned (OpenSpec.upto fnExactIsPlaceFairSpec)

/-- 'laws.FnExactIsFirstFair', WHERE WHAT IT READS IS OF BULK AT MOST 1048576: true; the input reads as it did. -/
def fnExactIsFirstFairUptoRow : OpenClaim := { program := "ytiiknpebphpeiaa", sum := "a874d18664d9f6e514e3e32bcfb87f0e97acf083d5b1f72bb428abddbfd8b843", func := "loop.example/g01210/laws.FnExactIsFirstFair", spec := "fnExactIsFirstFair", recurses := true, plainKeys := false, apart := false, narrowed := true }
def FnExactIsFirstFairUptoSaid : Prop := fnExactIsFirstFairUptoRow.holds Try.pinned (OpenSpec.upto fnExactIsFirstFairSpec)

/-- 'laws.FnExactIsTieless', WHERE WHAT IT READS IS OF BULK AT MOST 1048576: true; the input reads as it did. -/
def fnExactIsTielessUptoRow : OpenClaim := { program := "ytiiknpebphpeiaa", sum := "a874d18664d9f6e514e3e32bcfb87f0e97acf083d5b1f72bb428abddbfd8b843", func := "loop.example/g01210/laws.FnExactIsTieless", spec := "fnExactIsTieless", unfollowed := true, recurses := true, plainKeys := false, apart := false, narrowed := true }
def FnExactIsTielessUptoSaid : Prop := fnExactIsTielessUptoRow.holds Try.pinned (OpenSpec.upto fnExactIsTielessSpec)

/-- 'laws.FnExactLettersOf', WHERE WHAT IT READS IS OF BULK AT MOST 1048576: true; the input reads as it did. -/
def fnExactLettersOfUptoRow : OpenClaim := { program := "ytiiknpebphpeiaa", sum := "a874d18664d9f6e514e3e32bcfb87f0e97acf083d5b1f72bb428abddbfd8b843", func := "loop.example/g01210/laws.FnExactLettersOf", spec := "fnExactLettersOf", unfollowed := true, recurses := true, plainKeys := false, apart := false, narrowed := true }
def FnExactLettersOfUptoSaid : Prop := fnExactLettersOfUptoRow.holds Try.pinned (OpenSpec.upto fnExactLettersOfSpec)

/-- 'laws.FnExactFromLetters', WHERE WHAT IT READS IS OF BULK AT MOST 1048576: true; the input reads as it did. -/
def fnExactFromLettersUptoRow : OpenClaim := { program := "ytiiknpebphpeiaa", sum := "a874d18664d9f6e514e3e32bcfb87f0e97acf083d5b1f72bb428abddbfd8b843", func := "loop.example/g01210/laws.FnExactFromLetters", spec := "fnExactFromLetters", plainKeys := false, apart := false, narrowed := true }
def FnExactFromLettersUptoSaid : Prop := fnExactFromLettersUptoRow.holds Try.pinned (OpenSpec.upto fnExactFromLettersSpec)

/-- 'laws.FnExactTurnLetters', WHERE WHAT IT READS IS OF BULK AT MOST 1048576: true; the input reads as it did. -/
def fnExactTurnLettersUptoRow : OpenClaim := { program := "ytiiknpebphpeiaa", sum := "a874d18664d9f6e514e3e32bcfb87f0e97acf083d5b1f72bb428abddbfd8b843", func := "loop.example/g01210/laws.FnExactTurnLetters", spec := "fnExactTurnLetters", plainKeys := false, apart := false, narrowed := true }
def FnExactTurnLettersUptoSaid : Prop := fnExactTurnLettersUptoRow.holds Try.pinned (OpenSpec.upto fnExactTurnLettersSpec)

/-- 'laws.FnExactLettersWays', WHERE WHAT IT READS IS OF BULK AT MOST 1048576: true; the input reads as it did. -/
def fnExactLettersWaysUptoRow : OpenClaim := { program := "ytiiknpebphpeiaa", sum := "a874d18664d9f6e514e3e32bcfb87f0e97acf083d5b1f72bb428abddbfd8b843", func := "loop.example/g01210/laws.FnExactLettersWays", spec := "fnExactLettersWays", recurses := true, plainKeys := false, apart := false, narrowed := true }
def FnExactLettersWaysUptoSaid : Prop := fnExactLettersWaysUptoRow.holds Try.pinned (OpenSpec.upto fnExactLettersWaysSpec)

/-- 'laws.FnExactCountEven', WHERE WHAT IT READS IS OF BULK AT MOST 1048576: true; the input reads as it did. -/
def fnExactCountEvenUptoRow : OpenClaim := { program := "ytiiknpebphpeiaa", sum := "a874d18664d9f6e514e3e32bcfb87f0e97acf083d5b1f72bb428abddbfd8b843", func := "loop.example/g01210/laws.FnExactCountEven", spec := "fnExactCountEven", plainKeys := false, apart := false, narrowed := true }
def FnExactCountEvenUptoSaid : Prop := fnExactCountEvenUptoRow.holds Try.pinned (OpenSpec.upto fnExactCountEvenSpec)

/-- 'laws.FnExactMendLetters', WHERE WHAT IT READS IS OF BULK AT MOST 1048576: true; the input reads as it did. -/
def fnExactMendLettersUptoRow : OpenClaim := { program := "ytiiknpebphpeiaa", sum := "a874d18664d9f6e514e3e32bcfb87f0e97acf083d5b1f72bb428abddbfd8b843", func := "loop.example/g01210/laws.FnExactMendLetters", spec := "fnExactMendLetters", recurses := true, plainKeys := false, apart := false, narrowed := true }
def FnExactMendLettersUptoSaid : Prop := fnExactMendLettersUptoRow.holds Try.pinned (OpenSpec.upto fnExactMendLettersSpec)

end Rows
end Go.Proofs.Ytiiknpebphpeiaa
