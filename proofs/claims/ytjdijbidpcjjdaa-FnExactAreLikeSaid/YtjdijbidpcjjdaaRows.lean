/-
  No cell of these rows narrows 'for every input' (looked for: loops, veiled, ifaces, maps, wideKeys, modest, calm, conditions, laid).
  DERIVED. THE GIVEN ROWS OF THIS SEAT. 9 by the template 'for every input the law returns true; each argument reads behind the call as it read before'; 0 by the template 'total and deterministic' (their statements: YtjdijbidpcjjdaaTotals.lean).
  GIVEN WITH THE SEED: the statements are not yours to turn. If you find one false, say at which input.
  Laid BY PROGRAM, IN A SANDBOX (cutbox-rows.mjs): the forced cells as the released guide's own fill.sh prints them over the translation fcfa034edb5c0df0… (all of the seat's roots in one cut). By AI agents, Wed Nov 11 2026. No macro, syntax, notation, axiom, sorry.
-/
import Derived.Test.YtjdijbidpcjjdaaChecked
import GoSem.Claim
import GoSem.ClaimJoined
import GoSem.ClaimMapViews
import Derived.JoinedTies
import Derived.KernelRfl
namespace Go.Proofs.Ytjdijbidpcjjdaa
/- THE CELL 'sum', in the pinned program and in every row, IS THE sha256 OF THE DUMP (.gsa) THAT YtjdijbidpcjjdaaProg.lean LOADS. Nothing in Lean hashes anything: it is a label: what it is worth is what the hold of that sum in a sandbox is worth. -/
noncomputable def Try.pinned : Pinned := { name := "ytjdijbidpcjjdaa", sum := "fcfa034edb5c0df0fe401a4ae47430502ff38af2473071033ee2b772b23c53e8", checked := Try.checked }
namespace Rows
def none {H : Type} : Left H := { results := [], args := [] }

/-- 'laws.FnExactIsPair': WHATEVER THE INPUT: true; the input reads as it did. -/
def fnExactIsPairSpec : ChangeSpec := { name := "fnExactIsPair", fn := fun _ => fun
  | [d] => { results := [.lit (.bool true)], args := [d] }
  | _ => none }
def fnExactIsPairRow : OpenClaim := { program := "ytjdijbidpcjjdaa", sum := "fcfa034edb5c0df0fe401a4ae47430502ff38af2473071033ee2b772b23c53e8", func := "loop.example/g01210/laws.FnExactIsPair", spec := "fnExactIsPair", recurses := true, apart := false }
def FnExactIsPairSaid : Prop := fnExactIsPairRow.holds Try.pinned (OpenSpec.ofChange fnExactIsPairSpec)

/-- ITS FALSE NEIGHBOUR: 'it returns false'. Refute it at one input. -/
def fnExactIsPairWrong : ChangeSpec := { name := "fnExactIsPair", fn := fun _ => fun
  | [d] => { results := [.lit (.bool false)], args := [d] }
  | _ => none }
def FnExactIsPairWrongFalsely : Prop := fnExactIsPairRow.holds Try.pinned (OpenSpec.ofChange fnExactIsPairWrong)

/-- 'laws.FnExactPairOf': WHATEVER THE INPUT: true; the input reads as it did. -/
def fnExactPairOfSpec : ChangeSpec := { name := "fnExactPairOf", fn := fun _ => fun
  | [d1, d2] => { results := [.lit (.bool true)], args := [d1, d2] }
  | _ => none }
def fnExactPairOfRow : OpenClaim := { program := "ytjdijbidpcjjdaa", sum := "fcfa034edb5c0df0fe401a4ae47430502ff38af2473071033ee2b772b23c53e8", func := "loop.example/g01210/laws.FnExactPairOf", spec := "fnExactPairOf", recurses := true, apart := false }
def FnExactPairOfSaid : Prop := fnExactPairOfRow.holds Try.pinned (OpenSpec.ofChange fnExactPairOfSpec)

/-- ITS FALSE NEIGHBOUR: 'it returns false'. Refute it at one input. -/
def fnExactPairOfWrong : ChangeSpec := { name := "fnExactPairOf", fn := fun _ => fun
  | [d1, d2] => { results := [.lit (.bool false)], args := [d1, d2] }
  | _ => none }
def FnExactPairOfWrongFalsely : Prop := fnExactPairOfRow.holds Try.pinned (OpenSpec.ofChange fnExactPairOfWrong)

/-- 'laws.FnExactAreLike': WHATEVER THE INPUT: true; the input reads as it did. -/
def fnExactAreLikeSpec : ChangeSpec := { name := "fnExactAreLike", fn := fun _ => fun
  | [d1, d2] => { results := [.lit (.bool true)], args := [d1, d2] }
  | _ => none }
def fnExactAreLikeRow : OpenClaim := { program := "ytjdijbidpcjjdaa", sum := "fcfa034edb5c0df0fe401a4ae47430502ff38af2473071033ee2b772b23c53e8", func := "loop.example/g01210/laws.FnExactAreLike", spec := "fnExactAreLike", recurses := true, apart := false }
def FnExactAreLikeSaid : Prop := fnExactAreLikeRow.holds Try.pinned (OpenSpec.ofChange fnExactAreLikeSpec)

/-- ITS FALSE NEIGHBOUR: 'it returns false'. Refute it at one input. -/
def fnExactAreLikeWrong : ChangeSpec := { name := "fnExactAreLike", fn := fun _ => fun
  | [d1, d2] => { results := [.lit (.bool false)], args := [d1, d2] }
  | _ => none }
def FnExactAreLikeWrongFalsely : Prop := fnExactAreLikeRow.holds Try.pinned (OpenSpec.ofChange fnExactAreLikeWrong)

/-- 'laws.FnExactBaseOf': WHATEVER THE INPUT: true; the input reads as it did. -/
def fnExactBaseOfSpec : ChangeSpec := { name := "fnExactBaseOf", fn := fun _ => fun
  | [d] => { results := [.lit (.bool true)], args := [d] }
  | _ => none }
def fnExactBaseOfRow : OpenClaim := { program := "ytjdijbidpcjjdaa", sum := "fcfa034edb5c0df0fe401a4ae47430502ff38af2473071033ee2b772b23c53e8", func := "loop.example/g01210/laws.FnExactBaseOf", spec := "fnExactBaseOf", recurses := true, apart := false }
def FnExactBaseOfSaid : Prop := fnExactBaseOfRow.holds Try.pinned (OpenSpec.ofChange fnExactBaseOfSpec)

/-- ITS FALSE NEIGHBOUR: 'it returns false'. Refute it at one input. -/
def fnExactBaseOfWrong : ChangeSpec := { name := "fnExactBaseOf", fn := fun _ => fun
  | [d] => { results := [.lit (.bool false)], args := [d] }
  | _ => none }
def FnExactBaseOfWrongFalsely : Prop := fnExactBaseOfRow.holds Try.pinned (OpenSpec.ofChange fnExactBaseOfWrong)

/-- 'laws.FnExactShapeOf': WHATEVER THE INPUT: true; the input reads as it did. -/
def fnExactShapeOfSpec : ChangeSpec := { name := "fnExactShapeOf", fn := fun _ => fun
  | [d] => { results := [.lit (.bool true)], args := [d] }
  | _ => none }
def fnExactShapeOfRow : OpenClaim := { program := "ytjdijbidpcjjdaa", sum := "fcfa034edb5c0df0fe401a4ae47430502ff38af2473071033ee2b772b23c53e8", func := "loop.example/g01210/laws.FnExactShapeOf", spec := "fnExactShapeOf", recurses := true, apart := false }
def FnExactShapeOfSaid : Prop := fnExactShapeOfRow.holds Try.pinned (OpenSpec.ofChange fnExactShapeOfSpec)

/-- ITS FALSE NEIGHBOUR: 'it returns false'. Refute it at one input. -/
def fnExactShapeOfWrong : ChangeSpec := { name := "fnExactShapeOf", fn := fun _ => fun
  | [d] => { results := [.lit (.bool false)], args := [d] }
  | _ => none }
def FnExactShapeOfWrongFalsely : Prop := fnExactShapeOfRow.holds Try.pinned (OpenSpec.ofChange fnExactShapeOfWrong)

/-- 'laws.FnExactOneLike': WHATEVER THE INPUT: true; the input reads as it did. -/
def fnExactOneLikeSpec : ChangeSpec := { name := "fnExactOneLike", fn := fun _ => fun
  | [d] => { results := [.lit (.bool true)], args := [d] }
  | _ => none }
def fnExactOneLikeRow : OpenClaim := { program := "ytjdijbidpcjjdaa", sum := "fcfa034edb5c0df0fe401a4ae47430502ff38af2473071033ee2b772b23c53e8", func := "loop.example/g01210/laws.FnExactOneLike", spec := "fnExactOneLike", recurses := true, apart := false }
def FnExactOneLikeSaid : Prop := fnExactOneLikeRow.holds Try.pinned (OpenSpec.ofChange fnExactOneLikeSpec)

/-- ITS FALSE NEIGHBOUR: 'it returns false'. Refute it at one input. -/
def fnExactOneLikeWrong : ChangeSpec := { name := "fnExactOneLike", fn := fun _ => fun
  | [d] => { results := [.lit (.bool false)], args := [d] }
  | _ => none }
def FnExactOneLikeWrongFalsely : Prop := fnExactOneLikeRow.holds Try.pinned (OpenSpec.ofChange fnExactOneLikeWrong)

/-- 'laws.FnExactIsSymmetric': WHATEVER THE INPUT: true; the input reads as it did. -/
def fnExactIsSymmetricSpec : ChangeSpec := { name := "fnExactIsSymmetric", fn := fun _ => fun
  | [d] => { results := [.lit (.bool true)], args := [d] }
  | _ => none }
def fnExactIsSymmetricRow : OpenClaim := { program := "ytjdijbidpcjjdaa", sum := "fcfa034edb5c0df0fe401a4ae47430502ff38af2473071033ee2b772b23c53e8", func := "loop.example/g01210/laws.FnExactIsSymmetric", spec := "fnExactIsSymmetric", unfollowed := true, recurses := true, apart := false }
def FnExactIsSymmetricSaid : Prop := fnExactIsSymmetricRow.holds Try.pinned (OpenSpec.ofChange fnExactIsSymmetricSpec)

/-- ITS FALSE NEIGHBOUR: 'it returns false'. Refute it at one input. -/
def fnExactIsSymmetricWrong : ChangeSpec := { name := "fnExactIsSymmetric", fn := fun _ => fun
  | [d] => { results := [.lit (.bool false)], args := [d] }
  | _ => none }
def FnExactIsSymmetricWrongFalsely : Prop := fnExactIsSymmetricRow.holds Try.pinned (OpenSpec.ofChange fnExactIsSymmetricWrong)

/-- 'laws.FnExactMirrorPair': WHATEVER THE INPUT: true; the input reads as it did. -/
def fnExactMirrorPairSpec : ChangeSpec := { name := "fnExactMirrorPair", fn := fun _ => fun
  | [d] => { results := [.lit (.bool true)], args := [d] }
  | _ => none }
def fnExactMirrorPairRow : OpenClaim := { program := "ytjdijbidpcjjdaa", sum := "fcfa034edb5c0df0fe401a4ae47430502ff38af2473071033ee2b772b23c53e8", func := "loop.example/g01210/laws.FnExactMirrorPair", spec := "fnExactMirrorPair", recurses := true, apart := false }
def FnExactMirrorPairSaid : Prop := fnExactMirrorPairRow.holds Try.pinned (OpenSpec.ofChange fnExactMirrorPairSpec)

/-- ITS FALSE NEIGHBOUR: 'it returns false'. Refute it at one input. -/
def fnExactMirrorPairWrong : ChangeSpec := { name := "fnExactMirrorPair", fn := fun _ => fun
  | [d] => { results := [.lit (.bool false)], args := [d] }
  | _ => none }
def FnExactMirrorPairWrongFalsely : Prop := fnExactMirrorPairRow.holds Try.pinned (OpenSpec.ofChange fnExactMirrorPairWrong)

/-- 'laws.FnExactEvenChance': WHATEVER THE INPUT: true; the input reads as it did. -/
def fnExactEvenChanceSpec : ChangeSpec := { name := "fnExactEvenChance", fn := fun _ => fun
  | [d] => { results := [.lit (.bool true)], args := [d] }
  | _ => none }
def fnExactEvenChanceRow : OpenClaim := { program := "ytjdijbidpcjjdaa", sum := "fcfa034edb5c0df0fe401a4ae47430502ff38af2473071033ee2b772b23c53e8", func := "loop.example/g01210/laws.FnExactEvenChance", spec := "fnExactEvenChance", recurses := true, apart := false }
def FnExactEvenChanceSaid : Prop := fnExactEvenChanceRow.holds Try.pinned (OpenSpec.ofChange fnExactEvenChanceSpec)

/-- ITS FALSE NEIGHBOUR: 'it returns false'. Refute it at one input. -/
def fnExactEvenChanceWrong : ChangeSpec := { name := "fnExactEvenChance", fn := fun _ => fun
  | [d] => { results := [.lit (.bool false)], args := [d] }
  | _ => none }
def FnExactEvenChanceWrongFalsely : Prop := fnExactEvenChanceRow.holds Try.pinned (OpenSpec.ofChange fnExactEvenChanceWrong)

/- THE SECOND FORM. 'bulk': how many values and letters a reading holds, each counted each time it is reached (what is shared counts as often as it is met; a slice's spare places count too). A statement '..UptoSaid' is the law's where the arguments, and the package variables that the reading takes, are together of bulk at most 1048576: NARROWER than '..Said'. Prove '..Said' where nothing that the law and all that it calls make is longer than what came in: it says more and counts as full. Else prove '..UptoSaid'. A law counts once. -/
mutual
def uptoBulk {H : Type} : DataW H → Nat
  | .lit (.string bytes) => bytes.length + 1
  | .lit _ => 1
  | .nil => 1
  | .ptr d => uptoBulk d + 1
  | .slice elems spare => uptoBulkAll elems + uptoBulkAll spare + 1
  | .agg parts => uptoBulkAll parts + 1
  | .iface _ d => uptoBulk d + 1
  | .map entries => uptoBulkEntries entries + 1
  | .held _ => 1
def uptoBulkAll {H : Type} : List (DataW H) → Nat
  | [] => 0
  | d :: r => uptoBulk d + uptoBulkAll r
def uptoBulkEntries {H : Type} : List (Lit × DataW H) → Nat
  | [] => 0
  | x :: r => uptoBulkEntry x + uptoBulkEntries r
def uptoBulkEntry {H : Type} : Lit × DataW H → Nat
  | (.string bytes, d) => bytes.length + uptoBulk d + 1
  | (_, d) => uptoBulk d + 1
 end
def uptoSmall : (H : Type) → List (DataW H) → Bool := fun _ ds => decide (uptoBulkAll ds ≤ 1048576)
def OpenSpec.upto (s : _root_.Go.ChangeSpec) : _root_.Go.OpenSpec := { _root_.Go.OpenSpec.ofChange s with cond := some uptoSmall }

/-- 'laws.FnExactIsPair', WHERE WHAT IT READS IS OF BULK AT MOST 1048576: true; the input reads as it did. -/
def fnExactIsPairUptoRow : OpenClaim := { program := "ytjdijbidpcjjdaa", sum := "fcfa034edb5c0df0fe401a4ae47430502ff38af2473071033ee2b772b23c53e8", func := "loop.example/g01210/laws.FnExactIsPair", spec := "fnExactIsPair", recurses := true, apart := false, narrowed := true }
def FnExactIsPairUptoSaid : Prop := fnExactIsPairUptoRow.holds Try.pinned (OpenSpec.upto fnExactIsPairSpec)

/-- 'laws.FnExactPairOf', WHERE WHAT IT READS IS OF BULK AT MOST 1048576: true; the input reads as it did. -/
def fnExactPairOfUptoRow : OpenClaim := { program := "ytjdijbidpcjjdaa", sum := "fcfa034edb5c0df0fe401a4ae47430502ff38af2473071033ee2b772b23c53e8", func := "loop.example/g01210/laws.FnExactPairOf", spec := "fnExactPairOf", recurses := true, apart := false, narrowed := true }
def FnExactPairOfUptoSaid : Prop := fnExactPairOfUptoRow.holds Try.pinned (OpenSpec.upto fnExactPairOfSpec)

/-- 'laws.FnExactAreLike', WHERE WHAT IT READS IS OF BULK AT MOST 1048576: true; the input reads as it did. -/
def fnExactAreLikeUptoRow : OpenClaim := { program := "ytjdijbidpcjjdaa", sum := "fcfa034edb5c0df0fe401a4ae47430502ff38af2473071033ee2b772b23c53e8", func := "loop.example/g01210/laws.FnExactAreLike", spec := "fnExactAreLike", recurses := true, apart := false, narrowed := true }
def FnExactAreLikeUptoSaid : Prop := fnExactAreLikeUptoRow.holds Try.pinned (OpenSpec.upto fnExactAreLikeSpec)

/-- 'laws.FnExactBaseOf', WHERE WHAT IT READS IS OF BULK AT MOST 1048576: true; the input reads as it did. -/
def fnExactBaseOfUptoRow : OpenClaim := { program := "ytjdijbidpcjjdaa", sum := "fcfa034edb5c0df0fe401a4ae47430502ff38af2473071033ee2b772b23c53e8", func := "loop.example/g01210/laws.FnExactBaseOf", spec := "fnExactBaseOf", recurses := true, apart := false, narrowed := true }
def FnExactBaseOfUptoSaid : Prop := fnExactBaseOfUptoRow.holds Try.pinned (OpenSpec.upto fnExactBaseOfSpec)

/-- 'laws.FnExactShapeOf', WHERE WHAT IT READS IS OF BULK AT MOST 1048576: true; the input reads as it did. -/
def fnExactShapeOfUptoRow : OpenClaim := { program := "ytjdijbidpcjjdaa", sum := "fcfa034edb5c0df0fe401a4ae47430502ff38af2473071033ee2b772b23c53e8", func := "loop.example/g01210/laws.FnExactShapeOf", spec := "fnExactShapeOf", recurses := true, apart := false, narrowed := true }
def FnExactShapeOfUptoSaid : Prop := fnExactShapeOfUptoRow.holds Try.pinned (OpenSpec.upto fnExactShapeOfSpec)

/-- 'laws.FnExactOneLike', WHERE WHAT IT READS IS OF BULK AT MOST 1048576: true; the input reads as it did. -/
def fnExactOneLikeUptoRow : OpenClaim := { program := "ytjdijbidpcjjdaa", sum := "fcfa034edb5c0df0fe401a4ae47430502ff38af2473071033ee2b772b23c53e8", func := "loop.example/g01210/laws.FnExactOneLike", spec := "fnExactOneLike", recurses := true, apart := false, narrowed := true }
def FnExactOneLikeUptoSaid : Prop := fnExactOneLikeUptoRow.holds Try.pinned (OpenSpec.upto fnExactOneLikeSpec)

/-- 'laws.FnExactIsSymmetric', WHERE WHAT IT READS IS OF BULK AT MOST 1048576: true; the input reads as it did. -/
def fnExactIsSymmetricUptoRow : OpenClaim := { program := "ytjdijbidpcjjdaa", sum := "fcfa034edb5c0df0fe401a4ae47430502ff38af2473071033ee2b772b23c53e8", func := "loop.example/g01210/laws.FnExactIsSymmetric", spec := "fnExactIsSymmetric", unfollowed := true, recurses := true, apart := false, narrowed := true }
def FnExactIsSymmetricUptoSaid : Prop := fnExactIsSymmetricUptoRow.holds Try.pinned (OpenSpec.upto fnExactIsSymmetricSpec)

/-- 'laws.FnExactMirrorPair', WHERE WHAT IT READS IS OF BULK AT MOST 1048576: true; the input reads as it did. -/
def fnExactMirrorPairUptoRow : OpenClaim := { program := "ytjdijbidpcjjdaa", sum := "fcfa034edb5c0df0fe401a4ae47430502ff38af2473071033ee2b772b23c53e8", func := "loop.example/g01210/laws.FnExactMirrorPair", spec := "fnExactMirrorPair", recurses := true, apart := false, narrowed := true }
def FnExactMirrorPairUptoSaid : Prop := fnExactMirrorPairUptoRow.holds Try.pinned (OpenSpec.upto fnExactMirrorPairSpec)

/-- 'laws.FnExactEvenChance', WHERE WHAT IT READS IS OF BULK AT MOST 1048576: true; the input reads as it did. -/
def fnExactEvenChanceUptoRow : OpenClaim := { program := "ytjdijbidpcjjdaa", sum := "fcfa034edb5c0df0fe401a4ae47430502ff38af2473071033ee2b772b23c53e8", func := "loop.example/g01210/laws.FnExactEvenChance", spec := "fnExactEvenChance", recurses := true, apart := false, narrowed := true }
def FnExactEvenChanceUptoSaid : Prop := fnExactEvenChanceUptoRow.holds Try.pinned (OpenSpec.upto fnExactEvenChanceSpec)

end Rows
end Go.Proofs.Ytjdijbidpcjjdaa
