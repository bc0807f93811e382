/-
  No cell of these rows narrows 'for every input' (looked for: loops, veiled, ifaces, maps, wideKeys, modest, calm, conditions, laid).
  DERIVED. THE GIVEN ROWS OF THIS SEAT. 13 by the template 'for every input the law returns true; each argument reads behind the call as it read before'; 0 by the template 'total and deterministic' (their statements: YtddnlbahelgadaaTotals.lean).
  GIVEN WITH THE SEED: the statements are not yours to turn. If you find one false, say at which input.
  Laid BY PROGRAM, IN A SANDBOX (cutbox-rows.mjs): the forced cells as the released guide's own fill.sh prints them over the translation b3950d910a5fc1c4… (all of the seat's roots in one cut). By AI agents, Wed Nov 11 2026. No macro, syntax, notation, axiom, sorry.
-/
import Derived.Test.YtddnlbahelgadaaChecked
import GoSem.Claim
import GoSem.ClaimJoined
import GoSem.ClaimMapViews
import Derived.JoinedTies
import Derived.KernelRfl
namespace Go.Proofs.Ytddnlbahelgadaa
/- THE CELL 'sum', in the pinned program and in every row, IS THE sha256 OF THE DUMP (.gsa) THAT YtddnlbahelgadaaProg.lean LOADS. Nothing in Lean hashes anything: it is a label: what it is worth is what the hold of that sum in a sandbox is worth. -/
noncomputable def Try.pinned : Pinned := { name := "ytddnlbahelgadaa", sum := "b3950d910a5fc1c44d88ded70805281ae8acd3c797bbfdedac616111bbd453b5", checked := Try.checked }
namespace Rows
def none {H : Type} : Left H := { results := [], args := [] }

/-- 'laws.FnExactNumberOfThrows': WHATEVER THE INPUT: true; the input reads as it did. -/
def fnExactNumberOfThrowsSpec : ChangeSpec := { name := "fnExactNumberOfThrows", fn := fun _ => fun
  | [d] => { results := [.lit (.bool true)], args := [d] }
  | _ => none }
def fnExactNumberOfThrowsRow : OpenClaim := { program := "ytddnlbahelgadaa", sum := "b3950d910a5fc1c44d88ded70805281ae8acd3c797bbfdedac616111bbd453b5", func := "loop.example/g01210/laws.FnExactNumberOfThrows", spec := "fnExactNumberOfThrows", unfollowed := true, recurses := true, apart := false }
def FnExactNumberOfThrowsSaid : Prop := fnExactNumberOfThrowsRow.holds Try.pinned (OpenSpec.ofChange fnExactNumberOfThrowsSpec)

/-- ITS FALSE NEIGHBOUR: 'it returns false'. Refute it at one input. -/
def fnExactNumberOfThrowsWrong : ChangeSpec := { name := "fnExactNumberOfThrows", fn := fun _ => fun
  | [d] => { results := [.lit (.bool false)], args := [d] }
  | _ => none }
def FnExactNumberOfThrowsWrongFalsely : Prop := fnExactNumberOfThrowsRow.holds Try.pinned (OpenSpec.ofChange fnExactNumberOfThrowsWrong)

/-- 'laws.FnExactMakeNumber': WHATEVER THE INPUT: true; the input reads as it did. -/
def fnExactMakeNumberSpec : ChangeSpec := { name := "fnExactMakeNumber", fn := fun _ => fun
  | [d1, d2] => { results := [.lit (.bool true)], args := [d1, d2] }
  | _ => none }
def fnExactMakeNumberRow : OpenClaim := { program := "ytddnlbahelgadaa", sum := "b3950d910a5fc1c44d88ded70805281ae8acd3c797bbfdedac616111bbd453b5", func := "loop.example/g01210/laws.FnExactMakeNumber", spec := "fnExactMakeNumber", unfollowed := true, recurses := true, apart := false }
def FnExactMakeNumberSaid : Prop := fnExactMakeNumberRow.holds Try.pinned (OpenSpec.ofChange fnExactMakeNumberSpec)

/-- ITS FALSE NEIGHBOUR: 'it returns false'. Refute it at one input. -/
def fnExactMakeNumberWrong : ChangeSpec := { name := "fnExactMakeNumber", fn := fun _ => fun
  | [d1, d2] => { results := [.lit (.bool false)], args := [d1, d2] }
  | _ => none }
def FnExactMakeNumberWrongFalsely : Prop := fnExactMakeNumberRow.holds Try.pinned (OpenSpec.ofChange fnExactMakeNumberWrong)

/-- 'laws.FnExactTakenOf': WHATEVER THE INPUT: true; the input reads as it did. -/
def fnExactTakenOfSpec : ChangeSpec := { name := "fnExactTakenOf", fn := fun _ => fun
  | [d1, d2] => { results := [.lit (.bool true)], args := [d1, d2] }
  | _ => none }
def fnExactTakenOfRow : OpenClaim := { program := "ytddnlbahelgadaa", sum := "b3950d910a5fc1c44d88ded70805281ae8acd3c797bbfdedac616111bbd453b5", func := "loop.example/g01210/laws.FnExactTakenOf", spec := "fnExactTakenOf", apart := false }
def FnExactTakenOfSaid : Prop := fnExactTakenOfRow.holds Try.pinned (OpenSpec.ofChange fnExactTakenOfSpec)

/-- ITS FALSE NEIGHBOUR: 'it returns false'. Refute it at one input. -/
def fnExactTakenOfWrong : ChangeSpec := { name := "fnExactTakenOf", fn := fun _ => fun
  | [d1, d2] => { results := [.lit (.bool false)], args := [d1, d2] }
  | _ => none }
def FnExactTakenOfWrongFalsely : Prop := fnExactTakenOfRow.holds Try.pinned (OpenSpec.ofChange fnExactTakenOfWrong)

/-- 'laws.FnExactMeanThrows': WHATEVER THE INPUT: true; the input reads as it did. -/
def fnExactMeanThrowsSpec : ChangeSpec := { name := "fnExactMeanThrows", fn := fun _ => fun
  | [d1, d2] => { results := [.lit (.bool true)], args := [d1, d2] }
  | _ => none }
def fnExactMeanThrowsRow : OpenClaim := { program := "ytddnlbahelgadaa", sum := "b3950d910a5fc1c44d88ded70805281ae8acd3c797bbfdedac616111bbd453b5", func := "loop.example/g01210/laws.FnExactMeanThrows", spec := "fnExactMeanThrows", apart := false }
def FnExactMeanThrowsSaid : Prop := fnExactMeanThrowsRow.holds Try.pinned (OpenSpec.ofChange fnExactMeanThrowsSpec)

/-- ITS FALSE NEIGHBOUR: 'it returns false'. Refute it at one input. -/
def fnExactMeanThrowsWrong : ChangeSpec := { name := "fnExactMeanThrows", fn := fun _ => fun
  | [d1, d2] => { results := [.lit (.bool false)], args := [d1, d2] }
  | _ => none }
def FnExactMeanThrowsWrongFalsely : Prop := fnExactMeanThrowsRow.holds Try.pinned (OpenSpec.ofChange fnExactMeanThrowsWrong)

/-- 'laws.FnExactBestThrows': WHATEVER THE INPUT: true; the input reads as it did. -/
def fnExactBestThrowsSpec : ChangeSpec := { name := "fnExactBestThrows", fn := fun _ => fun
  | [d] => { results := [.lit (.bool true)], args := [d] }
  | _ => none }
def fnExactBestThrowsRow : OpenClaim := { program := "ytddnlbahelgadaa", sum := "b3950d910a5fc1c44d88ded70805281ae8acd3c797bbfdedac616111bbd453b5", func := "loop.example/g01210/laws.FnExactBestThrows", spec := "fnExactBestThrows", apart := false }
def FnExactBestThrowsSaid : Prop := fnExactBestThrowsRow.holds Try.pinned (OpenSpec.ofChange fnExactBestThrowsSpec)

/-- ITS FALSE NEIGHBOUR: 'it returns false'. Refute it at one input. -/
def fnExactBestThrowsWrong : ChangeSpec := { name := "fnExactBestThrows", fn := fun _ => fun
  | [d] => { results := [.lit (.bool false)], args := [d] }
  | _ => none }
def FnExactBestThrowsWrongFalsely : Prop := fnExactBestThrowsRow.holds Try.pinned (OpenSpec.ofChange fnExactBestThrowsWrong)

/-- 'laws.FnExactMakeList': WHATEVER THE INPUT: true; the input reads as it did. -/
def fnExactMakeListSpec : ChangeSpec := { name := "fnExactMakeList", fn := fun _ => fun
  | [d1, d2, d3] => { results := [.lit (.bool true)], args := [d1, d2, d3] }
  | _ => none }
def fnExactMakeListRow : OpenClaim := { program := "ytddnlbahelgadaa", sum := "b3950d910a5fc1c44d88ded70805281ae8acd3c797bbfdedac616111bbd453b5", func := "loop.example/g01210/laws.FnExactMakeList", spec := "fnExactMakeList", unfollowed := true, recurses := true, apart := false }
def FnExactMakeListSaid : Prop := fnExactMakeListRow.holds Try.pinned (OpenSpec.ofChange fnExactMakeListSpec)

/-- ITS FALSE NEIGHBOUR: 'it returns false'. Refute it at one input. -/
def fnExactMakeListWrong : ChangeSpec := { name := "fnExactMakeList", fn := fun _ => fun
  | [d1, d2, d3] => { results := [.lit (.bool false)], args := [d1, d2, d3] }
  | _ => none }
def FnExactMakeListWrongFalsely : Prop := fnExactMakeListRow.holds Try.pinned (OpenSpec.ofChange fnExactMakeListWrong)

/-- 'laws.FnExactBitsOf': WHATEVER THE INPUT: true; the input reads as it did. -/
def fnExactBitsOfSpec : ChangeSpec := { name := "fnExactBitsOf", fn := fun _ => fun
  | [d] => { results := [.lit (.bool true)], args := [d] }
  | _ => none }
def fnExactBitsOfRow : OpenClaim := { program := "ytddnlbahelgadaa", sum := "b3950d910a5fc1c44d88ded70805281ae8acd3c797bbfdedac616111bbd453b5", func := "loop.example/g01210/laws.FnExactBitsOf", spec := "fnExactBitsOf", apart := false }
def FnExactBitsOfSaid : Prop := fnExactBitsOfRow.holds Try.pinned (OpenSpec.ofChange fnExactBitsOfSpec)

/-- ITS FALSE NEIGHBOUR: 'it returns false'. Refute it at one input. -/
def fnExactBitsOfWrong : ChangeSpec := { name := "fnExactBitsOf", fn := fun _ => fun
  | [d] => { results := [.lit (.bool false)], args := [d] }
  | _ => none }
def FnExactBitsOfWrongFalsely : Prop := fnExactBitsOfRow.holds Try.pinned (OpenSpec.ofChange fnExactBitsOfWrong)

/-- 'laws.FnExactThrowsOf': WHATEVER THE INPUT: true; the input reads as it did. -/
def fnExactThrowsOfSpec : ChangeSpec := { name := "fnExactThrowsOf", fn := fun _ => fun
  | [d] => { results := [.lit (.bool true)], args := [d] }
  | _ => none }
def fnExactThrowsOfRow : OpenClaim := { program := "ytddnlbahelgadaa", sum := "b3950d910a5fc1c44d88ded70805281ae8acd3c797bbfdedac616111bbd453b5", func := "loop.example/g01210/laws.FnExactThrowsOf", spec := "fnExactThrowsOf", unfollowed := true, recurses := true, apart := false }
def FnExactThrowsOfSaid : Prop := fnExactThrowsOfRow.holds Try.pinned (OpenSpec.ofChange fnExactThrowsOfSpec)

/-- ITS FALSE NEIGHBOUR: 'it returns false'. Refute it at one input. -/
def fnExactThrowsOfWrong : ChangeSpec := { name := "fnExactThrowsOf", fn := fun _ => fun
  | [d] => { results := [.lit (.bool false)], args := [d] }
  | _ => none }
def FnExactThrowsOfWrongFalsely : Prop := fnExactThrowsOfRow.holds Try.pinned (OpenSpec.ofChange fnExactThrowsOfWrong)

/-- 'laws.FnExactEvenCoin': WHATEVER THE INPUT: true; the input reads as it did. -/
def fnExactEvenCoinSpec : ChangeSpec := { name := "fnExactEvenCoin", fn := fun _ => fun
  | [d1, d2] => { results := [.lit (.bool true)], args := [d1, d2] }
  | _ => none }
def fnExactEvenCoinRow : OpenClaim := { program := "ytddnlbahelgadaa", sum := "b3950d910a5fc1c44d88ded70805281ae8acd3c797bbfdedac616111bbd453b5", func := "loop.example/g01210/laws.FnExactEvenCoin", spec := "fnExactEvenCoin", unfollowed := true, recurses := true, apart := false }
def FnExactEvenCoinSaid : Prop := fnExactEvenCoinRow.holds Try.pinned (OpenSpec.ofChange fnExactEvenCoinSpec)

/-- ITS FALSE NEIGHBOUR: 'it returns false'. Refute it at one input. -/
def fnExactEvenCoinWrong : ChangeSpec := { name := "fnExactEvenCoin", fn := fun _ => fun
  | [d1, d2] => { results := [.lit (.bool false)], args := [d1, d2] }
  | _ => none }
def FnExactEvenCoinWrongFalsely : Prop := fnExactEvenCoinRow.holds Try.pinned (OpenSpec.ofChange fnExactEvenCoinWrong)

/-- 'laws.FnExactPairsForCoin': WHATEVER THE INPUT: true; the input reads as it did. -/
def fnExactPairsForCoinSpec : ChangeSpec := { name := "fnExactPairsForCoin", fn := fun _ => fun
  | [d] => { results := [.lit (.bool true)], args := [d] }
  | _ => none }
def fnExactPairsForCoinRow : OpenClaim := { program := "ytddnlbahelgadaa", sum := "b3950d910a5fc1c44d88ded70805281ae8acd3c797bbfdedac616111bbd453b5", func := "loop.example/g01210/laws.FnExactPairsForCoin", spec := "fnExactPairsForCoin", apart := false }
def FnExactPairsForCoinSaid : Prop := fnExactPairsForCoinRow.holds Try.pinned (OpenSpec.ofChange fnExactPairsForCoinSpec)

/-- ITS FALSE NEIGHBOUR: 'it returns false'. Refute it at one input. -/
def fnExactPairsForCoinWrong : ChangeSpec := { name := "fnExactPairsForCoin", fn := fun _ => fun
  | [d] => { results := [.lit (.bool false)], args := [d] }
  | _ => none }
def FnExactPairsForCoinWrongFalsely : Prop := fnExactPairsForCoinRow.holds Try.pinned (OpenSpec.ofChange fnExactPairsForCoinWrong)

/-- 'laws.FnExactModTable': WHATEVER THE INPUT: true; the input reads as it did. -/
def fnExactModTableSpec : ChangeSpec := { name := "fnExactModTable", fn := fun _ => fun
  | [d1, d2] => { results := [.lit (.bool true)], args := [d1, d2] }
  | _ => none }
def fnExactModTableRow : OpenClaim := { program := "ytddnlbahelgadaa", sum := "b3950d910a5fc1c44d88ded70805281ae8acd3c797bbfdedac616111bbd453b5", func := "loop.example/g01210/laws.FnExactModTable", spec := "fnExactModTable", recurses := true, apart := false }
def FnExactModTableSaid : Prop := fnExactModTableRow.holds Try.pinned (OpenSpec.ofChange fnExactModTableSpec)

/-- ITS FALSE NEIGHBOUR: 'it returns false'. Refute it at one input. -/
def fnExactModTableWrong : ChangeSpec := { name := "fnExactModTable", fn := fun _ => fun
  | [d1, d2] => { results := [.lit (.bool false)], args := [d1, d2] }
  | _ => none }
def FnExactModTableWrongFalsely : Prop := fnExactModTableRow.holds Try.pinned (OpenSpec.ofChange fnExactModTableWrong)

/-- 'laws.FnExactFairSizes': WHATEVER THE INPUT: true; the input reads as it did. -/
def fnExactFairSizesSpec : ChangeSpec := { name := "fnExactFairSizes", fn := fun _ => fun
  | [d] => { results := [.lit (.bool true)], args := [d] }
  | _ => none }
def fnExactFairSizesRow : OpenClaim := { program := "ytddnlbahelgadaa", sum := "b3950d910a5fc1c44d88ded70805281ae8acd3c797bbfdedac616111bbd453b5", func := "loop.example/g01210/laws.FnExactFairSizes", spec := "fnExactFairSizes", recurses := true, apart := false }
def FnExactFairSizesSaid : Prop := fnExactFairSizesRow.holds Try.pinned (OpenSpec.ofChange fnExactFairSizesSpec)

/-- ITS FALSE NEIGHBOUR: 'it returns false'. Refute it at one input. -/
def fnExactFairSizesWrong : ChangeSpec := { name := "fnExactFairSizes", fn := fun _ => fun
  | [d] => { results := [.lit (.bool false)], args := [d] }
  | _ => none }
def FnExactFairSizesWrongFalsely : Prop := fnExactFairSizesRow.holds Try.pinned (OpenSpec.ofChange fnExactFairSizesWrong)

/-- 'laws.FnExactRoomForBits': WHATEVER THE INPUT: true; the input reads as it did. -/
def fnExactRoomForBitsSpec : ChangeSpec := { name := "fnExactRoomForBits", fn := fun _ => fun
  | [d] => { results := [.lit (.bool true)], args := [d] }
  | _ => none }
def fnExactRoomForBitsRow : OpenClaim := { program := "ytddnlbahelgadaa", sum := "b3950d910a5fc1c44d88ded70805281ae8acd3c797bbfdedac616111bbd453b5", func := "loop.example/g01210/laws.FnExactRoomForBits", spec := "fnExactRoomForBits", apart := false }
def FnExactRoomForBitsSaid : Prop := fnExactRoomForBitsRow.holds Try.pinned (OpenSpec.ofChange fnExactRoomForBitsSpec)

/-- ITS FALSE NEIGHBOUR: 'it returns false'. Refute it at one input. -/
def fnExactRoomForBitsWrong : ChangeSpec := { name := "fnExactRoomForBits", fn := fun _ => fun
  | [d] => { results := [.lit (.bool false)], args := [d] }
  | _ => none }
def FnExactRoomForBitsWrongFalsely : Prop := fnExactRoomForBitsRow.holds Try.pinned (OpenSpec.ofChange fnExactRoomForBitsWrong)

/- THE SECOND FORM. 'bulk': how many values and letters a reading holds, each counted each time it is reached (what is shared counts as often as it is met; a slice's spare places count too). A statement '..UptoSaid' is the law's where the arguments, and the package variables that the reading takes, are together of bulk at most 1048576: NARROWER than '..Said'. Prove '..Said' where nothing that the law and all that it calls make is longer than what came in: it says more and counts as full. Else prove '..UptoSaid'. A law counts once. -/
mutual
def uptoBulk {H : Type} : DataW H → Nat
  | .lit (.string bytes) => bytes.length + 1
  | .lit _ => 1
  | .nil => 1
  | .ptr d => uptoBulk d + 1
  | .slice elems spare => uptoBulkAll elems + uptoBulkAll spare + 1
  | .agg parts => uptoBulkAll parts + 1
  | .iface _ d => uptoBulk d + 1
  | .map entries => uptoBulkEntries entries + 1
  | .held _ => 1
def uptoBulkAll {H : Type} : List (DataW H) → Nat
  | [] => 0
  | d :: r => uptoBulk d + uptoBulkAll r
def uptoBulkEntries {H : Type} : List (Lit × DataW H) → Nat
  | [] => 0
  | x :: r => uptoBulkEntry x + uptoBulkEntries r
def uptoBulkEntry {H : Type} : Lit × DataW H → Nat
  | (.string bytes, d) => bytes.length + uptoBulk d + 1
  | (_, d) => uptoBulk d + 1
 end
def uptoSmall : (H : Type) → List (DataW H) → Bool := fun _ ds => decide (uptoBulkAll ds ≤ 1048576)
def OpenSpec.upto (s : _root_.Go.ChangeSpec) : _root_.Go.OpenSpec := { _root_.Go.OpenSpec.ofChange s with cond := some uptoSmall }

/-- 'laws.FnExactNumberOfThrows', WHERE WHAT IT READS IS OF BULK AT MOST 1048576: true; the input reads as it did. -/
def fnExactNumberOfThrowsUptoRow : OpenClaim := { program := "ytddnlbahelgadaa", sum := "b3950d910a5fc1c44d88ded70805281ae8acd3c797bbfdedac616111bbd453b5", func := "loop.example/g01210/laws.FnExactNumberOfThrows", spec := "fnExactNumberOfThrows", unfollowed := true, recurses := true, apart := false, narrowed := true }
def FnExactNumberOfThrowsUptoSaid : Prop := fnExactNumberOfThrowsUptoRow.holds Try.pinned (OpenSpec.upto fnExactNumberOfThrowsSpec)

/-- 'laws.FnExactMakeNumber', WHERE WHAT IT READS IS OF BULK AT MOST 1048576: true; the input reads as it did. -/
def fnExactMakeNumberUptoRow : OpenClaim := { program := "ytddnlbahelgadaa", sum := "b3950d910a5fc1c44d88ded70805281ae8acd3c797bbfdedac616111bbd453b5", func := "loop.example/g01210/laws.FnExactMakeNumber", spec := "fnExactMakeNumber", unfollowed := true, recurses := true, apart := false, narrowed := true }
def FnExactMakeNumberUptoSaid : Prop := fnExactMakeNumberUptoRow.holds Try.pinned (OpenSpec.upto fnExactMakeNumberSpec)

/-- 'laws.FnExactTakenOf', WHERE WHAT IT READS IS OF BULK AT MOST 1048576: true; the input reads as it did. -/
def fnExactTakenOfUptoRow : OpenClaim := { program := "ytddnlbahelgadaa", sum := "b3950d910a5fc1c44d88ded70805281ae8acd3c797bbfdedac616111bbd453b5", func := "loop.example/g01210/laws.FnExactTakenOf", spec := "fnExactTakenOf", apart := false, narrowed := true }
def FnExactTakenOfUptoSaid : Prop := fnExactTakenOfUptoRow.holds Try.pinned (OpenSpec.upto fnExactTakenOfSpec)

/-- 'laws.FnExactMeanThrows', WHERE WHAT IT READS IS OF BULK AT MOST 1048576: true; the input reads as it did. -/
def fnExactMeanThrowsUptoRow : OpenClaim := { program := "ytddnlbahelgadaa", sum := "b3950d910a5fc1c44d88ded70805281ae8acd3c797bbfdedac616111bbd453b5", func := "loop.example/g01210/laws.FnExactMeanThrows", spec := "fnExactMeanThrows", apart := false, narrowed := true }
def FnExactMeanThrowsUptoSaid : Prop := fnExactMeanThrowsUptoRow.holds Try.pinned (OpenSpec.upto fnExactMeanThrowsSpec)

/-- 'laws.FnExactBestThrows', WHERE WHAT IT READS IS OF BULK AT MOST 1048576: true; the input reads as it did. -/
def fnExactBestThrowsUptoRow : OpenClaim := { program := "ytddnlbahelgadaa", sum := "b3950d910a5fc1c44d88ded70805281ae8acd3c797bbfdedac616111bbd453b5", func := "loop.example/g01210/laws.FnExactBestThrows", spec := "fnExactBestThrows", apart := false, narrowed := true }
def FnExactBestThrowsUptoSaid : Prop := fnExactBestThrowsUptoRow.holds Try.pinned (OpenSpec.upto fnExactBestThrowsSpec)

/-- 'laws.FnExactMakeList', WHERE WHAT IT READS IS OF BULK AT MOST 1048576: true; the input reads as it did. -/
def fnExactMakeListUptoRow : OpenClaim := { program := "ytddnlbahelgadaa", sum := "b3950d910a5fc1c44d88ded70805281ae8acd3c797bbfdedac616111bbd453b5", func := "loop.example/g01210/laws.FnExactMakeList", spec := "fnExactMakeList", unfollowed := true, recurses := true, apart := false, narrowed := true }
def FnExactMakeListUptoSaid : Prop := fnExactMakeListUptoRow.holds Try.pinned (OpenSpec.upto fnExactMakeListSpec)

/-- 'laws.FnExactBitsOf', WHERE WHAT IT READS IS OF BULK AT MOST 1048576: true; the input reads as it did. -/
def fnExactBitsOfUptoRow : OpenClaim := { program := "ytddnlbahelgadaa", sum := "b3950d910a5fc1c44d88ded70805281ae8acd3c797bbfdedac616111bbd453b5", func := "loop.example/g01210/laws.FnExactBitsOf", spec := "fnExactBitsOf", apart := false, narrowed := true }
def FnExactBitsOfUptoSaid : Prop := fnExactBitsOfUptoRow.holds Try.pinned (OpenSpec.upto fnExactBitsOfSpec)

/-- 'laws.FnExactThrowsOf', WHERE WHAT IT READS IS OF BULK AT MOST 1048576: true; the input reads as it did. -/
def fnExactThrowsOfUptoRow : OpenClaim := { program := "ytddnlbahelgadaa", sum := "b3950d910a5fc1c44d88ded70805281ae8acd3c797bbfdedac616111bbd453b5", func := "loop.example/g01210/laws.FnExactThrowsOf", spec := "fnExactThrowsOf", unfollowed := true, recurses := true, apart := false, narrowed := true }
def FnExactThrowsOfUptoSaid : Prop := fnExactThrowsOfUptoRow.holds Try.pinned (OpenSpec.upto fnExactThrowsOfSpec)

/-- 'laws.FnExactEvenCoin', WHERE WHAT IT READS IS OF BULK AT MOST 1048576: true; the input reads as it did. -/
def fnExactEvenCoinUptoRow : OpenClaim := { program := "ytddnlbahelgadaa", sum := "b3950d910a5fc1c44d88ded70805281ae8acd3c797bbfdedac616111bbd453b5", func := "loop.example/g01210/laws.FnExactEvenCoin", spec := "fnExactEvenCoin", unfollowed := true, recurses := true, apart := false, narrowed := true }
def FnExactEvenCoinUptoSaid : Prop := fnExactEvenCoinUptoRow.holds Try.pinned (OpenSpec.upto fnExactEvenCoinSpec)

/-- 'laws.FnExactPairsForCoin', WHERE WHAT IT READS IS OF BULK AT MOST 1048576: true; the input reads as it did. -/
def fnExactPairsForCoinUptoRow : OpenClaim := { program := "ytddnlbahelgadaa", sum := "b3950d910a5fc1c44d88ded70805281ae8acd3c797bbfdedac616111bbd453b5", func := "loop.example/g01210/laws.FnExactPairsForCoin", spec := "fnExactPairsForCoin", apart := false, narrowed := true }
def FnExactPairsForCoinUptoSaid : Prop := fnExactPairsForCoinUptoRow.holds Try.pinned (OpenSpec.upto fnExactPairsForCoinSpec)

/-- 'laws.FnExactModTable', WHERE WHAT IT READS IS OF BULK AT MOST 1048576: true; the input reads as it did. -/
def fnExactModTableUptoRow : OpenClaim := { program := "ytddnlbahelgadaa", sum := "b3950d910a5fc1c44d88ded70805281ae8acd3c797bbfdedac616111bbd453b5", func := "loop.example/g01210/laws.FnExactModTable", spec := "fnExactModTable", recurses := true, apart := false, narrowed := true }
def FnExactModTableUptoSaid : Prop := fnExactModTableUptoRow.holds Try.pinned (OpenSpec.upto fnExactModTableSpec)

/-- 'laws.FnExactFairSizes', WHERE WHAT IT READS IS OF BULK AT MOST 1048576: true; the input reads as it did. -/
def fnExactFairSizesUptoRow : OpenClaim := { program := "ytddnlbahelgadaa", sum := "b3950d910a5fc1c44d88ded70805281ae8acd3c797bbfdedac616111bbd453b5", func := "loop.example/g01210/laws.FnExactFairSizes", spec := "fnExactFairSizes", recurses := true, apart := false, narrowed := true }
def FnExactFairSizesUptoSaid : Prop := fnExactFairSizesUptoRow.holds Try.pinned (OpenSpec.upto fnExactFairSizesSpec)

/-- 'laws.FnExactRoomForBits', WHERE WHAT IT READS IS OF BULK AT MOST 1048576: true; the input reads as it did. -/
def fnExactRoomForBitsUptoRow : OpenClaim := { program := "ytddnlbahelgadaa", sum := "b3950d910a5fc1c44d88ded70805281ae8acd3c797bbfdedac616111bbd453b5", func := "loop.example/g01210/laws.FnExactRoomForBits", spec := "fnExactRoomForBits", apart := false, narrowed := true }
def FnExactRoomForBitsUptoSaid : Prop := fnExactRoomForBitsUptoRow.holds Try.pinned (OpenSpec.upto fnExactRoomForBitsSpec)

end Rows
end Go.Proofs.Ytddnlbahelgadaa
