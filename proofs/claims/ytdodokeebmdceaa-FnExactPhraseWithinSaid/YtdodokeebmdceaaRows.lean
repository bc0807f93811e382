/-
  No cell of these rows narrows 'for every input' (looked for: loops, veiled, ifaces, maps, wideKeys, modest, calm, conditions, laid).
  DERIVED. THE GIVEN ROWS OF THIS SEAT. 12 by the template 'for every input the law returns true; each argument reads behind the call as it read before'; 0 by the template 'total and deterministic' (their statements: YtdodokeebmdceaaTotals.lean).
  GIVEN WITH THE SEED: the statements are not yours to turn. If you find one false, say at which input.
  Laid BY PROGRAM, IN A SANDBOX (cutbox-rows.mjs): the forced cells as the released guide's own fill.sh prints them over the translation a00697d5331c0058… (all of the seat's roots in one cut). By AI agents, Wed Nov 11 2026. No macro, syntax, notation, axiom, sorry.
-/
import Derived.Test.YtdodokeebmdceaaChecked
import GoSem.Claim
import GoSem.ClaimJoined
import GoSem.ClaimMapViews
import Derived.JoinedTies
import Derived.KernelRfl
namespace Go.Proofs.Ytdodokeebmdceaa
/- THE CELL 'sum', in the pinned program and in every row, IS THE sha256 OF THE DUMP (.gsa) THAT YtdodokeebmdceaaProg.lean LOADS. Nothing in Lean hashes anything: it is a label: what it is worth is what the hold of that sum in a sandbox is worth. -/
noncomputable def Try.pinned : Pinned := { name := "ytdodokeebmdceaa", sum := "a00697d5331c0058a39c715c5f77784e1b89a444f73c229fa16046dc75630956", checked := Try.checked }
namespace Rows
def none {H : Type} : Left H := { results := [], args := [] }

/-- 'laws.FnExactBurstTable': WHATEVER THE INPUT: true; the input reads as it did. -/
def fnExactBurstTableSpec : ChangeSpec := { name := "fnExactBurstTable", fn := fun _ => fun
  | [d1, d2] => { results := [.lit (.bool true)], args := [d1, d2] }
  | _ => none }
def fnExactBurstTableRow : OpenClaim := { program := "ytdodokeebmdceaa", sum := "a00697d5331c0058a39c715c5f77784e1b89a444f73c229fa16046dc75630956", func := "loop.example/g01210/laws.FnExactBurstTable", spec := "fnExactBurstTable", recurses := true, plainKeys := false, apart := false }
def FnExactBurstTableSaid : Prop := fnExactBurstTableRow.holds Try.pinned (OpenSpec.ofChange fnExactBurstTableSpec)

/-- ITS FALSE NEIGHBOUR: 'it returns false'. Refute it at one input. -/
def fnExactBurstTableWrong : ChangeSpec := { name := "fnExactBurstTable", fn := fun _ => fun
  | [d1, d2] => { results := [.lit (.bool false)], args := [d1, d2] }
  | _ => none }
def FnExactBurstTableWrongFalsely : Prop := fnExactBurstTableRow.holds Try.pinned (OpenSpec.ofChange fnExactBurstTableWrong)

/-- 'laws.FnExactBurstMean': WHATEVER THE INPUT: true; the input reads as it did. -/
def fnExactBurstMeanSpec : ChangeSpec := { name := "fnExactBurstMean", fn := fun _ => fun
  | [d] => { results := [.lit (.bool true)], args := [d] }
  | _ => none }
def fnExactBurstMeanRow : OpenClaim := { program := "ytdodokeebmdceaa", sum := "a00697d5331c0058a39c715c5f77784e1b89a444f73c229fa16046dc75630956", func := "loop.example/g01210/laws.FnExactBurstMean", spec := "fnExactBurstMean", recurses := true, plainKeys := false, apart := false }
def FnExactBurstMeanSaid : Prop := fnExactBurstMeanRow.holds Try.pinned (OpenSpec.ofChange fnExactBurstMeanSpec)

/-- ITS FALSE NEIGHBOUR: 'it returns false'. Refute it at one input. -/
def fnExactBurstMeanWrong : ChangeSpec := { name := "fnExactBurstMean", fn := fun _ => fun
  | [d] => { results := [.lit (.bool false)], args := [d] }
  | _ => none }
def FnExactBurstMeanWrongFalsely : Prop := fnExactBurstMeanRow.holds Try.pinned (OpenSpec.ofChange fnExactBurstMeanWrong)

/-- 'laws.FnExactMeanWait': WHATEVER THE INPUT: true; the input reads as it did. -/
def fnExactMeanWaitSpec : ChangeSpec := { name := "fnExactMeanWait", fn := fun _ => fun
  | [d1, d2] => { results := [.lit (.bool true)], args := [d1, d2] }
  | _ => none }
def fnExactMeanWaitRow : OpenClaim := { program := "ytdodokeebmdceaa", sum := "a00697d5331c0058a39c715c5f77784e1b89a444f73c229fa16046dc75630956", func := "loop.example/g01210/laws.FnExactMeanWait", spec := "fnExactMeanWait", recurses := true, plainKeys := false, apart := false }
def FnExactMeanWaitSaid : Prop := fnExactMeanWaitRow.holds Try.pinned (OpenSpec.ofChange fnExactMeanWaitSpec)

/-- ITS FALSE NEIGHBOUR: 'it returns false'. Refute it at one input. -/
def fnExactMeanWaitWrong : ChangeSpec := { name := "fnExactMeanWait", fn := fun _ => fun
  | [d1, d2] => { results := [.lit (.bool false)], args := [d1, d2] }
  | _ => none }
def FnExactMeanWaitWrongFalsely : Prop := fnExactMeanWaitRow.holds Try.pinned (OpenSpec.ofChange fnExactMeanWaitWrong)

/-- 'laws.FnExactChanceWithin': WHATEVER THE INPUT: true; the input reads as it did. -/
def fnExactChanceWithinSpec : ChangeSpec := { name := "fnExactChanceWithin", fn := fun _ => fun
  | [d1, d2, d3] => { results := [.lit (.bool true)], args := [d1, d2, d3] }
  | _ => none }
def fnExactChanceWithinRow : OpenClaim := { program := "ytdodokeebmdceaa", sum := "a00697d5331c0058a39c715c5f77784e1b89a444f73c229fa16046dc75630956", func := "loop.example/g01210/laws.FnExactChanceWithin", spec := "fnExactChanceWithin", unfollowed := true, recurses := true, plainKeys := false, apart := false }
def FnExactChanceWithinSaid : Prop := fnExactChanceWithinRow.holds Try.pinned (OpenSpec.ofChange fnExactChanceWithinSpec)

/-- ITS FALSE NEIGHBOUR: 'it returns false'. Refute it at one input. -/
def fnExactChanceWithinWrong : ChangeSpec := { name := "fnExactChanceWithin", fn := fun _ => fun
  | [d1, d2, d3] => { results := [.lit (.bool false)], args := [d1, d2, d3] }
  | _ => none }
def FnExactChanceWithinWrongFalsely : Prop := fnExactChanceWithinRow.holds Try.pinned (OpenSpec.ofChange fnExactChanceWithinWrong)

/-- 'laws.FnExactMeanAll': WHATEVER THE INPUT: true; the input reads as it did. -/
def fnExactMeanAllSpec : ChangeSpec := { name := "fnExactMeanAll", fn := fun _ => fun
  | [d] => { results := [.lit (.bool true)], args := [d] }
  | _ => none }
def fnExactMeanAllRow : OpenClaim := { program := "ytdodokeebmdceaa", sum := "a00697d5331c0058a39c715c5f77784e1b89a444f73c229fa16046dc75630956", func := "loop.example/g01210/laws.FnExactMeanAll", spec := "fnExactMeanAll", recurses := true, plainKeys := false, apart := false }
def FnExactMeanAllSaid : Prop := fnExactMeanAllRow.holds Try.pinned (OpenSpec.ofChange fnExactMeanAllSpec)

/-- ITS FALSE NEIGHBOUR: 'it returns false'. Refute it at one input. -/
def fnExactMeanAllWrong : ChangeSpec := { name := "fnExactMeanAll", fn := fun _ => fun
  | [d] => { results := [.lit (.bool false)], args := [d] }
  | _ => none }
def FnExactMeanAllWrongFalsely : Prop := fnExactMeanAllRow.holds Try.pinned (OpenSpec.ofChange fnExactMeanAllWrong)

/-- 'laws.FnExactChanceAll': WHATEVER THE INPUT: true; the input reads as it did. -/
def fnExactChanceAllSpec : ChangeSpec := { name := "fnExactChanceAll", fn := fun _ => fun
  | [d1, d2] => { results := [.lit (.bool true)], args := [d1, d2] }
  | _ => none }
def fnExactChanceAllRow : OpenClaim := { program := "ytdodokeebmdceaa", sum := "a00697d5331c0058a39c715c5f77784e1b89a444f73c229fa16046dc75630956", func := "loop.example/g01210/laws.FnExactChanceAll", spec := "fnExactChanceAll", unfollowed := true, recurses := true, plainKeys := false, apart := false }
def FnExactChanceAllSaid : Prop := fnExactChanceAllRow.holds Try.pinned (OpenSpec.ofChange fnExactChanceAllSpec)

/-- ITS FALSE NEIGHBOUR: 'it returns false'. Refute it at one input. -/
def fnExactChanceAllWrong : ChangeSpec := { name := "fnExactChanceAll", fn := fun _ => fun
  | [d1, d2] => { results := [.lit (.bool false)], args := [d1, d2] }
  | _ => none }
def FnExactChanceAllWrongFalsely : Prop := fnExactChanceAllRow.holds Try.pinned (OpenSpec.ofChange fnExactChanceAllWrong)

/-- 'laws.FnExactPhraseWait': WHATEVER THE INPUT: true; the input reads as it did. -/
def fnExactPhraseWaitSpec : ChangeSpec := { name := "fnExactPhraseWait", fn := fun _ => fun
  | [d1, d2] => { results := [.lit (.bool true)], args := [d1, d2] }
  | _ => none }
def fnExactPhraseWaitRow : OpenClaim := { program := "ytdodokeebmdceaa", sum := "a00697d5331c0058a39c715c5f77784e1b89a444f73c229fa16046dc75630956", func := "loop.example/g01210/laws.FnExactPhraseWait", spec := "fnExactPhraseWait", recurses := true, plainKeys := false, apart := false }
def FnExactPhraseWaitSaid : Prop := fnExactPhraseWaitRow.holds Try.pinned (OpenSpec.ofChange fnExactPhraseWaitSpec)

/-- ITS FALSE NEIGHBOUR: 'it returns false'. Refute it at one input. -/
def fnExactPhraseWaitWrong : ChangeSpec := { name := "fnExactPhraseWait", fn := fun _ => fun
  | [d1, d2] => { results := [.lit (.bool false)], args := [d1, d2] }
  | _ => none }
def FnExactPhraseWaitWrongFalsely : Prop := fnExactPhraseWaitRow.holds Try.pinned (OpenSpec.ofChange fnExactPhraseWaitWrong)

/-- 'laws.FnExactPhraseOverlap': WHATEVER THE INPUT: true; the input reads as it did. -/
def fnExactPhraseOverlapSpec : ChangeSpec := { name := "fnExactPhraseOverlap", fn := fun _ => fun
  | [d1, d2, d3] => { results := [.lit (.bool true)], args := [d1, d2, d3] }
  | _ => none }
def fnExactPhraseOverlapRow : OpenClaim := { program := "ytdodokeebmdceaa", sum := "a00697d5331c0058a39c715c5f77784e1b89a444f73c229fa16046dc75630956", func := "loop.example/g01210/laws.FnExactPhraseOverlap", spec := "fnExactPhraseOverlap", recurses := true, plainKeys := false, apart := false }
def FnExactPhraseOverlapSaid : Prop := fnExactPhraseOverlapRow.holds Try.pinned (OpenSpec.ofChange fnExactPhraseOverlapSpec)

/-- ITS FALSE NEIGHBOUR: 'it returns false'. Refute it at one input. -/
def fnExactPhraseOverlapWrong : ChangeSpec := { name := "fnExactPhraseOverlap", fn := fun _ => fun
  | [d1, d2, d3] => { results := [.lit (.bool false)], args := [d1, d2, d3] }
  | _ => none }
def FnExactPhraseOverlapWrongFalsely : Prop := fnExactPhraseOverlapRow.holds Try.pinned (OpenSpec.ofChange fnExactPhraseOverlapWrong)

/-- 'laws.FnExactPhraseFirst': WHATEVER THE INPUT: true; the input reads as it did. -/
def fnExactPhraseFirstSpec : ChangeSpec := { name := "fnExactPhraseFirst", fn := fun _ => fun
  | [d1, d2, d3] => { results := [.lit (.bool true)], args := [d1, d2, d3] }
  | _ => none }
def fnExactPhraseFirstRow : OpenClaim := { program := "ytdodokeebmdceaa", sum := "a00697d5331c0058a39c715c5f77784e1b89a444f73c229fa16046dc75630956", func := "loop.example/g01210/laws.FnExactPhraseFirst", spec := "fnExactPhraseFirst", recurses := true, plainKeys := false, apart := false }
def FnExactPhraseFirstSaid : Prop := fnExactPhraseFirstRow.holds Try.pinned (OpenSpec.ofChange fnExactPhraseFirstSpec)

/-- ITS FALSE NEIGHBOUR: 'it returns false'. Refute it at one input. -/
def fnExactPhraseFirstWrong : ChangeSpec := { name := "fnExactPhraseFirst", fn := fun _ => fun
  | [d1, d2, d3] => { results := [.lit (.bool false)], args := [d1, d2, d3] }
  | _ => none }
def FnExactPhraseFirstWrongFalsely : Prop := fnExactPhraseFirstRow.holds Try.pinned (OpenSpec.ofChange fnExactPhraseFirstWrong)

/-- 'laws.FnExactPhraseWithin': WHATEVER THE INPUT: true; the input reads as it did. -/
def fnExactPhraseWithinSpec : ChangeSpec := { name := "fnExactPhraseWithin", fn := fun _ => fun
  | [d1, d2, d3] => { results := [.lit (.bool true)], args := [d1, d2, d3] }
  | _ => none }
def fnExactPhraseWithinRow : OpenClaim := { program := "ytdodokeebmdceaa", sum := "a00697d5331c0058a39c715c5f77784e1b89a444f73c229fa16046dc75630956", func := "loop.example/g01210/laws.FnExactPhraseWithin", spec := "fnExactPhraseWithin", unfollowed := true, recurses := true, plainKeys := false, apart := false }
def FnExactPhraseWithinSaid : Prop := fnExactPhraseWithinRow.holds Try.pinned (OpenSpec.ofChange fnExactPhraseWithinSpec)

/-- ITS FALSE NEIGHBOUR: 'it returns false'. Refute it at one input. -/
def fnExactPhraseWithinWrong : ChangeSpec := { name := "fnExactPhraseWithin", fn := fun _ => fun
  | [d1, d2, d3] => { results := [.lit (.bool false)], args := [d1, d2, d3] }
  | _ => none }
def FnExactPhraseWithinWrongFalsely : Prop := fnExactPhraseWithinRow.holds Try.pinned (OpenSpec.ofChange fnExactPhraseWithinWrong)

/-- 'laws.FnExactRunWithin': WHATEVER THE INPUT: true; the input reads as it did. -/
def fnExactRunWithinSpec : ChangeSpec := { name := "fnExactRunWithin", fn := fun _ => fun
  | [d1, d2, d3] => { results := [.lit (.bool true)], args := [d1, d2, d3] }
  | _ => none }
def fnExactRunWithinRow : OpenClaim := { program := "ytdodokeebmdceaa", sum := "a00697d5331c0058a39c715c5f77784e1b89a444f73c229fa16046dc75630956", func := "loop.example/g01210/laws.FnExactRunWithin", spec := "fnExactRunWithin", unfollowed := true, recurses := true, plainKeys := false, apart := false }
def FnExactRunWithinSaid : Prop := fnExactRunWithinRow.holds Try.pinned (OpenSpec.ofChange fnExactRunWithinSpec)

/-- ITS FALSE NEIGHBOUR: 'it returns false'. Refute it at one input. -/
def fnExactRunWithinWrong : ChangeSpec := { name := "fnExactRunWithin", fn := fun _ => fun
  | [d1, d2, d3] => { results := [.lit (.bool false)], args := [d1, d2, d3] }
  | _ => none }
def FnExactRunWithinWrongFalsely : Prop := fnExactRunWithinRow.holds Try.pinned (OpenSpec.ofChange fnExactRunWithinWrong)

/-- 'laws.FnExactPhrasesOf': WHATEVER THE INPUT: true; the input reads as it did. -/
def fnExactPhrasesOfSpec : ChangeSpec := { name := "fnExactPhrasesOf", fn := fun _ => fun
  | [d1, d2] => { results := [.lit (.bool true)], args := [d1, d2] }
  | _ => none }
def fnExactPhrasesOfRow : OpenClaim := { program := "ytdodokeebmdceaa", sum := "a00697d5331c0058a39c715c5f77784e1b89a444f73c229fa16046dc75630956", func := "loop.example/g01210/laws.FnExactPhrasesOf", spec := "fnExactPhrasesOf", recurses := true, plainKeys := false, apart := false }
def FnExactPhrasesOfSaid : Prop := fnExactPhrasesOfRow.holds Try.pinned (OpenSpec.ofChange fnExactPhrasesOfSpec)

/-- ITS FALSE NEIGHBOUR: 'it returns false'. Refute it at one input. -/
def fnExactPhrasesOfWrong : ChangeSpec := { name := "fnExactPhrasesOf", fn := fun _ => fun
  | [d1, d2] => { results := [.lit (.bool false)], args := [d1, d2] }
  | _ => none }
def FnExactPhrasesOfWrongFalsely : Prop := fnExactPhrasesOfRow.holds Try.pinned (OpenSpec.ofChange fnExactPhrasesOfWrong)

/- THE SECOND FORM. 'bulk': how many values and letters a reading holds, each counted each time it is reached (what is shared counts as often as it is met; a slice's spare places count too). A statement '..UptoSaid' is the law's where the arguments, and the package variables that the reading takes, are together of bulk at most 1048576: NARROWER than '..Said'. Prove '..Said' where nothing that the law and all that it calls make is longer than what came in: it says more and counts as full. Else prove '..UptoSaid'. A law counts once. -/
mutual
def uptoBulk {H : Type} : DataW H → Nat
  | .lit (.string bytes) => bytes.length + 1
  | .lit _ => 1
  | .nil => 1
  | .ptr d => uptoBulk d + 1
  | .slice elems spare => uptoBulkAll elems + uptoBulkAll spare + 1
  | .agg parts => uptoBulkAll parts + 1
  | .iface _ d => uptoBulk d + 1
  | .map entries => uptoBulkEntries entries + 1
  | .held _ => 1
def uptoBulkAll {H : Type} : List (DataW H) → Nat
  | [] => 0
  | d :: r => uptoBulk d + uptoBulkAll r
def uptoBulkEntries {H : Type} : List (Lit × DataW H) → Nat
  | [] => 0
  | x :: r => uptoBulkEntry x + uptoBulkEntries r
def uptoBulkEntry {H : Type} : Lit × DataW H → Nat
  | (.string bytes, d) => bytes.length + uptoBulk d + 1
  | (_, d) => uptoBulk d + 1
 end
def uptoSmall : (H : Type) → List (DataW H) → Bool := fun _ ds => decide (uptoBulkAll ds ≤ 1048576)
def OpenSpec.upto (s : _root_.Go.ChangeSpec) : _root_.Go.OpenSpec := { _root_.Go.OpenSpec.ofChange s with cond := some uptoSmall }

/-- 'laws.FnExactBurstTable', WHERE WHAT IT READS IS OF BULK AT MOST 1048576: true; the input reads as it did. -/
def fnExactBurstTableUptoRow : OpenClaim := { program := "ytdodokeebmdceaa", sum := "a00697d5331c0058a39c715c5f77784e1b89a444f73c229fa16046dc75630956", func := "loop.example/g01210/laws.FnExactBurstTable", spec := "fnExactBurstTable", recurses := true, plainKeys := false, apart := false, narrowed := true }
def FnExactBurstTableUptoSaid : Prop := fnExactBurstTableUptoRow.holds Try.pinned (OpenSpec.upto fnExactBurstTableSpec)

/-- 'laws.FnExactBurstMean', WHERE WHAT IT READS IS OF BULK AT MOST 1048576: true; the input reads as it did. -/
def fnExactBurstMeanUptoRow : OpenClaim := { program := "ytdodokeebmdceaa", sum := "a00697d5331c0058a39c715c5f77784e1b89a444f73c229fa16046dc75630956", func := "loop.example/g01210/laws.FnExactBurstMean", spec := "fnExactBurstMean", recurses := true, plainKeys := false, apart := false, narrowed := true }
def FnExactBurstMeanUptoSaid : Prop := fnExactBurstMeanUptoRow.holds Try.pinned (OpenSpec.upto fnExactBurstMeanSpec)

/-- 'laws.FnExactMeanWait', WHERE WHAT IT READS IS OF BULK AT MOST 1048576: true; the input reads as it did. -/
def fnExactMeanWaitUptoRow : OpenClaim := { program := "ytdodokeebmdceaa", sum := "a00697d5331c0058a39c715c5f77784e1b89a444f73c229fa16046dc75630956", func := "loop.example/g01210/laws.FnExactMeanWait", spec := "fnExactMeanWait", recurses := true, plainKeys := false, apart := false, narrowed := true }
def FnExactMeanWaitUptoSaid : Prop := fnExactMeanWaitUptoRow.holds Try.pinned (OpenSpec.upto fnExactMeanWaitSpec)

/-- 'laws.FnExactChanceWithin', WHERE WHAT IT READS IS OF BULK AT MOST 1048576: true; the input reads as it did. -/
def fnExactChanceWithinUptoRow : OpenClaim := { program := "ytdodokeebmdceaa", sum := "a00697d5331c0058a39c715c5f77784e1b89a444f73c229fa16046dc75630956", func := "loop.example/g01210/laws.FnExactChanceWithin", spec := "fnExactChanceWithin", unfollowed := true, recurses := true, plainKeys := false, apart := false, narrowed := true }
def FnExactChanceWithinUptoSaid : Prop := fnExactChanceWithinUptoRow.holds Try.pinned (OpenSpec.upto fnExactChanceWithinSpec)

/-- 'laws.FnExactMeanAll', WHERE WHAT IT READS IS OF BULK AT MOST 1048576: true; the input reads as it did. -/
def fnExactMeanAllUptoRow : OpenClaim := { program := "ytdodokeebmdceaa", sum := "a00697d5331c0058a39c715c5f77784e1b89a444f73c229fa16046dc75630956", func := "loop.example/g01210/laws.FnExactMeanAll", spec := "fnExactMeanAll", recurses := true, plainKeys := false, apart := false, narrowed := true }
def FnExactMeanAllUptoSaid : Prop := fnExactMeanAllUptoRow.holds Try.pinned (OpenSpec.upto fnExactMeanAllSpec)

/-- 'laws.FnExactChanceAll', WHERE WHAT IT READS IS OF BULK AT MOST 1048576: true; the input reads as it did. -/
def fnExactChanceAllUptoRow : OpenClaim := { program := "ytdodokeebmdceaa", sum := "a00697d5331c0058a39c715c5f77784e1b89a444f73c229fa16046dc75630956", func := "loop.example/g01210/laws.FnExactChanceAll", spec := "fnExactChanceAll", unfollowed := true, recurses := true, plainKeys := false, apart := false, narrowed := true }
def FnExactChanceAllUptoSaid : Prop := fnExactChanceAllUptoRow.holds Try.pinned (OpenSpec.upto fnExactChanceAllSpec)

/-- 'laws.FnExactPhraseWait', WHERE WHAT IT READS IS OF BULK AT MOST 1048576: true; the input reads as it did. -/
def fnExactPhraseWaitUptoRow : OpenClaim := { program := "ytdodokeebmdceaa", sum := "a00697d5331c0058a39c715c5f77784e1b89a444f73c229fa16046dc75630956", func := "loop.example/g01210/laws.FnExactPhraseWait", spec := "fnExactPhraseWait", recurses := true, plainKeys := false, apart := false, narrowed := true }
def FnExactPhraseWaitUptoSaid : Prop := fnExactPhraseWaitUptoRow.holds Try.pinned (OpenSpec.upto fnExactPhraseWaitSpec)

/-- 'laws.FnExactPhraseOverlap', WHERE WHAT IT READS IS OF BULK AT MOST 1048576: true; the input reads as it did. -/
def fnExactPhraseOverlapUptoRow : OpenClaim := { program := "ytdodokeebmdceaa", sum := "a00697d5331c0058a39c715c5f77784e1b89a444f73c229fa16046dc75630956", func := "loop.example/g01210/laws.FnExactPhraseOverlap", spec := "fnExactPhraseOverlap", recurses := true, plainKeys := false, apart := false, narrowed := true }
def FnExactPhraseOverlapUptoSaid : Prop := fnExactPhraseOverlapUptoRow.holds Try.pinned (OpenSpec.upto fnExactPhraseOverlapSpec)

/-- 'laws.FnExactPhraseFirst', WHERE WHAT IT READS IS OF BULK AT MOST 1048576: true; the input reads as it did. -/
def fnExactPhraseFirstUptoRow : OpenClaim := { program := "ytdodokeebmdceaa", sum := "a00697d5331c0058a39c715c5f77784e1b89a444f73c229fa16046dc75630956", func := "loop.example/g01210/laws.FnExactPhraseFirst", spec := "fnExactPhraseFirst", recurses := true, plainKeys := false, apart := false, narrowed := true }
def FnExactPhraseFirstUptoSaid : Prop := fnExactPhraseFirstUptoRow.holds Try.pinned (OpenSpec.upto fnExactPhraseFirstSpec)

/-- 'laws.FnExactPhraseWithin', WHERE WHAT IT READS IS OF BULK AT MOST 1048576: true; the input reads as it did. -/
def fnExactPhraseWithinUptoRow : OpenClaim := { program := "ytdodokeebmdceaa", sum := "a00697d5331c0058a39c715c5f77784e1b89a444f73c229fa16046dc75630956", func := "loop.example/g01210/laws.FnExactPhraseWithin", spec := "fnExactPhraseWithin", unfollowed := true, recurses := true, plainKeys := false, apart := false, narrowed := true }
def FnExactPhraseWithinUptoSaid : Prop := fnExactPhraseWithinUptoRow.holds Try.pinned (OpenSpec.upto fnExactPhraseWithinSpec)

/-- 'laws.FnExactRunWithin', WHERE WHAT IT READS IS OF BULK AT MOST 1048576: true; the input reads as it did. -/
def fnExactRunWithinUptoRow : OpenClaim := { program := "ytdodokeebmdceaa", sum := "a00697d5331c0058a39c715c5f77784e1b89a444f73c229fa16046dc75630956", func := "loop.example/g01210/laws.FnExactRunWithin", spec := "fnExactRunWithin", unfollowed := true, recurses := true, plainKeys := false, apart := false, narrowed := true }
def FnExactRunWithinUptoSaid : Prop := fnExactRunWithinUptoRow.holds Try.pinned (OpenSpec.upto fnExactRunWithinSpec)

/-- 'laws.FnExactPhrasesOf', WHERE WHAT IT READS IS OF BULK AT MOST 1048576: true; the input reads as it did. -/
def fnExactPhrasesOfUptoRow : OpenClaim := { program := "ytdodokeebmdceaa", sum := "a00697d5331c0058a39c715c5f77784e1b89a444f73c229fa16046dc75630956", func := "loop.example/g01210/laws.FnExactPhrasesOf", spec := "fnExactPhrasesOf", recurses := true, plainKeys := false, apart := false, narrowed := true }
def FnExactPhrasesOfUptoSaid : Prop := fnExactPhrasesOfUptoRow.holds Try.pinned (OpenSpec.upto fnExactPhrasesOfSpec)

end Rows
end Go.Proofs.Ytdodokeebmdceaa
