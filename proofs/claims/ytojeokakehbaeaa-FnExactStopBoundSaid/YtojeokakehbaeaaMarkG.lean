/-
  Marks of dice, told by what they write.
-/
import Derived.Test.YtojeokakehbaeaaRows
import Derived.Test.YtojeokakehbaeaaArr
import Derived.Test.YtojeokakehbaeaaDieW
import Derived.Test.YtojeokakehbaeaaFracW
import Derived.Test.YtojeokakehbaeaaOpenD
import Derived.WalkKit
import Derived.WalkLawsBesides
import Derived.WalkSpells
import Derived.ProofKit
import Derived.OpenShut
import Derived.Deep.RegionWith
import Derived.Deep.QuietTactic
import Derived.BigQuiet
namespace Go.Proofs.Ytojeokakehbaeaa
open Go.ChangeShapes Go.WideShapes Go.ChangeAt Go.RowKit
open Go.ChangeMaps (open_string shut_string)

namespace MarkG
open Dice Arr OpenD DieW FracW

theorem grown_set {w w' : World} {g j : Nat} {v : Value} (h : w.grownBy w' (some g)) : w.grownBy (w'.setCell ⟨g, j, none⟩ v) (some g) :=
  ⟨h.os, h.tape, h.output, by rw [World.size_setCell]; exact h.size, fun k hk hne => (heap_setCell_other _ _ _ _ (fun e => hne (by rw [e]))).trans (h.block k hk hne)⟩
theorem At.keptL {w w' : World} {b n m : Nat} {f : Nat → Int} (h : At w b n f) (hg : w.grownBy w' (some m)) (hb : b ≠ m) : At w' b n f :=
  ⟨Nat.lt_of_lt_of_le h.lt hg.size, fun k hk => (World.cell?_of_block (w := w) (hg.block b h.lt (fun e => hb (by injection e)))).trans (h.cell k hk), fun k => (World.frozen?_of_block (w := w) (hg.block b h.lt (fun e => hb (by injection e)))).trans (h.free k)⟩
theorem At.newv (x y : Int) (w : World) : At (w.alloc (.cells #[.int .i64 x, .int .i64 y] 33)) w.heap.size 2 (FracW.fr x y) :=
  At.new w _ _ 2 _ fun k hk => by
    obtain rfl | rfl : k = 0 ∨ k = 1 := by omega
    all_goals rfl


end MarkG
end Go.Proofs.Ytojeokakehbaeaa
