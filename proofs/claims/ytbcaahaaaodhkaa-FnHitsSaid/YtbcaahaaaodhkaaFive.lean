/-
  Five numbers in an array.
-/
import Derived.Test.YtbcaahaaaodhkaaRows
import Derived.Test.YtbcaahaaaodhkaaArr
import Derived.Test.YtbcaahaaaodhkaaDieW
import Derived.Test.YtbcaahaaaodhkaaSortW
import Derived.Test.YtbcaahaaaodhkaaOpenD
import Derived.WalkKit
import Derived.WalkLawsBesides
import Derived.WalkSpells
import Derived.ProofKit
import Derived.OpenShut
import Derived.Deep.RegionWith
import Derived.Deep.QuietTactic
import Derived.BigQuiet
namespace Go.Proofs.Ytbcaahaaaodhkaa
open Go.ChangeShapes Go.WideShapes Go.ChangeAt Go.RowKit
open Go.ChangeMaps (open_string shut_string)

namespace Five
open Dice Arr DieW SortW

/-- So many numbers as a value and in a block. -/
abbrev v5 (f : Nat → Int) : Value := .agg #[.int .i64 (f 0), .int .i64 (f 1), .int .i64 (f 2), .int .i64 (f 3), .int .i64 (f 4)]
theorem v5_vals (f : Nat → Int) : v5 f = .agg (vals 5 f).toArray := rfl
abbrev fiveO (f : Nat → Int) (t : TypeId) : Obj := .cells #[.int .i64 (f 0), .int .i64 (f 1), .int .i64 (f 2), .int .i64 (f 3), .int .i64 (f 4)] t
theorem lt5 {k : Nat} (h : k < 5) : k = 0 ∨ k = 1 ∨ k = 2 ∨ k = 3 ∨ k = 4 := by omega
theorem At.new5 (w : World) (f : Nat → Int) (t : TypeId) {b : Nat} (hb : b = w.heap.size) : At (w.alloc (fiveO f t)) b 5 f := by
  subst hb
  exact At.new w _ t 5 f fun k hk => by
    obtain rfl | rfl | rfl | rfl | rfl := lt5 hk
    all_goals rfl
theorem At.five {w : World} {b : Nat} {f : Nat → Int} (h : At w b 5 f) : w.cell? ⟨b, 0, none⟩ = some (.int .i64 (f 0)) ∧ w.cell? ⟨b, 1, none⟩ = some (.int .i64 (f 1)) ∧ w.cell? ⟨b, 2, none⟩ = some (.int .i64 (f 2)) ∧ w.cell? ⟨b, 3, none⟩ = some (.int .i64 (f 3)) ∧ w.cell? ⟨b, 4, none⟩ = some (.int .i64 (f 4)) :=
  ⟨h.cell 0 (by omega), h.cell 1 (by omega), h.cell 2 (by omega), h.cell 3 (by omega), h.cell 4 (by omega)⟩
theorem At.freefive {w : World} {b : Nat} {f : Nat → Int} (h : At w b 5 f) : w.frozen? ⟨b, 0, none⟩ = false ∧ w.frozen? ⟨b, 1, none⟩ = false ∧ w.frozen? ⟨b, 2, none⟩ = false ∧ w.frozen? ⟨b, 3, none⟩ = false ∧ w.frozen? ⟨b, 4, none⟩ = false :=
  ⟨h.free 0, h.free 1, h.free 2, h.free 3, h.free 4⟩


end Five
end Go.Proofs.Ytbcaahaaaodhkaa
