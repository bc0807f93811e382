/-
  Five numbers in an array.
-/
import Derived.Test.YtlpkonobnipdeaaRows
import Derived.Test.YtlpkonobnipdeaaArr
import Derived.Test.YtlpkonobnipdeaaDieW
import Derived.Test.YtlpkonobnipdeaaSortW
import Derived.Test.YtlpkonobnipdeaaOpenD
import Derived.WalkKit
import Derived.WalkLawsBesides
import Derived.WalkSpells
import Derived.ProofKit
import Derived.OpenShut
import Derived.Deep.RegionWith
import Derived.Deep.QuietTactic
import Derived.BigQuiet
namespace Go.Proofs.Ytlpkonobnipdeaa
open Go.ChangeShapes Go.WideShapes Go.ChangeAt Go.RowKit
open Go.ChangeMaps (open_string shut_string)

namespace Five
open Dice Arr DieW SortW

/-- So many numbers as a value and in a block. -/
abbrev v5 (f : Nat → Int) : Value := .agg #[.int .i64 (f 0), .int .i64 (f 1), .int .i64 (f 2), .int .i64 (f 3), .int .i64 (f 4)]
theorem v5_vals (f : Nat → Int) : v5 f = .agg (vals 5 f).toArray := rfl
abbrev fiveO (f : Nat → Int) (t : TypeId) : Obj := .cells #[.int .i64 (f 0), .int .i64 (f 1), .int .i64 (f 2), .int .i64 (f 3), .int .i64 (f 4)] t
theorem lt5 {k : Nat} (h : k < 5) : k = 0 ∨ k = 1 ∨ k = 2 ∨ k = 3 ∨ k = 4 := by omega
theorem At.new5 (w : World) (f : Nat → Int) (t : TypeId) {b : Nat} (hb : b = w.heap.size) : At (w.alloc (fiveO f t)) b 5 f := by
  subst hb
  exact At.new w _ t 5 f fun k hk => by
    obtain rfl | rfl | rfl | rfl | rfl := lt5 hk
    all_goals rfl
theorem At.five {w : World} {b : Nat} {f : Nat → Int} (h : At w b 5 f) : w.cell? ⟨b, 0, none⟩ = some (.int .i64 (f 0)) ∧ w.cell? ⟨b, 1, none⟩ = some (.int .i64 (f 1)) ∧ w.cell? ⟨b, 2, none⟩ = some (.int .i64 (f 2)) ∧ w.cell? ⟨b, 3, none⟩ = some (.int .i64 (f 3)) ∧ w.cell? ⟨b, 4, none⟩ = some (.int .i64 (f 4)) :=
  ⟨h.cell 0 (by omega), h.cell 1 (by omega), h.cell 2 (by omega), h.cell 3 (by omega), h.cell 4 (by omega)⟩
theorem At.freefive {w : World} {b : Nat} {f : Nat → Int} (h : At w b 5 f) : w.frozen? ⟨b, 0, none⟩ = false ∧ w.frozen? ⟨b, 1, none⟩ = false ∧ w.frozen? ⟨b, 2, none⟩ = false ∧ w.frozen? ⟨b, 3, none⟩ = false ∧ w.frozen? ⟨b, 4, none⟩ = false :=
  ⟨h.free 0, h.free 1, h.free 2, h.free 3, h.free 4⟩
set_option maxHeartbeats 2000000 in
theorem eqA5_any (f : Nat → Int) (w : World) :
    Calls Try.prog 79 #[v5 f, v5 f] w fun e w' => e = .returned (.bool true) ∧ Below w.heap.size w w' := by
  have h1 := (At.new5 w f 27 rfl).past (fiveO f 27)
  have h2 := At.new5 (w.alloc (fiveO f 27)) f 27 rfl
  rw [size_alloc] at h2
  have hB := na (na (n0 w) (fiveO f 27)) (fiveO f 27)
  go_enter Try.func79, Try.ntmps79
  go_wp2_with fail
  go_loopw [5] (fun i wr => ∃ k : Nat, k ≤ 5 ∧ i = .int .i64 k ∧ Below w.heap.size w wr ∧ At wr w.heap.size 5 f ∧ At wr (w.heap.size + 1) 5 f) (fun i _ => 5 - (intOf i).toNat)
  case atStart => exact ⟨0, by omega, rfl, hB, h1, h2⟩
  case round =>
    clear hB h1 h2
    obtain ⟨k, hk, rfl, hb, hd, hg⟩ := hrel
    by_cases hlt : k < 5
    · have c1 := hd.cell k hlt
      have c2 := hg.cell k hlt
      go_wp2_with fail
      go_region
      go_wp2_with fail
      go_roundw
      case rel => exact ⟨k + 1, by omega, by go_num, hb.drew, hd.drew, hg.drew⟩
      case measure => simp [intOf]; omega
    · obtain rfl : k = 5 := by omega
      go_wp2_with fail
      go_ret
      exact ⟨rfl, hb⟩


end Five
end Go.Proofs.Ytlpkonobnipdeaa
