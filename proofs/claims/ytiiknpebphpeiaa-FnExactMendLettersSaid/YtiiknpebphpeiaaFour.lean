/-
  Four numbers in an array.
-/
import Derived.Test.YtiiknpebphpeiaaRows
import Derived.Test.YtiiknpebphpeiaaArr
import Derived.Test.YtiiknpebphpeiaaDieW
import Derived.Test.YtiiknpebphpeiaaSortW
import Derived.Test.YtiiknpebphpeiaaOpenD
import Derived.WalkKit
import Derived.WalkLawsBesides
import Derived.WalkSpells
import Derived.ProofKit
import Derived.OpenShut
import Derived.Deep.RegionWith
import Derived.Deep.QuietTactic
import Derived.BigQuiet
namespace Go.Proofs.Ytiiknpebphpeiaa
open Go.ChangeShapes Go.WideShapes Go.ChangeAt Go.RowKit
open Go.ChangeMaps (open_string shut_string)

namespace Four
open Dice Arr DieW SortW

/-- So many numbers as a value and in a block. -/
abbrev v4 (f : Nat → Int) : Value := .agg #[.int .i64 (f 0), .int .i64 (f 1), .int .i64 (f 2), .int .i64 (f 3)]
theorem v4_vals (f : Nat → Int) : v4 f = .agg (vals 4 f).toArray := rfl
abbrev fourO (f : Nat → Int) (t : TypeId) : Obj := .cells #[.int .i64 (f 0), .int .i64 (f 1), .int .i64 (f 2), .int .i64 (f 3)] t
theorem lt4 {k : Nat} (h : k < 4) : k = 0 ∨ k = 1 ∨ k = 2 ∨ k = 3 := by omega
theorem At.new4 (w : World) (f : Nat → Int) (t : TypeId) {b : Nat} (hb : b = w.heap.size) : At (w.alloc (fourO f t)) b 4 f := by
  subst hb
  exact At.new w _ t 4 f fun k hk => by
    obtain rfl | rfl | rfl | rfl := lt4 hk
    all_goals rfl
theorem At.four {w : World} {b : Nat} {f : Nat → Int} (h : At w b 4 f) : w.cell? ⟨b, 0, none⟩ = some (.int .i64 (f 0)) ∧ w.cell? ⟨b, 1, none⟩ = some (.int .i64 (f 1)) ∧ w.cell? ⟨b, 2, none⟩ = some (.int .i64 (f 2)) ∧ w.cell? ⟨b, 3, none⟩ = some (.int .i64 (f 3)) :=
  ⟨h.cell 0 (by omega), h.cell 1 (by omega), h.cell 2 (by omega), h.cell 3 (by omega)⟩
theorem At.freefour {w : World} {b : Nat} {f : Nat → Int} (h : At w b 4 f) : w.frozen? ⟨b, 0, none⟩ = false ∧ w.frozen? ⟨b, 1, none⟩ = false ∧ w.frozen? ⟨b, 2, none⟩ = false ∧ w.frozen? ⟨b, 3, none⟩ = false :=
  ⟨h.free 0, h.free 1, h.free 2, h.free 3⟩
set_option maxHeartbeats 2000000 in
theorem eqA4_any (f : Nat → Int) (w : World) :
    Calls Try.prog 66 #[v4 f, v4 f] w fun e w' => e = .returned (.bool true) ∧ Below w.heap.size w w' := by
  have h1 := (At.new4 w f 24 rfl).past (fourO f 24)
  have h2 := At.new4 (w.alloc (fourO f 24)) f 24 rfl
  rw [size_alloc] at h2
  have hB := na (na (n0 w) (fourO f 24)) (fourO f 24)
  go_enter Try.func66, Try.ntmps66
  go_wp2_with fail
  go_loopw [5] (fun i wr => ∃ k : Nat, k ≤ 4 ∧ i = .int .i64 k ∧ Below w.heap.size w wr ∧ At wr w.heap.size 4 f ∧ At wr (w.heap.size + 1) 4 f) (fun i _ => 4 - (intOf i).toNat)
  case atStart => exact ⟨0, by omega, rfl, hB, h1, h2⟩
  case round =>
    clear hB h1 h2
    obtain ⟨k, hk, rfl, hb, hd, hg⟩ := hrel
    by_cases hlt : k < 4
    · have c1 := hd.cell k hlt
      have c2 := hg.cell k hlt
      go_wp2_with fail
      go_region
      go_wp2_with fail
      go_roundw
      case rel => exact ⟨k + 1, by omega, by go_num, hb.drew, hd.drew, hg.drew⟩
      case measure => simp [intOf]; omega
    · obtain rfl : k = 4 := by omega
      go_wp2_with fail
      go_ret
      exact ⟨rfl, hb⟩


end Four
end Go.Proofs.Ytiiknpebphpeiaa
