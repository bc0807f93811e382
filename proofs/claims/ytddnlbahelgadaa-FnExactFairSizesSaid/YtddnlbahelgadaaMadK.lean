/-
  Lists of integers that are marked.
-/
import Derived.Test.YtddnlbahelgadaaRows
import Derived.Test.YtddnlbahelgadaaArr
import Derived.Test.YtddnlbahelgadaaDieW
import Derived.Test.YtddnlbahelgadaaSortW
import Derived.Test.YtddnlbahelgadaaDicesW
import Derived.Test.YtddnlbahelgadaaOwnL
import Derived.Test.YtddnlbahelgadaaIntsW
import Derived.Test.YtddnlbahelgadaaIntsE
import Derived.Test.YtddnlbahelgadaaOpenI
import Derived.Test.YtddnlbahelgadaaOpenD
import Derived.Test.YtddnlbahelgadaaMadL
import Derived.Test.YtddnlbahelgadaaMadC
import Derived.Test.YtddnlbahelgadaaOpenD
import Derived.WalkKit
import Derived.WalkLawsBesides
import Derived.WalkSpells
import Derived.ProofKit
import Derived.OpenShut
import Derived.Deep.RegionWith
import Derived.Deep.QuietTactic
import Derived.BigQuiet
namespace Go.Proofs.Ytddnlbahelgadaa
open Go.ChangeShapes Go.WideShapes Go.ChangeAt Go.RowKit
open Go.ChangeMaps (open_string shut_string)

namespace MadK
open Dice Arr DieW SortW OwnL OpenG OpenD MadL MadC IntsW

/-- A list of integers in memory below block U. -/
def IntsU (U : Nat) (w : World) (A : Option Addr) (n : Nat) (f : Nat → Int) : Prop := n = 0 ∨ ∃ b, A = some ⟨b, 0, none⟩ ∧ b < U ∧ At w b n f
theorem IntsU.of {B : Nat} {w : World} {A : Option Addr} {n : Nat} {f : Nat → Int} (h : Ints B w A n f) : IntsU w.heap.size w A n f := by
  rcases h with h | ⟨b, hA, _, h⟩
  · exact .inl h
  · exact .inr ⟨b, hA, h.lt, h⟩
theorem IntsU.low {U : Nat} {w : World} {A : Option Addr} {n : Nat} {f : Nat → Int} (h : IntsU U w A n f) : Ints 0 w A n f := by
  rcases h with h | ⟨b, hA, _, h⟩
  · exact .inl h
  · exact .inr ⟨b, hA, Nat.zero_le _, h⟩
theorem IntsU.below {U B : Nat} {w w' : World} {A : Option Addr} {n : Nat} {f : Nat → Int} (h : IntsU U w A n f) (hU : U ≤ B) (hb : Below B w w') : IntsU U w' A n f := by
  rcases h with h | ⟨b, hA, hl, h⟩
  · exact .inl h
  · exact .inr ⟨b, hA, hl, h.below (by omega) hb⟩
theorem IntsU.up {U : Nat} {w w' : World} {A : Option Addr} {n : Nat} {f : Nat → Int} (h : IntsU U w A n f) (hb : Below w.heap.size w w') : IntsU U w' A n f := by
  rcases h with h | ⟨b, hA, hl, h⟩
  · exact .inl h
  · exact .inr ⟨b, hA, hl, h.up hb⟩
theorem IntsU.kept {U g : Nat} {w w' : World} {A : Option Addr} {n : Nat} {f : Nat → Int} (h : IntsU U w A n f) (hg : w.grownBy w' (some g)) (hU : U ≤ g) : IntsU U w' A n f := by
  rcases h with h | ⟨b, hA, hl, h⟩
  · exact .inl h
  · exact .inr ⟨b, hA, hl, keptA h hg (fun e => by injection e with e; omega)⟩
theorem keptI {B g : Nat} {w w' : World} {A : Option Addr} {n : Nat} {f : Nat → Int} (h : Ints B w A n f) (hg : w.grownBy w' (some g)) (hB : g < B) : Ints B w' A n f := by
  rcases h with h | ⟨b, hA, hl, h⟩
  · exact .inl h
  · exact .inr ⟨b, hA, hl, keptA h hg (fun e => by injection e with e; omega)⟩

set_option maxHeartbeats 1000000 in
theorem markInts_grown (g n c K : Nat) (f : Nat → Int) (w : World) (h : At w g n f) (hn : n ≤ 1048576) (hK : K ≤ 1048576) :
    Calls Try.prog 31 #[.slice (some ⟨g, 0, none⟩) n c, .int .i64 K] w fun e w' => e = .returned (.int .i64 ((K : Int) + n)) ∧ w.grownBy w' (some g) := by
  go_enter Try.func31, Try.ntmps31
  go_wp2_with fail
  go_loopw [1, 5] (fun kv i wr => ∃ (j : Nat) (q : Nat → Int), j ≤ n ∧ i = .int .i64 j ∧ kv = .int .i64 ((K : Int) + j) ∧ w.grownBy wr (some g) ∧ At wr g n q) (fun _ i _ => n - (intOf i).toNat)
  case atStart => exact ⟨0, f, Nat.zero_le _, rfl, by simp, grown_self _ _, h⟩
  case round =>
    clear h
    obtain ⟨j, q, hj, rfl, rfl, hg, hA⟩ := hrel
    by_cases hlt : j < n
    · have cj := hA.cell j hlt
      have zj := hA.free j
      go_wp2_with fail
      go_roundw
      case rel => exact ⟨j + 1, put q j ((K : Int) + j), by omega, by go_num, by congr 1, grown_set hg, hA.set hlt _⟩
      case measure => simp [intOf]; omega
    · obtain rfl : j = n := by omega
      go_wp2_with fail
      go_ret
      exact ⟨rfl, hg⟩


end MadK
end Go.Proofs.Ytddnlbahelgadaa
