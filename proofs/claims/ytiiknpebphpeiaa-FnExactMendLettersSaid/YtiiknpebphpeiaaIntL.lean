/-
  Lists of integers and of dice, marked and held.
-/
import Derived.Test.YtiiknpebphpeiaaRows
import Derived.Test.YtiiknpebphpeiaaArr
import Derived.Test.YtiiknpebphpeiaaDieW
import Derived.Test.YtiiknpebphpeiaaSortW
import Derived.Test.YtiiknpebphpeiaaDicesW
import Derived.Test.YtiiknpebphpeiaaIntsW
import Derived.Test.YtiiknpebphpeiaaOpenD
import Derived.WalkKit
import Derived.WalkLawsBesides
import Derived.WalkSpells
import Derived.ProofKit
import Derived.OpenShut
import Derived.Deep.RegionWith
import Derived.Deep.QuietTactic
import Derived.BigQuiet
namespace Go.Proofs.Ytiiknpebphpeiaa
open Go.ChangeShapes Go.WideShapes Go.ChangeAt Go.RowKit
open Go.ChangeMaps (open_string shut_string)

namespace IntL
open Dice Arr OpenD DieW SortW DicesW IntsW

theorem At.same {w w' : World} {b n : Nat} {f : Nat → Int} (h : At w b n f) (hs : w.heap.size ≤ w'.heap.size) (e : w'.heap[b]? = w.heap[b]?) : At w' b n f :=
  ⟨Nat.lt_of_lt_of_le h.lt hs, fun k hk => (World.cell?_of_block (a := ⟨b, k, none⟩) e).trans (h.cell k hk), fun k => (World.frozen?_of_block (a := ⟨b, k, none⟩) e).trans (h.free k)⟩
theorem At.kept {w w' : World} {b n m : Nat} {f : Nat → Int} (h : At w b n f) (hg : w.grownBy w' (some m)) (hb : b ≠ m) : At w' b n f :=
  At.same h hg.size (hg.block b h.lt (fun e => hb (by injection e)))

theorem grown_set {w w' : World} {g j : Nat} {v : Value} (h : w.grownBy w' (some g)) : w.grownBy (w'.setCell ⟨g, j, none⟩ v) (some g) :=
  ⟨h.os, h.tape, h.output, by rw [World.size_setCell]; exact h.size, fun k hk hne => (heap_setCell_other _ _ _ _ (fun e => hne (by rw [e]))).trans (h.block k hk hne)⟩
theorem grown_of2 {w w' : World} {B : Nat} (h : Below B w w') (hB : w.heap.size ≤ B) (row : Option Nat) : w.grownBy w' row := ⟨h.os, h.tape, h.output, h.size, fun k hk _ => h.block k (by omega)⟩
theorem Ints.kept {B g0 : Nat} {w w' : World} {A : Option Addr} {m : Nat} {f : Nat → Int} (h : Ints B w A m f) (hg : w.grownBy w' (some g0)) (h0 : g0 < B) : Ints B w' A m f := by
  rcases h with h | ⟨b, hA, hB, h⟩
  · exact .inl h
  · exact .inr ⟨b, hA, hB, At.kept h hg (by omega)⟩
theorem At.keptL {w w' : World} {b n g0 : Nat} {f : Nat → Int} (h : At w b n f) (hg : w.grownBy w' (some g0)) (h0 : b ≠ g0) : At w' b n f := At.kept h hg h0
set_option maxHeartbeats 1000000 in
theorem markDice_grown (g n c K : Nat) (f : Nat → Int) (w : World) (h : At w g (n * 6) f) (hn : n ≤ 1048576) (hK : K ≤ 1048576) :
    Calls Try.prog 32 #[.slice (some ⟨g, 0, none⟩) n c, .int .i64 K] w fun e w' => e = .returned (.int .i64 ((K : Int) + 6 * n)) ∧ (∃ f, At w' g (n * 6) f) ∧ w.grownBy w' (some g) := by
  go_enter Try.func32, Try.ntmps32
  go_wp2_with fail
  go_loopw [1, 5] (fun kv i wr => ∃ (j : Nat) (f : Nat → Int), j ≤ n ∧ i = .int .i64 j ∧ kv = .int .i64 ((K : Int) + 6 * j) ∧ At wr g (n * 6) f ∧ w.grownBy wr (some g)) (fun _ i _ => n - (intOf i).toNat)
  case atStart => exact ⟨0, f, Nat.zero_le _, rfl, by simp, h, World.grownBy.refl w _⟩
  case round =>
    clear h
    obtain ⟨j, f0, hj, rfl, rfl, hA0, hR0⟩ := hrel
    by_cases hlt : j < n
    · have hit : decide ((j : Int) < (n : Int)) = true := decide_eq_true (by omega)
      go_wp2_with fail
      go_loopw [1, 6] (fun kv i wr => ∃ (k : Nat) (f : Nat → Int), k ≤ 6 ∧ i = .int .i64 k ∧ kv = .int .i64 ((K : Int) + 6 * j + k) ∧ At wr g (n * 6) f ∧ w.grownBy wr (some g)) (fun _ i _ => 6 - (intOf i).toNat)
      case atStart => exact ⟨0, f0, Nat.zero_le _, rfl, by simp, hA0, hR0⟩
      case round =>
        clear hA0 hR0
        obtain ⟨k, f, hk, rfl, rfl, hA, hR⟩ := hrel
        by_cases hk6 : k < 6
        · have hjk : j * 6 + k < n * 6 := by omega
          have cj := hA.cell (j * 6 + k) hjk
          have zj := hA.free (j * 6 + k)
          go_wp2_with fail
          go_roundw
          case rel => exact ⟨k + 1, put f (j * 6 + k) ((K : Int) + 6 * j + k), by omega, by go_num, by congr 1, hA.set hjk _, grown_set hR⟩
          case measure => simp [intOf]; omega
        · obtain rfl : k = 6 := by omega
          go_wp2_with fail
          go_roundw
          case rel => exact ⟨j + 1, f, by omega, by go_num, by congr 1, hA, hR⟩
          case measure => simp [intOf]; omega
    · obtain rfl : j = n := by omega
      go_wp2_with fail
      go_ret
      exact ⟨rfl, ⟨f0, hA0⟩, hR0⟩

theorem markInts1_any (B : Nat) (A : Option Addr) (m c : Nat) (f : Nat → Int) (w : World) (h : Ints B w A m f) (hm : m ≤ 1048576) :
    Calls Try.prog 33 #[.slice A m c, .int .i64 1] w fun e w' => e = .returned (.int .i64 (1 + (m : Int))) ∧ Ints B w' A m (fun t => 1 + (t : Int)) ∧ Below B w w' :=
  markInts_any B A m c 1 f w h hm (by omega)
theorem heldInts1_any (B : Nat) (A : Option Addr) (m c : Nat) (w : World) (h : Ints B w A m (fun t => 1 + (t : Int))) (hm : m ≤ 1048576) :
    Calls Try.prog 34 #[.slice A m c, .int .i64 1] w fun e w' => e = .returned (.int .i64 (1 + (m : Int))) ∧ Below w.heap.size w w' :=
  heldInts_any B A m c 1 w h hm (by omega)


end IntL
end Go.Proofs.Ytiiknpebphpeiaa
