/-
  Marks of dice, told by what they write.
-/
import Derived.Test.YtddnlbahelgadaaRows
import Derived.Test.YtddnlbahelgadaaArr
import Derived.Test.YtddnlbahelgadaaDieW
import Derived.Test.YtddnlbahelgadaaDicesW
import Derived.Test.YtddnlbahelgadaaIntsW
import Derived.Test.YtddnlbahelgadaaFracW
import Derived.Test.YtddnlbahelgadaaOpenD
import Derived.WalkKit
import Derived.WalkLawsBesides
import Derived.WalkSpells
import Derived.ProofKit
import Derived.OpenShut
import Derived.Deep.RegionWith
import Derived.Deep.QuietTactic
import Derived.BigQuiet
namespace Go.Proofs.Ytddnlbahelgadaa
open Go.ChangeShapes Go.WideShapes Go.ChangeAt Go.RowKit
open Go.ChangeMaps (open_string shut_string)

namespace MarkG
open Dice Arr OpenD DieW DicesW IntsW FracW

theorem grown_set {w w' : World} {g j : Nat} {v : Value} (h : w.grownBy w' (some g)) : w.grownBy (w'.setCell ⟨g, j, none⟩ v) (some g) :=
  ⟨h.os, h.tape, h.output, by rw [World.size_setCell]; exact h.size, fun k hk hne => (heap_setCell_other _ _ _ _ (fun e => hne (by rw [e]))).trans (h.block k hk hne)⟩
set_option maxHeartbeats 1000000 in
theorem markDice_grown (g n c K : Nat) (f : Nat → Int) (w : World) (h : At w g (n * 6) f) (hn : n ≤ 1048576) (hK : K ≤ 1048576) :
    Calls Try.prog 46 #[.slice (some ⟨g, 0, none⟩) n c, .int .i64 K] w fun e w' => e = .returned (.int .i64 ((K : Int) + 6 * n)) ∧ (∃ f, At w' g (n * 6) f) ∧ w.grownBy w' (some g) := by
  go_enter Try.func46, Try.ntmps46
  go_wp2_with fail
  go_loopw [1, 5] (fun kv i wr => ∃ (j : Nat) (f : Nat → Int), j ≤ n ∧ i = .int .i64 j ∧ kv = .int .i64 ((K : Int) + 6 * j) ∧ At wr g (n * 6) f ∧ w.grownBy wr (some g)) (fun _ i _ => n - (intOf i).toNat)
  case atStart => exact ⟨0, f, Nat.zero_le _, rfl, by simp, h, World.grownBy.refl w _⟩
  case round =>
    clear h
    obtain ⟨j, f0, hj, rfl, rfl, hA0, hR0⟩ := hrel
    by_cases hlt : j < n
    · have hit : decide ((j : Int) < (n : Int)) = true := decide_eq_true (by omega)
      go_wp2_with fail
      go_loopw [1, 6] (fun kv i wr => ∃ (k : Nat) (f : Nat → Int), k ≤ 6 ∧ i = .int .i64 k ∧ kv = .int .i64 ((K : Int) + 6 * j + k) ∧ At wr g (n * 6) f ∧ w.grownBy wr (some g)) (fun _ i _ => 6 - (intOf i).toNat)
      case atStart => exact ⟨0, f0, Nat.zero_le _, rfl, by simp, hA0, hR0⟩
      case round =>
        clear hA0 hR0
        obtain ⟨k, f, hk, rfl, rfl, hA, hR⟩ := hrel
        by_cases hk6 : k < 6
        · have hjk : j * 6 + k < n * 6 := by omega
          have cj := hA.cell (j * 6 + k) hjk
          have zj := hA.free (j * 6 + k)
          go_wp2_with fail
          go_roundw
          case rel => exact ⟨k + 1, put f (j * 6 + k) ((K : Int) + 6 * j + k), by omega, by go_num, by congr 1, hA.set hjk _, grown_set hR⟩
          case measure => simp [intOf]; omega
        · obtain rfl : k = 6 := by omega
          go_wp2_with fail
          go_roundw
          case rel => exact ⟨j + 1, f, by omega, by go_num, by congr 1, hA, hR⟩
          case measure => simp [intOf]; omega
    · obtain rfl : j = n := by omega
      go_wp2_with fail
      go_ret
      exact ⟨rfl, ⟨f0, hA0⟩, hR0⟩


theorem At.keptL {w w' : World} {b n m : Nat} {f : Nat → Int} (h : At w b n f) (hg : w.grownBy w' (some m)) (hb : b ≠ m) : At w' b n f :=
  ⟨Nat.lt_of_lt_of_le h.lt hg.size, fun k hk => (World.cell?_of_block (w := w) (hg.block b h.lt (fun e => hb (by injection e)))).trans (h.cell k hk), fun k => (World.frozen?_of_block (w := w) (hg.block b h.lt (fun e => hb (by injection e)))).trans (h.free k)⟩
theorem _root_.Go.Proofs.Ytddnlbahelgadaa.IntsW.Ints.kept {B g0 : Nat} {w w' : World} {A : Option Addr} {m : Nat} {f : Nat → Int} (h : Ints B w A m f) (hg : w.grownBy w' (some g0)) (h0 : g0 < B) : Ints B w' A m f := by
  rcases h with h | ⟨b, hA, hB, h⟩
  · exact .inl h
  · exact .inr ⟨b, hA, hB, At.keptL h hg (by omega)⟩
theorem At.newv (x y : Int) (w : World) : At (w.alloc (.cells #[.int .i64 x, .int .i64 y] 33)) w.heap.size 2 (FracW.fr x y) :=
  At.new w _ _ 2 _ fun k hk => by
    obtain rfl | rfl : k = 0 ∨ k = 1 := by omega
    all_goals rfl


end MarkG
end Go.Proofs.Ytddnlbahelgadaa
