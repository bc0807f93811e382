/-
  Contracts of the law's own helpers on lists of integers, and of the marks of dice.
-/
import Derived.Test.YtiiknpebphpeiaaRows
import Derived.Test.YtiiknpebphpeiaaDicesW
import Derived.Test.YtiiknpebphpeiaaOpenD
import Derived.WalkKit
import Derived.WalkLawsBesides
import Derived.WalkSpells
import Derived.ProofKit
import Derived.OpenShut
import Derived.Deep.RegionWith
import Derived.Deep.QuietTactic
import Derived.BigQuiet
namespace Go.Proofs.Ytiiknpebphpeiaa
open Go.ChangeShapes Go.WideShapes Go.ChangeAt Go.RowKit
open Go.ChangeMaps (open_string shut_string)

namespace IntsW
open Dice Arr OpenD DieW DicesW

/-- A list of integers in memory from block B on. -/
def Ints (B : Nat) (w : World) (A : Option Addr) (n : Nat) (f : Nat → Int) : Prop := n = 0 ∨ ∃ b, A = some ⟨b, 0, none⟩ ∧ B ≤ b ∧ At w b n f
theorem Ints.up {B : Nat} {w w' : World} {A : Option Addr} {n : Nat} {f : Nat → Int} (h : Ints B w A n f) (hb : Below w.heap.size w w') : Ints B w' A n f := by
  rcases h with h | ⟨b, hA, hB, h⟩
  · exact .inl h
  · exact .inr ⟨b, hA, hB, h.up hb⟩
theorem Ints.mono {B B' : Nat} {w : World} {A : Option Addr} {n : Nat} {f : Nat → Int} (h : Ints B w A n f) (hB' : B' ≤ B) : Ints B' w A n f := by
  rcases h with h | ⟨b, hA, hB, h⟩
  · exact .inl h
  · exact .inr ⟨b, hA, by omega, h⟩
theorem Ints.at_ {B : Nat} {w : World} {A : Option Addr} {n : Nat} {f : Nat → Int} (h : Ints B w A n f) {k : Nat} (hk : k < n) : ∃ b, A = some ⟨b, 0, none⟩ ∧ B ≤ b ∧ At w b n f := by
  rcases h with h | h
  · omega
  · exact h
/-- What stays when other blocks than p are written. -/
def Rest (p : Nat) (w w' : World) : Prop := (∀ B, B ≤ p → Below B w w') ∧ ∀ b n f, b ≠ p → At w b n f → At w' b n f

set_option maxHeartbeats 1000000 in
theorem eqInts_any (B B' : Nat) (A A' : Option Addr) (n c c' : Nat) (f : Nat → Int) (w : World) (h : Ints B w A n f) (h' : Ints B' w A' n f) (hn : n ≤ maxLen) :
    Calls Try.prog 31 #[.slice A n c, .slice A' n c'] w fun e w' => e = .returned (.bool true) ∧ Below w.heap.size w w' := by
  unfold maxLen at hn
  have H := Lib.hid h; clear h
  have H' := Lib.hid h'; clear h'
  go_enter Try.func31, Try.ntmps31
  go_wp2_with fail
  go_loopw [5] (fun i wr => ∃ k : Nat, k ≤ n ∧ i = .int .i64 k ∧ Below w.heap.size w wr) (fun i _ => n - (intOf i).toNat)
  case atStart => exact ⟨0, Nat.zero_le _, rfl, n0 w⟩
  case round =>
    obtain ⟨k, hk, rfl, hb⟩ := hrel
    by_cases hlt : k < n
    · obtain ⟨b1, rfl, _, h1⟩ := (H.out.up hb).at_ hlt
      obtain ⟨b2, rfl, _, h2⟩ := (H'.out.up hb).at_ hlt
      have c1 := h1.cell k hlt
      have c2 := h2.cell k hlt
      go_wp2_with fail
      go_region
      all_goals
        go_wp2_with fail
        go_roundw
        case rel => exact ⟨k + 1, by omega, by go_num, hb.drew⟩
        case measure => simp [intOf]; omega
    · obtain rfl : k = n := by omega
      go_wp2_with fail
      go_ret
      exact ⟨rfl, hb⟩

set_option maxHeartbeats 1000000 in
theorem markInts_any (B : Nat) (A : Option Addr) (n c K : Nat) (f : Nat → Int) (w : World) (h : Ints B w A n f) (hn : n ≤ 1048576) (hK : K ≤ 1048576) :
    Calls Try.prog 33 #[.slice A n c, .int .i64 K] w fun e w' => e = .returned (.int .i64 ((K : Int) + n)) ∧ Ints B w' A n (fun i => (K : Int) + i) ∧ Below B w w' := by
  have H := Lib.hid h; clear h
  go_enter Try.func33, Try.ntmps33
  go_wp2_with fail
  go_loopw [1, 5] (fun kv i wr => ∃ (j : Nat) (g : Nat → Int), j ≤ n ∧ i = .int .i64 j ∧ kv = .int .i64 ((K : Int) + j) ∧ Below B w wr ∧ Ints B wr A n g ∧ Hid (∀ m, m < j → g m = (K : Int) + m)) (fun _ i _ => n - (intOf i).toNat)
  case atStart => exact ⟨0, f, Nat.zero_le _, rfl, by simp, Below.refl _ _, H.out, fun m hm => by omega⟩
  case round =>
    obtain ⟨j, g, hj, rfl, rfl, hb, hi, he⟩ := hrel
    by_cases hlt : j < n
    · obtain ⟨b, rfl, hBb, hA⟩ := hi.at_ hlt
      have cj := hA.cell j hlt
      have zj := hA.free j
      go_wp2_with fail
      go_roundw
      case rel =>
        refine ⟨j + 1, put g j ((K : Int) + j), by omega, by go_num, by congr 1, hb.setCell (p := ⟨b, j, none⟩) hBb _, .inr ⟨b, rfl, hBb, hA.set hlt _⟩, fun m hm => ?_⟩
        by_cases hmj : m = j
        · subst hmj; exact put_same _ _ _
        · rw [put_other _ hmj]; exact he.out m (by omega)
      case measure => simp [intOf]; omega
    · obtain rfl : j = n := by omega
      go_wp2_with fail
      go_ret
      refine ⟨rfl, ?_, hb⟩
      rcases hi with h0 | ⟨b, hA, hB', h⟩
      · exact .inl h0
      · exact .inr ⟨b, hA, hB', h.congr he.out⟩

set_option maxHeartbeats 1000000 in
theorem heldInts_any (B : Nat) (A : Option Addr) (n c K : Nat) (w : World) (h : Ints B w A n (fun i => (K : Int) + i)) (hn : n ≤ 1048576) (hK : K ≤ 1048576) :
    Calls Try.prog 34 #[.slice A n c, .int .i64 K] w fun e w' => e = .returned (.int .i64 ((K : Int) + n)) ∧ Below w.heap.size w w' := by
  have H := Lib.hid h; clear h
  go_enter Try.func34, Try.ntmps34
  go_wp2_with fail
  go_loopw [1, 5] (fun kv i wr => ∃ j : Nat, j ≤ n ∧ i = .int .i64 j ∧ kv = .int .i64 ((K : Int) + j) ∧ Below w.heap.size w wr) (fun _ i _ => n - (intOf i).toNat)
  case atStart => exact ⟨0, Nat.zero_le _, rfl, by simp, n0 w⟩
  case round =>
    obtain ⟨j, hj, rfl, rfl, hb⟩ := hrel
    by_cases hlt : j < n
    · obtain ⟨b, rfl, _, hA⟩ := (H.out.up hb).at_ hlt
      have cj := hA.cell j hlt
      go_wp2_with fail
      go_roundw
      case rel => exact ⟨j + 1, by omega, by go_num, by congr 1, hb⟩
      case measure => simp [intOf]; omega
    · obtain rfl : j = n := by omega
      go_wp2_with fail
      go_ret
      exact ⟨rfl, hb⟩

set_option maxHeartbeats 1000000 in
theorem markDice_any (g n c K : Nat) (f : Nat → Int) (w : World) (h : At w g (n * 6) f) (hn : n ≤ 1048576) (hK : K ≤ 1048576) :
    Calls Try.prog 32 #[.slice (some ⟨g, 0, none⟩) n c, .int .i64 K] w fun e w' => e = .returned (.int .i64 ((K : Int) + 6 * n)) ∧ (∃ f, At w' g (n * 6) f) ∧ Rest g w w' := by
  go_enter Try.func32, Try.ntmps32
  go_wp2_with fail
  go_loopw [1, 5] (fun kv i wr => ∃ (j : Nat) (f : Nat → Int), j ≤ n ∧ i = .int .i64 j ∧ kv = .int .i64 ((K : Int) + 6 * j) ∧ At wr g (n * 6) f ∧ Rest g w wr) (fun _ i _ => n - (intOf i).toNat)
  case atStart => exact ⟨0, f, Nat.zero_le _, rfl, by simp, h, fun B _ => Below.refl B w, fun _ _ _ _ h => h⟩
  case round =>
    clear h
    obtain ⟨j, f0, hj, rfl, rfl, hA0, hR0⟩ := hrel
    by_cases hlt : j < n
    · have hit : decide ((j : Int) < (n : Int)) = true := decide_eq_true (by omega)
      go_wp2_with fail
      go_loopw [1, 6] (fun kv i wr => ∃ (k : Nat) (f : Nat → Int), k ≤ 6 ∧ i = .int .i64 k ∧ kv = .int .i64 ((K : Int) + 6 * j + k) ∧ At wr g (n * 6) f ∧ Rest g w wr) (fun _ i _ => 6 - (intOf i).toNat)
      case atStart => exact ⟨0, f0, Nat.zero_le _, rfl, by simp, hA0, hR0⟩
      case round =>
        clear hA0 hR0
        obtain ⟨k, f, hk, rfl, rfl, hA, hR⟩ := hrel
        by_cases hk6 : k < 6
        · have hjk : j * 6 + k < n * 6 := by omega
          have cj := hA.cell (j * 6 + k) hjk
          have zj := hA.free (j * 6 + k)
          go_wp2_with fail
          go_roundw
          case rel => exact ⟨k + 1, put f (j * 6 + k) ((K : Int) + 6 * j + k), by omega, by go_num, by congr 1, hA.set hjk _, fun B hB => (hR.1 B hB).setCell (p := ⟨g, j * 6 + k, none⟩) hB _, fun b n f hb h => (hR.2 b n f hb h).other hb _ _⟩
          case measure => simp [intOf]; omega
        · obtain rfl : k = 6 := by omega
          go_wp2_with fail
          go_roundw
          case rel => exact ⟨j + 1, f, by omega, by go_num, by congr 1, hA, hR⟩
          case measure => simp [intOf]; omega
    · obtain rfl : j = n := by omega
      go_wp2_with fail
      go_ret
      exact ⟨rfl, ⟨f0, hA0⟩, hR0⟩


end IntsW
end Go.Proofs.Ytiiknpebphpeiaa
