/-
  Lists of integers: copied, and compared.
-/
import Derived.Test.YtiiknpebphpeiaaRows
import Derived.Test.YtiiknpebphpeiaaArr
import Derived.Test.YtiiknpebphpeiaaDieW
import Derived.Test.YtiiknpebphpeiaaSortW
import Derived.Test.YtiiknpebphpeiaaOwnL
import Derived.Test.YtiiknpebphpeiaaOpenI
import Derived.Test.YtiiknpebphpeiaaOpenD
import Derived.Test.YtiiknpebphpeiaaOpenD
import Derived.WalkKit
import Derived.WalkLawsBesides
import Derived.WalkSpells
import Derived.ProofKit
import Derived.OpenShut
import Derived.Deep.RegionWith
import Derived.Deep.QuietTactic
import Derived.BigQuiet
namespace Go.Proofs.Ytiiknpebphpeiaa
open Go.ChangeShapes Go.WideShapes Go.ChangeAt Go.RowKit
open Go.ChangeMaps (open_string shut_string)

namespace IntsE
open Dice Arr DieW SortW OwnL OpenG OpenD


/-- A list of integers in memory from block B on. -/
def Ints (B : Nat) (w : World) (A : Option Addr) (n : Nat) (f : Nat → Int) : Prop := n = 0 ∨ ∃ b, A = some ⟨b, 0, none⟩ ∧ B ≤ b ∧ At w b n f
theorem Ints.up {B : Nat} {w w' : World} {A : Option Addr} {n : Nat} {f : Nat → Int} (h : Ints B w A n f) (hb : Below w.heap.size w w') : Ints B w' A n f := by
  rcases h with h | ⟨b, hA, hB, h⟩
  · exact .inl h
  · exact .inr ⟨b, hA, hB, h.up hb⟩
theorem Ints.mono {B B' : Nat} {w : World} {A : Option Addr} {n : Nat} {f : Nat → Int} (h : Ints B w A n f) (hB' : B' ≤ B) : Ints B' w A n f := by
  rcases h with h | ⟨b, hA, hB, h⟩
  · exact .inl h
  · exact .inr ⟨b, hA, by omega, h⟩
theorem Ints.at_ {B : Nat} {w : World} {A : Option Addr} {n : Nat} {f : Nat → Int} (h : Ints B w A n f) {k : Nat} (hk : k < n) : ∃ b, A = some ⟨b, 0, none⟩ ∧ B ≤ b ∧ At w b n f := by
  rcases h with h | h
  · omega
  · exact h
/-- What stays when other blocks than p are written. -/
def Rest (p : Nat) (w w' : World) : Prop := (∀ B, B ≤ p → Below B w w') ∧ ∀ b n f, b ≠ p → At w b n f → At w' b n f

set_option maxHeartbeats 1000000 in
theorem eqInts_any (B B' : Nat) (A A' : Option Addr) (n c c' : Nat) (f : Nat → Int) (w : World) (h : Ints B w A n f) (h' : Ints B' w A' n f) (hn : n ≤ maxLen) :
    Calls Try.prog 31 #[.slice A n c, .slice A' n c'] w fun e w' => e = .returned (.bool true) ∧ Below w.heap.size w w' := by
  unfold maxLen at hn
  have H := Lib.hid h; clear h
  have H' := Lib.hid h'; clear h'
  go_enter Try.func31, Try.ntmps31
  go_wp2_with fail
  go_loopw [5] (fun i wr => ∃ k : Nat, k ≤ n ∧ i = .int .i64 k ∧ Below w.heap.size w wr) (fun i _ => n - (intOf i).toNat)
  case atStart => exact ⟨0, Nat.zero_le _, rfl, n0 w⟩
  case round =>
    obtain ⟨k, hk, rfl, hb⟩ := hrel
    by_cases hlt : k < n
    · obtain ⟨b1, rfl, _, h1⟩ := (H.out.up hb).at_ hlt
      obtain ⟨b2, rfl, _, h2⟩ := (H'.out.up hb).at_ hlt
      have c1 := h1.cell k hlt
      have c2 := h2.cell k hlt
      go_wp2_with fail
      go_region
      all_goals
        go_wp2_with fail
        go_roundw
        case rel => exact ⟨k + 1, by omega, by go_num, hb.drew⟩
        case measure => simp [intOf]; omega
    · obtain rfl : k = n := by omega
      go_wp2_with fail
      go_ret
      exact ⟨rfl, hb⟩


set_option maxHeartbeats 2000000 in
theorem toInts_any (A : Option Addr) (n c : Nat) (f : Nat → Int) (w : World) (h : RowI w A n f) (hn : n ≤ 1048576) :
    Calls Try.prog 50 #[.slice A n c] w fun e w' => ∃ g, e = .returned (.slice (some ⟨g, 0, none⟩) n n) ∧ w.heap.size ≤ g ∧ At w' g n f ∧ Below w.heap.size w w' := by
  obtain ⟨w1, hr, hZ, hb⟩ := make_ints w n hn
  have H := Lib.hid h; clear h
  obtain ⟨g, hg⟩ : ∃ g, g = w.heap.size := ⟨_, rfl⟩
  rw [← hg] at hr hZ
  have hgl : w.heap.size ≤ g := Nat.le_of_eq hg.symm
  clear hg
  go_enter Try.func50, Try.ntmps50
  go_wp2_with fail
  clear hr
  go_loopw [4] (fun iv wr => ∃ (i : Nat) (F : Nat → Int), i ≤ n ∧ iv = .int .i64 i ∧ At wr g n F ∧ Hid (∀ j, j < i → F j = f j) ∧ Below w.heap.size w wr) (fun iv _ => n - (intOf iv).toNat)
  case atStart => exact ⟨0, fun _ => 0, by omega, rfl, hZ, fun j hj => by omega, hb⟩
  case round =>
    clear hZ hb
    obtain ⟨i, F, hi, rfl, hA, hdone, hB⟩ := hrel
    by_cases hlt : i < n
    · have hit : decide ((i : Int) < (n : Int)) = true := decide_eq_true (by omega)
      obtain ⟨b, o, rfl, hbl, ci⟩ := (H.out.up hB).at_ hlt
      have fi := hA.free i
      have di := hA.cell i hlt
      go_wp2_with fail
      go_roundw
      case rel =>
        refine ⟨i + 1, put F i (f i), by omega, by go_num, hA.set hlt _, fun j hj => ?_, hB.setCell (p := ⟨g, i, none⟩) hgl _⟩
        by_cases hji : j = i
        · subst hji; exact put_same _ _ _
        · rw [put_other _ hji]; exact hdone.out j (by omega)
      case measure => simp [intOf]; omega
    · obtain rfl : i = n := by omega
      have hit : decide ((i : Int) < (i : Int)) = false := decide_eq_false (by omega)
      go_wp2_with fail
      go_ret
      exact ⟨g, rfl, hgl, hA.congr hdone.out, hB⟩




end IntsE
end Go.Proofs.Ytiiknpebphpeiaa
