/-
  Lists of integers and of dice, marked and held.
-/
import Derived.Test.YtiiknpebphpeiaaRows
import Derived.Test.YtiiknpebphpeiaaArr
import Derived.Test.YtiiknpebphpeiaaDieW
import Derived.Test.YtiiknpebphpeiaaSortW
import Derived.Test.YtiiknpebphpeiaaDicesW
import Derived.Test.YtiiknpebphpeiaaIntsW
import Derived.Test.YtiiknpebphpeiaaIntL
import Derived.Test.YtiiknpebphpeiaaOpenD
import Derived.WalkKit
import Derived.WalkLawsBesides
import Derived.WalkSpells
import Derived.ProofKit
import Derived.OpenShut
import Derived.Deep.RegionWith
import Derived.Deep.QuietTactic
import Derived.BigQuiet
namespace Go.Proofs.Ytiiknpebphpeiaa
open Go.ChangeShapes Go.WideShapes Go.ChangeAt Go.RowKit
open Go.ChangeMaps (open_string shut_string)

namespace LtrK
open Dice Arr OpenD DieW SortW DicesW IntsW IntL

theorem keptA {w w' : World} {b n : Nat} {row : Option Nat} {f : Nat → Int} (h : At w b n f) (hg : w.grownBy w' row) (hb : some b ≠ row) : At w' b n f :=
  ⟨Nat.lt_of_lt_of_le h.lt hg.size, fun k hk => (World.cell?_of_block (w := w) (hg.block b h.lt hb)).trans (h.cell k hk), fun k => (World.frozen?_of_block (w := w) (hg.block b h.lt hb)).trans (h.free k)⟩
theorem grown_self (w : World) (row : Option Nat) : w.grownBy w row := ⟨rfl, rfl, rfl, Nat.le_refl _, fun _ _ _ => rfl⟩
theorem below_grown {B : Nat} {w w' w'' : World} {r : Nat} (h : Below B w w') (hg : w'.grownBy w'' (some r)) (hB : B ≤ w'.heap.size) (hr : B ≤ r) : Below B w w'' := h.grown hg hB (fun k e => by injection e with e; omega)
/-- A list of integers in memory below block U. -/
def IntsU (U : Nat) (w : World) (A : Option Addr) (n : Nat) (f : Nat → Int) : Prop := n = 0 ∨ ∃ b, A = some ⟨b, 0, none⟩ ∧ b < U ∧ At w b n f
theorem IntsU.of {B : Nat} {w : World} {A : Option Addr} {n : Nat} {f : Nat → Int} (h : Ints B w A n f) : IntsU w.heap.size w A n f := by
  rcases h with h | ⟨b, hA, _, h⟩
  · exact .inl h
  · exact .inr ⟨b, hA, h.lt, h⟩
theorem IntsU.low {U : Nat} {w : World} {A : Option Addr} {n : Nat} {f : Nat → Int} (h : IntsU U w A n f) : Ints 0 w A n f := by
  rcases h with h | ⟨b, hA, _, h⟩
  · exact .inl h
  · exact .inr ⟨b, hA, Nat.zero_le _, h⟩
theorem IntsU.below {U B : Nat} {w w' : World} {A : Option Addr} {n : Nat} {f : Nat → Int} (h : IntsU U w A n f) (hU : U ≤ B) (hb : Below B w w') : IntsU U w' A n f := by
  rcases h with h | ⟨b, hA, hl, h⟩
  · exact .inl h
  · exact .inr ⟨b, hA, hl, h.below (by omega) hb⟩
theorem IntsU.up {U : Nat} {w w' : World} {A : Option Addr} {n : Nat} {f : Nat → Int} (h : IntsU U w A n f) (hb : Below w.heap.size w w') : IntsU U w' A n f := by
  rcases h with h | ⟨b, hA, hl, h⟩
  · exact .inl h
  · exact .inr ⟨b, hA, hl, h.up hb⟩
theorem IntsU.kept {U g : Nat} {w w' : World} {A : Option Addr} {n : Nat} {f : Nat → Int} (h : IntsU U w A n f) (hg : w.grownBy w' (some g)) (hU : U ≤ g) : IntsU U w' A n f := by
  rcases h with h | ⟨b, hA, hl, h⟩
  · exact .inl h
  · exact .inr ⟨b, hA, hl, keptA h hg (fun e => by injection e with e; omega)⟩
theorem keptI {B g : Nat} {w w' : World} {A : Option Addr} {n : Nat} {f : Nat → Int} (h : Ints B w A n f) (hg : w.grownBy w' (some g)) (hB : g < B) : Ints B w' A n f := by
  rcases h with h | ⟨b, hA, hl, h⟩
  · exact .inl h
  · exact .inr ⟨b, hA, hl, keptA h hg (fun e => by injection e with e; omega)⟩

set_option maxHeartbeats 1000000 in
theorem markInts_grown (g n c K : Nat) (f : Nat → Int) (w : World) (h : At w g n f) (hn : n ≤ 1048576) (hK : K ≤ 1048576) :
    Calls Try.prog 33 #[.slice (some ⟨g, 0, none⟩) n c, .int .i64 K] w fun e w' => e = .returned (.int .i64 ((K : Int) + n)) ∧ w.grownBy w' (some g) := by
  go_enter Try.func33, Try.ntmps33
  go_wp2_with fail
  go_loopw [1, 5] (fun kv i wr => ∃ (j : Nat) (q : Nat → Int), j ≤ n ∧ i = .int .i64 j ∧ kv = .int .i64 ((K : Int) + j) ∧ w.grownBy wr (some g) ∧ At wr g n q) (fun _ i _ => n - (intOf i).toNat)
  case atStart => exact ⟨0, f, Nat.zero_le _, rfl, by simp, grown_self _ _, h⟩
  case round =>
    clear h
    obtain ⟨j, q, hj, rfl, rfl, hg, hA⟩ := hrel
    by_cases hlt : j < n
    · have cj := hA.cell j hlt
      have zj := hA.free j
      go_wp2_with fail
      go_roundw
      case rel => exact ⟨j + 1, put q j ((K : Int) + j), by omega, by go_num, by congr 1, grown_set hg, hA.set hlt _⟩
      case measure => simp [intOf]; omega
    · obtain rfl : j = n := by omega
      go_wp2_with fail
      go_ret
      exact ⟨rfl, hg⟩

/-- A list of dice in memory from block B on. -/
def Dis (B : Nat) (w : World) (A : Option Addr) (n : Nat) (f : Nat → Int) : Prop := n = 0 ∨ ∃ b, A = some ⟨b, 0, none⟩ ∧ B ≤ b ∧ At w b (n * 6) f
theorem Dis.up {B : Nat} {w w' : World} {A : Option Addr} {n : Nat} {f : Nat → Int} (h : Dis B w A n f) (hb : Below w.heap.size w w') : Dis B w' A n f := by
  rcases h with h | ⟨b, hA, hB, h⟩
  · exact .inl h
  · exact .inr ⟨b, hA, hB, h.up hb⟩
theorem Dis.at_ {B : Nat} {w : World} {A : Option Addr} {n : Nat} {f : Nat → Int} (h : Dis B w A n f) {k : Nat} (hk : k < n) : ∃ b, A = some ⟨b, 0, none⟩ ∧ B ≤ b ∧ At w b (n * 6) f := by
  rcases h with h | h
  · omega
  · exact h
theorem Dis.row {B : Nat} {w : World} {A : Option Addr} {n : Nat} {f : Nat → Int} (h : Dis B w A n f) : Row w A n (fun i k => f (i * 6 + k)) := by
  rcases h with h | ⟨b, hA, _, h⟩
  · exact .inl h
  · exact .inr ⟨b, 0, hA, h.lt, fun i hi k hk => by rw [Nat.zero_add]; exact h.cell (i * 6 + k) (by omega)⟩
def DisU (U : Nat) (w : World) (A : Option Addr) (n : Nat) (f : Nat → Int) : Prop := n = 0 ∨ ∃ b, A = some ⟨b, 0, none⟩ ∧ b < U ∧ At w b (n * 6) f
theorem DisU.of {B : Nat} {w : World} {A : Option Addr} {n : Nat} {f : Nat → Int} (h : Dis B w A n f) : DisU w.heap.size w A n f := by
  rcases h with h | ⟨b, hA, _, h⟩
  · exact .inl h
  · exact .inr ⟨b, hA, h.lt, h⟩
theorem DisU.low {U : Nat} {w : World} {A : Option Addr} {n : Nat} {f : Nat → Int} (h : DisU U w A n f) : Dis 0 w A n f := by
  rcases h with h | ⟨b, hA, _, h⟩
  · exact .inl h
  · exact .inr ⟨b, hA, Nat.zero_le _, h⟩
theorem DisU.below {U B : Nat} {w w' : World} {A : Option Addr} {n : Nat} {f : Nat → Int} (h : DisU U w A n f) (hU : U ≤ B) (hb : Below B w w') : DisU U w' A n f := by
  rcases h with h | ⟨b, hA, hl, h⟩
  · exact .inl h
  · exact .inr ⟨b, hA, hl, h.below (by omega) hb⟩
theorem DisU.up {U : Nat} {w w' : World} {A : Option Addr} {n : Nat} {f : Nat → Int} (h : DisU U w A n f) (hb : Below w.heap.size w w') : DisU U w' A n f := by
  rcases h with h | ⟨b, hA, hl, h⟩
  · exact .inl h
  · exact .inr ⟨b, hA, hl, h.up hb⟩
theorem DisU.kept {U g : Nat} {w w' : World} {A : Option Addr} {n : Nat} {f : Nat → Int} (h : DisU U w A n f) (hg : w.grownBy w' (some g)) (hU : U ≤ g) : DisU U w' A n f := by
  rcases h with h | ⟨b, hA, hl, h⟩
  · exact .inl h
  · exact .inr ⟨b, hA, hl, keptA h hg (fun e => by injection e with e; omega)⟩
theorem keptDi {B g : Nat} {w w' : World} {A : Option Addr} {n : Nat} {f : Nat → Int} (h : Dis B w A n f) (hg : w.grownBy w' (some g)) (hB : g < B) : Dis B w' A n f := by
  rcases h with h | ⟨b, hA, hl, h⟩
  · exact .inl h
  · exact .inr ⟨b, hA, hl, keptA h hg (fun e => by injection e with e; omega)⟩
theorem eqDis_any (B B' : Nat) (A A' : Option Addr) (n c c' : Nat) (f : Nat → Int) (w : World) (h : Dis B w A n f) (h' : Dis B' w A' n f) (hn : n ≤ maxLen) :
    Calls Try.prog 23 #[.slice A n c, .slice A' n c'] w fun e w' => e = .returned (.bool true) ∧ Below w.heap.size w w' := eqS_any A A' n c c' _ w h.row h'.row hn

set_option maxHeartbeats 2000000 in
theorem markDis_any (B : Nat) (A : Option Addr) (n c : Nat) (F : Nat → Int) (w : World) (h : Dis B w A n F) (hn : n ≤ 100) :
    Calls Try.prog 32 #[.slice A n c, .int .i64 1] w fun e w' => e = .returned (.int .i64 (1 + 6 * (n : Int))) ∧ Dis B w' A n (fun t => 1 + (t : Int)) ∧ Below B w w' := by
  by_cases h0 : n = 0
  · subst h0
    go_enter Try.func32, Try.ntmps32
    go_wp2_with fail
    go_loopw [1, 5] (fun kv i wr => i = .int .i64 0 ∧ kv = .int .i64 1 ∧ wr = w) (fun _ i _ => 0)
    case atStart => exact ⟨rfl, rfl, rfl⟩
    case round =>
      obtain ⟨rfl, rfl, rfl⟩ := hrel
      go_wp2_with fail
      go_ret
      exact ⟨rfl, .inl rfl, Below.refl _ _⟩
  obtain ⟨g, rfl, hg, h⟩ := h.at_ (show 0 < n by omega)
  go_enter Try.func32, Try.ntmps32
  go_wp2_with fail
  go_loopw [1, 5] (fun kv i wr => ∃ (j : Nat) (f : Nat → Int), j ≤ n ∧ i = .int .i64 j ∧ kv = .int .i64 (1 + 6 * (j : Int)) ∧ At wr g (n * 6) f ∧ Hid (∀ t, t < j * 6 → f t = 1 + (t : Int)) ∧ Below B w wr) (fun _ i _ => n - (intOf i).toNat)
  case atStart => exact ⟨0, F, Nat.zero_le _, rfl, rfl, h, fun t ht => by omega, Below.refl B w⟩
  case round =>
    clear h
    obtain ⟨j, f0, hj, rfl, rfl, hA0, hm0, hR0⟩ := hrel
    by_cases hlt : j < n
    · have hit : decide ((j : Int) < (n : Int)) = true := decide_eq_true (by omega)
      go_wp2_with fail
      go_loopw [1, 6] (fun kv i wr => ∃ (k : Nat) (f : Nat → Int), k ≤ 6 ∧ i = .int .i64 k ∧ kv = .int .i64 (1 + 6 * (j : Int) + k) ∧ At wr g (n * 6) f ∧ Hid (∀ t, t < j * 6 + k → f t = 1 + (t : Int)) ∧ Below B w wr) (fun _ i _ => 6 - (intOf i).toNat)
      case atStart => exact ⟨0, f0, Nat.zero_le _, rfl, by simp, hA0, hm0, hR0⟩
      case round =>
        clear hA0 hR0 hm0
        obtain ⟨k, f, hk, rfl, rfl, hA, hm, hR⟩ := hrel
        by_cases hk6 : k < 6
        · have hjk : j * 6 + k < n * 6 := by omega
          have cj := hA.cell (j * 6 + k) hjk
          have zj := hA.free (j * 6 + k)
          go_wp2_with fail
          go_roundw
          case rel =>
            refine ⟨k + 1, put f (j * 6 + k) (1 + 6 * (j : Int) + k), by omega, by go_num, by congr 1, hA.set hjk _, fun t ht => ?_, hR.setCell (p := ⟨g, j * 6 + k, none⟩) hg _⟩
            by_cases e : t = j * 6 + k
            · subst e; rw [put_same]; push_cast; omega
            · rw [put_other _ e]; exact hm.out t (by omega)
          case measure => simp [intOf]; omega
        · obtain rfl : k = 6 := by omega
          go_wp2_with fail
          go_roundw
          case rel => exact ⟨j + 1, f, by omega, by go_num, by congr 1, hA, fun t ht => hm.out t (by omega), hR⟩
          case measure => simp [intOf]; omega
    · obtain rfl : j = n := by omega
      go_wp2_with fail
      go_ret
      exact ⟨rfl, .inr ⟨g, rfl, hg, hA0.congr hm0.out⟩, hR0⟩

set_option maxHeartbeats 2000000 in
theorem heldDis_any (B : Nat) (A : Option Addr) (n c : Nat) (w : World) (h : Dis B w A n (fun t => 1 + (t : Int))) (hn : n ≤ 100) :
    Calls Try.prog 52 #[.slice A n c, .int .i64 1] w fun e w' => e = .returned (.int .i64 (1 + 6 * (n : Int))) ∧ Below w.heap.size w w' := by
  have H := Lib.hid h; clear h
  go_enter Try.func52, Try.ntmps52
  go_wp2_with fail
  go_loopw [1, 5] (fun kv i wr => ∃ (j : Nat), j ≤ n ∧ i = .int .i64 j ∧ kv = .int .i64 (1 + 6 * (j : Int)) ∧ wr = w) (fun _ i _ => n - (intOf i).toNat)
  case atStart => exact ⟨0, Nat.zero_le _, rfl, rfl, rfl⟩
  case round =>
    obtain ⟨j, hj, rfl, rfl, rfl⟩ := hrel
    by_cases hlt : j < n
    · have hit : decide ((j : Int) < (n : Int)) = true := decide_eq_true (by omega)
      obtain ⟨g, rfl, hg, h⟩ := H.out.at_ hlt
      go_wp2_with fail
      go_loopw [1, 6] (fun kv i wq => ∃ (k : Nat), k ≤ 6 ∧ i = .int .i64 k ∧ kv = .int .i64 (1 + 6 * (j : Int) + k) ∧ wq = wr) (fun _ i _ => 6 - (intOf i).toNat)
      case atStart => exact ⟨0, Nat.zero_le _, rfl, by simp, rfl⟩
      case round =>
        obtain ⟨k, hk, rfl, rfl, rfl⟩ := hrel
        by_cases hk6 : k < 6
        · have hjk : j * 6 + k < n * 6 := by omega
          have cj := h.cell (j * 6 + k) hjk
          rw [show (1 : Int) + ((j * 6 + k : Nat) : Int) = 1 + 6 * (j : Int) + k by push_cast; omega] at cj
          go_wp2_with fail
          go_roundw
          case rel => exact ⟨k + 1, by omega, by go_num, by congr 1, by first | rfl | trivial⟩
          case measure => simp [intOf]; omega
        · obtain rfl : k = 6 := by omega
          go_wp2_with fail
          go_roundw
          case rel => exact ⟨j + 1, by omega, by go_num, by congr 1, by first | rfl | trivial⟩
          case measure => simp [intOf]; omega
    · obtain rfl : j = n := by omega
      go_wp2_with fail
      go_ret
      exact ⟨rfl, Below.refl _ _⟩


end LtrK
end Go.Proofs.Ytiiknpebphpeiaa
